/-
  Plain numbers, no program: a hart's control registers: which have a word, what is read, what becomes of them when something is written, done, or a turn goes by. Arrays of integers as whole rows: a block that holds them; what is loaded, stored and compared; how the program's other steps leave them. A slice that a call owns: one element more at its end; what later steps leave of it; a slice that is only read.
-/
import Derived.Test.YtkbgmppbkllnmaaDoorUab
import Derived.Test.YtkbgmppbkllnmaaDoorRows
import Derived.Laws.Rows
import Derived.Laws.Tables
import Derived.Deep.WholeRow
import Derived.Laws.StructEq
import Derived.Laws.CopyOwn
import Derived.Laws.CopyRow
import Derived.Below
import Derived.Great.BuildSlice
import Derived.WalkKit
import Derived.Lib.Hide
import Derived.OwnWalk
import Derived.Deep.MidRow
import Derived.Laws.ResultCell
import Derived.ProofKit
import Derived.OpenShut
import Derived.Deep.DeepCutAuto
import Derived.Deep.QuietTactic
import Derived.BigQuiet
namespace Go.Proofs.YtkbgmppbkllnmaaDoor.Cf
open Go.RowKit Wd Csr Sta

/-- The numbers of those that have a word of their own. -/
def keptL : List Nat := [261, 262, 320, 321, 322, 323, 384, 768, 770, 771, 772, 773, 774, 832, 833, 834, 835, 836, 1472, 1473, 2816, 2818]
def keptN (i : Nat) : Nat := keptL.getD i 0
def idxK (n : Int) : Option Nat := (List.range 22).find? fun i => ((keptN i : Nat) : Int) == n
theorem idx_some {n : Int} {i : Nat} (h : idxK n = some i) : i < 22 ∧ n = (keptN i : Nat) := by
  have h1 := List.mem_of_find?_eq_some h
  have h2 := List.find?_some h
  exact ⟨by simpa using h1, (eq_of_beq h2).symm⟩
theorem idx_kept : ∀ i : Fin 22, idxK (keptN i.val : Nat) = some i.val := by decide +kernel
theorem idx_none {n : Int} (h : idxK n = none) : ∀ i, i < 22 → (((keptN i : Nat) : Int) == n) = false := by
  unfold idxK at h
  rw [List.find?_eq_none] at h
  intro i hi
  have := h i (by simpa using hi)
  simpa using this
theorem kept_ne : ∀ i j : Fin 22, keptN i.val = keptN j.val → i.val = j.val := by decide +kernel
/-- A file: whose it is, its words by their numbers, whether a counter was written. -/
structure S where
  h : Int
  f : Int → Int
  cw : Bool
  iw : Bool
structure Ok (s : S) : Prop where
  h : -9223372036854775808 ≤ s.h ∧ s.h ≤ 9223372036854775807
  w : ∀ n, W64 (s.f n)
  z : ∀ n, idxK n = none → s.f n = 0
def S.put (s : S) (n v : Int) : S := { s with f := fun m => if m = n then v else s.f m }
theorem Ok.put {s : S} (h : Ok s) {n v : Int} (hn : idxK n ≠ none) (hv : W64 v) : Ok (s.put n v) := by
  refine ⟨h.h, fun m => ?_, fun m hm => ?_⟩
  · unfold S.put
    dsimp only
    split
    · exact hv
    · exact h.w m
  · unfold S.put
    dsimp only
    rw [if_neg (fun (e : m = n) => hn (by rw [← e]; exact hm))]
    exact h.z m hm
theorem put_self (s : S) (n : Int) : s.put n (s.f n) = s := by
  unfold S.put
  have : (fun m => if m = n then s.f n else s.f m) = s.f := by
    funext m
    split
    · rename_i e; rw [e]
    · rfl
  rw [this]
theorem put_at (s : S) (n v : Int) : (s.put n v).f n = v := if_pos rfl
theorem put_ne (s : S) {n m : Int} (v : Int) (h : m ≠ n) : (s.put n v).f m = s.f m := if_neg h
/-- What it is at first. -/
def new (h : Int) : S := { h := h, f := fun m => if m = 768 then 42949672960 else 0, cw := false, iw := false }
theorem new_ok {h : Int} (hh : -9223372036854775808 ≤ h ∧ h ≤ 9223372036854775807) : Ok (new h) := by
  refine ⟨hh, fun n => ?_, fun n hn => ?_⟩
  · unfold new W64
    dsimp only
    split <;> omega
  · unfold new
    dsimp only
    rw [if_neg]
    intro e
    subst e
    exact absurd hn (by decide)
def zero (h : Int) : S := { h := h, f := fun _ => 0, cw := false, iw := false }
theorem new_put (h : Int) : (zero h).put 768 42949672960 = new h := rfl
/-! ### its cells -/
def cellsL (s : S) (l : List Nat) : List Value := .int .i64 s.h :: (l.map (fun k => Value.int .u64 (s.f (k : Nat))) ++ [.bool s.cw, .bool s.iw])
def fileV (s : S) : Array Value := (cellsL s keptL).toArray
def numsR : List Nat := rowsC.map (·.1)
def refV (s : S) : Array Value := (cellsL s numsR).toArray
theorem numsR_at {k : Nat} (hk : k < 34) : numsR[k]? = some (rowC k).1 := by
  unfold numsR
  rw [List.getElem?_map, rowC_get hk]; rfl
theorem nums_ne : ∀ i j : Fin 34, (rowC i.val).1 = (rowC j.val).1 → i.val = j.val := by decide +kernel
theorem cells_len (s : S) (l : List Nat) : (cellsL s l).length = l.length + 3 := by simp [cellsL]
theorem cells_at (s : S) {l : List Nat} {k m : Nat} (h : l[k]? = some m) : (cellsL s l)[1 + k]? = some (.int .u64 (s.f (m : Nat))) := by
  have hk : k < l.length := (List.getElem?_eq_some_iff.1 h).1
  unfold cellsL
  rw [Nat.add_comm, List.getElem?_cons_succ, List.getElem?_append_left (by simpa using hk), List.getElem?_map, h]; rfl
theorem cells_cw (s : S) (l : List Nat) : (cellsL s l)[1 + l.length]? = some (.bool s.cw) := by
  unfold cellsL
  rw [Nat.add_comm, List.getElem?_cons_succ, List.getElem?_append_right (by simp)]; simp
theorem cells_iw (s : S) (l : List Nat) : (cellsL s l)[2 + l.length]? = some (.bool s.iw) := by
  unfold cellsL
  rw [show 2 + l.length = (l.length + 1) + 1 by omega, List.getElem?_cons_succ, List.getElem?_append_right (by simp)]; simp
theorem cells_put (s : S) {l : List Nat} {k m : Nat} (h : l[k]? = some m) (hd : ∀ j, j < l.length → l[j]? = some m → j = k) (v : Int) : (cellsL s l).set (1 + k) (.int .u64 v) = cellsL (s.put (m : Nat) v) l := by
  have hk : k < l.length := (List.getElem?_eq_some_iff.1 h).1
  unfold cellsL
  rw [Nat.add_comm, List.set_cons_succ, List.set_append_left _ _ (by simpa using hk)]
  congr 2
  apply List.ext_getElem?
  intro j
  rw [List.getElem?_set]
  by_cases e : k = j
  · subst e
    rw [if_pos rfl, if_pos (by simpa using hk), List.getElem?_map, h, Option.map_some, put_at]
  · rw [if_neg e, List.getElem?_map, List.getElem?_map]
    by_cases hj : j < l.length
    · rw [List.getElem?_eq_getElem hj, Option.map_some, Option.map_some]
      congr 2
      rw [put_ne]
      intro ee
      have ee' : l[j] = m := by exact_mod_cast ee
      exact e (hd j hj (by rw [List.getElem?_eq_getElem hj, ee'])).symm
    · rw [List.getElem?_eq_none (by omega)]; rfl
theorem cells_cw_put (s : S) (l : List Nat) (b : Bool) : (cellsL s l).set (1 + l.length) (.bool b) = cellsL { s with cw := b } l := by
  unfold cellsL
  rw [Nat.add_comm, List.set_cons_succ, List.set_append_right _ _ (by simp)]; simp
theorem cells_iw_put (s : S) (l : List Nat) (b : Bool) : (cellsL s l).set (2 + l.length) (.bool b) = cellsL { s with iw := b } l := by
  unfold cellsL
  rw [show 2 + l.length = (l.length + 1) + 1 by omega, List.set_cons_succ, List.set_append_right _ _ (by simp)]; simp
theorem kept_at {i : Nat} (hi : i < 22) : keptL[i]? = some (keptN i) := by
  unfold keptN
  rw [List.getD, List.getElem?_eq_getElem (show i < keptL.length from hi)]; rfl
theorem fileV_size (s : S) : (fileV s).size = 25 := by unfold fileV; simp [cells_len, keptL]
theorem refV_size (s : S) : (refV s).size = 37 := by unfold refV; simp [cells_len, numsR, rowsC_len]
theorem fileV_0 (s : S) : (fileV s)[0]? = some (.int .i64 s.h) := by unfold fileV cellsL; simp
theorem refV_0 (s : S) : (refV s)[0]? = some (.int .i64 s.h) := by unfold refV cellsL; simp
theorem fileV_w (s : S) {i : Nat} (hi : i < 22) : (fileV s)[1 + i]? = some (.int .u64 (s.f (keptN i : Nat))) := by
  unfold fileV; rw [List.getElem?_toArray]; exact cells_at s (kept_at hi)
theorem refV_w (s : S) {k : Nat} (hk : k < 34) : (refV s)[1 + k]? = some (.int .u64 (s.f ((rowC k).1 : Nat))) := by
  unfold refV; rw [List.getElem?_toArray]; exact cells_at s (numsR_at hk)
theorem fileV_cw (s : S) : (fileV s)[23]? = some (.bool s.cw) := by unfold fileV; rw [List.getElem?_toArray]; exact cells_cw s keptL
theorem fileV_iw (s : S) : (fileV s)[24]? = some (.bool s.iw) := by unfold fileV; rw [List.getElem?_toArray]; exact cells_iw s keptL
theorem refV_cw (s : S) : (refV s)[35]? = some (.bool s.cw) := by unfold refV; rw [List.getElem?_toArray]; exact cells_cw s numsR
theorem refV_iw (s : S) : (refV s)[36]? = some (.bool s.iw) := by unfold refV; rw [List.getElem?_toArray]; exact cells_iw s numsR
theorem arr_set (l : List Value) (i : Nat) (v : Value) : l.toArray.setIfInBounds i v = (l.set i v).toArray := by simp
theorem fileV_put (s : S) {i : Nat} (hi : i < 22) (v : Int) : (fileV s).setIfInBounds (1 + i) (.int .u64 v) = fileV (s.put (keptN i : Nat) v) := by
  unfold fileV
  rw [arr_set, cells_put s (kept_at hi) (fun j hj h => by
    have hj' : j < 22 := hj
    rw [kept_at hj'] at h
    exact kept_ne ⟨j, hj'⟩ ⟨i, hi⟩ (Option.some.inj h)) v]
theorem refV_put (s : S) {k : Nat} (hk : k < 34) (v : Int) : (refV s).setIfInBounds (1 + k) (.int .u64 v) = refV (s.put ((rowC k).1 : Nat) v) := by
  unfold refV
  rw [arr_set, cells_put s (numsR_at hk) (fun j hj h => by
    have hj' : j < 34 := by simpa [numsR, rowsC_len] using hj
    rw [numsR_at hj'] at h
    exact nums_ne ⟨j, hj'⟩ ⟨k, hk⟩ (Option.some.inj h)) v]
theorem fileV_cwput (s : S) (b : Bool) : (fileV s).setIfInBounds 23 (.bool b) = fileV { s with cw := b } := by unfold fileV; rw [arr_set]; exact congrArg _ (cells_cw_put s keptL b)
theorem fileV_iwput (s : S) (b : Bool) : (fileV s).setIfInBounds 24 (.bool b) = fileV { s with iw := b } := by unfold fileV; rw [arr_set]; exact congrArg _ (cells_iw_put s keptL b)
theorem refV_cwput (s : S) (b : Bool) : (refV s).setIfInBounds 35 (.bool b) = refV { s with cw := b } := by unfold refV; rw [arr_set]; exact congrArg _ (cells_cw_put s numsR b)
theorem refV_iwput (s : S) (b : Bool) : (refV s).setIfInBounds 36 (.bool b) = refV { s with iw := b } := by unfold refV; rw [arr_set]; exact congrArg _ (cells_iw_put s numsR b)
theorem one_all (s : S) (l : List Nat) : (cellsL s l).toArray.all (·.oneCell') = true := by
  rw [Array.all_eq_true']
  intro x hx
  unfold cellsL at hx
  simp only [List.mem_toArray, List.mem_cons, List.mem_append, List.mem_map, List.not_mem_nil, or_false] at hx
  rcases hx with rfl | ⟨k, -, rfl⟩ | rfl | rfl <;> rfl
/-! ### what is read -/
def and2 (a b : Int) : Int := bits .and .u64 a b
def pendS (s : S) (l : Int) : Int := bits .or .u64 (s.f 836) (bits .and .u64 l 2696)
def getS (s : S) (n l : Int) : Int :=
  if n = 256 then viewS (s.f 768) else if n = 260 then bits .and .u64 (s.f 772) (s.f 771) else if n = 324 then bits .and .u64 (pendS s l) (s.f 771) else if n = 836 then pendS s l else if n = 769 then 9223372036856090881 else
  if n = 3072 then s.f 2816 else if n = 3074 then s.f 2818 else if n = 3860 then IntKind.u64.wrap s.h else s.f n
theorem and_64 {a b : Int} (ha : W64 a) (hb : W64 b) : W64 (bits .and .u64 a b) := and_range ha.1 ha.2 hb.1 hb.2
theorem pend_64 {s : S} (h : Ok s) {l : Int} (hl : W64 l) : W64 (pendS s l) := by
  have h1 := h.w 836
  have h2 : W64 (bits .and .u64 l 2696) := and_64 hl ⟨by omega, by omega⟩
  exact or_range h1.1 h1.2 h2.1 h2.2
theorem get_64 {s : S} (h : Ok s) (n : Int) {l : Int} (hl : W64 l) : W64 (getS s n l) := by
  unfold getS
  repeat' split
  · exact view_range (h.w _)
  · exact and_64 (h.w _) (h.w _)
  · exact and_64 (pend_64 h hl) (h.w _)
  · exact pend_64 h hl
  · exact ⟨by omega, by omega⟩
  · exact h.w _
  · exact h.w _
  · exact wrap_range _
  · exact h.w _
/-! ### what becomes of it -/
def setW (s : S) (n v : Int) : S :=
  if n = 256 then s.put 768 (legS 256 (s.f 768) v) else if n = 260 then s.put 772 (nextS (s.f 771) (s.f 772) v) else if n = 324 then s.put 836 (nextS (bits .and .u64 (s.f 771) 2) (s.f 836) v) else
  if idxK n = none then s else s.put n (legS n (s.f n) v)
def setS (s : S) (n v : Int) : S := { setW s n v with cw := s.cw || n == 2816, iw := s.iw || n == 2818 }
theorem setW_ok {s : S} (h : Ok s) (n : Int) {v : Int} (_hv : W64 v) : Ok (setW s n v) := by
  unfold setW
  repeat' split
  · exact h.put (by decide) (legS_range (h.w _))
  · exact h.put (by decide) (nextS_range _ _ _)
  · exact h.put (by decide) (nextS_range _ _ _)
  · exact h
  · rename_i hn; exact h.put hn (legS_range (h.w _))
theorem setS_ok {s : S} (h : Ok s) (n : Int) {v : Int} (hv : W64 v) : Ok (setS s n v) := ⟨(setW_ok h n hv).h, (setW_ok h n hv).w, (setW_ok h n hv).z⟩
def incr (x : Int) : Int := IntKind.u64.wrap (x + 1)
def turnS (s : S) (r : Bool) : S :=
  let a := if s.cw then s else s.put 2816 (incr (s.f 2816))
  let b := if r && !s.iw then a.put 2818 (incr (a.f 2818)) else a
  { b with cw := false, iw := false }
theorem turn_ok {s : S} (h : Ok s) (r : Bool) : Ok (turnS s r) := by
  unfold turnS
  have h1 : Ok (if s.cw then s else s.put 2816 (incr (s.f 2816))) := by
    split
    · exact h
    · exact h.put (by decide) (wrap_range _)
  dsimp only
  generalize (if s.cw then s else s.put 2816 (incr (s.f 2816))) = a at *
  split
  · have := h1.put (n := 2818) (by decide) (v := incr (a.f 2818)) (wrap_range _)
    exact ⟨this.h, this.w, this.z⟩
  · exact ⟨h1.h, h1.w, h1.z⟩
end Go.Proofs.YtkbgmppbkllnmaaDoor.Cf
set_option maxRecDepth 20000
namespace Go.Proofs.YtkbgmppbkllnmaaDoor
open Go.RowKit

/-- The cells of an array of integers. -/
def aV (k : IntKind) (ws : List Int) : Array Value := (ws.map (Value.int k)).toArray
theorem aV_size (k : IntKind) (ws : List Int) : (aV k ws).size = ws.length := by simp [aV]
theorem aV_get (k : IntKind) (ws : List Int) (i : Nat) : (aV k ws)[i]? = (ws[i]?).map (Value.int k) := by simp [aV]
theorem aV_set (k : IntKind) (ws : List Int) (i : Nat) (x : Int) : (aV k ws).setIfInBounds i (.int k x) = aV k (ws.set i x) := by
  simp [aV, List.map_set]
theorem aV_one (k : IntKind) (ws : List Int) : (aV k ws).all (·.oneCell') = true := by
  rw [Array.all_eq_true_iff_forall_mem]
  intro v hv
  simp [aV] at hv
  obtain ⟨a, -, rfl⟩ := hv
  rfl
/-- A block that holds an array of integers. -/
def RowAt (k : IntKind) (w : World) (b : Nat) (t : TypeId) (ws : List Int) : Prop := w.heap[b]? = some (.cells (aV k ws) t (0, 0))
theorem RowAt.lt {k : IntKind} {w : World} {b : Nat} {t : TypeId} {ws : List Int} (h : RowAt k w b t ws) : b < w.heap.size := (Array.getElem?_eq_some_iff.1 h).1
theorem RowAt.on {k : IntKind} {w w' : World} {B b : Nat} {t : TypeId} {ws : List Int} (h : RowAt k w b t ws) (hb : Below B w w') (hB : b < B) : RowAt k w' b t ws := (hb.block b hB).trans h
theorem RowAt.low {k : IntKind} {w w' : World} {b : Nat} {t : TypeId} {ws : List Int} (h : RowAt k w b t ws) (hb : Below w.heap.size w w') : RowAt k w' b t ws := h.on hb h.lt
theorem RowAt.alloc {k : IntKind} {w : World} {b : Nat} {t : TypeId} {ws : List Int} (h : RowAt k w b t ws) (o : Obj) : RowAt k (w.alloc o) b t ws := (Below.heap_alloc w o b h.lt).trans h
theorem RowAt.drew {k : IntKind} {w : World} {b : Nat} {t : TypeId} {ws : List Int} (h : RowAt k w b t ws) : RowAt k w.drew b t ws := h
theorem RowAt.new (k : IntKind) (w : World) (t : TypeId) (ws : List Int) : RowAt k (w.alloc (.cells (aV k ws) t)) w.heap.size t ws := by show (w.heap.push _)[w.heap.size]? = _; simp
theorem RowAt.cell {k : IntKind} {w : World} {b : Nat} {t : TypeId} {ws : List Int} (h : RowAt k w b t ws) (i : Nat) (hi : i < ws.length) : w.cell? ⟨b, i, none⟩ = some (.int k (ws.getD i 0)) := by
  rw [cell_of_row w b i _ t _ h, aV_get, List.getD, List.getElem?_eq_getElem hi]
  rfl
theorem RowAt.frozen {k : IntKind} {w : World} {b : Nat} {t : TypeId} {ws : List Int} (h : RowAt k w b t ws) (i : Nat) : w.frozen? ⟨b, i, none⟩ = false := frozen_of_row w b i _ t h
theorem RowAt.set {k : IntKind} {w : World} {b : Nat} {t : TypeId} {ws : List Int} (h : RowAt k w b t ws) (i : Nat) (x : Int) : RowAt k (w.setCell ⟨b, i, none⟩ (.int k x)) b t (ws.set i x) := by
  unfold RowAt
  rw [heap_setCell_same w b i _ t _ h, aV_set]
theorem RowAt.far {k : IntKind} {w : World} {b : Nat} {t : TypeId} {ws : List Int} (h : RowAt k w b t ws) {c i : Nat} (hne : b ≠ c) (v : Value) : RowAt k (w.setCell ⟨c, i, none⟩ v) b t ws :=
  (heap_setCell_other w ⟨c, i, none⟩ b v hne).trans h
theorem RowAt.row {k : IntKind} {w : World} {b : Nat} {t : TypeId} {ws : List Int} (h : RowAt k w b t ws) (vs : List Int) : RowAt k (w.setRow b (aV k vs)) b t vs := setRow_heap w b _ _ t _ h
theorem RowAt.rowFar {k : IntKind} {w : World} {b : Nat} {t : TypeId} {ws : List Int} (h : RowAt k w b t ws) {c : Nat} (hne : b ≠ c) (cs : Array Value) : RowAt k (w.setRow c cs) b t ws := (setRow_other w c b cs hne).trans h
theorem RowAt.setEq {k : IntKind} {w : World} {b : Nat} {t : TypeId} {ws : List Int} (h : RowAt k w b t ws) (i : Nat) (x : Int) : w.setCell ⟨b, i, none⟩ (.int k x) = w.setRow b (aV k (ws.set i x)) := by
  rw [setCell_eq_setRow w b i _ t _ _ h, aV_set]
theorem RowAt.self {k : IntKind} {w : World} {b : Nat} {t : TypeId} {ws : List Int} (h : RowAt k w b t ws) : w.setRow b (aV k ws) = w := setRow_self w b _ t _ h

theorem ints_range_eq : ∀ (xs ys : List Int), xs.length = ys.length → ((List.range xs.length).all fun i => xs.getD i 0 == ys.getD i 0) = (xs == ys)
  | [], [], _ => rfl
  | x :: xs, y :: ys, h => by
    have ih := ints_range_eq xs ys (by simpa using h)
    rw [List.length_cons, List.range_succ_eq_map, List.all_cons, List.all_map]
    simp only [List.getD_cons_zero, Function.comp_def, List.getD_cons_succ, ih]
    simp [List.cons_beq_cons]
  | [], _ :: _, h => by simp at h
  | _ :: _, [], h => by simp at h
section
variable {P : Program} (w : World)
theorem run_equalIn_ints (d : Nat) (t e : TypeId) (n : Nat) (k : IntKind) (ht : P.underlying t = some (.array n e)) (he : P.underlying e = some (.int k)) (hsz : ∀ w, (sizeOf e).run P w = .ok 1 w)
    (xs ys : List Int) (hx : xs.length = n) (hy : ys.length = n) :
    (Op.equalIn (d + 2) t (.agg (aV k xs)) (.agg (aV k ys))).run P w = .ok (xs == ys) w := by
  rw [← ints_range_eq xs ys (hx.trans hy.symm), hx, List.range_eq_range', Op.equalIn]
  simp only [Sem.run_bind, run_underlying ht, Result.andThen_ok, hsz, Std.Legacy.Range.forIn_eq_forIn_range', Std.Legacy.Range.size, Nat.sub_zero, Nat.add_sub_cancel, Nat.div_one]
  have hl : ∀ i ∈ List.range' 0 n 1, i < n := fun i hi => by simpa using (List.mem_range'_1.1 hi).2
  generalize List.range' 0 n 1 = l at hl ⊢
  induction l with
  | nil => simp
  | cons i l ih =>
    have hi : i < n := hl i (by simp)
    have px : (part e (aV k xs) (i * 1)).run P w = .ok (.int k (xs.getD i 0)) w := by
      simp [part, isAgg, run_underlying he, aV, List.getD, List.getElem?_eq_getElem (show i < xs.length by omega)]
    have py : (part e (aV k ys) (i * 1)).run P w = .ok (.int k (ys.getD i 0)) w := by
      simp [part, isAgg, run_underlying he, aV, List.getD, List.getElem?_eq_getElem (show i < ys.length by omega)]
    have pe : (Op.equalIn (d + 1) e (.int k (xs.getD i 0)) (.int k (ys.getD i 0))).run P w = .ok (xs.getD i 0 == ys.getD i 0) w := run_equalIn_int w d e k k _ _ he
    simp only [List.forIn_cons, Sem.run_bind, px, py, pe, Result.andThen_ok, List.all_cons]
    cases hb : (xs.getD i 0 == ys.getD i 0)
    · simp
    · simp only [Bool.not_true, Bool.false_eq_true, if_false, Sem.run_pure, Result.andThen_ok, Bool.true_and]
      exact ih fun j hj => hl j (by simp [hj])
theorem run_eql_ints (t e : TypeId) (n : Nat) (k : IntKind) (ht : P.underlying t = some (.array n e)) (he : P.underlying e = some (.int k)) (hsz : ∀ w, (sizeOf e).run P w = .ok 1 w)
    (xs ys : List Int) (hx : xs.length = n) (hy : ys.length = n) : (binOp .eql t (.agg (aV k xs)) (.agg (aV k ys))).run P w = .ok (.bool (xs == ys)) w := by
  rw [run_eql_struct, run_equalIn_ints w 9998 t e n k ht he hsz xs ys hx hy]
  rfl
theorem run_neq_ints (t e : TypeId) (n : Nat) (k : IntKind) (ht : P.underlying t = some (.array n e)) (he : P.underlying e = some (.int k)) (hsz : ∀ w, (sizeOf e).run P w = .ok 1 w)
    (xs ys : List Int) (hx : xs.length = n) (hy : ys.length = n) : (binOp .neq t (.agg (aV k xs)) (.agg (aV k ys))).run P w = .ok (.bool (!(xs == ys))) w := by
  rw [run_neq_struct, run_equalIn_ints w 9998 t e n k ht he hsz xs ys hx hy]
  rfl
/-- A whole array into the block that was made last. -/
theorem wpList_storeNew {ops : Array Oper} {rest : List Oper} {o : Oper} {a : Act} {w0 : World} {Q : Exit → Act → World → Prop} (hgd : o.guard = none) (ty : TypeId) (x y : Operand) (ho : o.op = .store ty x y)
    (c cells : Array Value) (t : TypeId) (hx : a.eval x = .pointer (some ⟨w0.heap.size, 0, none⟩)) (hy : a.eval y = .agg cells) (hi : (P.info? ty).map (·.size) = some cells.size) (hold : c.size = cells.size) (h1 : cells.all (·.oneCell') = true)
    (h : wpList P ops Q rest (a.put o.dst undef) (w0.alloc (.cells cells t))) : wpList P ops Q (o :: rest) a (w0.alloc (.cells c t)) := by
  refine wpList_store_row hgd ty x y ho w0.heap.size cells hx hy t c (heap_alloc_last w0 _) hi hold h1 ?_
  rw [World.setRow_alloc_new]
  exact h
theorem foldl_fill : ∀ (l : List Value) (i : Nat) (acc : Array Value), acc.size = i + l.length → (l.zipIdx i).foldl (fun (cs : Array Value) (x : Value × Nat) => cs.setIfInBounds (0 + x.2) x.1) acc = (acc.toList.take i ++ l).toArray
  | [], i, acc, h => by
    have : acc.toList.take i = acc.toList := List.take_of_length_le (by simp at h ⊢; omega)
    simp [this]
  | v :: l, i, acc, h => by
    rw [List.zipIdx_cons, List.foldl_cons, foldl_fill l (i + 1) _ (by simp at h ⊢; omega)]
    congr 1
    apply List.ext_getElem?
    intro k
    have hi : i < acc.size := by simp at h; omega
    simp only [Nat.zero_add, Array.toList_setIfInBounds, List.getElem?_append, List.length_take, List.length_set, Array.length_toList]
    by_cases hk : k < i
    · simp [hk, show k < i + 1 by omega, show min (i + 1) acc.size = i + 1 by omega, show min i acc.size = i by omega, show i ≠ k by omega]
    · by_cases hk2 : k = i
      · subst hk2
        simp [show min (k + 1) acc.size = k + 1 by omega, show min k acc.size = k by omega]
      · simp [hk, show ¬ k < i + 1 by omega, show min (i + 1) acc.size = i + 1 by omega, show min i acc.size = i by omega, show k - i = (k - (i + 1)) + 1 by omega]
/-- One part that fills the whole. -/
theorem fill_whole (place : Nat → Option (Nat × Nat)) (z cs : Array Value) (hp : place 0 = some (0, cs.size)) (hz : z.size = cs.size) : Instr.fill place z [(0, .agg cs)] = some cs := by
  have hc : (Value.agg cs).cells = cs := rfl
  simp only [Instr.fill, hp, hc]
  have e := foldl_fill cs.toList 0 z (by simp [hz])
  simp only [List.take_zero, List.nil_append, Array.toArray_toList] at e
  rw [if_neg (by simp; omega)]
  rw [← Array.foldl_toList, Array.toList_zipIdx]
  exact congrArg some e
/-- A whole built of one part. -/
theorem wpList_buildOne {ops : Array Oper} {rest : List Oper} {o : Oper} {a : Act} {w : World} {Q : Exit → Act → World → Prop} (hg : o.guard = none) (t : TypeId) (i : Nat) (x : Operand) (ho : o.op = .build t #[(i, x)])
    (src cells : Array Value) (hx : a.eval x = .agg src) (hf : P.built t [(i, .agg src)] = some cells)
    (h : wpList P ops Q rest (a.put o.dst (.agg cells)) w) : wpList P ops Q (o :: rest) a w :=
  wpList_buildTo hg t _ ho _ rfl cells (by simpa [hx] using hf) h
/-- Two aggregates compared. -/
theorem wpList_cmp {ops : Array Oper} {rest : List Oper} {o : Oper} {a : Act} {w : World} {Q : Exit → Act → World → Prop} (hg : o.guard = none) (op : BinOp) (t t2 : TypeId) (x y : Operand) (ho : o.op = .binOp op t x y t2)
    (xs ys : Array Value) (hx : a.eval x = .agg xs) (hy : a.eval y = .agg ys) (hm : P.eqGuardType P.depth t = false) (r : Value) (hr : (binOp op t (.agg xs) (.agg ys)).run P w = .ok r w)
    (h : wpList P ops Q rest (a.put o.dst r) w) : wpList P ops Q (o :: rest) a w :=
  wpList_plain hg fun _ hK => by
    unfold Oper.wp execOp
    simp only [ho, hx, hy, Sem.run_bind, run_eqGuard_agg w op t x y xs ys hm, hr, Result.andThen_ok, Sem.run_pure]
    exact hK _ _ h
/-- The same of an operation whose guard says yes. -/
theorem wpList_cmpW {ops : Array Oper} {rest : List Oper} {o : Oper} {a : Act} {w : World} {Q : Exit → Act → World → Prop} (hw : Region.wanted o (yielded ops a.tmps) = true) (op : BinOp) (t t2 : TypeId) (x y : Operand) (ho : o.op = .binOp op t x y t2)
    (xs ys : Array Value) (hx : a.eval x = .agg xs) (hy : a.eval y = .agg ys) (hm : P.eqGuardType P.depth t = false) (r : Value) (hr : (binOp op t (.agg xs) (.agg ys)).run P w = .ok r w)
    (h : wpList P ops Q rest (a.put o.dst r) w) : wpList P ops Q (o :: rest) a w :=
  wpList_step fun _ hK => by
    rw [if_pos hw]
    unfold Oper.wp execOp
    simp only [ho, hx, hy, Sem.run_bind, run_eqGuard_agg w op t x y xs ys hm, hr, Result.andThen_ok, Sem.run_pure]
    exact hK _ _ h
/-- A struct of one field, an array of integers, compared. -/
theorem run_eql_one (t u e : TypeId) (n : Nat) (k : IntKind) (f : Field) (hf : (P.fieldsOf t).toList = [f]) (ht : P.underlying t = some (.struct (P.fieldsOf t))) (hp : P.stoodInHeld t = false) (hn : (f.name != "_") = true) (ho : f.offset = 0) (hu : f.type = u)
    (hu2 : P.underlying u = some (.array n e)) (he : P.underlying e = some (.int k)) (hsz : ∀ w, (sizeOf e).run P w = .ok 1 w) (hsu : ∀ w, (sizeOf u).run P w = .ok n w)
    (xs ys : List Int) (hx : xs.length = n) (hy : ys.length = n) : (binOp .eql t (.agg (aV k xs)) (.agg (aV k ys))).run P w = .ok (.bool (xs == ys)) w := by
  rw [run_eql_struct, run_equalIn_agg w 9999 t _ _ ht hp, hf]
  have p1 : ∀ zs : List Int, zs.length = n → (part u (aV k zs) 0).run P w = .ok (.agg (aV k zs)) w := fun zs hz => by
    have e1 : (aV k zs).extract 0 n = aV k zs := by rw [← hz, ← aV_size k zs]; exact Array.extract_size
    simp [part, isAgg, run_underlying hu2, hsu, e1]
  have hn' : f.name ≠ "_" := by simpa using hn
  have q := run_equalIn_ints w 9997 u e n k hu2 he hsz xs ys hx hy
  have q' : (Op.equalIn 9999 u (.agg (aV k xs)) (.agg (aV k ys))).run P w = .ok (xs == ys) w := q
  simp only [Op.eqFields, if_pos hn', Sem.run_bind, ho, hu, p1 xs hx, p1 ys hy, Result.andThen_ok, q']
  cases hb : (xs == ys) <;> simp
end
/-- A block that holds the cells of an aggregate. -/
def CsAt (w : World) (b : Nat) (t : TypeId) (cs : Array Value) : Prop := w.heap[b]? = some (.cells cs t (0, 0))
theorem CsAt.lt {w : World} {b : Nat} {t : TypeId} {cs : Array Value} (h : CsAt w b t cs) : b < w.heap.size := (Array.getElem?_eq_some_iff.1 h).1
theorem CsAt.on {w w' : World} {B b : Nat} {t : TypeId} {cs : Array Value} (h : CsAt w b t cs) (hb : Below B w w') (hB : b < B) : CsAt w' b t cs := (hb.block b hB).trans h
theorem CsAt.low {w w' : World} {b : Nat} {t : TypeId} {cs : Array Value} (h : CsAt w b t cs) (hb : Below w.heap.size w w') : CsAt w' b t cs := h.on hb h.lt
theorem CsAt.alloc {w : World} {b : Nat} {t : TypeId} {cs : Array Value} (h : CsAt w b t cs) (o : Obj) : CsAt (w.alloc o) b t cs := (Below.heap_alloc w o b h.lt).trans h
theorem CsAt.new (w : World) (t : TypeId) (cs : Array Value) : CsAt (w.alloc (.cells cs t)) w.heap.size t cs := by show (w.heap.push _)[w.heap.size]? = _; simp
theorem CsAt.cell {w : World} {b : Nat} {t : TypeId} {cs : Array Value} (h : CsAt w b t cs) (i : Nat) : w.cell? ⟨b, i, none⟩ = cs[i]? := cell_of_row w b i _ t _ h
theorem CsAt.frozen {w : World} {b : Nat} {t : TypeId} {cs : Array Value} (h : CsAt w b t cs) (i : Nat) : w.frozen? ⟨b, i, none⟩ = false := frozen_of_row w b i _ t h
theorem CsAt.row {w : World} {b : Nat} {t : TypeId} {cs : Array Value} (h : CsAt w b t cs) (ds : Array Value) : CsAt (w.setRow b ds) b t ds := setRow_heap w b _ _ t _ h
theorem CsAt.rowFar {w : World} {b : Nat} {t : TypeId} {cs : Array Value} (h : CsAt w b t cs) {c : Nat} (hne : b ≠ c) (ds : Array Value) : CsAt (w.setRow c ds) b t cs := (setRow_other w c b ds hne).trans h
end Go.Proofs.YtkbgmppbkllnmaaDoor
set_option maxRecDepth 20000
namespace Go.Proofs.YtkbgmppbkllnmaaDoor
open Go.ChangeShapes Go.WideShapes Go.ChangeAt Go.RowKit

/-- A slice whose cells can be read. -/
def Vw (w : World) (p : Option Addr) (cs : List Value) : Prop :=
  cs = [] ∨ ∃ b off, p = some ⟨b, off, none⟩ ∧ b < w.heap.size ∧ ∀ j u, cs[j]? = some u → w.cell? ⟨b, off + j, none⟩ = some u
theorem Vw.low {w w' : World} {p : Option Addr} {cs : List Value} (h : Vw w p cs) (hb : Below w.heap.size w w') : Vw w' p cs :=
  h.imp id fun ⟨b, off, hp, hlt, hc⟩ => ⟨b, off, hp, Nat.lt_of_lt_of_le hlt hb.size, fun j u hj => (hb.cell (p := ⟨b, off + j, none⟩) hlt).trans (hc j u hj)⟩
section
variable {w w' : World} {base : Nat} {e : TypeId} {size : Nat} {v : Value} {n : Nat} {xs : List Value}
theorem own_len (h : w.ownsRow base e size v n xs) : xs.length = n * size := h.1
theorem own_on {B : Nat} (h : w.ownsRow base e size v n xs) (hb : Below B w w') (hB : ∀ k, v.ownBlock = some k → k < B) : w'.ownsRow base e size v n xs := by
  refine ⟨h.1, h.2.imp id ?_⟩
  rintro ⟨g, cap, cur, rfl, h1, h2, h3⟩
  exact ⟨g, cap, cur, rfl, h1, (hb.block g (hB g rfl)).trans h2, h3⟩
theorem own_low (h : w.ownsRow base e size v n xs) (hb : Below w.heap.size w w') : w'.ownsRow base e size v n xs := own_on h hb fun k hk => (h.lt k hk).2
theorem own_mono {b : Nat} (h : w.ownsRow base e size v n xs) (hb : b ≤ base) : w.ownsRow b e size v n xs := by
  refine ⟨h.1, h.2.imp id ?_⟩
  rintro ⟨g, cap, cur, rfl, h1, h2⟩
  exact ⟨g, cap, cur, rfl, Nat.le_trans hb h1, h2⟩
/-- How such a slice looks. -/
theorem own_form (h : w.ownsRow base e size v n xs) : ∃ p cap, v = .slice p n cap ∧ Vw w p xs ∧ n ≤ cap ∧ cap ≤ maxLen := by
  rcases h.2 with ⟨rfl, rfl⟩ | ⟨g, cap, cur, rfl, hb, hg, hc, hm, hs, ht⟩
  · refine ⟨none, 0, rfl, .inl ?_, Nat.le_refl _, Nat.zero_le _⟩
    have := h.1
    simpa using this
  · refine ⟨_, cap, rfl, .inr ⟨g, 0, rfl, (Array.getElem?_eq_some_iff.1 hg).1, fun j u hj => ?_⟩, hc, hm⟩
    have hl : j < n * size := by
      have := (List.getElem?_eq_some_iff.1 hj).1
      rwa [h.1] at this
    rw [Nat.zero_add, h.cellAt j hl, hj]
theorem own_pos (h : w.ownsRow base e size v n xs) (hn : 0 < n) : ∃ g cap, v = .slice (some ⟨g, 0, none⟩) n cap ∧ base ≤ g ∧ g < w.heap.size ∧ n ≤ cap := by
  rcases h.2 with ⟨rfl, rfl⟩ | ⟨g, cap, cur, rfl, hb, hg, hc, hm, hs, ht⟩
  · omega
  · exact ⟨g, cap, rfl, hb, (Array.getElem?_eq_some_iff.1 hg).1, hc⟩
end
theorem CsAt.far {w : World} {b : Nat} {t : TypeId} {cs : Array Value} (h : CsAt w b t cs) {c i : Nat} (hne : b ≠ c) (v : Value) : CsAt (w.setCell ⟨c, i, none⟩ v) b t cs := (heap_setCell_other w ⟨c, i, none⟩ b v hne).trans h
theorem add_plain (b off j : Nat) : (⟨b, off, none⟩ : Addr).add j = ⟨b, off + j, none⟩ := by unfold Addr.add; split <;> simp_all
variable {P : Program}
/-- An element more: its cells lie in the block that was made last. -/
theorem wpList_push {ops : Array Oper} {rest : List Oper} {o : Oper} {a : Act} {Q : Exit → Act → World → Prop} {w1 : World} (hgd : o.guard = none) (s x : Operand) (t : TypeId)
    (ho : o.op = .call { callee := .builtin .append, args := #[s, x], argTypes := #[t, t] })
    (base : Nat) (e : TypeId) (z : Value) (size bytes : Nat) (ht : P.underlying t = some (.slice e)) (hi : (P.info? e).map (fun i => (i.zero, i.size, i.bytes)) = some (some z, size, bytes))
    (hzs : z.cells.size = size) (hsz : 0 < size) (hby : bytes ≤ 64)
    (v : Value) (n : Nat) (xs : List Value) (hs : a.eval s = v) (hown : w1.ownsRow base e size v n xs) (cs : Array Value) (hcs : cs.size = size) (h1 : cs.all (·.oneCell') = true)
    (b : Nat) (hx : a.eval x = .slice (some ⟨b, 0, none⟩) 1 1) (hb : b = w1.heap.size) (hn : n < 1000000) (hbase : base ≤ w1.heap.size)
    (h : ∀ v' w', w'.ownsRow base e size v' (n + 1) (xs ++ cs.toList) → Below base w1 w' → wpList P ops Q rest (a.put o.dst v') w') : wpList P ops Q (o :: rest) a (w1.alloc (.cells cs e)) := by
  subst hb
  obtain ⟨i, hi, hz⟩ := Option.map_eq_some_iff.1 hi
  simp only [Prod.mk.injEq] at hz
  refine wpList_append_own _ hgd s x t ho base e i z size bytes ht hi hz.1 hz.2.1 hz.2.2 hzs hsz v n xs hs (hown.alloc _) ⟨w1.heap.size, 0, none⟩ 1 1 cs.toList hx (by simpa using hcs) ?_ ?_ (by unfold maxLen; omega) ?_ (by simp; omega) ?_
  · intro j u hj
    rw [add_plain, Nat.zero_add, (CsAt.new w1 e cs).cell]
    simpa using hj
  · intro u hu
    exact (Array.all_eq_true_iff_forall_mem.1 h1) u (by simpa using hu)
  · have : (n + 1) * bytes ≤ 1000000 * 64 := Nat.mul_le_mul (by omega) hby
    omega
  · intro v' w' hown' hg _
    refine h v' w' hown' ?_
    exact ((Below.refl base w1).alloc hbase _).grown hg (by simp; omega) (fun r hr => (hown.lt r hr).1)
/-- Nothing is appended: a nil slice. -/
theorem run_append_none (w : World) (base : Nat) (t ty e : TypeId) (i : TypeInfo) (size : Nat) (ht : P.underlying t = some (.slice e)) (hi : P.info? e = some i)
    (v : Value) (n : Nat) (xs : List Value) (hown : w.ownsRow base e size v n xs) (hn : n < 1000000) (c : Nat) : (Builtin.append_ #[t, t] ty #[v, .slice none 0 c]).run P w = .ok v w := by
  rcases hown.2 with ⟨rfl, rfl⟩ | ⟨g, cap, cur, rfl, hb, hg, hc, hm, hs, hk⟩
  · simp [Builtin.append_, run_underlying ht, sizeOf, typeInfo, hi, Builtin.lenOf, Builtin.firstCells]
  · have : n ≤ maxLen := by unfold maxLen; omega
    simp [Builtin.append_, run_underlying ht, sizeOf, typeInfo, hi, Builtin.lenOf, Builtin.firstCells, loadCells, hc, storeCells]
/-- A slice at the end of one that the call owns. -/
theorem wp_cat {o : Oper} {a : Act} {w : World} {K : Act → World → Prop} {Q : Exit → Act → World → Prop} (s x : Operand) (t : TypeId)
    (ho : o.op = .call { callee := .builtin .append, args := #[s, x], argTypes := #[t, t] })
    (base : Nat) (e : TypeId) (z : Value) (size bytes : Nat) (ht : P.underlying t = some (.slice e)) (hi : (P.info? e).map (fun i => (i.zero, i.size, i.bytes)) = some (some z, size, bytes))
    (hzs : z.cells.size = size) (hsz : 0 < size) (hby : bytes ≤ 64)
    (v : Value) (n : Nat) (xs : List Value) (hs : a.eval s = v) (hown : w.ownsRow base e size v n xs)
    (p : Option Addr) (m c : Nat) (news : List Value) (hx : a.eval x = .slice p m c) (hv : Vw w p news) (hl : news.length = m * size) (h1 : ∀ u ∈ news, u.oneCell' = true)
    (hn : n + m < 1000000) (hbase : base ≤ w.heap.size)
    (h : ∀ v' w', w'.ownsRow base e size v' (n + m) (xs ++ news) → Below base w w' → K (a.put o.dst v') w') : o.wp P a w K Q := by
  obtain ⟨i, hi, hz⟩ := Option.map_eq_some_iff.1 hi
  simp only [Prod.mk.injEq] at hz
  by_cases hp : p = none
  · subst hp
    have hnil : news = [] := hv.resolve_right (fun ⟨_, _, h, _⟩ => by cases h)
    subst hnil
    have hm : m = 0 := by
      have : m * size = 0 := hl.symm
      rcases Nat.mul_eq_zero.1 this with h | h
      · exact h
      · omega
    subst hm
    have hr := run_append_none (P := P) w base t o.type e i size ht hi v n xs hown (by omega) c
    unfold Oper.wp execOp
    simp only [ho, resolve, invoke, builtin, Sem.run_bind, Sem.run_pure, Result.andThen_ok, List.map_toArray, List.map_cons, List.map_nil, hs, hx, hr]
    exact h v w (by simpa using hown) (Below.refl _ _)
  · obtain ⟨ad, rfl⟩ := Option.ne_none_iff_exists'.1 hp
    refine wp_append_own w s x t ho base e i z size bytes ht hi hz.1 hz.2.1 hz.2.2 hzs hsz v n xs hs hown ad m c news hx hl ?_ h1 (by unfold maxLen; omega) ?_ hbase ?_
    · intro j u hj
      rcases hv with rfl | ⟨b, off, hb, hlt, hc⟩
      · cases hj
      · cases hb
        rw [add_plain]
        exact hc j u hj
    · have : (n + m) * bytes ≤ 1000000 * 64 := Nat.mul_le_mul (by omega) hby
      omega
    · intro v' w' hown' hg _
      exact h v' w' hown' ((Below.refl base w).grown hg hbase (fun r hr => (hown.lt r hr).1))
theorem wpList_cat {ops : Array Oper} {rest : List Oper} {o : Oper} {a : Act} {w : World} {Q : Exit → Act → World → Prop} (hgd : o.guard = none) (s x : Operand) (t : TypeId)
    (ho : o.op = .call { callee := .builtin .append, args := #[s, x], argTypes := #[t, t] })
    (base : Nat) (e : TypeId) (z : Value) (size bytes : Nat) (ht : P.underlying t = some (.slice e)) (hi : (P.info? e).map (fun i => (i.zero, i.size, i.bytes)) = some (some z, size, bytes))
    (hzs : z.cells.size = size) (hsz : 0 < size) (hby : bytes ≤ 64)
    (v : Value) (n : Nat) (xs : List Value) (hs : a.eval s = v) (hown : w.ownsRow base e size v n xs)
    (p : Option Addr) (m c : Nat) (news : List Value) (hx : a.eval x = .slice p m c) (hv : Vw w p news) (hl : news.length = m * size) (h1 : ∀ u ∈ news, u.oneCell' = true)
    (hn : n + m < 1000000) (hbase : base ≤ w.heap.size)
    (h : ∀ v' w', w'.ownsRow base e size v' (n + m) (xs ++ news) → Below base w w' → wpList P ops Q rest (a.put o.dst v') w') : wpList P ops Q (o :: rest) a w :=
  wpList_plain hgd fun _ hK => wp_cat s x t ho base e z size bytes ht hi hzs hsz hby v n xs hs hown p m c news hx hv hl h1 hn hbase fun v' w' h2 h3 => hK _ _ (h v' w' h2 h3)
/-! Steps of a region that draws its order. -/
theorem wpOp_wpX {ops : Array Oper} {Q : Exit → Act → World → Prop} {i : Nat} {o : Oper} {a : Act} {w : World} {K : Act → World → Prop} (hi : ops[i]? = some o) (hw : Region.wanted o (yielded ops a.tmps) = true) (h : o.wp P a w K Q) : Go.wpOp P ops Q i K a w := by
  unfold Go.wpOp
  simp only [hi, hw, if_true]
  exact .inl h
theorem wpOp_callX {ops : Array Oper} {Q : Exit → Act → World → Prop} {i : Nat} {o : Oper} {a : Act} {w : World} {K : Act → World → Prop} (f : FuncId) (args : Array Value) (hi : ops[i]? = some o) (hw : Region.wanted o (yielded ops a.tmps) = true) (hr : (execOp a.eval o).run P w = .ok (.enter f args) w)
    (h : Calls P f args w fun e w'' => ∃ v, e = .returned v ∧ K (a.put o.dst v) w'') : Go.wpOp P ops Q i K a w := by
  refine wpOp_wpX hi hw ?_
  unfold Oper.wp
  rw [hr]
  simp only [Oper.upon]
  exact h.mono fun e w'' ⟨v, he, hk⟩ => by subst he; exact hk
/-- A literal of one element. -/
theorem own_one (w : World) (e : TypeId) (cs : Array Value) (size : Nat) (hs : cs.size = size) : (w.alloc (.cells cs e)).ownsRow w.heap.size e size (.slice (some ⟨w.heap.size, 0, none⟩) 1 1) 1 cs.toList :=
  World.ownsRow_lit w cs 1 (Nat.le_refl _) (by unfold maxLen; omega) (by omega)
end Go.Proofs.YtkbgmppbkllnmaaDoor
