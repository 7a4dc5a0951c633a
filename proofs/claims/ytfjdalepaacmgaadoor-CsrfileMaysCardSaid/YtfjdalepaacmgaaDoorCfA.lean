/-
  Plain numbers, no program: a hart's control registers: which have a word, what is read, what becomes of them when something is written, done, or a turn goes by.
-/
import Derived.Test.YtfjdalepaacmgaaDoorStaA
namespace Go.Proofs.YtfjdalepaacmgaaDoor.Cf
open Go.RowKit Wd Csr Sta

/-- The numbers of those that have a word of their own. -/
def keptL : List Nat := [261, 262, 320, 321, 322, 323, 384, 768, 770, 771, 772, 773, 774, 832, 833, 834, 835, 836, 1472, 1473, 2816, 2818]
def keptN (i : Nat) : Nat := keptL.getD i 0
def idxK (n : Int) : Option Nat := (List.range 22).find? fun i => ((keptN i : Nat) : Int) == n
theorem idx_some {n : Int} {i : Nat} (h : idxK n = some i) : i < 22 ∧ n = (keptN i : Nat) := by
  have h1 := List.mem_of_find?_eq_some h
  have h2 := List.find?_some h
  exact ⟨by simpa using h1, (eq_of_beq h2).symm⟩
theorem idx_kept : ∀ i : Fin 22, idxK (keptN i.val : Nat) = some i.val := by decide +kernel
theorem idx_none {n : Int} (h : idxK n = none) : ∀ i, i < 22 → (((keptN i : Nat) : Int) == n) = false := by
  unfold idxK at h
  rw [List.find?_eq_none] at h
  intro i hi
  have := h i (by simpa using hi)
  simpa using this
theorem kept_ne : ∀ i j : Fin 22, keptN i.val = keptN j.val → i.val = j.val := by decide +kernel
/-- A file: whose it is, its words by their numbers, whether a counter was written. -/
structure S where
  h : Int
  f : Int → Int
  cw : Bool
  iw : Bool
structure Ok (s : S) : Prop where
  h : -9223372036854775808 ≤ s.h ∧ s.h ≤ 9223372036854775807
  w : ∀ n, W64 (s.f n)
  z : ∀ n, idxK n = none → s.f n = 0
def S.put (s : S) (n v : Int) : S := { s with f := fun m => if m = n then v else s.f m }
theorem Ok.put {s : S} (h : Ok s) {n v : Int} (hn : idxK n ≠ none) (hv : W64 v) : Ok (s.put n v) := by
  refine ⟨h.h, fun m => ?_, fun m hm => ?_⟩
  · unfold S.put
    dsimp only
    split
    · exact hv
    · exact h.w m
  · unfold S.put
    dsimp only
    rw [if_neg (fun (e : m = n) => hn (by rw [← e]; exact hm))]
    exact h.z m hm
theorem put_self (s : S) (n : Int) : s.put n (s.f n) = s := by
  unfold S.put
  have : (fun m => if m = n then s.f n else s.f m) = s.f := by
    funext m
    split
    · rename_i e; rw [e]
    · rfl
  rw [this]
theorem put_at (s : S) (n v : Int) : (s.put n v).f n = v := if_pos rfl
theorem put_ne (s : S) {n m : Int} (v : Int) (h : m ≠ n) : (s.put n v).f m = s.f m := if_neg h
/-- What it is at first. -/
def new (h : Int) : S := { h := h, f := fun m => if m = 768 then 42949672960 else 0, cw := false, iw := false }
theorem new_ok {h : Int} (hh : -9223372036854775808 ≤ h ∧ h ≤ 9223372036854775807) : Ok (new h) := by
  refine ⟨hh, fun n => ?_, fun n hn => ?_⟩
  · unfold new W64
    dsimp only
    split <;> omega
  · unfold new
    dsimp only
    rw [if_neg]
    intro e
    subst e
    exact absurd hn (by decide)
def zero (h : Int) : S := { h := h, f := fun _ => 0, cw := false, iw := false }
theorem new_put (h : Int) : (zero h).put 768 42949672960 = new h := rfl
/-! ### its cells -/
def cellsL (s : S) (l : List Nat) : List Value := .int .i64 s.h :: (l.map (fun k => Value.int .u64 (s.f (k : Nat))) ++ [.bool s.cw, .bool s.iw])
def fileV (s : S) : Array Value := (cellsL s keptL).toArray
def numsR : List Nat := rowsC.map (·.1)
def refV (s : S) : Array Value := (cellsL s numsR).toArray
theorem numsR_at {k : Nat} (hk : k < 34) : numsR[k]? = some (rowC k).1 := by
  unfold numsR
  rw [List.getElem?_map, rowC_get hk]; rfl
theorem nums_ne : ∀ i j : Fin 34, (rowC i.val).1 = (rowC j.val).1 → i.val = j.val := by decide +kernel
theorem cells_len (s : S) (l : List Nat) : (cellsL s l).length = l.length + 3 := by simp [cellsL]
theorem cells_at (s : S) {l : List Nat} {k m : Nat} (h : l[k]? = some m) : (cellsL s l)[1 + k]? = some (.int .u64 (s.f (m : Nat))) := by
  have hk : k < l.length := (List.getElem?_eq_some_iff.1 h).1
  unfold cellsL
  rw [Nat.add_comm, List.getElem?_cons_succ, List.getElem?_append_left (by simpa using hk), List.getElem?_map, h]; rfl
theorem cells_cw (s : S) (l : List Nat) : (cellsL s l)[1 + l.length]? = some (.bool s.cw) := by
  unfold cellsL
  rw [Nat.add_comm, List.getElem?_cons_succ, List.getElem?_append_right (by simp)]; simp
theorem cells_iw (s : S) (l : List Nat) : (cellsL s l)[2 + l.length]? = some (.bool s.iw) := by
  unfold cellsL
  rw [show 2 + l.length = (l.length + 1) + 1 by omega, List.getElem?_cons_succ, List.getElem?_append_right (by simp)]; simp
theorem cells_put (s : S) {l : List Nat} {k m : Nat} (h : l[k]? = some m) (hd : ∀ j, j < l.length → l[j]? = some m → j = k) (v : Int) : (cellsL s l).set (1 + k) (.int .u64 v) = cellsL (s.put (m : Nat) v) l := by
  have hk : k < l.length := (List.getElem?_eq_some_iff.1 h).1
  unfold cellsL
  rw [Nat.add_comm, List.set_cons_succ, List.set_append_left _ _ (by simpa using hk)]
  congr 2
  apply List.ext_getElem?
  intro j
  rw [List.getElem?_set]
  by_cases e : k = j
  · subst e
    rw [if_pos rfl, if_pos (by simpa using hk), List.getElem?_map, h, Option.map_some, put_at]
  · rw [if_neg e, List.getElem?_map, List.getElem?_map]
    by_cases hj : j < l.length
    · rw [List.getElem?_eq_getElem hj, Option.map_some, Option.map_some]
      congr 2
      rw [put_ne]
      intro ee
      have ee' : l[j] = m := by exact_mod_cast ee
      exact e (hd j hj (by rw [List.getElem?_eq_getElem hj, ee'])).symm
    · rw [List.getElem?_eq_none (by omega)]; rfl
theorem cells_cw_put (s : S) (l : List Nat) (b : Bool) : (cellsL s l).set (1 + l.length) (.bool b) = cellsL { s with cw := b } l := by
  unfold cellsL
  rw [Nat.add_comm, List.set_cons_succ, List.set_append_right _ _ (by simp)]; simp
theorem cells_iw_put (s : S) (l : List Nat) (b : Bool) : (cellsL s l).set (2 + l.length) (.bool b) = cellsL { s with iw := b } l := by
  unfold cellsL
  rw [show 2 + l.length = (l.length + 1) + 1 by omega, List.set_cons_succ, List.set_append_right _ _ (by simp)]; simp
theorem kept_at {i : Nat} (hi : i < 22) : keptL[i]? = some (keptN i) := by
  unfold keptN
  rw [List.getD, List.getElem?_eq_getElem (show i < keptL.length from hi)]; rfl
theorem fileV_size (s : S) : (fileV s).size = 25 := by unfold fileV; simp [cells_len, keptL]
theorem refV_size (s : S) : (refV s).size = 37 := by unfold refV; simp [cells_len, numsR, rowsC_len]
theorem fileV_0 (s : S) : (fileV s)[0]? = some (.int .i64 s.h) := by unfold fileV cellsL; simp
theorem refV_0 (s : S) : (refV s)[0]? = some (.int .i64 s.h) := by unfold refV cellsL; simp
theorem fileV_w (s : S) {i : Nat} (hi : i < 22) : (fileV s)[1 + i]? = some (.int .u64 (s.f (keptN i : Nat))) := by
  unfold fileV; rw [List.getElem?_toArray]; exact cells_at s (kept_at hi)
theorem refV_w (s : S) {k : Nat} (hk : k < 34) : (refV s)[1 + k]? = some (.int .u64 (s.f ((rowC k).1 : Nat))) := by
  unfold refV; rw [List.getElem?_toArray]; exact cells_at s (numsR_at hk)
theorem fileV_cw (s : S) : (fileV s)[23]? = some (.bool s.cw) := by unfold fileV; rw [List.getElem?_toArray]; exact cells_cw s keptL
theorem fileV_iw (s : S) : (fileV s)[24]? = some (.bool s.iw) := by unfold fileV; rw [List.getElem?_toArray]; exact cells_iw s keptL
theorem refV_cw (s : S) : (refV s)[35]? = some (.bool s.cw) := by unfold refV; rw [List.getElem?_toArray]; exact cells_cw s numsR
theorem refV_iw (s : S) : (refV s)[36]? = some (.bool s.iw) := by unfold refV; rw [List.getElem?_toArray]; exact cells_iw s numsR
theorem arr_set (l : List Value) (i : Nat) (v : Value) : l.toArray.setIfInBounds i v = (l.set i v).toArray := by simp
theorem fileV_put (s : S) {i : Nat} (hi : i < 22) (v : Int) : (fileV s).setIfInBounds (1 + i) (.int .u64 v) = fileV (s.put (keptN i : Nat) v) := by
  unfold fileV
  rw [arr_set, cells_put s (kept_at hi) (fun j hj h => by
    have hj' : j < 22 := hj
    rw [kept_at hj'] at h
    exact kept_ne ⟨j, hj'⟩ ⟨i, hi⟩ (Option.some.inj h)) v]
theorem refV_put (s : S) {k : Nat} (hk : k < 34) (v : Int) : (refV s).setIfInBounds (1 + k) (.int .u64 v) = refV (s.put ((rowC k).1 : Nat) v) := by
  unfold refV
  rw [arr_set, cells_put s (numsR_at hk) (fun j hj h => by
    have hj' : j < 34 := by simpa [numsR, rowsC_len] using hj
    rw [numsR_at hj'] at h
    exact nums_ne ⟨j, hj'⟩ ⟨k, hk⟩ (Option.some.inj h)) v]
theorem fileV_cwput (s : S) (b : Bool) : (fileV s).setIfInBounds 23 (.bool b) = fileV { s with cw := b } := by unfold fileV; rw [arr_set]; exact congrArg _ (cells_cw_put s keptL b)
theorem fileV_iwput (s : S) (b : Bool) : (fileV s).setIfInBounds 24 (.bool b) = fileV { s with iw := b } := by unfold fileV; rw [arr_set]; exact congrArg _ (cells_iw_put s keptL b)
theorem refV_cwput (s : S) (b : Bool) : (refV s).setIfInBounds 35 (.bool b) = refV { s with cw := b } := by unfold refV; rw [arr_set]; exact congrArg _ (cells_cw_put s numsR b)
theorem refV_iwput (s : S) (b : Bool) : (refV s).setIfInBounds 36 (.bool b) = refV { s with iw := b } := by unfold refV; rw [arr_set]; exact congrArg _ (cells_iw_put s numsR b)
theorem one_all (s : S) (l : List Nat) : (cellsL s l).toArray.all (·.oneCell') = true := by
  rw [Array.all_eq_true']
  intro x hx
  unfold cellsL at hx
  simp only [List.mem_toArray, List.mem_cons, List.mem_append, List.mem_map, List.not_mem_nil, or_false] at hx
  rcases hx with rfl | ⟨k, -, rfl⟩ | rfl | rfl <;> rfl
/-! ### what is read -/
def and2 (a b : Int) : Int := bits .and .u64 a b
def pendS (s : S) (l : Int) : Int := bits .or .u64 (s.f 836) (bits .and .u64 l 2696)
def getS (s : S) (n l : Int) : Int :=
  if n = 256 then viewS (s.f 768) else if n = 260 then bits .and .u64 (s.f 772) (s.f 771) else if n = 324 then bits .and .u64 (pendS s l) (s.f 771) else if n = 836 then pendS s l else if n = 769 then 9223372036856090881 else
  if n = 3072 then s.f 2816 else if n = 3074 then s.f 2818 else if n = 3860 then IntKind.u64.wrap s.h else s.f n
theorem and_64 {a b : Int} (ha : W64 a) (hb : W64 b) : W64 (bits .and .u64 a b) := and_range ha.1 ha.2 hb.1 hb.2
theorem pend_64 {s : S} (h : Ok s) {l : Int} (hl : W64 l) : W64 (pendS s l) := by
  have h1 := h.w 836
  have h2 : W64 (bits .and .u64 l 2696) := and_64 hl ⟨by omega, by omega⟩
  exact or_range h1.1 h1.2 h2.1 h2.2
theorem get_64 {s : S} (h : Ok s) (n : Int) {l : Int} (hl : W64 l) : W64 (getS s n l) := by
  unfold getS
  repeat' split
  · exact view_range (h.w _)
  · exact and_64 (h.w _) (h.w _)
  · exact and_64 (pend_64 h hl) (h.w _)
  · exact pend_64 h hl
  · exact ⟨by omega, by omega⟩
  · exact h.w _
  · exact h.w _
  · exact wrap_range _
  · exact h.w _
/-! ### what becomes of it -/
def setW (s : S) (n v : Int) : S :=
  if n = 256 then s.put 768 (legS 256 (s.f 768) v) else if n = 260 then s.put 772 (nextS (s.f 771) (s.f 772) v) else if n = 324 then s.put 836 (nextS (bits .and .u64 (s.f 771) 2) (s.f 836) v) else
  if idxK n = none then s else s.put n (legS n (s.f n) v)
def setS (s : S) (n v : Int) : S := { setW s n v with cw := s.cw || n == 2816, iw := s.iw || n == 2818 }
theorem setW_ok {s : S} (h : Ok s) (n : Int) {v : Int} (_hv : W64 v) : Ok (setW s n v) := by
  unfold setW
  repeat' split
  · exact h.put (by decide) (legS_range (h.w _))
  · exact h.put (by decide) (nextS_range _ _ _)
  · exact h.put (by decide) (nextS_range _ _ _)
  · exact h
  · rename_i hn; exact h.put hn (legS_range (h.w _))
theorem setS_ok {s : S} (h : Ok s) (n : Int) {v : Int} (hv : W64 v) : Ok (setS s n v) := ⟨(setW_ok h n hv).h, (setW_ok h n hv).w, (setW_ok h n hv).z⟩
def incr (x : Int) : Int := IntKind.u64.wrap (x + 1)
def turnS (s : S) (r : Bool) : S :=
  let a := if s.cw then s else s.put 2816 (incr (s.f 2816))
  let b := if r && !s.iw then a.put 2818 (incr (a.f 2818)) else a
  { b with cw := false, iw := false }
theorem turn_ok {s : S} (h : Ok s) (r : Bool) : Ok (turnS s r) := by
  unfold turnS
  have h1 : Ok (if s.cw then s else s.put 2816 (incr (s.f 2816))) := by
    split
    · exact h
    · exact h.put (by decide) (wrap_range _)
  dsimp only
  generalize (if s.cw then s else s.put 2816 (incr (s.f 2816))) = a at *
  split
  · have := h1.put (n := 2818) (by decide) (v := incr (a.f 2818)) (wrap_range _)
    exact ⟨this.h, this.w, this.z⟩
  · exact ⟨h1.h, h1.w, h1.z⟩
end Go.Proofs.YtfjdalepaacmgaaDoor.Cf
