/-
  The reference of layer 10: contracts of Line, SetLine. The reference of layer 10: contract of Fill. The iterator of ram.Some (layer 10): its contract in a range over it.
-/
import Derived.Test.YtjeolfcefeglpabGreatXbc
import Derived.Test.YtjeolfcefeglpabGreatXai
import Derived.RangeFuncNested
import Derived.RangeFuncBound
import Derived.RangeFuncCalls
import Derived.RangeFuncLeaves
import Derived.Shelf.Abstract
import Derived.Shelf.RegionOpen
import Derived.WalkKit
import Derived.OwnWalkIn
import Derived.TacticsInMore
import Derived.LoopNIn
import Derived.LoopIn
set_option maxRecDepth 20000
namespace Go.Proofs.YtjeolfcefeglpabGreat
open Go.ChangeShapes Go.WideShapes Go.ChangeAt Go.RowKit Wd

def setLV (B : List Int) (n : Nat) (i : Int) (l : List Int) : List Int := if 0 ≤ i ∧ i < n then Rm.setRow B i.toNat l else B
theorem is_rng {l : List Int} (h : Ln.Is l) (j : Nat) : 0 ≤ l.getD j 0 ∧ l.getD j 0 ≤ 255 := by
  by_cases hj : j < l.length
  · rw [List.getD, List.getElem?_eq_getElem hj]
    exact h.2 _ (List.getElem_mem _)
  · rw [List.getD, List.getElem?_eq_none (by omega)]
    exact ⟨by decide, by decide⟩
theorem setLV_ok {B : List Int} {n : Nat} (h : Rm.Ok B n) (i : Int) {l : List Int} (hl : Ln.Is l) : Rm.Ok (setLV B n i l) n := by
  unfold setLV
  split
  · exact Rm.setRow_ok h _ hl
  · exact h
/-- The line's first bytes. -/
def cut (B : List Int) (i k : Nat) : List Int := Rm.mk 64 fun j => if j < k then B.getD (64 * i + j) 0 else 0
theorem cut_zero (B : List Int) (i : Nat) : cut B i 0 = List.replicate 64 0 := by
  refine Rm.ext (by simp [cut, Rm.mk_len]) fun j hj => ?_
  rw [show (cut B i 0).length = 64 from Rm.mk_len _ _] at hj
  rw [show (cut B i 0).getD j 0 = _ from Rm.mk_get _ _ _ hj, if_neg (by omega), List.getD, List.getElem?_replicate]
  split <;> rfl
theorem rrcut_all (B : List Int) (i : Nat) : cut B i 64 = Rm.row B i := by
  refine Rm.ext (by simp [cut, Rm.row, Rm.mk_len]) fun j hj => ?_
  rw [show (cut B i 64).length = 64 from Rm.mk_len _ _] at hj
  rw [show (cut B i 64).getD j 0 = _ from Rm.mk_get _ _ _ hj, if_pos hj, Rm.row_get _ _ _ hj]
theorem cut_step (B : List Int) (i k : Nat) (hk : k < 64) : (cut B i k).set k (B.getD (64 * i + k) 0) = cut B i (k + 1) := by
  have hlen : ∀ m, (cut B i m).length = 64 := fun m => Rm.mk_len _ _
  refine Rm.ext (by rw [List.length_set, hlen, hlen]) fun j hj => ?_
  rw [List.length_set, hlen] at hj
  rw [Ln.getD_set _ _ _ _ (by rw [hlen]; exact hk), show (cut B i k).getD j 0 = _ from Rm.mk_get _ _ _ hj, show (cut B i (k + 1)).getD j 0 = _ from Rm.mk_get _ _ _ hj]
  by_cases c : j = k
  · subst c; rw [if_pos rfl, if_pos (by omega)]
  · rw [if_neg c]
    by_cases d : j < k
    · rw [if_pos d, if_pos (by omega)]
    · rw [if_neg d, if_neg (by omega)]
theorem row_len (B : List Int) (i : Nat) : (Rm.row B i).length = 64 := Rm.mk_len _ _
end Go.Proofs.YtjeolfcefeglpabGreat
set_option maxRecDepth 20000
namespace Go.Proofs.YtjeolfcefeglpabGreat
open Go.ChangeShapes Go.WideShapes Go.ChangeAt Go.RowKit Wd

/-- What Fill tells, and what it leaves. -/
def flB (n : Nat) (x : Int) (bs : List Int) : Bool := decide (bs.length = 0) || hasB n x (bs.length : Int)
def flV (B : List Int) (n : Nat) (x : Int) (bs : List Int) : List Int := if hasB n x (bs.length : Int) then Rm.lay B (x - 2147483648).toNat bs.length (fun k => bs.getD k 0) else B
theorem getD_rng {bs : List Int} (h : ∀ x ∈ bs, 0 ≤ x ∧ x ≤ 255) (j : Nat) : 0 ≤ bs.getD j 0 ∧ bs.getD j 0 ≤ 255 := by
  by_cases hj : j < bs.length
  · rw [List.getD, List.getElem?_eq_getElem hj]
    exact h _ (List.getElem_mem _)
  · rw [List.getD, List.getElem?_eq_none (by omega)]
    exact ⟨by decide, by decide⟩
theorem flV_ok {B : List Int} {n : Nat} (h : Rm.Ok B n) (x : Int) {bs : List Int} (hb : ∀ x ∈ bs, 0 ≤ x ∧ x ≤ 255) : Rm.Ok (flV B n x bs) n := by
  unfold flV
  split
  · exact Rm.lay_ok h _ _ fun j => getD_rng hb j
  · exact h
theorem addr_fl {n : Nat} {x m : Int} (h : hasB n x m = true) : ∃ a : Nat, x = 2147483648 + (a : Int) ∧ (a : Int) + m ≤ 64 * n := by
  have := hasB_iff.1 h
  exact ⟨(x - 2147483648).toNat, by omega, by omega⟩
end Go.Proofs.YtjeolfcefeglpabGreat
set_option maxRecDepth 20000
namespace Go.Proofs.YtjeolfcefeglpabGreat
open Go.RowKit Go.Shelf
attribute [local go_sem] Oper.semAt_some

section
variable {F : Fence} {n : Nat} {P : Program} {ops : Array Oper} {Q : Exit → Act → World → Prop} {a : Act} {w : World} {rest : List Oper} {o : Oper}
/-- An operation that yields a known value, in a fence. -/
theorem wpListIn_val (v : Value) (w' : World) (hw : Region.wanted o (yielded ops a.tmps) = true) (ha : o.about P w a.eval = none) (hd : ∀ c, o.op ≠ .defer c) (hr : (execOp a.eval o).run P w = .ok (.value v) w')
    (h : wpListIn F n P ops Q rest (a.put o.dst v) w') : wpListIn F n P ops Q (o :: rest) a w :=
  wpListIn_step fun K hK => by
    rw [if_pos hw]
    unfold Oper.wpIn
    exact ⟨fun f hf => (by rw [ha] at hf; cases hf), (by rw [Oper.semAt_plain F _ _ hd, hr]; exact hK _ _ h)⟩
theorem wpListIn_unit (w' : World) (hw : Region.wanted o (yielded ops a.tmps) = true) (ha : o.about P w a.eval = none) (hd : ∀ c, o.op ≠ .defer c) (hr : (execOp a.eval o).run P w = .ok .skip w')
    (h : wpListIn F n P ops Q rest (a.put o.dst undef) w') : wpListIn F n P ops Q (o :: rest) a w :=
  wpListIn_step fun K hK => by
    rw [if_pos hw]
    unfold Oper.wpIn
    exact ⟨fun f hf => (by rw [ha] at hf; cases hf), (by rw [Oper.semAt_plain F _ _ hd, hr]; exact hK _ _ h)⟩
end
/-- A whole array into the block that was made last, run. -/
theorem exec_storeNew {P : Program} {o : Oper} {a : Act} {w0 : World} (ty : TypeId) (x y : Operand) (ho : o.op = .store ty x y) (c cells : Array Value) (t : TypeId) (hx : a.eval x = .pointer (some ⟨w0.heap.size, 0, none⟩)) (hy : a.eval y = .agg cells)
    (hi : (P.info? ty).map (·.size) = some cells.size) (hold : c.size = cells.size) (h1 : cells.all (·.oneCell') = true) : (execOp a.eval o).run P (w0.alloc (.cells c t)) = .ok .skip (w0.alloc (.cells cells t)) := by
  rw [exec_store_row ty x y ho w0.heap.size cells hx hy t c (heap_alloc_last w0 _) hi hold h1, World.setRow_alloc_new]
theorem exec_buildZ {o : Oper} {a : Act} {w : World} (ho : o.op = .build 73 #[]) : (execOp a.eval o).run Tryz.prog w = .ok (.value (.agg (aV .u8 (List.replicate 64 0)))) w := by
  have hb := run_build (P := Tryz.prog) w 73 #[] _ (by simpa using built_line)
  unfold execOp
  simp [ho, hb, Result.andThen]

/-! ### what a round keeps: all blocks below N but b -/
structure Keep (b N : Nat) (w w' : World) : Prop where
  size : w.heap.size ≤ w'.heap.size
  block : ∀ k, k < N → k ≠ b → w'.heap[k]? = w.heap[k]?
theorem Keep.refl (b N : Nat) (w : World) : Keep b N w w := ⟨Nat.le_refl _, fun _ _ _ => rfl⟩
theorem Keep.trans {b N : Nat} {u v w : World} (h : Keep b N u v) (k : Keep b N v w) : Keep b N u w := ⟨Nat.le_trans h.size k.size, fun j hj hne => (k.block j hj hne).trans (h.block j hj hne)⟩
theorem Keep.of_below {b N : Nat} {w w' : World} (h : Below w.heap.size w w') (hN : N ≤ w.heap.size) : Keep b N w w' := ⟨h.size, fun k hk _ => h.block k (by omega)⟩
theorem Keep.of_only {b N : Nat} {w w' : World} (h : Only b w w') (hN : N ≤ w.heap.size) : Keep b N w w' := ⟨h.size, fun k hk hne => h.block k (by omega) hne⟩
theorem Keep.cell {b N : Nat} {w w' : World} (h : Keep b N w w') {p : Addr} (hp : p.block < N) (hne : p.block ≠ b) : w'.cell? p = w.cell? p := World.cell?_of_block (w := w) (h.block p.block hp hne)
theorem keep_b {b N : Nat} {w : World} (hN : N ≤ w.heap.size) (W : World) (l : Nat) (o o' : Obj) (hl : w.heap.size ≤ l) (h : W.heap[l]? = some o) (_ : o.isCells = false) (_ : o.isWalk = false) : Keep b N W (W.putObj l o') :=
  have hb := belowK_b (n₀ := w.heap.size) (w := w) (Nat.le_refl _) W l o o' hl h ‹_› ‹_›
  ⟨hb.size, fun k hk _ => hb.block k (by omega)⟩
theorem RamAt.keep {w w' : World} {rb mb n b N : Nat} {B : List Int} (h : RamAt w rb mb n B) (hk : Keep b N w w') (h1 : rb < N) (h2 : mb < N) (h3 : rb ≠ b) (h4 : mb ≠ b) : RamAt w' rb mb n B := by
  obtain ⟨D, ⟨es, clock, hb, r⟩, hF⟩ := h.own
  exact ⟨h.ok, h.n0, h.n1, (hk.cell (p := ⟨rb, 0, none⟩) h1 h3).trans h.c0, (hk.cell (p := ⟨rb, 1, none⟩) h1 h3).trans h.c1, Nat.lt_of_lt_of_le h.lt hk.size, h.ne, D, ⟨es, clock, (hk.block mb h2 h4).trans hb, r⟩, hF⟩

/-! ### what is told -/
abbrev FullAt (B : List Int) (n : Nat) := { x : Nat // x < n ∧ Rm.full B x = true }
def pick (B : List Int) (n i : Nat) : Option (FullAt B n) := if h : i < n ∧ Rm.full B i = true then some ⟨i, h⟩ else none
def told (B : List Int) (n k : Nat) : List (FullAt B n) := (List.range k).filterMap (pick B n)
theorem told_no {B : List Int} {n k : Nat} (h : Rm.full B k = false) : told B n (k + 1) = told B n k := by
  have e : pick B n k = none := by unfold pick; rw [dif_neg (by simp [h])]
  simp [told, List.range_succ, List.filterMap_append, e]
theorem told_yes {B : List Int} {n k : Nat} (hk : k < n) (h : Rm.full B k = true) : told B n (k + 1) = told B n k ++ [⟨k, hk, h⟩] := by
  have e : pick B n k = some ⟨k, hk, h⟩ := by unfold pick; rw [dif_pos ⟨hk, h⟩]
  simp [told, List.range_succ, List.filterMap_append, e]
theorem told_len {B : List Int} {n : Nat} : ∀ k, (told B n k).length ≤ k
  | 0 => Nat.le_refl _
  | k + 1 => by
    have ih := told_len (B := B) (n := n) k
    simp only [told, List.range_succ, List.filterMap_append, List.length_append]
    have : (List.filterMap (pick B n) [k]).length ≤ 1 := by
      simp only [List.filterMap_cons, List.filterMap_nil]
      split <;> simp
    unfold told at ih
    omega
abbrev lineEnc (B : List Int) (n : Nat) (x : FullAt B n) : Array Value := #[.int .i64 (x.1 : Int), .agg (aV .u8 (Rm.row B x.1))]

end Go.Proofs.YtjeolfcefeglpabGreat
