/-
  The reference of layer 10: contracts of Line, SetLine. The reference of layer 10: contract of Fill. The iterator of ram.Some (layer 10): its contract in a range over it.
-/
import Derived.Test.YtabackklpemhpaaGreatJbc
import Derived.Test.YtabackklpemhpaaGreatJai
import Derived.RangeFuncNested
import Derived.RangeFuncBound
import Derived.RangeFuncCalls
import Derived.RangeFuncLeaves
import Derived.Shelf.Abstract
import Derived.Shelf.RegionOpen
import Derived.WalkKit
import Derived.OwnWalkIn
import Derived.TacticsInMore
import Derived.LoopNIn
import Derived.LoopIn
set_option maxRecDepth 20000
namespace Go.Proofs.YtabackklpemhpaaGreat
open Go.ChangeShapes Go.WideShapes Go.ChangeAt Go.RowKit Wd

def setLV (B : List Int) (n : Nat) (i : Int) (l : List Int) : List Int := if 0 ≤ i ∧ i < n then Rm.setRow B i.toNat l else B
theorem is_rng {l : List Int} (h : Ln.Is l) (j : Nat) : 0 ≤ l.getD j 0 ∧ l.getD j 0 ≤ 255 := by
  by_cases hj : j < l.length
  · rw [List.getD, List.getElem?_eq_getElem hj]
    exact h.2 _ (List.getElem_mem _)
  · rw [List.getD, List.getElem?_eq_none (by omega)]
    exact ⟨by decide, by decide⟩
theorem setLV_ok {B : List Int} {n : Nat} (h : Rm.Ok B n) (i : Int) {l : List Int} (hl : Ln.Is l) : Rm.Ok (setLV B n i l) n := by
  unfold setLV
  split
  · exact Rm.setRow_ok h _ hl
  · exact h
/-- The line's first bytes. -/
def cut (B : List Int) (i k : Nat) : List Int := Rm.mk 64 fun j => if j < k then B.getD (64 * i + j) 0 else 0
theorem cut_zero (B : List Int) (i : Nat) : cut B i 0 = List.replicate 64 0 := by
  refine Rm.ext (by simp [cut, Rm.mk_len]) fun j hj => ?_
  rw [show (cut B i 0).length = 64 from Rm.mk_len _ _] at hj
  rw [show (cut B i 0).getD j 0 = _ from Rm.mk_get _ _ _ hj, if_neg (by omega), List.getD, List.getElem?_replicate]
  split <;> rfl
theorem rrcut_all (B : List Int) (i : Nat) : cut B i 64 = Rm.row B i := by
  refine Rm.ext (by simp [cut, Rm.row, Rm.mk_len]) fun j hj => ?_
  rw [show (cut B i 64).length = 64 from Rm.mk_len _ _] at hj
  rw [show (cut B i 64).getD j 0 = _ from Rm.mk_get _ _ _ hj, if_pos hj, Rm.row_get _ _ _ hj]
theorem cut_step (B : List Int) (i k : Nat) (hk : k < 64) : (cut B i k).set k (B.getD (64 * i + k) 0) = cut B i (k + 1) := by
  have hlen : ∀ m, (cut B i m).length = 64 := fun m => Rm.mk_len _ _
  refine Rm.ext (by rw [List.length_set, hlen, hlen]) fun j hj => ?_
  rw [List.length_set, hlen] at hj
  rw [Ln.getD_set _ _ _ _ (by rw [hlen]; exact hk), show (cut B i k).getD j 0 = _ from Rm.mk_get _ _ _ hj, show (cut B i (k + 1)).getD j 0 = _ from Rm.mk_get _ _ _ hj]
  by_cases c : j = k
  · subst c; rw [if_pos rfl, if_pos (by omega)]
  · rw [if_neg c]
    by_cases d : j < k
    · rw [if_pos d, if_pos (by omega)]
    · rw [if_neg d, if_neg (by omega)]
theorem row_len (B : List Int) (i : Nat) : (Rm.row B i).length = 64 := Rm.mk_len _ _
end Go.Proofs.YtabackklpemhpaaGreat
set_option maxRecDepth 20000
namespace Go.Proofs.YtabackklpemhpaaGreat
open Go.ChangeShapes Go.WideShapes Go.ChangeAt Go.RowKit Wd

/-- What Fill tells, and what it leaves. -/
def flB (n : Nat) (x : Int) (bs : List Int) : Bool := decide (bs.length = 0) || hasB n x (bs.length : Int)
def flV (B : List Int) (n : Nat) (x : Int) (bs : List Int) : List Int := if hasB n x (bs.length : Int) then Rm.lay B (x - 2147483648).toNat bs.length (fun k => bs.getD k 0) else B
theorem getD_rng {bs : List Int} (h : ∀ x ∈ bs, 0 ≤ x ∧ x ≤ 255) (j : Nat) : 0 ≤ bs.getD j 0 ∧ bs.getD j 0 ≤ 255 := by
  by_cases hj : j < bs.length
  · rw [List.getD, List.getElem?_eq_getElem hj]
    exact h _ (List.getElem_mem _)
  · rw [List.getD, List.getElem?_eq_none (by omega)]
    exact ⟨by decide, by decide⟩
theorem flV_ok {B : List Int} {n : Nat} (h : Rm.Ok B n) (x : Int) {bs : List Int} (hb : ∀ x ∈ bs, 0 ≤ x ∧ x ≤ 255) : Rm.Ok (flV B n x bs) n := by
  unfold flV
  split
  · exact Rm.lay_ok h _ _ fun j => getD_rng hb j
  · exact h
theorem addr_fl {n : Nat} {x m : Int} (h : hasB n x m = true) : ∃ a : Nat, x = 2147483648 + (a : Int) ∧ (a : Int) + m ≤ 64 * n := by
  have := hasB_iff.1 h
  exact ⟨(x - 2147483648).toNat, by omega, by omega⟩
end Go.Proofs.YtabackklpemhpaaGreat
set_option maxRecDepth 20000
namespace Go.Proofs.YtabackklpemhpaaGreat
open Go.RowKit Go.Shelf
attribute [local go_sem] Oper.semAt_some

section
variable {F : Fence} {n : Nat} {P : Program} {ops : Array Oper} {Q : Exit → Act → World → Prop} {a : Act} {w : World} {rest : List Oper} {o : Oper}
/-- An operation that yields a known value, in a fence. -/
theorem wpListIn_val (v : Value) (w' : World) (hw : Region.wanted o (yielded ops a.tmps) = true) (ha : o.about P w a.eval = none) (hd : ∀ c, o.op ≠ .defer c) (hr : (execOp a.eval o).run P w = .ok (.value v) w')
    (h : wpListIn F n P ops Q rest (a.put o.dst v) w') : wpListIn F n P ops Q (o :: rest) a w :=
  wpListIn_step fun K hK => by
    rw [if_pos hw]
    unfold Oper.wpIn
    exact ⟨fun f hf => (by rw [ha] at hf; cases hf), (by rw [Oper.semAt_plain F _ _ hd, hr]; exact hK _ _ h)⟩
theorem wpListIn_unit (w' : World) (hw : Region.wanted o (yielded ops a.tmps) = true) (ha : o.about P w a.eval = none) (hd : ∀ c, o.op ≠ .defer c) (hr : (execOp a.eval o).run P w = .ok .skip w')
    (h : wpListIn F n P ops Q rest (a.put o.dst undef) w') : wpListIn F n P ops Q (o :: rest) a w :=
  wpListIn_step fun K hK => by
    rw [if_pos hw]
    unfold Oper.wpIn
    exact ⟨fun f hf => (by rw [ha] at hf; cases hf), (by rw [Oper.semAt_plain F _ _ hd, hr]; exact hK _ _ h)⟩
end
/-- A whole array into the block that was made last, run. -/
theorem exec_storeNew {P : Program} {o : Oper} {a : Act} {w0 : World} (ty : TypeId) (x y : Operand) (ho : o.op = .store ty x y) (c cells : Array Value) (t : TypeId) (hx : a.eval x = .pointer (some ⟨w0.heap.size, 0, none⟩)) (hy : a.eval y = .agg cells)
    (hi : (P.info? ty).map (·.size) = some cells.size) (hold : c.size = cells.size) (h1 : cells.all (·.oneCell') = true) : (execOp a.eval o).run P (w0.alloc (.cells c t)) = .ok .skip (w0.alloc (.cells cells t)) := by
  rw [exec_store_row ty x y ho w0.heap.size cells hx hy t c (heap_alloc_last w0 _) hi hold h1, World.setRow_alloc_new]
theorem exec_buildZ {o : Oper} {a : Act} {w : World} (ho : o.op = .build 90 #[]) : (execOp a.eval o).run Tryz.prog w = .ok (.value (.agg (aV .u8 (List.replicate 64 0)))) w := by
  have hb := run_build (P := Tryz.prog) w 90 #[] _ (by simpa using built_line)
  unfold execOp
  simp [ho, hb, Result.andThen]

/-! ### what a round keeps: all blocks below N but b -/
structure Keep (b N : Nat) (w w' : World) : Prop where
  size : w.heap.size ≤ w'.heap.size
  block : ∀ k, k < N → k ≠ b → w'.heap[k]? = w.heap[k]?
theorem Keep.refl (b N : Nat) (w : World) : Keep b N w w := ⟨Nat.le_refl _, fun _ _ _ => rfl⟩
theorem Keep.trans {b N : Nat} {u v w : World} (h : Keep b N u v) (k : Keep b N v w) : Keep b N u w := ⟨Nat.le_trans h.size k.size, fun j hj hne => (k.block j hj hne).trans (h.block j hj hne)⟩
theorem Keep.of_below {b N : Nat} {w w' : World} (h : Below w.heap.size w w') (hN : N ≤ w.heap.size) : Keep b N w w' := ⟨h.size, fun k hk _ => h.block k (by omega)⟩
theorem Keep.of_only {b N : Nat} {w w' : World} (h : Only b w w') (hN : N ≤ w.heap.size) : Keep b N w w' := ⟨h.size, fun k hk hne => h.block k (by omega) hne⟩
theorem Keep.cell {b N : Nat} {w w' : World} (h : Keep b N w w') {p : Addr} (hp : p.block < N) (hne : p.block ≠ b) : w'.cell? p = w.cell? p := World.cell?_of_block (w := w) (h.block p.block hp hne)
theorem keep_b {b N : Nat} {w : World} (hN : N ≤ w.heap.size) (W : World) (l : Nat) (o o' : Obj) (hl : w.heap.size ≤ l) (h : W.heap[l]? = some o) (_ : o.isCells = false) (_ : o.isWalk = false) : Keep b N W (W.putObj l o') :=
  have hb := belowK_b (n₀ := w.heap.size) (w := w) (Nat.le_refl _) W l o o' hl h ‹_› ‹_›
  ⟨hb.size, fun k hk _ => hb.block k (by omega)⟩
theorem RamAt.keep {w w' : World} {rb mb n b N : Nat} {B : List Int} (h : RamAt w rb mb n B) (hk : Keep b N w w') (h1 : rb < N) (h2 : mb < N) (h3 : rb ≠ b) (h4 : mb ≠ b) : RamAt w' rb mb n B := by
  obtain ⟨D, ⟨es, clock, hb, r⟩, hF⟩ := h.own
  exact ⟨h.ok, h.n0, h.n1, (hk.cell (p := ⟨rb, 0, none⟩) h1 h3).trans h.c0, (hk.cell (p := ⟨rb, 1, none⟩) h1 h3).trans h.c1, Nat.lt_of_lt_of_le h.lt hk.size, h.ne, D, ⟨es, clock, (hk.block mb h2 h4).trans hb, r⟩, hF⟩

/-! ### what is told -/
abbrev FullAt (B : List Int) (n : Nat) := { x : Nat // x < n ∧ Rm.full B x = true }
def pick (B : List Int) (n i : Nat) : Option (FullAt B n) := if h : i < n ∧ Rm.full B i = true then some ⟨i, h⟩ else none
def told (B : List Int) (n k : Nat) : List (FullAt B n) := (List.range k).filterMap (pick B n)
theorem told_no {B : List Int} {n k : Nat} (h : Rm.full B k = false) : told B n (k + 1) = told B n k := by
  have e : pick B n k = none := by unfold pick; rw [dif_neg (by simp [h])]
  simp [told, List.range_succ, List.filterMap_append, e]
theorem told_yes {B : List Int} {n k : Nat} (hk : k < n) (h : Rm.full B k = true) : told B n (k + 1) = told B n k ++ [⟨k, hk, h⟩] := by
  have e : pick B n k = some ⟨k, hk, h⟩ := by unfold pick; rw [dif_pos ⟨hk, h⟩]
  simp [told, List.range_succ, List.filterMap_append, e]
theorem told_len {B : List Int} {n : Nat} : ∀ k, (told B n k).length ≤ k
  | 0 => Nat.le_refl _
  | k + 1 => by
    have ih := told_len (B := B) (n := n) k
    simp only [told, List.range_succ, List.filterMap_append, List.length_append]
    have : (List.filterMap (pick B n) [k]).length ≤ 1 := by
      simp only [List.filterMap_cons, List.filterMap_nil]
      split <;> simp
    unfold told at ih
    omega
abbrev lineEnc (B : List Int) (n : Nat) (x : FullAt B n) : Array Value := #[.int .i64 (x.1 : Int), .agg (aV .u8 (Rm.row B x.1))]

set_option maxRecDepth 100000 in
set_option maxHeartbeats 4000000 in
theorem some1_stops (b N bb rb mb n : Nat) (B : List Int) (m : Nat) (hm : 1 ≤ m) (w : World) (hbb : w.cell? ⟨bb, 0, none⟩ = some (.pointer (some ⟨rb, 0, none⟩))) (hR : RamAt w rb mb n B)
    (hN : N ≤ w.heap.size) (k1 : bb < N) (k2 : rb < N) (k3 : mb < N) (k4 : bb ≠ b) (k5 : rb ≠ b) (k6 : mb ≠ b) :
    SeqStopsK Fence.wide m Tryz.prog 134 #[.pointer (some ⟨bb, 0, none⟩)] (lineEnc B n) (Keep b N) (fun xs => xs = told B n n) (fun pre => ∃ k, k ≤ n ∧ pre = told B n k) n w := fun l J Jx W hW hJ hJx hY h0 => by
  have hn4 : n ≤ 4096 := hR.n1
  have hK0 : Keep b N w W := Keep.of_below hW hN
  have HNW := Lib.hid (Nat.le_trans hN hW.size)
  have HRW := Lib.hid (hR.keep hK0 k2 k3 k5 k6)
  have HBW := Lib.hid ((hK0.cell (p := ⟨bb, 0, none⟩) k1 k4).trans hbb)
  clear hK0 hR hbb hN
  refine callsIn_of_wp Tryz.func134 rfl trivial ?_ rfl
  simp only [Tryz.ntmps134, List.size_toArray, List.length_cons, List.length_nil, Nat.reduceAdd, Nat.reduceSub, Array.replicate_succ, Array.replicate_zero, List.push_toArray, List.append_toArray, List.nil_append, List.cons_append]
  have c0 := HBW.out
  gi_wp2_with fail
  refine ⟨trivial, (callsIn_wide.2 (lines_c HRW.out)).mono ?_⟩
  rintro e w' ⟨rfl, rfl⟩
  clear c0
  gi_wp2_with fail
  gi_loopw [7] (fun i wr => ∃ k : Nat, k ≤ n ∧ i = .int .i64 k ∧ J (told B n k) wr ∧ Keep b N W wr) (fun i _ => n - (intOf i).toNat)
  case atStart => exact ⟨0, Nat.zero_le _, rfl, h0, Keep.refl _ _ _⟩
  case round =>
    obtain ⟨k, hk, rfl, hJk, hkp⟩ := hrel
    have HNR := Lib.hid (Nat.le_trans HNW.out hkp.size)
    have HRr := Lib.hid (HRW.out.keep hkp k2 k3 k5 k6)
    have c0 := (hkp.cell (p := ⟨bb, 0, none⟩) k1 k4).trans HBW.out
    have HKP := Lib.hid hkp
    clear hkp
    by_cases hlt : k < n
    · have hlt2 : (k : Int) < (n : Int) := by omega
      have HI := Lib.hid (Rm.row_is HRr.out.ok k).1
      gi_wp2_with fail
      refine ⟨trivial, (callsIn_wide.2 (line_yes HRr.out k hlt)).mono ?_⟩
      rintro e w2 ⟨rfl, hb⟩
      have hb3 := hb.alloc hb.size (.cells (aV .u8 (Rm.row B k)) 90)
      have HJ3 := Lib.hid (hJ (told B n k) wr (w2.alloc (.cells (aV .u8 (Rm.row B k)) 90)) none hJk ⟨hb3.os, hb3.tape, hb3.output, hb3.size, fun i hi _ => hb3.block i hi⟩ (fun r e => by cases e))
      have HK3 := Lib.hid (HKP.out.trans (Keep.of_below hb3 HNR.out))
      have HR3 := Lib.hid (RowAt.new .u8 w2 90 (Rm.row B k))
      clear hb hb3 hJk
      have hfc : Rm.full B k = true ∨ Rm.full B k = false := by cases Rm.full B k <;> simp
      rcases hfc with hf | hf
      · have HQ := Lib.hid (show (!(Rm.row B k == List.replicate 64 (0 : Int))) = true from hf)
        have HT := Lib.hid (told_yes (B := B) hlt hf)
        obtain ⟨fn, tmps, assign, body, hy, hRd⟩ := hY (told B n k) ⟨k, hlt, hf⟩ _ HJ3.out (Nat.lt_of_le_of_lt (told_len k) hlt)
        dsimp only [lineEnc] at hy
        gi_wp2_with (first
        | (refine wpListIn_unit _ (by rfl) (by rfl) (fun _ h => by cases h) (exec_storeNew 90 _ _ rfl _ _ _ rfl rfl (iL HI.out) (zeros_size HI.out) (aV_one _ _)) ?_)
        | (refine wpListIn_val _ _ (by rfl) (by rfl) (fun _ h => by cases h) (exec_load_row 90 _ rfl _ rfl _ _ _ HR3.out Tryz.underlying90 rfl (iL HI.out)) ?_)
        | (refine wpListIn_val _ _ (by rfl) (by rfl) (fun _ h => by cases h) (exec_buildZ rfl) ?_)
        | (refine wpListIn_val _ _ (by rfl) (by rfl) (fun _ h => by cases h) (exec_cmp .neq 90 _ _ _ rfl _ _ rfl rfl guard_line _ (ne_is _ _ _ HI.out zeros_len _ HQ.out)) ?_))
        refine hRd.mono ?_
        rintro e W4 (⟨rfl, hJ4, hk4⟩ | ⟨rfl, hJx4⟩)
        · have HJ4 := Lib.hid (HT.out ▸ hJ4)
          have HK4 := Lib.hid (HK3.out.trans hk4)
          clear hJ4 hk4
          gi_wp2_with fail
          go_roundw
          case rel => exact ⟨k + 1, by omega, by go_num, HJ4.out, HK4.out⟩
          case measure => simp [intOf]; omega
        · have HJ4 := Lib.hid (HT.out ▸ hJx4)
          clear hJx4
          gi_wp2_with fail
          refine bodyPost_ret (results_none rfl _ _ _) rfl ?_
          exact ⟨⟨_, rfl⟩, .inr ⟨_, ⟨k + 1, by omega, rfl⟩, HJ4.out⟩⟩
      · have HQ := Lib.hid (show (!(Rm.row B k == List.replicate 64 (0 : Int))) = false from hf)
        have HT := Lib.hid (told_no (n := n) hf)
        clear hf
        gi_wp2_with (first
        | (refine wpListIn_unit _ (by rfl) (by rfl) (fun _ h => by cases h) (exec_storeNew 90 _ _ rfl _ _ _ rfl rfl (iL HI.out) (zeros_size HI.out) (aV_one _ _)) ?_)
        | (refine wpListIn_val _ _ (by rfl) (by rfl) (fun _ h => by cases h) (exec_load_row 90 _ rfl _ rfl _ _ _ HR3.out Tryz.underlying90 rfl (iL HI.out)) ?_)
        | (refine wpListIn_val _ _ (by rfl) (by rfl) (fun _ h => by cases h) (exec_buildZ rfl) ?_)
        | (refine wpListIn_val _ _ (by rfl) (by rfl) (fun _ h => by cases h) (exec_cmp .neq 90 _ _ _ rfl _ _ rfl rfl guard_line _ (ne_is _ _ _ HI.out zeros_len _ HQ.out)) ?_))
        refine ⟨fun _ h => (by cases h), ?_⟩
        gi_wp2_with fail
        go_roundw
        case rel => exact ⟨k + 1, by omega, by go_num, by rw [HT.out]; exact HJ3.out, HK3.out⟩
        case measure => simp [intOf]; omega
    · obtain rfl : k = n := by omega
      gi_wp2_with fail
      go_end0
      exact ⟨⟨_, rfl⟩, .inl ⟨_, rfl, hJk⟩⟩
end Go.Proofs.YtabackklpemhpaaGreat
