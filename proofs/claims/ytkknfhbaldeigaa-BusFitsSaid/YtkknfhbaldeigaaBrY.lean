/-
  The reference of layer 16: New, Word, best, Line.
-/
import Derived.Test.YtkknfhbaldeigaaBrX
set_option maxRecDepth 20000
namespace Go.Proofs.Ytkknfhbaldeigaa
open Go.ChangeShapes Go.WideShapes Go.ChangeAt Go.RowKit

namespace Pc
open Wd
theorem div_step {x : Int} (h0 : 0 ≤ x) (i : Nat) : 2 * (x / 2 ^ (i + 1)) + (if tb x i = true then 1 else 0) = x / 2 ^ i := by
  have h1 := div_next (S := x) i
  have h2 : 0 ≤ x / 2 ^ i := Int.ediv_nonneg h0 (Int.pow_nonneg (by omega))
  have h3 := tb_div h0 i 0
  rw [Nat.zero_add] at h3
  rw [← h3, tb, Nat.testBit_zero, ← h1]
  have h4 : ((x / 2 ^ i).toNat : Int) = x / 2 ^ i := Int.toNat_of_nonneg h2
  split
  · rename_i h; simp only [decide_eq_true_eq] at h; omega
  · rename_i h; simp only [decide_eq_true_eq] at h; omega
theorem dn_lt (S : Int) (pr : Nat → Int) (lv : Int) : ∀ k, k ≤ 31 → dn S pr lv k < 32
  | 0, _ => by unfold dn; omega
  | k + 1, hk => by
    have := dn_lt S pr lv k (by omega)
    unfold dn
    split <;> omega
end Pc
abbrev T61 : TypeId := 56
theorem x16_n (n : Nat) : (x16V 0 Pc.zeros).setIfInBounds 0 (.int .i64 n) = x16V n Pc.zeros := by
  refine x16_set (i := 0) (by omega) rfl fun j _ e => ?_
  unfold xc
  simp only [if_neg (Ne.symm e)]
set_option maxRecDepth 100000 in
set_option maxHeartbeats 4000000 in
theorem rnew16_c (harts : Int) (w : World) : Calls Try.prog 47 #[.int .i64 harts] w fun e w' => e = .returned (.agg (x16V (Ct.cnt harts) Pc.zeros)) ∧ Below w.heap.size w w' := by
  have HB0 := Lib.hid ((Below.refl w.heap.size w).alloc (Nat.le_refl _) (Obj.cells (x16V 0 Pc.zeros) X16))
  have HR0 := Lib.hid (CsAt.new w X16 (x16V 0 Pc.zeros))
  have hz := zero_x16
  by_cases hlo : harts < 1
  · have HE := Lib.hid (show Ct.cnt harts = 0 by unfold Ct.cnt; rw [if_neg (by omega)])
    rw [HE.out]
    have g0 : decide (harts < 1) = true := by simpa using hlo
    clear hlo
    go_enter Try.func47, Try.ntmps47
    go_upto_region 1 with fail
    go_wp2_with (refine wpList_storeNew (w0 := w) rfl X16 _ _ rfl _ (x16V 0 Pc.zeros) _ rfl rfl iX16 rfl x16_one ?_)
    exact bodyPost_ret (results_cell_row Try.results47 _ _ _ _ _ _ _ rfl HR0.out Try.underlying60 rfl iX16) rfl ⟨rfl, HB0.out⟩
  · have g0 : decide (harts < 1) = false := by simpa using hlo
    by_cases hhi : 8 < harts
    · have HE := Lib.hid (show Ct.cnt harts = 0 by unfold Ct.cnt; rw [if_neg (by omega)])
      rw [HE.out]
      have g1 : decide (harts > 8) = true := by simpa using hhi
      clear hlo hhi
      go_enter Try.func47, Try.ntmps47
      go_upto_region 1 with fail
      go_wp2_with (refine wpList_storeNew (w0 := w) rfl X16 _ _ rfl _ (x16V 0 Pc.zeros) _ rfl rfl iX16 rfl x16_one ?_)
      exact bodyPost_ret (results_cell_row Try.results47 _ _ _ _ _ _ _ rfl HR0.out Try.underlying60 rfl iX16) rfl ⟨rfl, HB0.out⟩
    · obtain ⟨n, hn⟩ : ∃ n : Nat, harts = n := ⟨harts.toNat, by omega⟩
      subst hn
      have HE := Lib.hid (show Ct.cnt (n : Int) = n by unfold Ct.cnt; rw [if_pos (by omega)]; omega)
      rw [HE.out]
      have g1 : decide ((n : Int) > 8) = false := by simpa using hhi
      have HB1 := Lib.hid ((Below.refl w.heap.size w).alloc (Nat.le_refl _) (Obj.cells (x16V n Pc.zeros) X16))
      have HR1 := Lib.hid (CsAt.new w X16 (x16V n Pc.zeros))
      have hfill := x16_n n
      clear hlo hhi HE
      go_enter Try.func47, Try.ntmps47
      go_upto_region 1 with fail
      go_wp2_with (refine wpList_storeNew (w0 := w) rfl X16 _ _ rfl _ (x16V n Pc.zeros) _ rfl rfl iX16 rfl x16_one ?_)
      exact bodyPost_ret (results_cell_row Try.results47 _ _ _ _ _ _ _ rfl HR1.out Try.underlying60 rfl iX16) rfl ⟨rfl, HB1.out⟩
end Go.Proofs.Ytkknfhbaldeigaa
