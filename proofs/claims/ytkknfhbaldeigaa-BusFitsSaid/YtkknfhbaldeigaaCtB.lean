/-
  Plain numbers, no program: a part of a word, read and changed by masks and shifts.
-/
import Derived.Test.YtkknfhbaldeigaaWord
namespace Go.Proofs.Ytkknfhbaldeigaa.Ct
open Go.RowKit (wrap64)
open Wd

theorem tb_md {x : Int} (h0 : 0 ≤ x) (k i : Nat) : tb (x % 2 ^ k) i = (decide (i < k) && tb x i) := by
  unfold tb
  have e : (x % 2 ^ k).toNat = x.toNat % 2 ^ k := by
    obtain ⟨m, rfl⟩ := Int.eq_ofNat_of_zero_le h0
    rw [pow_cast, ← Int.natCast_emod, Int.toNat_natCast, Int.toNat_natCast]
  rw [e, Nat.testBit_mod_two_pow]
theorem tb_join {q a : Int} (hq : 0 ≤ q) (ha : 0 ≤ a) (k : Nat) (hl : a < 2 ^ k) (i : Nat) : tb (q * 2 ^ k + a) i = if i < k then tb a i else tb q (i - k) := by
  obtain ⟨m, rfl⟩ := Int.eq_ofNat_of_zero_le hq
  obtain ⟨b, rfl⟩ := Int.eq_ofNat_of_zero_le ha
  have hb : b < 2 ^ k := by rw [pow_cast] at hl; omega
  unfold tb
  have e : ((m : Int) * 2 ^ k + (b : Int)).toNat = 2 ^ k * m + b := by
    rw [pow_cast, ← Int.natCast_mul, ← Int.natCast_add, Int.toNat_natCast, Nat.mul_comm]
  rw [e, Nat.testBit_two_pow_mul_add _ hb, Int.toNat_natCast, Int.toNat_natCast]
theorem and_low {x : Int} (h0 : 0 ≤ x) (h1 : x < 18446744073709551616) : bits .and .u64 x 4294967295 = x % 4294967296 := by
  refine ext (and_range h0 h1 (by decide) (by decide)).1 (and_range h0 h1 (by decide) (by decide)).2 (by omega) (by omega) fun i hi => ?_
  have e1 := tb_pow_sub_one 32 i
  have e2 := tb_md h0 32 i
  rw [show ((2 : Int) ^ 32 - 1) = 4294967295 by decide] at e1
  rw [show ((2 : Int) ^ 32) = 4294967296 by decide] at e2
  rw [tb_and h0 h1 (by decide) (by decide), e1, e2, Bool.and_comm]
theorem and_all {x : Int} (h0 : 0 ≤ x) (h1 : x < 18446744073709551616) : bits .and .u64 x 18446744073709551615 = x := by
  refine ext (and_range h0 h1 (by decide) (by decide)).1 (and_range h0 h1 (by decide) (by decide)).2 h0 h1 fun i hi => ?_
  rw [tb_and h0 h1 (by decide) (by decide), tb_ones hi, Bool.and_true]
theorem and_one {x : Int} (h0 : 0 ≤ x) (h1 : x < 18446744073709551616) : bits .and .u64 x 1 = x % 2 := by
  refine ext (and_range h0 h1 (by decide) (by decide)).1 (and_range h0 h1 (by decide) (by decide)).2 (by omega) (by omega) fun i hi => ?_
  have e1 := tb_pow_sub_one 1 i
  have e2 := tb_md h0 1 i
  rw [show ((2 : Int) ^ 1 - 1) = 1 by decide] at e1
  rw [show ((2 : Int) ^ 1) = 2 by decide] at e2
  rw [tb_and h0 h1 (by decide) (by decide), e1, e2, Bool.and_comm]
theorem not_all {x : Int} (h0 : 0 ≤ x) (h1 : x < 18446744073709551616) : bits .andNot .u64 x 18446744073709551615 = 0 := by
  refine ext (andNot_range h0 h1 (by decide) (by decide)).1 (andNot_range h0 h1 (by decide) (by decide)).2 (by decide) (by decide) fun i hi => ?_
  rw [tb_andNot h0 h1 (by decide) (by decide), tb_ones hi, tb_zero, Bool.not_true, Bool.and_false]
theorem or_zero {x : Int} (h0 : 0 ≤ x) (h1 : x < 18446744073709551616) : bits .or .u64 0 x = x := by
  refine ext (or_range (by decide) (by decide) h0 h1).1 (or_range (by decide) (by decide) h0 h1).2 h0 h1 fun i hi => ?_
  rw [tb_or (by decide) (by decide) h0 h1, tb_zero, Bool.false_or]
theorem not_low {x : Int} (h0 : 0 ≤ x) (h1 : x < 18446744073709551616) : bits .andNot .u64 x 4294967295 = x - x % 4294967296 := by
  refine ext (andNot_range h0 h1 (by decide) (by decide)).1 (andNot_range h0 h1 (by decide) (by decide)).2 (by omega) (by omega) fun i hi => ?_
  have e1 := tb_pow_sub_one 32 i
  rw [show ((2 : Int) ^ 32 - 1) = 4294967295 by decide] at e1
  have e2 := tb_join (q := x / 4294967296) (a := 0) (by omega) (by omega) 32 (by decide) i
  rw [show ((2 : Int) ^ 32) = 4294967296 by decide] at e2
  rw [show x - x % 4294967296 = x / 4294967296 * 4294967296 + 0 by omega, e2, tb_andNot h0 h1 (by decide) (by decide), e1]
  have e3 := tb_div h0 32 (i - 32)
  rw [show ((2 : Int) ^ 32) = 4294967296 by decide] at e3
  by_cases h : i < 32
  · simp [h, tb_zero]
  · rw [if_neg h, e3, show i - 32 + 32 = i by omega]
    simp [h]
theorem tb_high (i : Nat) (hi : i < 64) : tb 18446744069414584320 i = decide (32 ≤ i) := by
  have e2 := tb_join (q := 4294967295) (a := 0) (by omega) (by omega) 32 (by decide) i
  have e1 := tb_pow_sub_one 32 (i - 32)
  rw [show ((2 : Int) ^ 32 - 1) = 4294967295 by decide] at e1
  rw [show ((4294967295 : Int) * 2 ^ 32 + 0) = 18446744069414584320 by decide] at e2
  rw [e2, e1, tb_zero]
  by_cases h : i < 32
  · simp [h]
  · simp [h]; omega
theorem not_high {x : Int} (h0 : 0 ≤ x) (h1 : x < 18446744073709551616) : bits .andNot .u64 x 18446744069414584320 = x % 4294967296 := by
  refine ext (andNot_range h0 h1 (by decide) (by decide)).1 (andNot_range h0 h1 (by decide) (by decide)).2 (by omega) (by omega) fun i hi => ?_
  have e2 := tb_md h0 32 i
  rw [show ((2 : Int) ^ 32) = 4294967296 by decide] at e2
  rw [tb_andNot h0 h1 (by decide) (by decide), tb_high i hi, e2]
  by_cases h : i < 32
  · simp [h, show ¬ 32 ≤ i by omega]
  · simp [h, show 32 ≤ i by omega]
/-- What is put below or above. -/
theorem or_low {q a : Int} (hq : 0 ≤ q) (hq1 : q < 4294967296) (ha : 0 ≤ a) (ha1 : a < 4294967296) : bits .or .u64 (q * 4294967296) a = q * 4294967296 + a := by
  refine ext (or_range (by omega) (by omega) ha (by omega)).1 (or_range (by omega) (by omega) ha (by omega)).2 (by omega) (by omega) fun i hi => ?_
  have e1 := tb_join hq ha 32 (by rw [show ((2 : Int) ^ 32) = 4294967296 by decide]; omega) i
  have e2 := tb_join (a := 0) hq (by omega) 32 (by decide) i
  rw [show ((2 : Int) ^ 32) = 4294967296 by decide] at e1 e2
  rw [tb_or (by omega) (by omega) ha (by omega), e1, show q * 4294967296 = q * 4294967296 + 0 by omega, e2, tb_zero]
  by_cases h : i < 32
  · simp [h]
  · have e3 : tb a i = false := by
      have := tb_md ha 32 i
      rw [show ((2 : Int) ^ 32) = 4294967296 by decide, Int.emod_eq_of_lt ha ha1] at this
      rw [this]; simp [h]
    simp [h, e3]
theorem or_comm {x y : Int} (h0 : 0 ≤ x) (h1 : x < 18446744073709551616) (g0 : 0 ≤ y) (g1 : y < 18446744073709551616) : bits .or .u64 x y = bits .or .u64 y x := by
  refine ext (or_range h0 h1 g0 g1).1 (or_range h0 h1 g0 g1).2 (or_range g0 g1 h0 h1).1 (or_range g0 g1 h0 h1).2 fun i hi => ?_
  rw [tb_or h0 h1 g0 g1, tb_or g0 g1 h0 h1, Bool.or_comm]
theorem put_low {x v : Int} (h0 : 0 ≤ x) (h1 : x < 18446744073709551616) (g0 : 0 ≤ v) (g1 : v < 18446744073709551616) :
    bits .or .u64 (bits .andNot .u64 x 4294967295) (bits .and .u64 v 4294967295) = x - x % 4294967296 + v % 4294967296 := by
  rw [not_low h0 h1, and_low g0 g1, show x - x % 4294967296 = x / 4294967296 * 4294967296 by omega]
  exact or_low (by omega) (by omega) (by omega) (by omega)
theorem put_high {x v : Int} (h0 : 0 ≤ x) (h1 : x < 18446744073709551616) :
    bits .or .u64 (bits .andNot .u64 x 18446744069414584320) (v % 4294967296 * 4294967296) = x % 4294967296 + v % 4294967296 * 4294967296 := by
  rw [not_high h0 h1, or_comm (by omega) (by omega) (by omega) (by omega), or_low (by omega) (by omega) (by omega) (by omega)]
  omega
end Go.Proofs.Ytkknfhbaldeigaa.Ct
