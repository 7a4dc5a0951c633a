/-
  Plain numbers, no program: a word of 64 bits that is given by a function of the bit's place, and the bits of sums, shifts and masks of such words.
-/
import Derived.Laws.ShiftsVarLaws
import Derived.WalkKit
namespace Go.Proofs.YtmieabafiijfjaaDoor.Wd
open Go.RowKit (wrap64)

def tb (x : Int) (i : Nat) : Bool := x.toNat.testBit i

def sumTo (f : Nat → Bool) : Nat → Nat
  | 0 => 0
  | n + 1 => 2 ^ n * (f n).toNat + sumTo f n

theorem sumTo_lt (f : Nat → Bool) (n : Nat) : sumTo f n < 2 ^ n := by
  induction n with
  | zero => simp [sumTo]
  | succ n ih =>
    unfold sumTo
    have h : 2 ^ (n + 1) = 2 ^ n + 2 ^ n := by rw [Nat.pow_succ]; omega
    cases f n <;> simp <;> omega

theorem testBit_sumTo (f : Nat → Bool) (n i : Nat) : (sumTo f n).testBit i = (decide (i < n) && f i) := by
  induction n with
  | zero => simp [sumTo]
  | succ n ih =>
    unfold sumTo
    rw [Nat.testBit_two_pow_mul_add _ (sumTo_lt f n), ih]
    by_cases h : i < n
    · have h' : i < n + 1 := by omega
      simp [h, h']
    · by_cases h2 : i = n
      · subst h2
        cases f i <;> simp
      · have h3 : ¬ i < n + 1 := by omega
        have h4 : ∃ j, i - n = j + 1 := ⟨i - n - 1, by omega⟩
        obtain ⟨j, hj⟩ := h4
        rw [hj]
        cases f n <;> simp [h, h3, Nat.testBit_succ]

def word (f : Nat → Bool) : Int := (sumTo f 64 : Nat)
theorem word_nonneg (f : Nat → Bool) : 0 ≤ word f := by unfold word; omega
theorem word_lt (f : Nat → Bool) : word f < 18446744073709551616 := by
  have := sumTo_lt f 64
  unfold word
  omega
theorem tb_word (f : Nat → Bool) (i : Nat) : tb (word f) i = (decide (i < 64) && f i) := by
  unfold tb word
  rw [Int.toNat_natCast, testBit_sumTo]
theorem tb_big {x : Int} (h : x < 18446744073709551616) {i : Nat} (hi : 64 ≤ i) : tb x i = false := by
  unfold tb
  apply Nat.testBit_lt_two_pow
  have h2 : 2 ^ 64 ≤ 2 ^ i := Nat.pow_le_pow_right (by decide) hi
  omega
theorem ext {x y : Int} (hx0 : 0 ≤ x) (hx : x < 18446744073709551616) (hy0 : 0 ≤ y) (hy : y < 18446744073709551616) (h : ∀ i, i < 64 → tb x i = tb y i) : x = y := by
  have : x.toNat = y.toNat := by
    apply Nat.eq_of_testBit_eq
    intro i
    by_cases hi : i < 64
    · exact h i hi
    · have a := tb_big hx (i := i) (by omega)
      have b := tb_big hy (i := i) (by omega)
      unfold tb at a b
      rw [a, b]
  omega
theorem eq_word {x : Int} {f : Nat → Bool} (hx0 : 0 ≤ x) (hx : x < 18446744073709551616) (h : ∀ i, i < 64 → tb x i = f i) : x = word f :=
  ext hx0 hx (word_nonneg f) (word_lt f) (fun i hi => by rw [tb_word, h i hi]; simp [hi])
theorem word_congr {f g : Nat → Bool} (h : ∀ i, i < 64 → f i = g i) : word f = word g :=
  ext (word_nonneg f) (word_lt f) (word_nonneg g) (word_lt g) (fun i hi => by rw [tb_word, tb_word, h i hi])

/-! ### bits of what is reckoned -/
theorem tb_zero (i : Nat) : tb 0 i = false := by simp [tb]
theorem tb_ones {i : Nat} (hi : i < 64) : tb 18446744073709551615 i = true := by
  have : (18446744073709551615 : Int).toNat = 2 ^ 64 - 1 := by decide
  unfold tb
  rw [this, Nat.testBit_two_pow_sub_one]
  simp [hi]
theorem toNat_pow (k : Nat) : ((2 : Int) ^ k).toNat = 2 ^ k := toNat_two_pow k
theorem pow_cast (k : Nat) : ((2 : Int) ^ k) = ((2 ^ k : Nat) : Int) := by simp
theorem tb_div {x : Int} (h0 : 0 ≤ x) (k i : Nat) : tb (x / 2 ^ k) i = tb x (i + k) := by
  obtain ⟨X, rfl⟩ := Int.eq_ofNat_of_zero_le h0
  unfold tb
  rw [pow_cast, ← Int.natCast_ediv, Int.toNat_natCast, Int.toNat_natCast, Nat.testBit_div_two_pow]
theorem div_range {x : Int} (h0 : 0 ≤ x) (h : x < 18446744073709551616) (k : Nat) : 0 ≤ x / 2 ^ k ∧ x / 2 ^ k < 18446744073709551616 := by
  have hp : (0 : Int) < 2 ^ k := Int.pow_pos (by decide)
  exact ⟨Int.ediv_nonneg h0 (by omega), Int.lt_of_le_of_lt (Int.ediv_le_self _ h0) h⟩
theorem wrap_range (x : Int) : 0 ≤ IntKind.u64.wrap x ∧ IntKind.u64.wrap x < 18446744073709551616 := by
  rw [IntKind.wrap_u64]; omega
theorem tb_wrap {x : Int} (h0 : 0 ≤ x) (i : Nat) : tb (IntKind.u64.wrap x) i = (decide (i < 64) && tb x i) := by
  obtain ⟨X, rfl⟩ := Int.eq_ofNat_of_zero_le h0
  rw [IntKind.wrap_u64]
  unfold tb
  have : ((X : Int) % 18446744073709551616).toNat = X % 2 ^ 64 := by omega
  rw [this, Int.toNat_natCast, Nat.testBit_mod_two_pow]
theorem tb_mul {x : Int} (h0 : 0 ≤ x) (k i : Nat) : tb (x * 2 ^ k) i = (decide (k ≤ i) && tb x (i - k)) := by
  obtain ⟨X, rfl⟩ := Int.eq_ofNat_of_zero_le h0
  unfold tb
  rw [pow_cast, ← Int.natCast_mul, Int.toNat_natCast, Int.toNat_natCast, Nat.testBit_mul_two_pow]
theorem mul_nonneg' {x : Int} (h0 : 0 ≤ x) (k : Nat) : 0 ≤ x * 2 ^ k := Int.mul_nonneg h0 (Int.le_of_lt (Int.pow_pos (by decide)))
theorem tb_pow_sub_one (k i : Nat) : tb (2 ^ k - 1) i = decide (i < k) := by
  unfold tb
  have hp : 0 < 2 ^ k := Nat.two_pow_pos k
  have : ((2 : Int) ^ k - 1).toNat = 2 ^ k - 1 := by rw [pow_cast]; omega
  rw [this, Nat.testBit_two_pow_sub_one]
theorem tb_and {x y : Int} (hx0 : 0 ≤ x) (hx : x < 18446744073709551616) (hy0 : 0 ≤ y) (hy : y < 18446744073709551616) (i : Nat) : tb (bits .and .u64 x y) i = (tb x i && tb y i) := by
  rw [u64_and x y hx0 hx hy0 hy]; unfold tb; rw [Int.toNat_natCast, Nat.testBit_and]
theorem tb_or {x y : Int} (hx0 : 0 ≤ x) (hx : x < 18446744073709551616) (hy0 : 0 ≤ y) (hy : y < 18446744073709551616) (i : Nat) : tb (bits .or .u64 x y) i = (tb x i || tb y i) := by
  rw [u64_or x y hx0 hx hy0 hy]; unfold tb; rw [Int.toNat_natCast, Nat.testBit_or]
theorem and_range {x y : Int} (hx0 : 0 ≤ x) (hx : x < 18446744073709551616) (hy0 : 0 ≤ y) (hy : y < 18446744073709551616) : 0 ≤ bits .and .u64 x y ∧ bits .and .u64 x y < 18446744073709551616 := by
  rw [u64_and x y hx0 hx hy0 hy]
  have : x.toNat &&& y.toNat < 2 ^ 64 := Nat.and_lt_two_pow _ (by omega)
  omega
theorem or_range {x y : Int} (hx0 : 0 ≤ x) (hx : x < 18446744073709551616) (hy0 : 0 ≤ y) (hy : y < 18446744073709551616) : 0 ≤ bits .or .u64 x y ∧ bits .or .u64 x y < 18446744073709551616 := by
  rw [u64_or x y hx0 hx hy0 hy]
  have : x.toNat ||| y.toNat < 2 ^ 64 := Nat.or_lt_two_pow (by omega) (by omega)
  omega
theorem tb_not {x : Int} (hx0 : 0 ≤ x) (hx : x < 18446744073709551616) (i : Nat) : tb (18446744073709551615 - x) i = (decide (i < 64) && !tb x i) := by
  unfold tb
  have : (18446744073709551615 - x).toNat = 2 ^ 64 - (x.toNat + 1) := by omega
  rw [this, Nat.testBit_two_pow_sub_succ (by omega)]
theorem tb_andNot {x y : Int} (hx0 : 0 ≤ x) (hx : x < 18446744073709551616) (hy0 : 0 ≤ y) (hy : y < 18446744073709551616) (i : Nat) : tb (bits .andNot .u64 x y) i = (tb x i && !tb y i) := by
  rw [u64_andNot x y hx0 hx hy0 hy]
  unfold tb
  rw [Int.toNat_natCast, Nat.testBit_and]
  have : 18446744073709551615 - y.toNat = 2 ^ 64 - (y.toNat + 1) := by omega
  rw [this, Nat.testBit_two_pow_sub_succ (by omega)]
  by_cases hi : i < 64
  · simp [hi]
  · have := tb_big hx (i := i) (by omega)
    unfold tb at this
    simp [this]
theorem andNot_range {x y : Int} (hx0 : 0 ≤ x) (hx : x < 18446744073709551616) (hy0 : 0 ≤ y) (hy : y < 18446744073709551616) : 0 ≤ bits .andNot .u64 x y ∧ bits .andNot .u64 x y < 18446744073709551616 := by
  rw [u64_andNot x y hx0 hx hy0 hy]
  have : x.toNat &&& (18446744073709551615 - y.toNat) < 2 ^ 64 := Nat.and_lt_two_pow _ (by omega)
  omega

/-! ### the bit 63, and what is shifted down with the sign -/
theorem tb_63 {x : Int} (h0 : 0 ≤ x) (h : x < 18446744073709551616) : tb x 63 = decide (9223372036854775808 ≤ x) := by
  unfold tb
  rw [Nat.testBit_eq_decide_div_mod_eq]
  obtain ⟨X, rfl⟩ := Int.eq_ofNat_of_zero_le h0
  rw [Int.toNat_natCast]
  by_cases c : (9223372036854775808 : Int) ≤ X
  · rw [decide_eq_true c, decide_eq_true]; omega
  · rw [decide_eq_false c, decide_eq_false]; omega
theorem wrap64_small {x : Int} (h0 : 0 ≤ x) (h : x < 9223372036854775808) : wrap64 x = x := by unfold wrap64; omega
theorem wrap64_great {x : Int} (h0 : 9223372036854775808 ≤ x) (h : x < 18446744073709551616) : wrap64 x = x - 18446744073709551616 := by unfold wrap64; omega
theorem tb_sra {x : Int} (h0 : 0 ≤ x) (h : x < 18446744073709551616) (k i : Nat) (hi : i < 64) : tb (IntKind.u64.wrap (wrap64 x / 2 ^ k)) i = if i + k < 64 then tb x (i + k) else tb x 63 := by
  have h63 := tb_63 h0 h
  by_cases c : 9223372036854775808 ≤ x
  · rw [wrap64_great c h]
    rw [decide_eq_true c] at h63
    have hq : (x - 18446744073709551616) / 2 ^ k = -((18446744073709551615 - x) / 2 ^ k) - 1 := by
      have hp : (0 : Int) < 2 ^ k := Int.pow_pos (by decide)
      have e : x - 18446744073709551616 = -(18446744073709551615 - x) - 1 := by omega
      rw [e]
      generalize 18446744073709551615 - x = y
      have h1 := Int.emod_nonneg y (Int.ne_of_gt hp)
      have h2 := Int.emod_lt_of_pos y hp
      have h3 := Int.mul_ediv_add_emod y (2 ^ k)
      apply (Int.ediv_eq_iff_of_pos hp).2
      generalize y / 2 ^ k = q at h3 ⊢
      generalize y % 2 ^ k = r at *
      generalize (2 : Int) ^ k = p at *
      have e2 : (-q - 1) * p = -(p * q) - p := by rw [Int.sub_mul, Int.neg_mul, Int.one_mul, Int.mul_comm]
      constructor
      · rw [e2]; omega
      · rw [e2]; omega
    rw [hq]
    have hy0 : 0 ≤ 18446744073709551615 - x := by omega
    have hd := div_range hy0 (by omega) k
    have e : IntKind.u64.wrap (-((18446744073709551615 - x) / 2 ^ k) - 1) = 18446744073709551615 - (18446744073709551615 - x) / 2 ^ k := by
      rw [IntKind.wrap_u64]
      generalize (18446744073709551615 - x) / 2 ^ k = q at *
      omega
    rw [e, tb_not hd.1 hd.2, tb_div hy0, tb_not h0 h, h63]
    by_cases c2 : i + k < 64
    · simp [hi, c2]
    · simp [hi, c2]
  · rw [wrap64_small h0 (by omega)]
    have hd := div_range h0 h k
    rw [tb_wrap hd.1, tb_div h0]
    rw [decide_eq_false c] at h63
    by_cases c2 : i + k < 64
    · simp [hi, c2]
    · rw [if_neg c2, tb_big h (by omega), h63]; simp
end Go.Proofs.YtmieabafiijfjaaDoor.Wd
