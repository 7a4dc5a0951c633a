/-
  Plain numbers, no program: a word of 64 bits that is given by a function of the bit's place, and the bits of sums, shifts and masks of such words. Plain numbers, no program: what the calls of layer 1 (bits) answer, bit by bit, and that the formulas of the code come to it. Contracts of package bits (layer 1) but Gather: each call returns what Spec says, and leaves the world alone.
-/
import Derived.Laws.ShiftsVarLaws
import Derived.WalkKit
import Derived.Test.YtkbgmppbkllnmaaDoorRows
import Derived.ProofKit
import Derived.OpenShut
import Derived.Lib.Hide
namespace Go.Proofs.YtkbgmppbkllnmaaDoor.Wd
open Go.RowKit (wrap64)

def tb (x : Int) (i : Nat) : Bool := x.toNat.testBit i

def sumTo (f : Nat → Bool) : Nat → Nat
  | 0 => 0
  | n + 1 => 2 ^ n * (f n).toNat + sumTo f n

theorem sumTo_lt (f : Nat → Bool) (n : Nat) : sumTo f n < 2 ^ n := by
  induction n with
  | zero => simp [sumTo]
  | succ n ih =>
    unfold sumTo
    have h : 2 ^ (n + 1) = 2 ^ n + 2 ^ n := by rw [Nat.pow_succ]; omega
    cases f n <;> simp <;> omega

theorem testBit_sumTo (f : Nat → Bool) (n i : Nat) : (sumTo f n).testBit i = (decide (i < n) && f i) := by
  induction n with
  | zero => simp [sumTo]
  | succ n ih =>
    unfold sumTo
    rw [Nat.testBit_two_pow_mul_add _ (sumTo_lt f n), ih]
    by_cases h : i < n
    · have h' : i < n + 1 := by omega
      simp [h, h']
    · by_cases h2 : i = n
      · subst h2
        cases f i <;> simp
      · have h3 : ¬ i < n + 1 := by omega
        have h4 : ∃ j, i - n = j + 1 := ⟨i - n - 1, by omega⟩
        obtain ⟨j, hj⟩ := h4
        rw [hj]
        cases f n <;> simp [h, h3, Nat.testBit_succ]

def word (f : Nat → Bool) : Int := (sumTo f 64 : Nat)
theorem word_nonneg (f : Nat → Bool) : 0 ≤ word f := by unfold word; omega
theorem word_lt (f : Nat → Bool) : word f < 18446744073709551616 := by
  have := sumTo_lt f 64
  unfold word
  omega
theorem tb_word (f : Nat → Bool) (i : Nat) : tb (word f) i = (decide (i < 64) && f i) := by
  unfold tb word
  rw [Int.toNat_natCast, testBit_sumTo]
theorem tb_big {x : Int} (h : x < 18446744073709551616) {i : Nat} (hi : 64 ≤ i) : tb x i = false := by
  unfold tb
  apply Nat.testBit_lt_two_pow
  have h2 : 2 ^ 64 ≤ 2 ^ i := Nat.pow_le_pow_right (by decide) hi
  omega
theorem ext {x y : Int} (hx0 : 0 ≤ x) (hx : x < 18446744073709551616) (hy0 : 0 ≤ y) (hy : y < 18446744073709551616) (h : ∀ i, i < 64 → tb x i = tb y i) : x = y := by
  have : x.toNat = y.toNat := by
    apply Nat.eq_of_testBit_eq
    intro i
    by_cases hi : i < 64
    · exact h i hi
    · have a := tb_big hx (i := i) (by omega)
      have b := tb_big hy (i := i) (by omega)
      unfold tb at a b
      rw [a, b]
  omega
theorem eq_word {x : Int} {f : Nat → Bool} (hx0 : 0 ≤ x) (hx : x < 18446744073709551616) (h : ∀ i, i < 64 → tb x i = f i) : x = word f :=
  ext hx0 hx (word_nonneg f) (word_lt f) (fun i hi => by rw [tb_word, h i hi]; simp [hi])
theorem word_congr {f g : Nat → Bool} (h : ∀ i, i < 64 → f i = g i) : word f = word g :=
  ext (word_nonneg f) (word_lt f) (word_nonneg g) (word_lt g) (fun i hi => by rw [tb_word, tb_word, h i hi])

/-! ### bits of what is reckoned -/
theorem tb_zero (i : Nat) : tb 0 i = false := by simp [tb]
theorem tb_ones {i : Nat} (hi : i < 64) : tb 18446744073709551615 i = true := by
  have : (18446744073709551615 : Int).toNat = 2 ^ 64 - 1 := by decide
  unfold tb
  rw [this, Nat.testBit_two_pow_sub_one]
  simp [hi]
theorem toNat_pow (k : Nat) : ((2 : Int) ^ k).toNat = 2 ^ k := toNat_two_pow k
theorem pow_cast (k : Nat) : ((2 : Int) ^ k) = ((2 ^ k : Nat) : Int) := by simp
theorem tb_div {x : Int} (h0 : 0 ≤ x) (k i : Nat) : tb (x / 2 ^ k) i = tb x (i + k) := by
  obtain ⟨X, rfl⟩ := Int.eq_ofNat_of_zero_le h0
  unfold tb
  rw [pow_cast, ← Int.natCast_ediv, Int.toNat_natCast, Int.toNat_natCast, Nat.testBit_div_two_pow]
theorem div_range {x : Int} (h0 : 0 ≤ x) (h : x < 18446744073709551616) (k : Nat) : 0 ≤ x / 2 ^ k ∧ x / 2 ^ k < 18446744073709551616 := by
  have hp : (0 : Int) < 2 ^ k := Int.pow_pos (by decide)
  exact ⟨Int.ediv_nonneg h0 (by omega), Int.lt_of_le_of_lt (Int.ediv_le_self _ h0) h⟩
theorem wrap_range (x : Int) : 0 ≤ IntKind.u64.wrap x ∧ IntKind.u64.wrap x < 18446744073709551616 := by
  rw [IntKind.wrap_u64]; omega
theorem tb_wrap {x : Int} (h0 : 0 ≤ x) (i : Nat) : tb (IntKind.u64.wrap x) i = (decide (i < 64) && tb x i) := by
  obtain ⟨X, rfl⟩ := Int.eq_ofNat_of_zero_le h0
  rw [IntKind.wrap_u64]
  unfold tb
  have : ((X : Int) % 18446744073709551616).toNat = X % 2 ^ 64 := by omega
  rw [this, Int.toNat_natCast, Nat.testBit_mod_two_pow]
theorem tb_mul {x : Int} (h0 : 0 ≤ x) (k i : Nat) : tb (x * 2 ^ k) i = (decide (k ≤ i) && tb x (i - k)) := by
  obtain ⟨X, rfl⟩ := Int.eq_ofNat_of_zero_le h0
  unfold tb
  rw [pow_cast, ← Int.natCast_mul, Int.toNat_natCast, Int.toNat_natCast, Nat.testBit_mul_two_pow]
theorem mul_nonneg' {x : Int} (h0 : 0 ≤ x) (k : Nat) : 0 ≤ x * 2 ^ k := Int.mul_nonneg h0 (Int.le_of_lt (Int.pow_pos (by decide)))
theorem tb_pow_sub_one (k i : Nat) : tb (2 ^ k - 1) i = decide (i < k) := by
  unfold tb
  have hp : 0 < 2 ^ k := Nat.two_pow_pos k
  have : ((2 : Int) ^ k - 1).toNat = 2 ^ k - 1 := by rw [pow_cast]; omega
  rw [this, Nat.testBit_two_pow_sub_one]
theorem tb_and {x y : Int} (hx0 : 0 ≤ x) (hx : x < 18446744073709551616) (hy0 : 0 ≤ y) (hy : y < 18446744073709551616) (i : Nat) : tb (bits .and .u64 x y) i = (tb x i && tb y i) := by
  rw [u64_and x y hx0 hx hy0 hy]; unfold tb; rw [Int.toNat_natCast, Nat.testBit_and]
theorem tb_or {x y : Int} (hx0 : 0 ≤ x) (hx : x < 18446744073709551616) (hy0 : 0 ≤ y) (hy : y < 18446744073709551616) (i : Nat) : tb (bits .or .u64 x y) i = (tb x i || tb y i) := by
  rw [u64_or x y hx0 hx hy0 hy]; unfold tb; rw [Int.toNat_natCast, Nat.testBit_or]
theorem and_range {x y : Int} (hx0 : 0 ≤ x) (hx : x < 18446744073709551616) (hy0 : 0 ≤ y) (hy : y < 18446744073709551616) : 0 ≤ bits .and .u64 x y ∧ bits .and .u64 x y < 18446744073709551616 := by
  rw [u64_and x y hx0 hx hy0 hy]
  have : x.toNat &&& y.toNat < 2 ^ 64 := Nat.and_lt_two_pow _ (by omega)
  omega
theorem or_range {x y : Int} (hx0 : 0 ≤ x) (hx : x < 18446744073709551616) (hy0 : 0 ≤ y) (hy : y < 18446744073709551616) : 0 ≤ bits .or .u64 x y ∧ bits .or .u64 x y < 18446744073709551616 := by
  rw [u64_or x y hx0 hx hy0 hy]
  have : x.toNat ||| y.toNat < 2 ^ 64 := Nat.or_lt_two_pow (by omega) (by omega)
  omega
theorem tb_not {x : Int} (hx0 : 0 ≤ x) (hx : x < 18446744073709551616) (i : Nat) : tb (18446744073709551615 - x) i = (decide (i < 64) && !tb x i) := by
  unfold tb
  have : (18446744073709551615 - x).toNat = 2 ^ 64 - (x.toNat + 1) := by omega
  rw [this, Nat.testBit_two_pow_sub_succ (by omega)]
theorem tb_andNot {x y : Int} (hx0 : 0 ≤ x) (hx : x < 18446744073709551616) (hy0 : 0 ≤ y) (hy : y < 18446744073709551616) (i : Nat) : tb (bits .andNot .u64 x y) i = (tb x i && !tb y i) := by
  rw [u64_andNot x y hx0 hx hy0 hy]
  unfold tb
  rw [Int.toNat_natCast, Nat.testBit_and]
  have : 18446744073709551615 - y.toNat = 2 ^ 64 - (y.toNat + 1) := by omega
  rw [this, Nat.testBit_two_pow_sub_succ (by omega)]
  by_cases hi : i < 64
  · simp [hi]
  · have := tb_big hx (i := i) (by omega)
    unfold tb at this
    simp [this]
theorem andNot_range {x y : Int} (hx0 : 0 ≤ x) (hx : x < 18446744073709551616) (hy0 : 0 ≤ y) (hy : y < 18446744073709551616) : 0 ≤ bits .andNot .u64 x y ∧ bits .andNot .u64 x y < 18446744073709551616 := by
  rw [u64_andNot x y hx0 hx hy0 hy]
  have : x.toNat &&& (18446744073709551615 - y.toNat) < 2 ^ 64 := Nat.and_lt_two_pow _ (by omega)
  omega

/-! ### the bit 63, and what is shifted down with the sign -/
theorem tb_63 {x : Int} (h0 : 0 ≤ x) (h : x < 18446744073709551616) : tb x 63 = decide (9223372036854775808 ≤ x) := by
  unfold tb
  rw [Nat.testBit_eq_decide_div_mod_eq]
  obtain ⟨X, rfl⟩ := Int.eq_ofNat_of_zero_le h0
  rw [Int.toNat_natCast]
  by_cases c : (9223372036854775808 : Int) ≤ X
  · rw [decide_eq_true c, decide_eq_true]; omega
  · rw [decide_eq_false c, decide_eq_false]; omega
theorem wrap64_small {x : Int} (h0 : 0 ≤ x) (h : x < 9223372036854775808) : wrap64 x = x := by unfold wrap64; omega
theorem wrap64_great {x : Int} (h0 : 9223372036854775808 ≤ x) (h : x < 18446744073709551616) : wrap64 x = x - 18446744073709551616 := by unfold wrap64; omega
theorem tb_sra {x : Int} (h0 : 0 ≤ x) (h : x < 18446744073709551616) (k i : Nat) (hi : i < 64) : tb (IntKind.u64.wrap (wrap64 x / 2 ^ k)) i = if i + k < 64 then tb x (i + k) else tb x 63 := by
  have h63 := tb_63 h0 h
  by_cases c : 9223372036854775808 ≤ x
  · rw [wrap64_great c h]
    rw [decide_eq_true c] at h63
    have hq : (x - 18446744073709551616) / 2 ^ k = -((18446744073709551615 - x) / 2 ^ k) - 1 := by
      have hp : (0 : Int) < 2 ^ k := Int.pow_pos (by decide)
      have e : x - 18446744073709551616 = -(18446744073709551615 - x) - 1 := by omega
      rw [e]
      generalize 18446744073709551615 - x = y
      have h1 := Int.emod_nonneg y (Int.ne_of_gt hp)
      have h2 := Int.emod_lt_of_pos y hp
      have h3 := Int.mul_ediv_add_emod y (2 ^ k)
      apply (Int.ediv_eq_iff_of_pos hp).2
      generalize y / 2 ^ k = q at h3 ⊢
      generalize y % 2 ^ k = r at *
      generalize (2 : Int) ^ k = p at *
      have e2 : (-q - 1) * p = -(p * q) - p := by rw [Int.sub_mul, Int.neg_mul, Int.one_mul, Int.mul_comm]
      constructor
      · rw [e2]; omega
      · rw [e2]; omega
    rw [hq]
    have hy0 : 0 ≤ 18446744073709551615 - x := by omega
    have hd := div_range hy0 (by omega) k
    have e : IntKind.u64.wrap (-((18446744073709551615 - x) / 2 ^ k) - 1) = 18446744073709551615 - (18446744073709551615 - x) / 2 ^ k := by
      rw [IntKind.wrap_u64]
      generalize (18446744073709551615 - x) / 2 ^ k = q at *
      omega
    rw [e, tb_not hd.1 hd.2, tb_div hy0, tb_not h0 h, h63]
    by_cases c2 : i + k < 64
    · simp [hi, c2]
    · simp [hi, c2]
  · rw [wrap64_small h0 (by omega)]
    have hd := div_range h0 h k
    rw [tb_wrap hd.1, tb_div h0]
    rw [decide_eq_false c] at h63
    by_cases c2 : i + k < 64
    · simp [hi, c2]
    · rw [if_neg c2, tb_big h (by omega), h63]; simp
end Go.Proofs.YtkbgmppbkllnmaaDoor.Wd
namespace Go.Proofs.YtkbgmppbkllnmaaDoor.Wd
open Go.RowKit (wrap64)

def inP (p size : Int) (i : Nat) : Bool := decide (1 ≤ size ∧ p ≤ i ∧ (i : Int) < p + size)
def onesS (p size : Int) : Int := word (inP p size)
def cutS (x p size : Int) : Int := word fun k => decide ((k : Int) < size ∧ 0 ≤ p + k) && tb x (p + k).toNat
def putS (x p size n : Int) : Int := word fun i => if inP p size i then tb n (i - p).toNat else tb x i
def signS (x size : Int) : Int := if size < 1 then 0 else word fun i => if (i : Int) < size then tb x i else tb x (size - 1).toNat
def maskS (size : Int) : Int := word fun i => decide ((i : Int) < size)
def raiseS (x p : Int) : Int := word fun i => decide (0 ≤ i - p) && tb x (i - p).toNat
def lowerS (x p : Int) : Int := word fun i => decide (0 ≤ i + p) && tb x (i + p).toNat

theorem cutS_range (x p size : Int) : 0 ≤ cutS x p size ∧ cutS x p size < 18446744073709551616 := ⟨word_nonneg _, word_lt _⟩
theorem onesS_range (p size : Int) : 0 ≤ onesS p size ∧ onesS p size < 18446744073709551616 := ⟨word_nonneg _, word_lt _⟩
theorem putS_range (x p size n : Int) : 0 ≤ putS x p size n ∧ putS x p size n < 18446744073709551616 := ⟨word_nonneg _, word_lt _⟩
theorem maskS_range (size : Int) : 0 ≤ maskS size ∧ maskS size < 18446744073709551616 := ⟨word_nonneg _, word_lt _⟩
theorem raiseS_range (x p : Int) : 0 ≤ raiseS x p ∧ raiseS x p < 18446744073709551616 := ⟨word_nonneg _, word_lt _⟩
theorem lowerS_range (x p : Int) : 0 ≤ lowerS x p ∧ lowerS x p < 18446744073709551616 := ⟨word_nonneg _, word_lt _⟩
theorem signS_range (x size : Int) : 0 ≤ signS x size ∧ signS x size < 18446744073709551616 := by
  unfold signS
  split
  · omega
  · exact ⟨word_nonneg _, word_lt _⟩

theorem mask_low {s : Int} (h : s < 1) : (0 : Int) = maskS s := by
  apply eq_word (by omega) (by omega)
  intro i hi
  rw [tb_zero, eq_comm, decide_eq_false_iff_not]
  omega
theorem mask_all {s : Int} (h : 63 < s) : (18446744073709551615 : Int) = maskS s := by
  apply eq_word (by omega) (by omega)
  intro i hi
  rw [tb_ones hi, eq_comm, decide_eq_true_iff]
  omega
theorem pow_le {k : Nat} (h : k ≤ 63) : (1 : Int) ≤ 2 ^ k ∧ (2 : Int) ^ k ≤ 9223372036854775808 := by
  have h1 : 2 ^ k ≤ 2 ^ 63 := Nat.pow_le_pow_right (by decide) h
  have h2 : 0 < 2 ^ k := Nat.two_pow_pos k
  rw [pow_cast]
  omega
theorem mask_mid {s : Int} (h1 : 1 ≤ s) (h2 : s ≤ 63) : IntKind.u64.wrap (IntKind.u64.wrap (2 ^ s.toNat) - 1) = maskS s := by
  have hp := pow_le (k := s.toNat) (by omega)
  have e : IntKind.u64.wrap (IntKind.u64.wrap (2 ^ s.toNat) - 1) = 2 ^ s.toNat - 1 := by
    rw [IntKind.wrap_u64, IntKind.wrap_u64]
    generalize (2 : Int) ^ s.toNat = q at *
    omega
  rw [e]
  apply eq_word (by omega) (by omega)
  intro i hi
  rw [tb_pow_sub_one]
  apply decide_eq_decide.2
  omega

theorem neg_toNat {p : Int} (h0 : p < 0) (h1 : -9223372036854775808 ≤ p) : (IntKind.u64.wrap (wrap64 (-p))).toNat = (-p).toNat := by
  rw [IntKind.wrap_u64]; unfold wrap64; omega
theorem pos_toNat {p : Int} (h0 : 0 ≤ p) (h1 : p < 9223372036854775808) : (IntKind.u64.wrap p).toNat = p.toNat := by
  rw [IntKind.wrap_u64]; omega
theorem down_bits {x : Int} (hx0 : 0 ≤ x) (hx : x < 18446744073709551616) (k i : Nat) : tb (x / 2 ^ min k 64) i = tb x (i + k) := by
  rw [tb_div hx0]
  by_cases c : k ≤ 64
  · rw [Nat.min_eq_left c]
  · rw [tb_big hx (by omega), tb_big hx (by omega)]
theorem up_bits {x : Int} (hx0 : 0 ≤ x) (k i : Nat) (hi : i < 64) : tb (IntKind.u64.wrap (x * 2 ^ min k 64)) i = (decide (k ≤ i) && tb x (i - k)) := by
  rw [tb_wrap (mul_nonneg' hx0 _), tb_mul hx0]
  by_cases c : k ≤ 64
  · rw [Nat.min_eq_left c]; simp [hi]
  · have h1 : ¬ min k 64 ≤ i := by omega
    have h2 : ¬ k ≤ i := by omega
    simp [h1, h2]
theorem raise_neg {x p : Int} (hx0 : 0 ≤ x) (hx : x < 18446744073709551616) (h0 : p < 0) (h1 : -9223372036854775808 ≤ p) : x / 2 ^ min (IntKind.u64.wrap (wrap64 (-p))).toNat 64 = raiseS x p := by
  rw [neg_toNat h0 h1]
  have := div_range hx0 hx (min (-p).toNat 64)
  apply eq_word this.1 this.2
  intro i hi
  rw [down_bits hx0 hx]
  have : (0 : Int) ≤ i - p := by omega
  have e : (i - p : Int).toNat = i + (-p).toNat := by omega
  rw [decide_eq_true this, e, Bool.true_and]
theorem raise_pos {x p : Int} (hx0 : 0 ≤ x) (h0 : 0 ≤ p) (h1 : p < 9223372036854775808) : IntKind.u64.wrap (x * 2 ^ min (IntKind.u64.wrap p).toNat 64) = raiseS x p := by
  rw [pos_toNat h0 h1]
  have := wrap_range (x * 2 ^ min p.toNat 64)
  apply eq_word this.1 this.2
  intro i hi
  rw [up_bits hx0 _ _ hi]
  have e : (i - p : Int).toNat = i - p.toNat := by omega
  rw [e]
  congr 1
  apply decide_eq_decide.2
  omega
theorem lower_neg {x p : Int} (hx0 : 0 ≤ x) (h0 : p < 0) (h1 : -9223372036854775808 ≤ p) : IntKind.u64.wrap (x * 2 ^ min (IntKind.u64.wrap (wrap64 (-p))).toNat 64) = lowerS x p := by
  rw [neg_toNat h0 h1]
  have := wrap_range (x * 2 ^ min (-p).toNat 64)
  apply eq_word this.1 this.2
  intro i hi
  rw [up_bits hx0 _ _ hi]
  have e : (i + p : Int).toNat = i - (-p).toNat := by omega
  rw [e]
  congr 1
  apply decide_eq_decide.2
  omega
theorem lower_pos {x p : Int} (hx0 : 0 ≤ x) (hx : x < 18446744073709551616) (h0 : 0 ≤ p) (h1 : p < 9223372036854775808) : x / 2 ^ min (IntKind.u64.wrap p).toNat 64 = lowerS x p := by
  rw [pos_toNat h0 h1]
  have := div_range hx0 hx (min p.toNat 64)
  apply eq_word this.1 this.2
  intro i hi
  rw [down_bits hx0 hx]
  have : (0 : Int) ≤ i + p := by omega
  have e : (i + p : Int).toNat = i + p.toNat := by omega
  simp [this, e]

theorem ones_low {p size : Int} (h : size < 1) : (0 : Int) = onesS p size := by
  apply eq_word (by omega) (by omega)
  intro i hi
  rw [tb_zero, eq_comm]
  unfold inP
  rw [decide_eq_false_iff_not]
  omega
theorem ones_neg {p size : Int} (h : 1 ≤ size) (h0 : p < 0) : maskS (p + size) = onesS p size := by
  apply word_congr
  intro i hi
  unfold inP
  apply decide_eq_decide.2
  omega
theorem ones_pos {p size : Int} (h : 1 ≤ size) (h0 : 0 ≤ p) : raiseS (maskS size) p = onesS p size := by
  apply word_congr
  intro i hi
  unfold maskS inP
  rw [tb_word]
  by_cases c : (0 : Int) ≤ i - p
  · have h1 : (i - p : Int).toNat < 64 := by omega
    simp only [c, h1, decide_true, Bool.true_and]
    apply decide_eq_decide.2
    omega
  · rw [decide_eq_false c, Bool.false_and, eq_comm, decide_eq_false_iff_not]
    omega
theorem cut_and (x p size : Int) : bits .and .u64 (lowerS x p) (maskS size) = cutS x p size := by
  have a := lowerS_range x p
  have b := maskS_range size
  have c := and_range a.1 a.2 b.1 b.2
  apply eq_word c.1 c.2
  intro i hi
  rw [tb_and a.1 a.2 b.1 b.2]
  unfold lowerS maskS
  rw [tb_word, tb_word]
  simp only [hi, decide_true, Bool.true_and]
  rw [Bool.decide_and, Int.add_comm p]
  generalize tb x _ = t
  cases decide ((i : Int) < size) <;> cases decide ((0 : Int) ≤ i + p) <;> cases t <;> rfl
theorem put_or {x p size n : Int} (hx0 : 0 ≤ x) (hx : x < 18446744073709551616) : bits .or .u64 (bits .andNot .u64 x (onesS p size)) (bits .and .u64 (raiseS n p) (onesS p size)) = putS x p size n := by
  have a := onesS_range p size
  have b := raiseS_range n p
  have c := andNot_range hx0 hx a.1 a.2
  have d := and_range b.1 b.2 a.1 a.2
  have e := or_range c.1 c.2 d.1 d.2
  apply eq_word e.1 e.2
  intro i hi
  rw [tb_or c.1 c.2 d.1 d.2, tb_andNot hx0 hx a.1 a.2, tb_and b.1 b.2 a.1 a.2]
  unfold onesS raiseS
  rw [tb_word, tb_word]
  simp only [hi, decide_true, Bool.true_and]
  by_cases g : inP p size i = true
  · have h1 : (0 : Int) ≤ i - p := by
      unfold inP at g
      have := of_decide_eq_true g
      omega
    rw [decide_eq_true h1]
    simp [g]
  · rw [Bool.not_eq_true] at g
    simp [g]
theorem sign_all {x size : Int} (hx0 : 0 ≤ x) (hx : x < 18446744073709551616) (h : 63 < size) : x = signS x size := by
  unfold signS
  rw [if_neg (by omega)]
  apply eq_word hx0 hx
  intro i hi
  rw [if_pos (by omega)]
theorem sign_mid {x size : Int} (hx0 : 0 ≤ x) (h1 : 1 ≤ size) (h2 : size ≤ 63) :
    IntKind.u64.wrap (wrap64 (IntKind.u64.wrap (x * 2 ^ (64 - size).toNat)) / 2 ^ (64 - size).toNat) = signS x size := by
  unfold signS
  rw [if_neg (by omega)]
  have a := wrap_range (x * 2 ^ (64 - size).toNat)
  have b := wrap_range (wrap64 (IntKind.u64.wrap (x * 2 ^ (64 - size).toNat)) / 2 ^ (64 - size).toNat)
  apply eq_word b.1 b.2
  intro i hi
  rw [tb_sra a.1 a.2 _ _ hi]
  have u : ∀ j, j < 64 → tb (IntKind.u64.wrap (x * 2 ^ (64 - size).toNat)) j = (decide ((64 - size).toNat ≤ j) && tb x (j - (64 - size).toNat)) := by
    intro j hj
    rw [tb_wrap (mul_nonneg' hx0 _), tb_mul hx0]
    simp [hj]
  by_cases c : i + (64 - size).toNat < 64
  · have c2 : (i : Int) < size := by omega
    rw [if_pos c, u _ c, if_pos c2]
    simp
  · have c2 : ¬ (i : Int) < size := by omega
    rw [if_neg c, u _ (by omega), if_neg c2]
    have e : 63 - (64 - size).toNat = (size - 1).toNat := by omega
    have e2 : (64 - size).toNat ≤ 63 := by omega
    rw [e]
    simp [e2]
theorem sign_low {x size : Int} (h : size < 1) : (0 : Int) = signS x size := by
  unfold signS
  rw [if_pos h]
theorem and_low {s : Int} (h0 : 0 ≤ s) (h : s < 18446744073709551616) (k : Nat) (hk : k ≤ 63) : bits .and .u64 s (2 ^ k - 1) = s % 2 ^ k := by
  have hp := pow_le hk
  rw [u64_and s (2 ^ k - 1) h0 h (by omega) (by omega)]
  obtain ⟨S, rfl⟩ := Int.eq_ofNat_of_zero_le h0
  have e : ((2 : Int) ^ k - 1).toNat = 2 ^ k - 1 := by
    have := Nat.two_pow_pos k
    rw [pow_cast]
    omega
  rw [e, Int.toNat_natCast, Nat.and_two_pow_sub_one_eq_mod, pow_cast, Int.natCast_emod]
theorem and63 {s : Int} (h0 : 0 ≤ s) (h : s < 18446744073709551616) : bits .and .u64 s 63 = s % 64 := and_low h0 h 6 (by omega)
theorem and31 {s : Int} (h0 : 0 ≤ s) (h : s < 18446744073709551616) : bits .and .u64 s 31 = s % 32 := and_low h0 h 5 (by omega)
end Go.Proofs.YtkbgmppbkllnmaaDoor.Wd
set_option maxRecDepth 20000
namespace Go.Proofs.YtkbgmppbkllnmaaDoor
open Go.ChangeShapes Go.WideShapes Go.ChangeAt Go.RowKit Wd

theorem ret_u {k : IntKind} {a b : Int} (h : a = b) : Ending.returned (.int k a) = .returned (.int k b) := by rw [h]
theorem ret_b {a b : Bool} (h : a = b) : Ending.returned (.bool a) = .returned (.bool b) := by rw [h]

def lessS (a b : Int) : Bool := decide (wrap64 a < wrap64 b)
def sllS (x n : Int) : Int := IntKind.u64.wrap (x * 2 ^ (n % 64).toNat)
def srlS (x n : Int) : Int := x / 2 ^ (n % 64).toNat
def sraS (x n : Int) : Int := IntKind.u64.wrap (wrap64 x / 2 ^ (n % 64).toNat)
def sllwS (x n : Int) : Int := signS (IntKind.u64.wrap (x * 2 ^ (n % 32).toNat)) 32
def srlwS (x n : Int) : Int := signS (cutS x 0 32 / 2 ^ (n % 32).toNat) 32
def srawS (x n : Int) : Int := sraS (signS x 32) (n % 32)

end Go.Proofs.YtkbgmppbkllnmaaDoor
