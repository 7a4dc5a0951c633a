/-
  Plain numbers, no program: a word of 64 bits that is given by a function of the bit's place, and the bits of sums, shifts and masks of such words. Plain numbers, no program: what the calls of layer 1 (bits) answer, bit by bit, and that the formulas of the code come to it. Contracts of package bits (layer 1) but Gather: each call returns what Spec says, and leaves the world alone. Contracts of the reference of layer 1: Bit, Of, in. Contracts of the reference of layer 1: in, Put, Ones. Contracts of the reference of layer 1: Ones, Sign, Cut. The tables of the reference of layers 3 and 4, as plain lists: the names of ops and of formats as bytes; for each op its format's number, the mask and what is matched. Contracts of the reference's tables (layers 3 and 4): Names, Rows. The contract of the reference's Number (layer 3): a format's number by its name.
-/
import Derived.Laws.ShiftsVarLaws
import Derived.WalkKit
import Derived.Test.YthehcplogkgkeaaGreatDoorRows
import Derived.ProofKit
import Derived.OpenShut
import Derived.Lib.Hide
import Derived.Great.BuildSlice
import Derived.Deep.DeepCutAuto
namespace Go.Proofs.YthehcplogkgkeaaGreatDoor.Wd
open Go.RowKit (wrap64)

def tb (x : Int) (i : Nat) : Bool := x.toNat.testBit i

def sumTo (f : Nat → Bool) : Nat → Nat
  | 0 => 0
  | n + 1 => 2 ^ n * (f n).toNat + sumTo f n

theorem sumTo_lt (f : Nat → Bool) (n : Nat) : sumTo f n < 2 ^ n := by
  induction n with
  | zero => simp [sumTo]
  | succ n ih =>
    unfold sumTo
    have h : 2 ^ (n + 1) = 2 ^ n + 2 ^ n := by rw [Nat.pow_succ]; omega
    cases f n <;> simp <;> omega

theorem testBit_sumTo (f : Nat → Bool) (n i : Nat) : (sumTo f n).testBit i = (decide (i < n) && f i) := by
  induction n with
  | zero => simp [sumTo]
  | succ n ih =>
    unfold sumTo
    rw [Nat.testBit_two_pow_mul_add _ (sumTo_lt f n), ih]
    by_cases h : i < n
    · have h' : i < n + 1 := by omega
      simp [h, h']
    · by_cases h2 : i = n
      · subst h2
        cases f i <;> simp
      · have h3 : ¬ i < n + 1 := by omega
        have h4 : ∃ j, i - n = j + 1 := ⟨i - n - 1, by omega⟩
        obtain ⟨j, hj⟩ := h4
        rw [hj]
        cases f n <;> simp [h, h3, Nat.testBit_succ]

def word (f : Nat → Bool) : Int := (sumTo f 64 : Nat)
theorem word_nonneg (f : Nat → Bool) : 0 ≤ word f := by unfold word; omega
theorem word_lt (f : Nat → Bool) : word f < 18446744073709551616 := by
  have := sumTo_lt f 64
  unfold word
  omega
theorem tb_word (f : Nat → Bool) (i : Nat) : tb (word f) i = (decide (i < 64) && f i) := by
  unfold tb word
  rw [Int.toNat_natCast, testBit_sumTo]
theorem tb_big {x : Int} (h : x < 18446744073709551616) {i : Nat} (hi : 64 ≤ i) : tb x i = false := by
  unfold tb
  apply Nat.testBit_lt_two_pow
  have h2 : 2 ^ 64 ≤ 2 ^ i := Nat.pow_le_pow_right (by decide) hi
  omega
theorem ext {x y : Int} (hx0 : 0 ≤ x) (hx : x < 18446744073709551616) (hy0 : 0 ≤ y) (hy : y < 18446744073709551616) (h : ∀ i, i < 64 → tb x i = tb y i) : x = y := by
  have : x.toNat = y.toNat := by
    apply Nat.eq_of_testBit_eq
    intro i
    by_cases hi : i < 64
    · exact h i hi
    · have a := tb_big hx (i := i) (by omega)
      have b := tb_big hy (i := i) (by omega)
      unfold tb at a b
      rw [a, b]
  omega
theorem eq_word {x : Int} {f : Nat → Bool} (hx0 : 0 ≤ x) (hx : x < 18446744073709551616) (h : ∀ i, i < 64 → tb x i = f i) : x = word f :=
  ext hx0 hx (word_nonneg f) (word_lt f) (fun i hi => by rw [tb_word, h i hi]; simp [hi])
theorem word_congr {f g : Nat → Bool} (h : ∀ i, i < 64 → f i = g i) : word f = word g :=
  ext (word_nonneg f) (word_lt f) (word_nonneg g) (word_lt g) (fun i hi => by rw [tb_word, tb_word, h i hi])

/-! ### bits of what is reckoned -/
theorem tb_zero (i : Nat) : tb 0 i = false := by simp [tb]
theorem tb_ones {i : Nat} (hi : i < 64) : tb 18446744073709551615 i = true := by
  have : (18446744073709551615 : Int).toNat = 2 ^ 64 - 1 := by decide
  unfold tb
  rw [this, Nat.testBit_two_pow_sub_one]
  simp [hi]
theorem toNat_pow (k : Nat) : ((2 : Int) ^ k).toNat = 2 ^ k := toNat_two_pow k
theorem pow_cast (k : Nat) : ((2 : Int) ^ k) = ((2 ^ k : Nat) : Int) := by simp
theorem tb_div {x : Int} (h0 : 0 ≤ x) (k i : Nat) : tb (x / 2 ^ k) i = tb x (i + k) := by
  obtain ⟨X, rfl⟩ := Int.eq_ofNat_of_zero_le h0
  unfold tb
  rw [pow_cast, ← Int.natCast_ediv, Int.toNat_natCast, Int.toNat_natCast, Nat.testBit_div_two_pow]
theorem div_range {x : Int} (h0 : 0 ≤ x) (h : x < 18446744073709551616) (k : Nat) : 0 ≤ x / 2 ^ k ∧ x / 2 ^ k < 18446744073709551616 := by
  have hp : (0 : Int) < 2 ^ k := Int.pow_pos (by decide)
  exact ⟨Int.ediv_nonneg h0 (by omega), Int.lt_of_le_of_lt (Int.ediv_le_self _ h0) h⟩
theorem wrap_range (x : Int) : 0 ≤ IntKind.u64.wrap x ∧ IntKind.u64.wrap x < 18446744073709551616 := by
  rw [IntKind.wrap_u64]; omega
theorem tb_wrap {x : Int} (h0 : 0 ≤ x) (i : Nat) : tb (IntKind.u64.wrap x) i = (decide (i < 64) && tb x i) := by
  obtain ⟨X, rfl⟩ := Int.eq_ofNat_of_zero_le h0
  rw [IntKind.wrap_u64]
  unfold tb
  have : ((X : Int) % 18446744073709551616).toNat = X % 2 ^ 64 := by omega
  rw [this, Int.toNat_natCast, Nat.testBit_mod_two_pow]
theorem tb_mul {x : Int} (h0 : 0 ≤ x) (k i : Nat) : tb (x * 2 ^ k) i = (decide (k ≤ i) && tb x (i - k)) := by
  obtain ⟨X, rfl⟩ := Int.eq_ofNat_of_zero_le h0
  unfold tb
  rw [pow_cast, ← Int.natCast_mul, Int.toNat_natCast, Int.toNat_natCast, Nat.testBit_mul_two_pow]
theorem mul_nonneg' {x : Int} (h0 : 0 ≤ x) (k : Nat) : 0 ≤ x * 2 ^ k := Int.mul_nonneg h0 (Int.le_of_lt (Int.pow_pos (by decide)))
theorem tb_pow_sub_one (k i : Nat) : tb (2 ^ k - 1) i = decide (i < k) := by
  unfold tb
  have hp : 0 < 2 ^ k := Nat.two_pow_pos k
  have : ((2 : Int) ^ k - 1).toNat = 2 ^ k - 1 := by rw [pow_cast]; omega
  rw [this, Nat.testBit_two_pow_sub_one]
theorem tb_and {x y : Int} (hx0 : 0 ≤ x) (hx : x < 18446744073709551616) (hy0 : 0 ≤ y) (hy : y < 18446744073709551616) (i : Nat) : tb (bits .and .u64 x y) i = (tb x i && tb y i) := by
  rw [u64_and x y hx0 hx hy0 hy]; unfold tb; rw [Int.toNat_natCast, Nat.testBit_and]
theorem tb_or {x y : Int} (hx0 : 0 ≤ x) (hx : x < 18446744073709551616) (hy0 : 0 ≤ y) (hy : y < 18446744073709551616) (i : Nat) : tb (bits .or .u64 x y) i = (tb x i || tb y i) := by
  rw [u64_or x y hx0 hx hy0 hy]; unfold tb; rw [Int.toNat_natCast, Nat.testBit_or]
theorem and_range {x y : Int} (hx0 : 0 ≤ x) (hx : x < 18446744073709551616) (hy0 : 0 ≤ y) (hy : y < 18446744073709551616) : 0 ≤ bits .and .u64 x y ∧ bits .and .u64 x y < 18446744073709551616 := by
  rw [u64_and x y hx0 hx hy0 hy]
  have : x.toNat &&& y.toNat < 2 ^ 64 := Nat.and_lt_two_pow _ (by omega)
  omega
theorem or_range {x y : Int} (hx0 : 0 ≤ x) (hx : x < 18446744073709551616) (hy0 : 0 ≤ y) (hy : y < 18446744073709551616) : 0 ≤ bits .or .u64 x y ∧ bits .or .u64 x y < 18446744073709551616 := by
  rw [u64_or x y hx0 hx hy0 hy]
  have : x.toNat ||| y.toNat < 2 ^ 64 := Nat.or_lt_two_pow (by omega) (by omega)
  omega
theorem tb_not {x : Int} (hx0 : 0 ≤ x) (hx : x < 18446744073709551616) (i : Nat) : tb (18446744073709551615 - x) i = (decide (i < 64) && !tb x i) := by
  unfold tb
  have : (18446744073709551615 - x).toNat = 2 ^ 64 - (x.toNat + 1) := by omega
  rw [this, Nat.testBit_two_pow_sub_succ (by omega)]
theorem tb_andNot {x y : Int} (hx0 : 0 ≤ x) (hx : x < 18446744073709551616) (hy0 : 0 ≤ y) (hy : y < 18446744073709551616) (i : Nat) : tb (bits .andNot .u64 x y) i = (tb x i && !tb y i) := by
  rw [u64_andNot x y hx0 hx hy0 hy]
  unfold tb
  rw [Int.toNat_natCast, Nat.testBit_and]
  have : 18446744073709551615 - y.toNat = 2 ^ 64 - (y.toNat + 1) := by omega
  rw [this, Nat.testBit_two_pow_sub_succ (by omega)]
  by_cases hi : i < 64
  · simp [hi]
  · have := tb_big hx (i := i) (by omega)
    unfold tb at this
    simp [this]
theorem andNot_range {x y : Int} (hx0 : 0 ≤ x) (hx : x < 18446744073709551616) (hy0 : 0 ≤ y) (hy : y < 18446744073709551616) : 0 ≤ bits .andNot .u64 x y ∧ bits .andNot .u64 x y < 18446744073709551616 := by
  rw [u64_andNot x y hx0 hx hy0 hy]
  have : x.toNat &&& (18446744073709551615 - y.toNat) < 2 ^ 64 := Nat.and_lt_two_pow _ (by omega)
  omega

/-! ### the bit 63, and what is shifted down with the sign -/
theorem tb_63 {x : Int} (h0 : 0 ≤ x) (h : x < 18446744073709551616) : tb x 63 = decide (9223372036854775808 ≤ x) := by
  unfold tb
  rw [Nat.testBit_eq_decide_div_mod_eq]
  obtain ⟨X, rfl⟩ := Int.eq_ofNat_of_zero_le h0
  rw [Int.toNat_natCast]
  by_cases c : (9223372036854775808 : Int) ≤ X
  · rw [decide_eq_true c, decide_eq_true]; omega
  · rw [decide_eq_false c, decide_eq_false]; omega
theorem wrap64_small {x : Int} (h0 : 0 ≤ x) (h : x < 9223372036854775808) : wrap64 x = x := by unfold wrap64; omega
theorem wrap64_great {x : Int} (h0 : 9223372036854775808 ≤ x) (h : x < 18446744073709551616) : wrap64 x = x - 18446744073709551616 := by unfold wrap64; omega
theorem tb_sra {x : Int} (h0 : 0 ≤ x) (h : x < 18446744073709551616) (k i : Nat) (hi : i < 64) : tb (IntKind.u64.wrap (wrap64 x / 2 ^ k)) i = if i + k < 64 then tb x (i + k) else tb x 63 := by
  have h63 := tb_63 h0 h
  by_cases c : 9223372036854775808 ≤ x
  · rw [wrap64_great c h]
    rw [decide_eq_true c] at h63
    have hq : (x - 18446744073709551616) / 2 ^ k = -((18446744073709551615 - x) / 2 ^ k) - 1 := by
      have hp : (0 : Int) < 2 ^ k := Int.pow_pos (by decide)
      have e : x - 18446744073709551616 = -(18446744073709551615 - x) - 1 := by omega
      rw [e]
      generalize 18446744073709551615 - x = y
      have h1 := Int.emod_nonneg y (Int.ne_of_gt hp)
      have h2 := Int.emod_lt_of_pos y hp
      have h3 := Int.mul_ediv_add_emod y (2 ^ k)
      apply (Int.ediv_eq_iff_of_pos hp).2
      generalize y / 2 ^ k = q at h3 ⊢
      generalize y % 2 ^ k = r at *
      generalize (2 : Int) ^ k = p at *
      have e2 : (-q - 1) * p = -(p * q) - p := by rw [Int.sub_mul, Int.neg_mul, Int.one_mul, Int.mul_comm]
      constructor
      · rw [e2]; omega
      · rw [e2]; omega
    rw [hq]
    have hy0 : 0 ≤ 18446744073709551615 - x := by omega
    have hd := div_range hy0 (by omega) k
    have e : IntKind.u64.wrap (-((18446744073709551615 - x) / 2 ^ k) - 1) = 18446744073709551615 - (18446744073709551615 - x) / 2 ^ k := by
      rw [IntKind.wrap_u64]
      generalize (18446744073709551615 - x) / 2 ^ k = q at *
      omega
    rw [e, tb_not hd.1 hd.2, tb_div hy0, tb_not h0 h, h63]
    by_cases c2 : i + k < 64
    · simp [hi, c2]
    · simp [hi, c2]
  · rw [wrap64_small h0 (by omega)]
    have hd := div_range h0 h k
    rw [tb_wrap hd.1, tb_div h0]
    rw [decide_eq_false c] at h63
    by_cases c2 : i + k < 64
    · simp [hi, c2]
    · rw [if_neg c2, tb_big h (by omega), h63]; simp
end Go.Proofs.YthehcplogkgkeaaGreatDoor.Wd
namespace Go.Proofs.YthehcplogkgkeaaGreatDoor.Wd
open Go.RowKit (wrap64)

def inP (p size : Int) (i : Nat) : Bool := decide (1 ≤ size ∧ p ≤ i ∧ (i : Int) < p + size)
def onesS (p size : Int) : Int := word (inP p size)
def cutS (x p size : Int) : Int := word fun k => decide ((k : Int) < size ∧ 0 ≤ p + k) && tb x (p + k).toNat
def putS (x p size n : Int) : Int := word fun i => if inP p size i then tb n (i - p).toNat else tb x i
def signS (x size : Int) : Int := if size < 1 then 0 else word fun i => if (i : Int) < size then tb x i else tb x (size - 1).toNat
def maskS (size : Int) : Int := word fun i => decide ((i : Int) < size)
def raiseS (x p : Int) : Int := word fun i => decide (0 ≤ i - p) && tb x (i - p).toNat
def lowerS (x p : Int) : Int := word fun i => decide (0 ≤ i + p) && tb x (i + p).toNat

theorem cutS_range (x p size : Int) : 0 ≤ cutS x p size ∧ cutS x p size < 18446744073709551616 := ⟨word_nonneg _, word_lt _⟩
theorem onesS_range (p size : Int) : 0 ≤ onesS p size ∧ onesS p size < 18446744073709551616 := ⟨word_nonneg _, word_lt _⟩
theorem putS_range (x p size n : Int) : 0 ≤ putS x p size n ∧ putS x p size n < 18446744073709551616 := ⟨word_nonneg _, word_lt _⟩
theorem maskS_range (size : Int) : 0 ≤ maskS size ∧ maskS size < 18446744073709551616 := ⟨word_nonneg _, word_lt _⟩
theorem raiseS_range (x p : Int) : 0 ≤ raiseS x p ∧ raiseS x p < 18446744073709551616 := ⟨word_nonneg _, word_lt _⟩
theorem lowerS_range (x p : Int) : 0 ≤ lowerS x p ∧ lowerS x p < 18446744073709551616 := ⟨word_nonneg _, word_lt _⟩
theorem signS_range (x size : Int) : 0 ≤ signS x size ∧ signS x size < 18446744073709551616 := by
  unfold signS
  split
  · omega
  · exact ⟨word_nonneg _, word_lt _⟩

theorem mask_low {s : Int} (h : s < 1) : (0 : Int) = maskS s := by
  apply eq_word (by omega) (by omega)
  intro i hi
  rw [tb_zero, eq_comm, decide_eq_false_iff_not]
  omega
theorem mask_all {s : Int} (h : 63 < s) : (18446744073709551615 : Int) = maskS s := by
  apply eq_word (by omega) (by omega)
  intro i hi
  rw [tb_ones hi, eq_comm, decide_eq_true_iff]
  omega
theorem pow_le {k : Nat} (h : k ≤ 63) : (1 : Int) ≤ 2 ^ k ∧ (2 : Int) ^ k ≤ 9223372036854775808 := by
  have h1 : 2 ^ k ≤ 2 ^ 63 := Nat.pow_le_pow_right (by decide) h
  have h2 : 0 < 2 ^ k := Nat.two_pow_pos k
  rw [pow_cast]
  omega
theorem mask_mid {s : Int} (h1 : 1 ≤ s) (h2 : s ≤ 63) : IntKind.u64.wrap (IntKind.u64.wrap (2 ^ s.toNat) - 1) = maskS s := by
  have hp := pow_le (k := s.toNat) (by omega)
  have e : IntKind.u64.wrap (IntKind.u64.wrap (2 ^ s.toNat) - 1) = 2 ^ s.toNat - 1 := by
    rw [IntKind.wrap_u64, IntKind.wrap_u64]
    generalize (2 : Int) ^ s.toNat = q at *
    omega
  rw [e]
  apply eq_word (by omega) (by omega)
  intro i hi
  rw [tb_pow_sub_one]
  apply decide_eq_decide.2
  omega

theorem neg_toNat {p : Int} (h0 : p < 0) (h1 : -9223372036854775808 ≤ p) : (IntKind.u64.wrap (wrap64 (-p))).toNat = (-p).toNat := by
  rw [IntKind.wrap_u64]; unfold wrap64; omega
theorem pos_toNat {p : Int} (h0 : 0 ≤ p) (h1 : p < 9223372036854775808) : (IntKind.u64.wrap p).toNat = p.toNat := by
  rw [IntKind.wrap_u64]; omega
theorem down_bits {x : Int} (hx0 : 0 ≤ x) (hx : x < 18446744073709551616) (k i : Nat) : tb (x / 2 ^ min k 64) i = tb x (i + k) := by
  rw [tb_div hx0]
  by_cases c : k ≤ 64
  · rw [Nat.min_eq_left c]
  · rw [tb_big hx (by omega), tb_big hx (by omega)]
theorem up_bits {x : Int} (hx0 : 0 ≤ x) (k i : Nat) (hi : i < 64) : tb (IntKind.u64.wrap (x * 2 ^ min k 64)) i = (decide (k ≤ i) && tb x (i - k)) := by
  rw [tb_wrap (mul_nonneg' hx0 _), tb_mul hx0]
  by_cases c : k ≤ 64
  · rw [Nat.min_eq_left c]; simp [hi]
  · have h1 : ¬ min k 64 ≤ i := by omega
    have h2 : ¬ k ≤ i := by omega
    simp [h1, h2]
theorem raise_neg {x p : Int} (hx0 : 0 ≤ x) (hx : x < 18446744073709551616) (h0 : p < 0) (h1 : -9223372036854775808 ≤ p) : x / 2 ^ min (IntKind.u64.wrap (wrap64 (-p))).toNat 64 = raiseS x p := by
  rw [neg_toNat h0 h1]
  have := div_range hx0 hx (min (-p).toNat 64)
  apply eq_word this.1 this.2
  intro i hi
  rw [down_bits hx0 hx]
  have : (0 : Int) ≤ i - p := by omega
  have e : (i - p : Int).toNat = i + (-p).toNat := by omega
  rw [decide_eq_true this, e, Bool.true_and]
theorem raise_pos {x p : Int} (hx0 : 0 ≤ x) (h0 : 0 ≤ p) (h1 : p < 9223372036854775808) : IntKind.u64.wrap (x * 2 ^ min (IntKind.u64.wrap p).toNat 64) = raiseS x p := by
  rw [pos_toNat h0 h1]
  have := wrap_range (x * 2 ^ min p.toNat 64)
  apply eq_word this.1 this.2
  intro i hi
  rw [up_bits hx0 _ _ hi]
  have e : (i - p : Int).toNat = i - p.toNat := by omega
  rw [e]
  congr 1
  apply decide_eq_decide.2
  omega
theorem lower_neg {x p : Int} (hx0 : 0 ≤ x) (h0 : p < 0) (h1 : -9223372036854775808 ≤ p) : IntKind.u64.wrap (x * 2 ^ min (IntKind.u64.wrap (wrap64 (-p))).toNat 64) = lowerS x p := by
  rw [neg_toNat h0 h1]
  have := wrap_range (x * 2 ^ min (-p).toNat 64)
  apply eq_word this.1 this.2
  intro i hi
  rw [up_bits hx0 _ _ hi]
  have e : (i + p : Int).toNat = i - (-p).toNat := by omega
  rw [e]
  congr 1
  apply decide_eq_decide.2
  omega
theorem lower_pos {x p : Int} (hx0 : 0 ≤ x) (hx : x < 18446744073709551616) (h0 : 0 ≤ p) (h1 : p < 9223372036854775808) : x / 2 ^ min (IntKind.u64.wrap p).toNat 64 = lowerS x p := by
  rw [pos_toNat h0 h1]
  have := div_range hx0 hx (min p.toNat 64)
  apply eq_word this.1 this.2
  intro i hi
  rw [down_bits hx0 hx]
  have : (0 : Int) ≤ i + p := by omega
  have e : (i + p : Int).toNat = i + p.toNat := by omega
  simp [this, e]

theorem ones_low {p size : Int} (h : size < 1) : (0 : Int) = onesS p size := by
  apply eq_word (by omega) (by omega)
  intro i hi
  rw [tb_zero, eq_comm]
  unfold inP
  rw [decide_eq_false_iff_not]
  omega
theorem ones_neg {p size : Int} (h : 1 ≤ size) (h0 : p < 0) : maskS (p + size) = onesS p size := by
  apply word_congr
  intro i hi
  unfold inP
  apply decide_eq_decide.2
  omega
theorem ones_pos {p size : Int} (h : 1 ≤ size) (h0 : 0 ≤ p) : raiseS (maskS size) p = onesS p size := by
  apply word_congr
  intro i hi
  unfold maskS inP
  rw [tb_word]
  by_cases c : (0 : Int) ≤ i - p
  · have h1 : (i - p : Int).toNat < 64 := by omega
    simp only [c, h1, decide_true, Bool.true_and]
    apply decide_eq_decide.2
    omega
  · rw [decide_eq_false c, Bool.false_and, eq_comm, decide_eq_false_iff_not]
    omega
theorem cut_and (x p size : Int) : bits .and .u64 (lowerS x p) (maskS size) = cutS x p size := by
  have a := lowerS_range x p
  have b := maskS_range size
  have c := and_range a.1 a.2 b.1 b.2
  apply eq_word c.1 c.2
  intro i hi
  rw [tb_and a.1 a.2 b.1 b.2]
  unfold lowerS maskS
  rw [tb_word, tb_word]
  simp only [hi, decide_true, Bool.true_and]
  rw [Bool.decide_and, Int.add_comm p]
  generalize tb x _ = t
  cases decide ((i : Int) < size) <;> cases decide ((0 : Int) ≤ i + p) <;> cases t <;> rfl
theorem put_or {x p size n : Int} (hx0 : 0 ≤ x) (hx : x < 18446744073709551616) : bits .or .u64 (bits .andNot .u64 x (onesS p size)) (bits .and .u64 (raiseS n p) (onesS p size)) = putS x p size n := by
  have a := onesS_range p size
  have b := raiseS_range n p
  have c := andNot_range hx0 hx a.1 a.2
  have d := and_range b.1 b.2 a.1 a.2
  have e := or_range c.1 c.2 d.1 d.2
  apply eq_word e.1 e.2
  intro i hi
  rw [tb_or c.1 c.2 d.1 d.2, tb_andNot hx0 hx a.1 a.2, tb_and b.1 b.2 a.1 a.2]
  unfold onesS raiseS
  rw [tb_word, tb_word]
  simp only [hi, decide_true, Bool.true_and]
  by_cases g : inP p size i = true
  · have h1 : (0 : Int) ≤ i - p := by
      unfold inP at g
      have := of_decide_eq_true g
      omega
    rw [decide_eq_true h1]
    simp [g]
  · rw [Bool.not_eq_true] at g
    simp [g]
theorem sign_all {x size : Int} (hx0 : 0 ≤ x) (hx : x < 18446744073709551616) (h : 63 < size) : x = signS x size := by
  unfold signS
  rw [if_neg (by omega)]
  apply eq_word hx0 hx
  intro i hi
  rw [if_pos (by omega)]
theorem sign_mid {x size : Int} (hx0 : 0 ≤ x) (h1 : 1 ≤ size) (h2 : size ≤ 63) :
    IntKind.u64.wrap (wrap64 (IntKind.u64.wrap (x * 2 ^ (64 - size).toNat)) / 2 ^ (64 - size).toNat) = signS x size := by
  unfold signS
  rw [if_neg (by omega)]
  have a := wrap_range (x * 2 ^ (64 - size).toNat)
  have b := wrap_range (wrap64 (IntKind.u64.wrap (x * 2 ^ (64 - size).toNat)) / 2 ^ (64 - size).toNat)
  apply eq_word b.1 b.2
  intro i hi
  rw [tb_sra a.1 a.2 _ _ hi]
  have u : ∀ j, j < 64 → tb (IntKind.u64.wrap (x * 2 ^ (64 - size).toNat)) j = (decide ((64 - size).toNat ≤ j) && tb x (j - (64 - size).toNat)) := by
    intro j hj
    rw [tb_wrap (mul_nonneg' hx0 _), tb_mul hx0]
    simp [hj]
  by_cases c : i + (64 - size).toNat < 64
  · have c2 : (i : Int) < size := by omega
    rw [if_pos c, u _ c, if_pos c2]
    simp
  · have c2 : ¬ (i : Int) < size := by omega
    rw [if_neg c, u _ (by omega), if_neg c2]
    have e : 63 - (64 - size).toNat = (size - 1).toNat := by omega
    have e2 : (64 - size).toNat ≤ 63 := by omega
    rw [e]
    simp [e2]
theorem sign_low {x size : Int} (h : size < 1) : (0 : Int) = signS x size := by
  unfold signS
  rw [if_pos h]
theorem and_low {s : Int} (h0 : 0 ≤ s) (h : s < 18446744073709551616) (k : Nat) (hk : k ≤ 63) : bits .and .u64 s (2 ^ k - 1) = s % 2 ^ k := by
  have hp := pow_le hk
  rw [u64_and s (2 ^ k - 1) h0 h (by omega) (by omega)]
  obtain ⟨S, rfl⟩ := Int.eq_ofNat_of_zero_le h0
  have e : ((2 : Int) ^ k - 1).toNat = 2 ^ k - 1 := by
    have := Nat.two_pow_pos k
    rw [pow_cast]
    omega
  rw [e, Int.toNat_natCast, Nat.and_two_pow_sub_one_eq_mod, pow_cast, Int.natCast_emod]
theorem and63 {s : Int} (h0 : 0 ≤ s) (h : s < 18446744073709551616) : bits .and .u64 s 63 = s % 64 := and_low h0 h 6 (by omega)
theorem and31 {s : Int} (h0 : 0 ≤ s) (h : s < 18446744073709551616) : bits .and .u64 s 31 = s % 32 := and_low h0 h 5 (by omega)
end Go.Proofs.YthehcplogkgkeaaGreatDoor.Wd
set_option maxRecDepth 4000
namespace Go.Proofs.YthehcplogkgkeaaGreatDoor
open Go.ChangeShapes Go.WideShapes Go.ChangeAt Go.RowKit Wd

theorem ret_u {k : IntKind} {a b : Int} (h : a = b) : Ending.returned (.int k a) = .returned (.int k b) := by rw [h]
theorem ret_b {a b : Bool} (h : a = b) : Ending.returned (.bool a) = .returned (.bool b) := by rw [h]

theorem mask_c (s : Int) (w : World) : Calls Tryz.prog 127 #[.int .i64 s] w fun e w' => e = .returned (.int .u64 (maskS s)) ∧ w = w' := by
  by_cases h1 : s < 1
  · go_enter Tryz.func127, Tryz.ntmps127
    go_wp2
    go_ret
    exact ⟨ret_u (mask_low h1), rfl⟩
  · by_cases h2 : 63 < s
    · have H1 := Lib.hid h1
      go_enter Tryz.func127, Tryz.ntmps127
      go_wp2
      go_ret
      exact ⟨ret_u (mask_all h2), rfl⟩
    · go_enter Tryz.func127, Tryz.ntmps127
      go_wp2
      go_ret
      exact ⟨ret_u (mask_mid (by omega) (by omega)), rfl⟩

theorem lower_c (x p : Int) (w : World) (hx0 : 0 ≤ x) (hx : x < 18446744073709551616) (hp0 : -9223372036854775808 ≤ p) (hp : p < 9223372036854775808) :
    Calls Tryz.prog 126 #[.int .u64 x, .int .i64 p] w fun e w' => e = .returned (.int .u64 (lowerS x p)) ∧ w = w' := by
  have H := Lib.hid (And.intro (And.intro hx0 hx) (And.intro hp0 hp))
  clear hx0 hx hp0 hp
  by_cases h1 : p < 0
  · go_enter Tryz.func126, Tryz.ntmps126
    go_wp2
    go_ret
    exact ⟨ret_u (lower_neg H.out.1.1 h1 H.out.2.1), rfl⟩
  · go_enter Tryz.func126, Tryz.ntmps126
    go_wp2
    go_ret
    exact ⟨ret_u (lower_pos H.out.1.1 H.out.1.2 (by omega) H.out.2.2), rfl⟩

theorem cut_c (x p s : Int) (w : World) (hx0 : 0 ≤ x) (hx : x < 18446744073709551616) (hp0 : -9223372036854775808 ≤ p) (hp : p < 9223372036854775808) :
    Calls Tryz.prog 92 #[.int .u64 x, .int .i64 p, .int .i64 s] w fun e w' => e = .returned (.int .u64 (cutS x p s)) ∧ w = w' := by
  go_enter Tryz.func92, Tryz.ntmps92
  go_wp2_with fail
  refine (lower_c _ _ _ hx0 hx hp0 hp).mono ?_
  rintro e w' ⟨rfl, rfl⟩
  go_wp2_with fail
  refine (mask_c _ _).mono ?_
  rintro e w' ⟨rfl, rfl⟩
  have H := Lib.hid (cut_and x p s)
  go_wp2_with fail
  go_ret
  exact ⟨ret_u H.out, rfl⟩

theorem sign_c (x s : Int) (w : World) (hx0 : 0 ≤ x) (hx : x < 18446744073709551616) :
    Calls Tryz.prog 93 #[.int .u64 x, .int .i64 s] w fun e w' => e = .returned (.int .u64 (signS x s)) ∧ w = w' := by
  by_cases h1 : s < 1
  · go_enter Tryz.func93, Tryz.ntmps93
    go_wp2
    go_ret
    exact ⟨ret_u (sign_low h1), rfl⟩
  · by_cases h2 : 63 < s
    · go_enter Tryz.func93, Tryz.ntmps93
      go_wp2
      go_ret
      exact ⟨ret_u (sign_all hx0 hx h2), rfl⟩
    · go_enter Tryz.func93, Tryz.ntmps93
      go_wp2
      go_ret
      exact ⟨ret_u (sign_mid hx0 (by omega) (by omega)), rfl⟩

def lessS (a b : Int) : Bool := decide (wrap64 a < wrap64 b)
def sllS (x n : Int) : Int := IntKind.u64.wrap (x * 2 ^ (n % 64).toNat)
def srlS (x n : Int) : Int := x / 2 ^ (n % 64).toNat
def sraS (x n : Int) : Int := IntKind.u64.wrap (wrap64 x / 2 ^ (n % 64).toNat)
def sllwS (x n : Int) : Int := signS (IntKind.u64.wrap (x * 2 ^ (n % 32).toNat)) 32
def srlwS (x n : Int) : Int := signS (cutS x 0 32 / 2 ^ (n % 32).toNat) 32
def srawS (x n : Int) : Int := sraS (signS x 32) (n % 32)

end Go.Proofs.YthehcplogkgkeaaGreatDoor
set_option maxRecDepth 4000
namespace Go.Proofs.YthehcplogkgkeaaGreatDoor
open Go.ChangeShapes Go.WideShapes Go.ChangeAt Go.RowKit Wd

def bi (b : Bool) : Int := if b then 1 else 0
theorem bi_range (b : Bool) : 0 ≤ bi b ∧ bi b ≤ 1 := by cases b <;> simp [bi]
def tbI (x i : Int) : Bool := decide (0 ≤ i ∧ i ≤ 63) && tb x i.toNat
theorem tbI_nat (x : Int) (k : Nat) (h : k < 64) : tbI x k = tb x k := by
  unfold tbI
  have : (0 : Int) ≤ k ∧ (k : Int) ≤ 63 := by omega
  simp [this]
theorem bi_bit {x : Int} (h0 : 0 ≤ x) (k : Nat) (hk : k < 64) : x / 2 ^ k % 2 = bi (tbI x k) := by
  rw [tbI_nat x k hk]
  unfold tb
  rw [Nat.testBit_eq_decide_div_mod_eq]
  obtain ⟨X, rfl⟩ := Int.eq_ofNat_of_zero_le h0
  rw [Int.toNat_natCast, pow_cast, ← Int.natCast_ediv]
  unfold bi
  generalize X / 2 ^ k = q
  by_cases c : q % 2 = 1
  · simp [c]; omega
  · simp [c]; omega

set_option maxHeartbeats 400000 in
theorem bit_c (x i : Int) (w : World) (hx0 : 0 ≤ x) (hx : x < 18446744073709551616) :
    Calls Tryz.prog 53 #[.int .u64 x, .int .i64 i] w fun e w' => e = .returned (.int .u64 (bi (tbI x i))) ∧ w = w' := by
  by_cases h1 : i < 0
  · have e : bi (tbI x i) = 0 := by
      have : ¬ (0 ≤ i ∧ i ≤ 63) := by omega
      simp [tbI, this, bi]
    have H := Lib.hid e
    clear e
    go_enter Tryz.func53, Tryz.ntmps53
    go_wp2
    go_ret
    exact ⟨ret_u H.out.symm, rfl⟩
  · by_cases h2 : 63 < i
    · have e : bi (tbI x i) = 0 := by
        have : ¬ (0 ≤ i ∧ i ≤ 63) := by omega
        simp [tbI, this, bi]
      have H := Lib.hid e
      clear e
      go_enter Tryz.func53, Tryz.ntmps53
      go_wp2
      go_ret
      exact ⟨ret_u H.out.symm, rfl⟩
    · obtain ⟨n, rfl⟩ := Int.eq_ofNat_of_zero_le (a := i) (by omega)
      have hn : n ≤ 63 := by omega
      have H := Lib.hid (bi_bit hx0 n (by omega))
      clear h1 h2
      go_enter Tryz.func53, Tryz.ntmps53
      go_wp2
      go_loop [0, 5] (fun t i => ∃ k : Nat, k ≤ n ∧ i = .int .i64 k ∧ t = .int .u64 (x / 2 ^ k)) (fun _ i => n - (intOf i).toNat)
      case atStart => exact ⟨0, Nat.zero_le _, rfl, by simp⟩
      case round =>
        obtain ⟨k, hk, rfl, rfl⟩ := hrel
        have hd := div_range hx0 hx k
        obtain ⟨hd0, hd1⟩ := hd
        by_cases hlt : k < n
        · have hE := Lib.hid (show x / 2 ^ k / 2 = x / 2 ^ (k + 1) from by rw [Int.pow_succ, Int.ediv_ediv_of_nonneg (Int.le_of_lt (Int.pow_pos (by decide)))])
          go_wp2
          go_round
          case rel => exact ⟨k + 1, by omega, by go_num, by rw [hE.out]⟩
          case measure => simp [intOf]; omega
        · obtain rfl : n = k := by omega
          go_wp2
          go_ret
          exact ⟨ret_u H.out, rfl⟩

/-! ### Of -/
def bl (f : Nat → Bool) (k : Nat) : List Value := (List.range k).map fun j => Value.int .u64 (bi (f j))
theorem bl_len (f : Nat → Bool) (k : Nat) : (bl f k).length = k := by simp [bl]
theorem bl_succ (f : Nat → Bool) (k : Nat) : bl f (k + 1) = bl f k ++ [.int .u64 (bi (f k))] := by simp [bl, List.range_succ]
theorem bl_at (f : Nat → Bool) (k j : Nat) (h : j < k) : (bl f k)[j]? = some (.int .u64 (bi (f j))) := by simp [bl, h]

theorem of_step (f : Nat → Bool) (n k : Nat) (hk : k < n) : 2 * (((sumTo f n : Nat) : Int) / 2 ^ (k + 1)) + bi (f k) = ((sumTo f n : Nat) : Int) / 2 ^ k := by
  have h := testBit_sumTo f n k
  rw [Nat.testBit_eq_decide_div_mod_eq] at h
  simp only [hk, decide_true, Bool.true_and] at h
  rw [pow_cast, pow_cast, ← Int.natCast_ediv, ← Int.natCast_ediv, Nat.pow_succ, ← Nat.div_div_eq_div_mul]
  generalize sumTo f n / 2 ^ k = q at *
  rw [← h]
  unfold bi
  by_cases c : q % 2 = 1
  · simp [c]; omega
  · simp [c]; omega
theorem of_range (f : Nat → Bool) (n : Nat) (hn : n ≤ 64) (k : Nat) : 0 ≤ ((sumTo f n : Nat) : Int) / 2 ^ k ∧ ((sumTo f n : Nat) : Int) / 2 ^ k < 18446744073709551616 := by
  apply div_range (by omega)
  have a := sumTo_lt f n
  have b : 2 ^ n ≤ 2 ^ 64 := Nat.pow_le_pow_right (by decide) hn
  omega
theorem of_end (f : Nat → Bool) (n : Nat) : ((sumTo f n : Nat) : Int) / 2 ^ n = 0 := by
  have a := sumTo_lt f n
  rw [pow_cast, ← Int.natCast_ediv, Nat.div_eq_of_lt a]
  rfl
theorem of_wrap {a b c : Int} (h : 2 * a + b = c) (h0 : 0 ≤ c) (h1 : c < 18446744073709551616) : IntKind.u64.wrap (IntKind.u64.wrap (2 * a) + b) = c := by
  rw [IntKind.wrap_u64, IntKind.wrap_u64]; omega

set_option maxHeartbeats 400000 in
theorem of_c (f : Nat → Bool) (n : Nat) (v : Value) (base : Nat) (w : World) (h0 : 0 < n) (hn : n ≤ 64) (hown : w.ownsRow base 41 1 v n (bl f n)) :
    Calls Tryz.prog 85 #[v] w fun e w' => e = .returned (.int .u64 ((sumTo f n : Nat) : Int)) ∧ w = w' := by
  obtain ⟨g, cap, cur, rfl, hb, hg, hcap, hmax, hcs, htake⟩ := hown.2.resolve_left (fun h => by omega)
  have hcell : ∀ j, j < n → w.cell? ⟨g, j, none⟩ = some (.int .u64 (bi (f j))) := fun j hj => by
    rw [hown.cellAt j (by omega), bl_at f n j hj]
  have HC := Lib.hid hcell
  clear hcell hg hcs htake hb hmax
  have HO := Lib.hid hown
  clear hown
  go_enter Tryz.func85, Tryz.ntmps85
  go_wp2
  go_loop [3, 4] (fun t i => ∃ k : Nat, k ≤ n ∧ i = .int .i64 ((k : Int) - 1) ∧ t = .int .u64 (((sumTo f n : Nat) : Int) / 2 ^ k)) (fun _ i => ((intOf i) + 1).toNat)
  case atStart => exact ⟨n, Nat.le_refl _, rfl, by rw [of_end]⟩
  case round =>
    obtain ⟨k, hk, rfl, rfl⟩ := hrel
    rcases k with _ | k
    · go_wp2
      go_ret
      exact ⟨ret_u (by simp), rfl⟩
    · have hc := HC.out k (by omega)
      have hs := of_step f n k (by omega)
      obtain ⟨hr0, hr1⟩ := of_range f n hn k
      have hE := Lib.hid (of_wrap hs hr0 hr1)
      clear hs hr0 hr1
      have hi : (((k + 1 : Nat) : Int) - 1) = k := by omega
      rw [hi]
      go_wp2
      go_round
      case rel => exact ⟨k, by omega, rfl, by rw [hE.out]⟩
      case measure => simp [intOf]
end Go.Proofs.YthehcplogkgkeaaGreatDoor
set_option maxRecDepth 4000
namespace Go.Proofs.YthehcplogkgkeaaGreatDoor
open Go.ChangeShapes Go.WideShapes Go.ChangeAt Go.RowKit Wd

def inK (p : Int) (i : Nat) : Int := if 1000 < (i : Int) - p then 1000 else (i : Int) - p
theorem in_yes (p s : Int) (i : Nat) (w : World) (hi : i < 64) (_hp0 : -9223372036854775808 ≤ p) (hs : s < 9223372036854775808) (hin : inP p s i = true) :
    Calls Tryz.prog 87 #[.int .i64 p, .int .i64 s, .int .i64 i] w fun e w' => e = .returned (.tuple #[.int .i64 (inK p i), .bool true]) ∧ w = w' := by
  obtain ⟨h1, h2, h3⟩ := of_decide_eq_true hin
  clear hin
  have h3' : (i : Int) - p < s := by omega
  have h0' : 0 ≤ (i : Int) - p := by omega
  clear h3
  have he : IntKind.u64.wrap (↑i - IntKind.u64.wrap p) = ↑i - p := by rw [IntKind.wrap_u64, IntKind.wrap_u64]; omega
  by_cases c : 1000 < (i : Int) - p
  · have hk : inK p i = 1000 := by unfold inK; rw [if_pos c]
    have H := Lib.hid hk
    clear hk
    have hneg : p < 0 := by omega
    go_enter Tryz.func87, Tryz.ntmps87
    go_wp2
    go_ret2
    exact ⟨by rw [H.out]; rfl, rfl⟩
  · have hk : inK p i = i - p := by unfold inK; rw [if_neg c]
    have H := Lib.hid hk
    clear hk
    by_cases hneg : p < 0
    · go_enter Tryz.func87, Tryz.ntmps87
      go_wp2
      go_ret2
      exact ⟨by rw [H.out]; rfl, rfl⟩
    · clear he
      go_enter Tryz.func87, Tryz.ntmps87
      go_wp2
      go_ret2
      exact ⟨by rw [H.out]; rfl, rfl⟩
theorem in_no (p s : Int) (i : Nat) (w : World) (hi : i < 64) (hp0 : -9223372036854775808 ≤ p) (hs : s < 9223372036854775808) (hin : inP p s i = false) :
    Calls Tryz.prog 87 #[.int .i64 p, .int .i64 s, .int .i64 i] w fun e w' => e = .returned (.tuple #[.int .i64 0, .bool false]) ∧ w = w' := by
  have h := of_decide_eq_false hin
  clear hin
  by_cases h1 : s < 1
  · clear h
    go_enter Tryz.func87, Tryz.ntmps87
    go_wp2
    go_ret2
    exact ⟨rfl, rfl⟩
  · by_cases h2 : (i : Int) < p
    · clear h
      go_enter Tryz.func87, Tryz.ntmps87
      go_wp2
      go_ret2
      exact ⟨rfl, rfl⟩
    · have h3' : s ≤ (i : Int) - p := by omega
      have h0' : 0 ≤ (i : Int) - p := by omega
      have h1' : 1 ≤ s := by omega
      have h2' : p ≤ (i : Int) := by omega
      clear h h1 h2
      have he : IntKind.u64.wrap (↑i - IntKind.u64.wrap p) = ↑i - p := by rw [IntKind.wrap_u64, IntKind.wrap_u64]; omega
      by_cases hneg : p < 0
      · go_enter Tryz.func87, Tryz.ntmps87
        go_wp2
        go_ret2
        exact ⟨rfl, rfl⟩
      · clear he
        go_enter Tryz.func87, Tryz.ntmps87
        go_wp2
        go_ret2
        exact ⟨rfl, rfl⟩
theorem bit_inK {n p : Int} {i : Nat} (hn : n < 18446744073709551616) (h : 0 ≤ (i : Int) - p) : tbI n (inK p i) = tb n (i - p).toNat := by
  unfold inK tbI
  by_cases c : 1000 < (i : Int) - p
  · rw [if_pos c, tb_big hn (i := (i - p : Int).toNat) (by omega)]
    simp
  · rw [if_neg c]
    by_cases c2 : (i : Int) - p ≤ 63
    · rw [decide_eq_true ⟨h, c2⟩, Bool.true_and]
    · rw [tb_big hn (i := (i - p : Int).toNat) (by omega)]
      simp
theorem inP_ge {p s : Int} {i : Nat} (h : inP p s i = true) : 0 ≤ (i : Int) - p := by
  have := of_decide_eq_true h
  omega

theorem info_u64 : (Tryz.prog.info? 41).map (fun i => (i.zero, i.size, i.bytes)) = some (some (.int .u64 0), 1, 8) := by kernel_rfl
theorem rel_app {base k : Nat} {w wr w1 : World} {v v' : Value} {f : Nat → Bool} {o : Obj} {b : Bool} (hb : base ≤ wr.heap.size) (hbf : b = f k)
    (hown : wr.ownsRow base 41 1 v k (bl f k)) (hown' : w1.ownsRow base 41 1 v' (k + 1) (bl f k ++ [.int .u64 (bi b)])) (hgrow : (wr.alloc o).grownBy w1 v.ownBlock) (hnx : Below base w wr) :
    w1.ownsRow base 41 1 v' (k + 1) (bl f (k + 1)) ∧ Below base w w1 := by
  subst hbf
  refine ⟨by rw [bl_succ]; exact hown', (hnx.alloc hb o).grown hgrow (by simp; omega) (fun j hj => (hown.lt j hj).1)⟩

theorem news_one {w : World} {u : Value} {t : TypeId} : ∀ (j : Nat) (u' : Value), [u][j]? = some u' → (w.alloc (.cells #[u] t)).cell? ((⟨w.heap.size, 0, none⟩ : Addr).add j) = some u' := by
  intro j u' hj
  match j, hj with
  | 0, hj => simp at hj; subst hj; simp [Addr.add]
theorem one_cell (b : Bool) : ∀ u ∈ [Value.int .u64 (bi b)], u.oneCell' = true := by
  intro u hu; simp at hu; subst hu; rfl

set_option maxHeartbeats 1600000 in
theorem refPut_c (x p s n : Int) (w : World) (hx0 : 0 ≤ x) (hx : x < 18446744073709551616) (hp0 : -9223372036854775808 ≤ p) (hs : s < 9223372036854775808) (hn0 : 0 ≤ n) (hn : n < 18446744073709551616) :
    Calls Tryz.prog 107 #[.int .u64 x, .int .i64 p, .int .i64 s, .int .u64 n] w fun e w' => e = .returned (.int .u64 (putS x p s n)) ∧ Below w.heap.size w w' := by
  obtain ⟨i0, hi, hz0, hz1, hz2⟩ := info_parts info_u64
  obtain ⟨f, hf⟩ : ∃ f : Nat → Bool, f = fun i => if inP p s i then tb n (i - p).toNat else tb x i := ⟨_, rfl⟩
  have HF := Lib.hid hf
  clear hf
  go_enter Tryz.func107, Tryz.ntmps107
  go_wp2
  go_loopw [9, 10] (fun v i wr => ∃ k : Nat, k ≤ 64 ∧ i = .int .i64 k ∧ wr.ownsRow w.heap.size 41 1 v k (bl f k) ∧ Below w.heap.size w wr) (fun _ i _ => 64 - (intOf i).toNat)
  case atStart => exact ⟨0, Nat.zero_le _, rfl, World.ownsRow_nil _ _ _ _, Below.refl _ _⟩
  case round =>
    obtain ⟨k, hk, rfl, hown, hnx⟩ := hrel
    have hsz := hnx.size
    have HO := Lib.hid hown
    clear hown
    by_cases hlt : k < 64
    · by_cases hin : inP p s k = true
      · have hb : tbI n (inK p k) = f k := by rw [HF.out, bit_inK hn (inP_ge hin)]; simp [hin]
        have HB := Lib.hid hb
        have HI := Lib.hid hin
        clear hb hin
        go_wp2_with (first
          | (go_at_call 87; refine (in_yes p s k _ hlt hp0 hs HI.out).mono ?_; rintro e w' ⟨rfl, rfl⟩)
          | (go_at_call 53; refine (bit_c _ _ _ hn0 hn).mono ?_; rintro e w' ⟨rfl, rfl⟩)
          | (at_builtin; refine wpList_append_own _ rfl _ _ 38 rfl w.heap.size 41 i0 (.int .u64 0) 1 8 Tryz.underlying38 hi hz0 hz1 hz2 rfl (by decide) _ _ _ rfl (HO.out.alloc _) ⟨wr.heap.size, 0, none⟩ 1 1 [.int .u64 (bi (tbI n (inK p k)))] rfl rfl news_one (one_cell _) (by unfold maxLen; omega) (by omega) (by simp; omega) ?_; intro v' w1 hown' hgrow _))
        have R := rel_app hsz HB.out HO.out hown' hgrow hnx
        go_roundw
        case rel => exact ⟨k + 1, by omega, by go_num, R.1, R.2⟩
        case measure => simp [intOf]; omega
      · have hin' : inP p s k = false := by simpa using hin
        clear hin
        have hb : tbI x k = f k := by rw [HF.out, tbI_nat x k hlt]; simp [hin']
        have HB := Lib.hid hb
        have HI := Lib.hid hin'
        clear hb hin'
        go_wp2_with (first
          | (go_at_call 87; refine (in_no p s k _ hlt hp0 hs HI.out).mono ?_; rintro e w' ⟨rfl, rfl⟩)
          | (go_at_call 53; refine (bit_c _ _ _ hx0 hx).mono ?_; rintro e w' ⟨rfl, rfl⟩)
          | (at_builtin; refine wpList_append_own _ rfl _ _ 38 rfl w.heap.size 41 i0 (.int .u64 0) 1 8 Tryz.underlying38 hi hz0 hz1 hz2 rfl (by decide) _ _ _ rfl (HO.out.alloc _) ⟨wr.heap.size, 0, none⟩ 1 1 [.int .u64 (bi (tbI x k))] rfl rfl news_one (one_cell _) (by unfold maxLen; omega) (by omega) (by simp; omega) ?_; intro v' w1 hown' hgrow _))
        have R := rel_app hsz HB.out HO.out hown' hgrow hnx
        go_roundw
        case rel => exact ⟨k + 1, by omega, by go_num, R.1, R.2⟩
        case measure => simp [intOf]; omega
    · obtain rfl : k = 64 := by omega
      go_wp2_with (go_at_call 85; refine (of_c f 64 _ w.heap.size _ (by omega) (by omega) HO.out).mono ?_; rintro e w' ⟨rfl, rfl⟩)
      go_ret
      exact ⟨by rw [HF.out]; rfl, hnx⟩
end Go.Proofs.YthehcplogkgkeaaGreatDoor
set_option maxRecDepth 4000
namespace Go.Proofs.YthehcplogkgkeaaGreatDoor
open Go.ChangeShapes Go.WideShapes Go.ChangeAt Go.RowKit Wd

theorem one_cell' (n : Int) : ∀ u ∈ [Value.int .u64 n], u.oneCell' = true := by
  intro u hu; simp at hu; subst hu; rfl

theorem signS_pos {x s : Int} (h : 1 ≤ s) : signS x s = word fun i => if (i : Int) < s then tb x i else tb x (s - 1).toNat := by
  unfold signS
  rw [if_neg (by omega)]

set_option maxHeartbeats 1600000 in
theorem refSign_c (x s : Int) (w : World) (hx0 : 0 ≤ x) (hx : x < 18446744073709551616) (hs : s < 9223372036854775808) :
    Calls Tryz.prog 86 #[.int .u64 x, .int .i64 s] w fun e w' => e = .returned (.int .u64 (signS x s)) ∧ Below w.heap.size w w' := by
  by_cases hs1 : s < 1
  · go_enter Tryz.func86, Tryz.ntmps86
    go_wp2
    go_ret
    exact ⟨ret_u (sign_low hs1), Below.refl _ _⟩
  · have hs1' : 1 ≤ s := by omega
    clear hs1
    obtain ⟨i0, hi, hz0, hz1, hz2⟩ := info_parts info_u64
    obtain ⟨f, hf⟩ : ∃ f : Nat → Bool, f = fun (i : Nat) => if (i : Int) < s then tb x i else tb x (s - 1).toNat := ⟨_, rfl⟩
    have HF := Lib.hid hf
    clear hf
    go_enter Tryz.func86, Tryz.ntmps86
    go_wp2
    go_loopw [5, 6] (fun v i wr => ∃ k : Nat, k ≤ 64 ∧ i = .int .i64 k ∧ wr.ownsRow w.heap.size 41 1 v k (bl f k) ∧ Below w.heap.size w wr) (fun _ i _ => 64 - (intOf i).toNat)
    case atStart => exact ⟨0, Nat.zero_le _, rfl, World.ownsRow_nil _ _ _ _, Below.refl _ _⟩
    case round =>
      obtain ⟨k, hk, rfl, hown, hnx⟩ := hrel
      have hsz := hnx.size
      have HO := Lib.hid hown
      clear hown
      by_cases hlt : k < 64
      · by_cases hin : (k : Int) < s
        · have hb : tbI x k = f k := by rw [HF.out, tbI_nat x k hlt]; simp [hin]
          have HB := Lib.hid hb
          clear hb
          go_wp2_with (first
            | (go_at_call 53; refine (bit_c _ _ _ hx0 hx).mono ?_; rintro e w' ⟨rfl, rfl⟩)
            | (at_builtin; refine wpList_append_own _ rfl _ _ 38 rfl w.heap.size 41 i0 (.int .u64 0) 1 8 Tryz.underlying38 hi hz0 hz1 hz2 rfl (by decide) _ _ _ rfl (HO.out.alloc _) ⟨wr.heap.size, 0, none⟩ 1 1 [.int .u64 (bi (tbI x k))] rfl rfl news_one (one_cell _) (by unfold maxLen; omega) (by omega) (by simp; omega) ?_; intro v' w1 hown' hgrow _))
          have R := rel_app hsz HB.out HO.out hown' hgrow hnx
          go_roundw
          case rel => exact ⟨k + 1, by omega, by go_num, R.1, R.2⟩
          case measure => simp [intOf]; omega
        · have hb : tbI x (s - 1) = f k := by
            rw [HF.out]
            unfold tbI
            have : 0 ≤ s - 1 ∧ s - 1 ≤ 63 := by omega
            rw [decide_eq_true this]
            simp [hin]
          have HB := Lib.hid hb
          clear hb
          go_wp2_with (first
            | (go_at_call 53; refine (bit_c _ _ _ hx0 hx).mono ?_; rintro e w' ⟨rfl, rfl⟩)
            | (at_builtin; refine wpList_append_own _ rfl _ _ 38 rfl w.heap.size 41 i0 (.int .u64 0) 1 8 Tryz.underlying38 hi hz0 hz1 hz2 rfl (by decide) _ _ _ rfl (HO.out.alloc _) ⟨wr.heap.size, 0, none⟩ 1 1 [.int .u64 (bi (tbI x (s - 1)))] rfl rfl news_one (one_cell _) (by unfold maxLen; omega) (by omega) (by simp; omega) ?_; intro v' w1 hown' hgrow _))
          have R := rel_app hsz HB.out HO.out hown' hgrow hnx
          go_roundw
          case rel => exact ⟨k + 1, by omega, by go_num, R.1, R.2⟩
          case measure => simp [intOf]; omega
      · obtain rfl : k = 64 := by omega
        go_wp2_with (go_at_call 85; refine (of_c f 64 _ w.heap.size _ (by omega) (by omega) HO.out).mono ?_; rintro e w' ⟨rfl, rfl⟩)
        go_ret
        exact ⟨by rw [signS_pos hs1', HF.out]; rfl, hnx⟩

/-! ### Cut -/
def hit (x p : Int) (k i : Nat) : Bool := decide (0 ≤ p + k ∧ p + k < i) && tb x (p + k).toNat
theorem hit_zero (x p : Int) (k : Nat) : hit x p k 0 = false := by
  unfold hit
  have : ¬ (0 ≤ p + k ∧ p + k < ((0 : Nat) : Int)) := by omega
  rw [decide_eq_false this, Bool.false_and]
theorem hit_at {x p : Int} {k i : Nat} (hi : i < 64) (h : (i : Int) - p = k) : tbI x i = hit x p k (i + 1) := by
  unfold hit
  have a : 0 ≤ p + k ∧ p + k < ((i + 1 : Nat) : Int) := by omega
  rw [decide_eq_true a, tbI_nat x i hi]
  have : (p + k).toNat = i := by omega
  simp [this]
theorem hit_not {x p : Int} {k i : Nat} (h : ¬ (i : Int) - p = k) : hit x p k i = hit x p k (i + 1) := by
  unfold hit
  congr 1
  apply decide_eq_decide.2
  omega
theorem hit_all {x p : Int} {k : Nat} (hx : x < 18446744073709551616) : hit x p k 64 = (decide (0 ≤ p + k) && tb x (p + k).toNat) := by
  unfold hit
  by_cases c : p + k < ((64 : Nat) : Int)
  · congr 1
    apply decide_eq_decide.2
    omega
  · rw [tb_big hx (by omega), Bool.and_false, Bool.and_false]
theorem inK_eq {p : Int} {k i : Nat} (hk : k < 64) (h : (i : Int) - p = k) : (inK p i == (k : Int)) = true := by
  unfold inK
  rw [if_neg (by omega), beq_iff_eq]
  omega
theorem inK_ne {p : Int} {k i : Nat} (hk : k < 64) (h : ¬ (i : Int) - p = k) : (inK p i == (k : Int)) = false := by
  unfold inK
  rw [beq_eq_false_iff_ne]
  split <;> omega
theorem cut_true {x p s : Int} {k : Nat} (hx : x < 18446744073709551616) (h : (k : Int) < s) : hit x p k 64 = (decide ((k : Int) < s ∧ 0 ≤ p + k) && tb x (p + k).toNat) := by
  rw [hit_all hx]
  congr 1
  apply decide_eq_decide.2
  omega
theorem cut_false {x p s : Int} {k : Nat} (h : ¬ (k : Int) < s) : false = (decide ((k : Int) < s ∧ 0 ≤ p + k) && tb x (p + k).toNat) := by
  have : ¬ ((k : Int) < s ∧ 0 ≤ p + k) := by omega
  rw [decide_eq_false this, Bool.false_and]

set_option maxHeartbeats 1600000 in
theorem refCut_c (x p s : Int) (w : World) (hx0 : 0 ≤ x) (hx : x < 18446744073709551616) (hp0 : -9223372036854775808 ≤ p) (hs : s < 9223372036854775808) :
    Calls Tryz.prog 52 #[.int .u64 x, .int .i64 p, .int .i64 s] w fun e w' => e = .returned (.int .u64 (cutS x p s)) ∧ Below w.heap.size w w' := by
  obtain ⟨i0, hi, hz0, hz1, hz2⟩ := info_parts info_u64
  obtain ⟨f, hf⟩ : ∃ f : Nat → Bool, f = fun (k : Nat) => decide ((k : Int) < s ∧ 0 ≤ p + k) && tb x (p + k).toNat := ⟨_, rfl⟩
  have HF := Lib.hid hf
  clear hf
  go_enter Tryz.func52, Tryz.ntmps52
  go_wp2
  go_loopw [7, 8] (fun v i wr => ∃ k : Nat, k ≤ 64 ∧ i = .int .i64 k ∧ wr.ownsRow w.heap.size 41 1 v k (bl f k) ∧ Below w.heap.size w wr) (fun _ i _ => 64 - (intOf i).toNat)
  case atStart => exact ⟨0, Nat.zero_le _, rfl, World.ownsRow_nil _ _ _ _, Below.refl _ _⟩
  case round =>
    obtain ⟨k, hk, rfl, hown, hnx⟩ := hrel
    have hsz := hnx.size
    have HO := Lib.hid hown
    clear hown
    by_cases hlt : k < 64
    · by_cases hks : (k : Int) < s
      · have hb : hit x p k 64 = f k := by rw [HF.out]; exact cut_true hx hks
        have HB := Lib.hid hb
        clear hb
        have hd1 : decide ((k : Int) < 64) = true := decide_eq_true (by omega)
        have hd2 : decide ((k : Int) < s) = true := decide_eq_true hks
        go_wp2
        clear hd1 hd2
        go_loop [9, 10] (fun t i => ∃ j : Nat, j ≤ 64 ∧ i = .int .i64 j ∧ t = .int .u64 (bi (hit x p k j))) (fun _ i => 64 - (intOf i).toNat)
        case atStart => exact ⟨0, Nat.zero_le _, rfl, by rw [hit_zero]; rfl⟩
        case round =>
          obtain ⟨j, hj, rfl, rfl⟩ := hrel
          by_cases hjl : j < 64
          · by_cases hin : inP p s j = true
            · have HI := Lib.hid hin
              clear hin
              by_cases hjk : (j : Int) - p = k
              · have he := inK_eq hlt hjk
                have HE := Lib.hid (hit_at (x := x) hjl hjk)
                have HJ := Lib.hid hjk
                clear hjk
                go_wp2_with (first
                  | (go_at_call 87; refine (in_yes p s j _ hjl hp0 hs HI.out).mono ?_; rintro e w' ⟨rfl, rfl⟩)
                  | (go_at_call 53; refine (bit_c _ _ _ hx0 hx).mono ?_; rintro e w' ⟨rfl, rfl⟩))
                go_round
                case rel => exact ⟨j + 1, by omega, by go_num, by rw [HE.out]⟩
                case measure => simp [intOf]; omega
              · have he := inK_ne hlt hjk
                have HE := Lib.hid (hit_not (x := x) hjk)
                have HJ := Lib.hid hjk
                clear hjk
                go_wp2_with (first
                  | (go_at_call 87; refine (in_yes p s j _ hjl hp0 hs HI.out).mono ?_; rintro e w' ⟨rfl, rfl⟩)
                  | (go_at_call 53; refine (bit_c _ _ _ hx0 hx).mono ?_; rintro e w' ⟨rfl, rfl⟩))
                go_round
                case rel => exact ⟨j + 1, by omega, by go_num, by rw [HE.out]⟩
                case measure => simp [intOf]; omega
            · have hin' : inP p s j = false := by simpa using hin
              have hjk : ¬ (j : Int) - p = k := by
                have := of_decide_eq_false hin'
                omega
              have HI := Lib.hid hin'
              have HE := Lib.hid (hit_not (x := x) hjk)
              clear hin hin' hjk
              go_wp2_with (go_at_call 87; refine (in_no p s j _ hjl hp0 hs HI.out).mono ?_; rintro e w' ⟨rfl, rfl⟩)
              go_round
              case rel => exact ⟨j + 1, by omega, by go_num, by rw [HE.out]⟩
              case measure => simp [intOf]; omega
          · obtain rfl : j = 64 := by omega
            go_wp2_with (at_builtin; refine wpList_append_own _ rfl _ _ 38 rfl w.heap.size 41 i0 (.int .u64 0) 1 8 Tryz.underlying38 hi hz0 hz1 hz2 rfl (by decide) _ _ _ rfl (HO.out.alloc _) ⟨wr.heap.size, 0, none⟩ 1 1 [.int .u64 (bi (hit x p k 64))] rfl rfl news_one (one_cell _) (by unfold maxLen; omega) (by omega) (by simp; omega) ?_; intro v' w1 hown' hgrow _)
            have R := rel_app hsz HB.out HO.out hown' hgrow hnx
            go_roundw
            case rel => exact ⟨k + 1, by omega, by go_num, R.1, R.2⟩
            case measure => simp [intOf]; omega
      · have hb : false = f k := by rw [HF.out]; exact cut_false hks
        have HB := Lib.hid hb
        clear hb
        go_wp2_with (at_builtin; refine wpList_append_own _ rfl _ _ 38 rfl w.heap.size 41 i0 (.int .u64 0) 1 8 Tryz.underlying38 hi hz0 hz1 hz2 rfl (by decide) _ _ _ rfl (HO.out.alloc _) ⟨wr.heap.size, 0, none⟩ 1 1 [.int .u64 0] rfl rfl news_one (one_cell' _) (by unfold maxLen; omega) (by omega) (by simp; omega) ?_; intro v' w1 hown' hgrow _)
        have R := rel_app (b := false) hsz HB.out HO.out hown' hgrow hnx
        go_roundw
        case rel => exact ⟨k + 1, by omega, by go_num, R.1, R.2⟩
        case measure => simp [intOf]; omega
    · obtain rfl : k = 64 := by omega
      go_wp2_with (go_at_call 85; refine (of_c f 64 _ w.heap.size _ (by omega) (by omega) HO.out).mono ?_; rintro e w' ⟨rfl, rfl⟩)
      go_ret
      exact ⟨by rw [HF.out]; rfl, hnx⟩
end Go.Proofs.YthehcplogkgkeaaGreatDoor
namespace Go.Proofs.YthehcplogkgkeaaGreatDoor.Tab
def names4 : List (List UInt8) := [[], [108, 117, 105], [97, 117, 105, 112, 99], [106, 97, 108], [106, 97, 108, 114], [98, 101, 113], [98, 110, 101], [98, 108, 116], [98, 103, 101], [98, 108, 116, 117], [98, 103, 101, 117], [108, 98], [108, 104], [108, 119], [108, 100], [108, 98, 117], [108, 104, 117], [108, 119, 117], [115, 98], [115, 104], [115, 119], [115, 100], [97, 100, 100, 105], [115, 108, 116, 105], [115, 108, 116, 105, 117], [120, 111, 114, 105], [111, 114, 105], [97, 110, 100, 105], [115, 108, 108, 105], [115, 114, 108, 105], [115, 114, 97, 105], [97, 100, 100], [115, 117, 98], [115, 108, 108], [115, 108, 116], [115, 108, 116, 117], [120, 111, 114], [115, 114, 108], [115, 114, 97], [111, 114], [97, 110, 100], [97, 100, 100, 105, 119], [115, 108, 108, 105, 119], [115, 114, 108, 105, 119], [115, 114, 97, 105, 119], [97, 100, 100, 119], [115, 117, 98, 119], [115, 108, 108, 119], [115, 114, 108, 119], [115, 114, 97, 119], [102, 101, 110, 99, 101], [102, 101, 110, 99, 101, 46, 105], [101, 99, 97, 108, 108], [101, 98, 114, 101, 97, 107], [109, 117, 108], [109, 117, 108, 104], [109, 117, 108, 104, 115, 117], [109, 117, 108, 104, 117], [100, 105, 118], [100, 105, 118, 117], [114, 101, 109], [114, 101, 109, 117], [109, 117, 108, 119], [100, 105, 118, 119], [100, 105, 118, 117, 119], [114, 101, 109, 119], [114, 101, 109, 117, 119], [108, 114, 46, 119], [115, 99, 46, 119], [97, 109, 111, 115, 119, 97, 112, 46, 119], [97, 109, 111, 97, 100, 100, 46, 119], [97, 109, 111, 120, 111, 114, 46, 119], [97, 109, 111, 97, 110, 100, 46, 119], [97, 109, 111, 111, 114, 46, 119], [97, 109, 111, 109, 105, 110, 46, 119], [97, 109, 111, 109, 97, 120, 46, 119], [97, 109, 111, 109, 105, 110, 117, 46, 119], [97, 109, 111, 109, 97, 120, 117, 46, 119], [108, 114, 46, 100], [115, 99, 46, 100], [97, 109, 111, 115, 119, 97, 112, 46, 100], [97, 109, 111, 97, 100, 100, 46, 100], [97, 109, 111, 120, 111, 114, 46, 100], [97, 109, 111, 97, 110, 100, 46, 100], [97, 109, 111, 111, 114, 46, 100], [97, 109, 111, 109, 105, 110, 46, 100], [97, 109, 111, 109, 97, 120, 46, 100], [97, 109, 111, 109, 105, 110, 117, 46, 100], [97, 109, 111, 109, 97, 120, 117, 46, 100], [99, 115, 114, 114, 119], [99, 115, 114, 114, 115], [99, 115, 114, 114, 99], [99, 115, 114, 114, 119, 105], [99, 115, 114, 114, 115, 105], [99, 115, 114, 114, 99, 105], [109, 114, 101, 116], [115, 114, 101, 116], [119, 102, 105], [115, 102, 101, 110, 99, 101, 46, 118, 109, 97]]
def names3 : List (List UInt8) := [[], [82], [73], [83], [66], [85], [74], [83, 104, 105, 102, 116], [83, 104, 105, 102, 116, 87], [67, 115, 114], [67, 115, 114, 73], [65], [76, 114], [66, 97, 114, 101], [83, 102, 101, 110, 99, 101]]
/-- (op, format's number, mask, match) -/
def rows3 : List (Nat × Nat × Nat × Nat) := [(1, 5, 127, 55), (2, 5, 127, 23), (3, 6, 127, 111), (4, 2, 28799, 103), (5, 4, 28799, 99), (6, 4, 28799, 4195), (7, 4, 28799, 16483), (8, 4, 28799, 20579), (9, 4, 28799, 24675), (10, 4, 28799, 28771), (11, 2, 28799, 3), (12, 2, 28799, 4099), (13, 2, 28799, 8195), (14, 2, 28799, 12291), (15, 2, 28799, 16387), (16, 2, 28799, 20483), (17, 2, 28799, 24579), (18, 3, 28799, 35), (19, 3, 28799, 4131), (20, 3, 28799, 8227), (21, 3, 28799, 12323), (22, 2, 28799, 19), (23, 2, 28799, 8211), (24, 2, 28799, 12307), (25, 2, 28799, 16403), (26, 2, 28799, 24595), (27, 2, 28799, 28691), (28, 7, 4227887231, 4115), (29, 7, 4227887231, 20499), (30, 7, 4227887231, 1073762323), (31, 1, 4261441663, 51), (32, 1, 4261441663, 1073741875), (33, 1, 4261441663, 4147), (34, 1, 4261441663, 8243), (35, 1, 4261441663, 12339), (36, 1, 4261441663, 16435), (37, 1, 4261441663, 20531), (38, 1, 4261441663, 1073762355), (39, 1, 4261441663, 24627), (40, 1, 4261441663, 28723), (41, 2, 28799, 27), (42, 8, 4261441663, 4123), (43, 8, 4261441663, 20507), (44, 8, 4261441663, 1073762331), (45, 1, 4261441663, 59), (46, 1, 4261441663, 1073741883), (47, 1, 4261441663, 4155), (48, 1, 4261441663, 20539), (49, 1, 4261441663, 1073762363), (50, 2, 28799, 15), (51, 2, 28799, 4111), (52, 13, 4294967295, 115), (53, 13, 4294967295, 1048691), (54, 1, 4261441663, 33554483), (55, 1, 4261441663, 33558579), (56, 1, 4261441663, 33562675), (57, 1, 4261441663, 33566771), (58, 1, 4261441663, 33570867), (59, 1, 4261441663, 33574963), (60, 1, 4261441663, 33579059), (61, 1, 4261441663, 33583155), (62, 1, 4261441663, 33554491), (63, 1, 4261441663, 33570875), (64, 1, 4261441663, 33574971), (65, 1, 4261441663, 33579067), (66, 1, 4261441663, 33583163), (67, 12, 4193284223, 268443695), (68, 11, 4160778367, 402661423), (69, 11, 4160778367, 134225967), (70, 11, 4160778367, 8239), (71, 11, 4160778367, 536879151), (72, 11, 4160778367, 1610620975), (73, 11, 4160778367, 1073750063), (74, 11, 4160778367, 2147491887), (75, 11, 4160778367, 2684362799), (76, 11, 4160778367, 3221233711), (77, 11, 4160778367, 3758104623), (78, 12, 4193284223, 268447791), (79, 11, 4160778367, 402665519), (80, 11, 4160778367, 134230063), (81, 11, 4160778367, 12335), (82, 11, 4160778367, 536883247), (83, 11, 4160778367, 1610625071), (84, 11, 4160778367, 1073754159), (85, 11, 4160778367, 2147495983), (86, 11, 4160778367, 2684366895), (87, 11, 4160778367, 3221237807), (88, 11, 4160778367, 3758108719), (89, 9, 28799, 4211), (90, 9, 28799, 8307), (91, 9, 28799, 12403), (92, 10, 28799, 20595), (93, 10, 28799, 24691), (94, 10, 28799, 28787), (95, 13, 4294967295, 807403635), (96, 13, 4294967295, 270532723), (97, 13, 4294967295, 273678451), (98, 14, 4261445631, 301990003)]
end Go.Proofs.YthehcplogkgkeaaGreatDoor.Tab
set_option maxRecDepth 4000
namespace Go.Proofs.YthehcplogkgkeaaGreatDoor
open Go.ChangeShapes Go.WideShapes Go.ChangeAt Go.RowKit Wd

def bsOf (l : List UInt8) : ByteArray := ⟨l.toArray⟩
abbrev strV (l : List UInt8) : Value := .string (bsOf l)
theorem info_str : (Tryz.prog.info? 9).map (fun i => (i.zero, i.size, i.bytes)) = some (some (.string ⟨#[]⟩), 1, 16) := by kernel_rfl
set_option maxHeartbeats 4000000 in
set_option maxRecDepth 1000000 in
theorem refNames4_c (w : World) : Calls Tryz.prog 24 #[] w fun e w' => e = .returned (.slice (some ⟨w.heap.size, 0, none⟩) 99 99) ∧ w.alloc (.cells (Tab.names4.map strV).toArray 9) = w' := by
  obtain ⟨i0, hi, hz0, hz1, hz2⟩ := info_parts info_str
  go_enter Tryz.func24, Tryz.ntmps24
  go_upto_region 1 with fail
  apply wp_region_lit
  refine Go.wpList_buildSlice rfl 58 9 99 _ rfl (Tab.names4.map strV).toArray i0 (.string ⟨#[]⟩) Tryz.underlying58 hi hz0 (by rw [hz1]; decide) (by rw [hz1]; decide) (by rw [hz1]; kernel_rfl) ?_
  go_wp2
  go_ret
  exact ⟨rfl, rfl⟩
end Go.Proofs.YthehcplogkgkeaaGreatDoor
set_option maxRecDepth 4000
namespace Go.Proofs.YthehcplogkgkeaaGreatDoor
open Go.ChangeShapes Go.WideShapes Go.ChangeAt Go.RowKit Wd

theorem names3_eq : ∀ k f : Fin 15, ((bsOf (Tab.names3.getD k.val [])).toList == (bsOf (Tab.names3.getD f.val [])).toList) = decide (k.val = f.val) := by decide +kernel
theorem names3_at : ∀ k : Fin 15, (Tab.names3.map strV)[k.val]? = some (strV (Tab.names3.getD k.val [])) := by
  intro k
  have h : k.val < Tab.names3.length := by have : Tab.names3.length = 15 := by decide +kernel
                                           omega
  simp [List.getD, h]
theorem names3_cell (w : World) (k : Nat) (hk : k < 15) : (w.alloc (.cells (Tab.names3.map strV).toArray 9)).cell? ⟨w.heap.size, k, none⟩ = some (strV (Tab.names3.getD k [])) := by
  rw [cell_of_row _ w.heap.size k (Tab.names3.map strV).toArray 9 (0, 0) (heap_alloc_new w _), List.getElem?_toArray]
  exact names3_at ⟨k, hk⟩
theorem names4_at : ∀ k : Fin 99, (Tab.names4.map strV)[k.val]? = some (strV (Tab.names4.getD k.val [])) := by
  intro k
  have h : k.val < Tab.names4.length := by have : Tab.names4.length = 99 := by decide +kernel
                                           omega
  simp [List.getD, h]
theorem names4_cell (w : World) (k : Nat) (hk : k < 99) : (w.alloc (.cells (Tab.names4.map strV).toArray 9)).cell? ⟨w.heap.size, k, none⟩ = some (strV (Tab.names4.getD k [])) := by
  rw [cell_of_row _ w.heap.size k (Tab.names4.map strV).toArray 9 (0, 0) (heap_alloc_new w _), List.getElem?_toArray]
  exact names4_at ⟨k, hk⟩

end Go.Proofs.YthehcplogkgkeaaGreatDoor
