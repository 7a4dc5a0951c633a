/-
  Plain numbers, no program: what the calls of layer 1 (bits) answer, bit by bit, and that the formulas of the code come to it.
-/
import Derived.Test.YtmieabafiijfjaaDoorWord
namespace Go.Proofs.YtmieabafiijfjaaDoor.Wd
open Go.RowKit (wrap64)

def inP (p size : Int) (i : Nat) : Bool := decide (1 ≤ size ∧ p ≤ i ∧ (i : Int) < p + size)
def onesS (p size : Int) : Int := word (inP p size)
def cutS (x p size : Int) : Int := word fun k => decide ((k : Int) < size ∧ 0 ≤ p + k) && tb x (p + k).toNat
def putS (x p size n : Int) : Int := word fun i => if inP p size i then tb n (i - p).toNat else tb x i
def signS (x size : Int) : Int := if size < 1 then 0 else word fun i => if (i : Int) < size then tb x i else tb x (size - 1).toNat
def maskS (size : Int) : Int := word fun i => decide ((i : Int) < size)
def raiseS (x p : Int) : Int := word fun i => decide (0 ≤ i - p) && tb x (i - p).toNat
def lowerS (x p : Int) : Int := word fun i => decide (0 ≤ i + p) && tb x (i + p).toNat

theorem cutS_range (x p size : Int) : 0 ≤ cutS x p size ∧ cutS x p size < 18446744073709551616 := ⟨word_nonneg _, word_lt _⟩
theorem onesS_range (p size : Int) : 0 ≤ onesS p size ∧ onesS p size < 18446744073709551616 := ⟨word_nonneg _, word_lt _⟩
theorem putS_range (x p size n : Int) : 0 ≤ putS x p size n ∧ putS x p size n < 18446744073709551616 := ⟨word_nonneg _, word_lt _⟩
theorem maskS_range (size : Int) : 0 ≤ maskS size ∧ maskS size < 18446744073709551616 := ⟨word_nonneg _, word_lt _⟩
theorem raiseS_range (x p : Int) : 0 ≤ raiseS x p ∧ raiseS x p < 18446744073709551616 := ⟨word_nonneg _, word_lt _⟩
theorem lowerS_range (x p : Int) : 0 ≤ lowerS x p ∧ lowerS x p < 18446744073709551616 := ⟨word_nonneg _, word_lt _⟩
theorem signS_range (x size : Int) : 0 ≤ signS x size ∧ signS x size < 18446744073709551616 := by
  unfold signS
  split
  · omega
  · exact ⟨word_nonneg _, word_lt _⟩

theorem mask_low {s : Int} (h : s < 1) : (0 : Int) = maskS s := by
  apply eq_word (by omega) (by omega)
  intro i hi
  rw [tb_zero, eq_comm, decide_eq_false_iff_not]
  omega
theorem mask_all {s : Int} (h : 63 < s) : (18446744073709551615 : Int) = maskS s := by
  apply eq_word (by omega) (by omega)
  intro i hi
  rw [tb_ones hi, eq_comm, decide_eq_true_iff]
  omega
theorem pow_le {k : Nat} (h : k ≤ 63) : (1 : Int) ≤ 2 ^ k ∧ (2 : Int) ^ k ≤ 9223372036854775808 := by
  have h1 : 2 ^ k ≤ 2 ^ 63 := Nat.pow_le_pow_right (by decide) h
  have h2 : 0 < 2 ^ k := Nat.two_pow_pos k
  rw [pow_cast]
  omega
theorem mask_mid {s : Int} (h1 : 1 ≤ s) (h2 : s ≤ 63) : IntKind.u64.wrap (IntKind.u64.wrap (2 ^ s.toNat) - 1) = maskS s := by
  have hp := pow_le (k := s.toNat) (by omega)
  have e : IntKind.u64.wrap (IntKind.u64.wrap (2 ^ s.toNat) - 1) = 2 ^ s.toNat - 1 := by
    rw [IntKind.wrap_u64, IntKind.wrap_u64]
    generalize (2 : Int) ^ s.toNat = q at *
    omega
  rw [e]
  apply eq_word (by omega) (by omega)
  intro i hi
  rw [tb_pow_sub_one]
  apply decide_eq_decide.2
  omega

theorem neg_toNat {p : Int} (h0 : p < 0) (h1 : -9223372036854775808 ≤ p) : (IntKind.u64.wrap (wrap64 (-p))).toNat = (-p).toNat := by
  rw [IntKind.wrap_u64]; unfold wrap64; omega
theorem pos_toNat {p : Int} (h0 : 0 ≤ p) (h1 : p < 9223372036854775808) : (IntKind.u64.wrap p).toNat = p.toNat := by
  rw [IntKind.wrap_u64]; omega
theorem down_bits {x : Int} (hx0 : 0 ≤ x) (hx : x < 18446744073709551616) (k i : Nat) : tb (x / 2 ^ min k 64) i = tb x (i + k) := by
  rw [tb_div hx0]
  by_cases c : k ≤ 64
  · rw [Nat.min_eq_left c]
  · rw [tb_big hx (by omega), tb_big hx (by omega)]
theorem up_bits {x : Int} (hx0 : 0 ≤ x) (k i : Nat) (hi : i < 64) : tb (IntKind.u64.wrap (x * 2 ^ min k 64)) i = (decide (k ≤ i) && tb x (i - k)) := by
  rw [tb_wrap (mul_nonneg' hx0 _), tb_mul hx0]
  by_cases c : k ≤ 64
  · rw [Nat.min_eq_left c]; simp [hi]
  · have h1 : ¬ min k 64 ≤ i := by omega
    have h2 : ¬ k ≤ i := by omega
    simp [h1, h2]
theorem raise_neg {x p : Int} (hx0 : 0 ≤ x) (hx : x < 18446744073709551616) (h0 : p < 0) (h1 : -9223372036854775808 ≤ p) : x / 2 ^ min (IntKind.u64.wrap (wrap64 (-p))).toNat 64 = raiseS x p := by
  rw [neg_toNat h0 h1]
  have := div_range hx0 hx (min (-p).toNat 64)
  apply eq_word this.1 this.2
  intro i hi
  rw [down_bits hx0 hx]
  have : (0 : Int) ≤ i - p := by omega
  have e : (i - p : Int).toNat = i + (-p).toNat := by omega
  rw [decide_eq_true this, e, Bool.true_and]
theorem raise_pos {x p : Int} (hx0 : 0 ≤ x) (h0 : 0 ≤ p) (h1 : p < 9223372036854775808) : IntKind.u64.wrap (x * 2 ^ min (IntKind.u64.wrap p).toNat 64) = raiseS x p := by
  rw [pos_toNat h0 h1]
  have := wrap_range (x * 2 ^ min p.toNat 64)
  apply eq_word this.1 this.2
  intro i hi
  rw [up_bits hx0 _ _ hi]
  have e : (i - p : Int).toNat = i - p.toNat := by omega
  rw [e]
  congr 1
  apply decide_eq_decide.2
  omega
theorem lower_neg {x p : Int} (hx0 : 0 ≤ x) (h0 : p < 0) (h1 : -9223372036854775808 ≤ p) : IntKind.u64.wrap (x * 2 ^ min (IntKind.u64.wrap (wrap64 (-p))).toNat 64) = lowerS x p := by
  rw [neg_toNat h0 h1]
  have := wrap_range (x * 2 ^ min (-p).toNat 64)
  apply eq_word this.1 this.2
  intro i hi
  rw [up_bits hx0 _ _ hi]
  have e : (i + p : Int).toNat = i - (-p).toNat := by omega
  rw [e]
  congr 1
  apply decide_eq_decide.2
  omega
theorem lower_pos {x p : Int} (hx0 : 0 ≤ x) (hx : x < 18446744073709551616) (h0 : 0 ≤ p) (h1 : p < 9223372036854775808) : x / 2 ^ min (IntKind.u64.wrap p).toNat 64 = lowerS x p := by
  rw [pos_toNat h0 h1]
  have := div_range hx0 hx (min p.toNat 64)
  apply eq_word this.1 this.2
  intro i hi
  rw [down_bits hx0 hx]
  have : (0 : Int) ≤ i + p := by omega
  have e : (i + p : Int).toNat = i + p.toNat := by omega
  simp [this, e]

theorem ones_low {p size : Int} (h : size < 1) : (0 : Int) = onesS p size := by
  apply eq_word (by omega) (by omega)
  intro i hi
  rw [tb_zero, eq_comm]
  unfold inP
  rw [decide_eq_false_iff_not]
  omega
theorem ones_neg {p size : Int} (h : 1 ≤ size) (h0 : p < 0) : maskS (p + size) = onesS p size := by
  apply word_congr
  intro i hi
  unfold inP
  apply decide_eq_decide.2
  omega
theorem ones_pos {p size : Int} (h : 1 ≤ size) (h0 : 0 ≤ p) : raiseS (maskS size) p = onesS p size := by
  apply word_congr
  intro i hi
  unfold maskS inP
  rw [tb_word]
  by_cases c : (0 : Int) ≤ i - p
  · have h1 : (i - p : Int).toNat < 64 := by omega
    simp only [c, h1, decide_true, Bool.true_and]
    apply decide_eq_decide.2
    omega
  · rw [decide_eq_false c, Bool.false_and, eq_comm, decide_eq_false_iff_not]
    omega
theorem cut_and (x p size : Int) : bits .and .u64 (lowerS x p) (maskS size) = cutS x p size := by
  have a := lowerS_range x p
  have b := maskS_range size
  have c := and_range a.1 a.2 b.1 b.2
  apply eq_word c.1 c.2
  intro i hi
  rw [tb_and a.1 a.2 b.1 b.2]
  unfold lowerS maskS
  rw [tb_word, tb_word]
  simp only [hi, decide_true, Bool.true_and]
  rw [Bool.decide_and, Int.add_comm p]
  generalize tb x _ = t
  cases decide ((i : Int) < size) <;> cases decide ((0 : Int) ≤ i + p) <;> cases t <;> rfl
theorem put_or {x p size n : Int} (hx0 : 0 ≤ x) (hx : x < 18446744073709551616) : bits .or .u64 (bits .andNot .u64 x (onesS p size)) (bits .and .u64 (raiseS n p) (onesS p size)) = putS x p size n := by
  have a := onesS_range p size
  have b := raiseS_range n p
  have c := andNot_range hx0 hx a.1 a.2
  have d := and_range b.1 b.2 a.1 a.2
  have e := or_range c.1 c.2 d.1 d.2
  apply eq_word e.1 e.2
  intro i hi
  rw [tb_or c.1 c.2 d.1 d.2, tb_andNot hx0 hx a.1 a.2, tb_and b.1 b.2 a.1 a.2]
  unfold onesS raiseS
  rw [tb_word, tb_word]
  simp only [hi, decide_true, Bool.true_and]
  by_cases g : inP p size i = true
  · have h1 : (0 : Int) ≤ i - p := by
      unfold inP at g
      have := of_decide_eq_true g
      omega
    rw [decide_eq_true h1]
    simp [g]
  · rw [Bool.not_eq_true] at g
    simp [g]
theorem sign_all {x size : Int} (hx0 : 0 ≤ x) (hx : x < 18446744073709551616) (h : 63 < size) : x = signS x size := by
  unfold signS
  rw [if_neg (by omega)]
  apply eq_word hx0 hx
  intro i hi
  rw [if_pos (by omega)]
theorem sign_mid {x size : Int} (hx0 : 0 ≤ x) (h1 : 1 ≤ size) (h2 : size ≤ 63) :
    IntKind.u64.wrap (wrap64 (IntKind.u64.wrap (x * 2 ^ (64 - size).toNat)) / 2 ^ (64 - size).toNat) = signS x size := by
  unfold signS
  rw [if_neg (by omega)]
  have a := wrap_range (x * 2 ^ (64 - size).toNat)
  have b := wrap_range (wrap64 (IntKind.u64.wrap (x * 2 ^ (64 - size).toNat)) / 2 ^ (64 - size).toNat)
  apply eq_word b.1 b.2
  intro i hi
  rw [tb_sra a.1 a.2 _ _ hi]
  have u : ∀ j, j < 64 → tb (IntKind.u64.wrap (x * 2 ^ (64 - size).toNat)) j = (decide ((64 - size).toNat ≤ j) && tb x (j - (64 - size).toNat)) := by
    intro j hj
    rw [tb_wrap (mul_nonneg' hx0 _), tb_mul hx0]
    simp [hj]
  by_cases c : i + (64 - size).toNat < 64
  · have c2 : (i : Int) < size := by omega
    rw [if_pos c, u _ c, if_pos c2]
    simp
  · have c2 : ¬ (i : Int) < size := by omega
    rw [if_neg c, u _ (by omega), if_neg c2]
    have e : 63 - (64 - size).toNat = (size - 1).toNat := by omega
    have e2 : (64 - size).toNat ≤ 63 := by omega
    rw [e]
    simp [e2]
theorem sign_low {x size : Int} (h : size < 1) : (0 : Int) = signS x size := by
  unfold signS
  rw [if_pos h]
theorem and_low {s : Int} (h0 : 0 ≤ s) (h : s < 18446744073709551616) (k : Nat) (hk : k ≤ 63) : bits .and .u64 s (2 ^ k - 1) = s % 2 ^ k := by
  have hp := pow_le hk
  rw [u64_and s (2 ^ k - 1) h0 h (by omega) (by omega)]
  obtain ⟨S, rfl⟩ := Int.eq_ofNat_of_zero_le h0
  have e : ((2 : Int) ^ k - 1).toNat = 2 ^ k - 1 := by
    have := Nat.two_pow_pos k
    rw [pow_cast]
    omega
  rw [e, Int.toNat_natCast, Nat.and_two_pow_sub_one_eq_mod, pow_cast, Int.natCast_emod]
theorem and63 {s : Int} (h0 : 0 ≤ s) (h : s < 18446744073709551616) : bits .and .u64 s 63 = s % 64 := and_low h0 h 6 (by omega)
theorem and31 {s : Int} (h0 : 0 ≤ s) (h : s < 18446744073709551616) : bits .and .u64 s 31 = s % 32 := and_low h0 h 5 (by omega)
end Go.Proofs.YtmieabafiijfjaaDoor.Wd
