/-
  The contract of the reference's Over (layer 2): the quotient of a wide number by a word that isn't 0, bit by bit, and what is left.
-/
import Derived.Test.YtgfdielipbcfeaaRefC
import Derived.Test.YtgfdielipbcfeaaWide
namespace Go.Proofs.Ytgfdielipbcfeaa
open Go.ChangeShapes Go.WideShapes Go.ChangeAt Go.RowKit Wd

def dbit (D : Nat) (j : Nat) : Bool := D.testBit (127 - j)
theorem half_bit (X s : Nat) : X / 2 ^ s = 2 * (X / 2 ^ (s + 1)) + (if X.testBit s then 1 else 0) := by
  rw [Nat.testBit_eq_decide_div_mod_eq, Nat.pow_succ, ← Nat.div_div_eq_div_mul]
  generalize X / 2 ^ s = q
  by_cases c : q % 2 = 1
  · simp [c]; omega
  · simp [c]; omega
theorem div_swap (N B s : Nat) : N / B / 2 ^ s = N / 2 ^ s / B := by
  rw [Nat.div_div_eq_div_mul, Nat.div_div_eq_div_mul, Nat.mul_comm]
theorem one_step {P B z : Nat} (hB : 0 < B) (hz : z ≤ 1) :
    (B ≤ 2 * (P % B) + z → (2 * P + z) % B + B = 2 * (P % B) + z ∧ (2 * P + z) / B = 2 * (P / B) + 1) ∧
    (¬ B ≤ 2 * (P % B) + z → (2 * P + z) % B = 2 * (P % B) + z ∧ (2 * P + z) / B = 2 * (P / B)) := by
  have h1 := Nat.mod_lt P hB
  have h2 := Nat.div_add_mod P B
  have e : 2 * P + z = (2 * (P % B) + z) + 2 * (P / B) * B := by
    rw [Nat.mul_assoc 2, Nat.mul_comm (P / B) B]
    omega
  constructor
  · intro h
    have e2 : 2 * P + z = (2 * (P % B) + z - B) + (2 * (P / B) + 1) * B := by
      rw [Nat.add_mul, Nat.one_mul]
      omega
    have hl : 2 * (P % B) + z - B < B := by omega
    rw [e2, Nat.add_mul_mod_self_right, Nat.add_mul_div_right _ _ hB, Nat.mod_eq_of_lt hl, Nat.div_eq_of_lt hl]
    omega
  · intro h
    have hl : 2 * (P % B) + z < B := by omega
    rw [e, Nat.add_mul_mod_self_right, Nat.add_mul_div_right _ _ hB, Nat.mod_eq_of_lt hl, Nat.div_eq_of_lt hl]
    omega
theorem bit_of_half {q : Nat} {p : Nat} (h : q = 2 * p + 1) : decide (q % 2 = 1) = true := by apply decide_eq_true; omega
theorem bit_of_half0 {q : Nat} {p : Nat} (h : q = 2 * p) : decide (q % 2 = 1) = false := by apply decide_eq_false; omega
/-- One round: what is left, and the quotient's bit. -/
theorem over_step {N B s : Nat} {z r b : Int} (hB : 0 < B) (hb : b = B) (hz : z = bi (N.testBit s)) (hr : r = ((N / 2 ^ (s + 1) % B : Nat) : Int)) :
    (b ≤ 2 * r + z → ((N / 2 ^ s % B : Nat) : Int) = 2 * r + z - b ∧ true = (N / B).testBit s) ∧ (2 * r + z < b → ((N / 2 ^ s % B : Nat) : Int) = 2 * r + z ∧ false = (N / B).testBit s) := by
  have hbit := half_bit N s
  obtain ⟨zn, hzn, hz1⟩ : ∃ zn : Nat, zn = (if N.testBit s then 1 else 0) ∧ zn ≤ 1 := ⟨_, rfl, by split <;> omega⟩
  have hzi : z = zn := by rw [hz, hzn]; unfold bi; split <;> rfl
  rw [← hzn] at hbit
  rw [Nat.testBit_eq_decide_div_mod_eq, div_swap, hbit]
  obtain ⟨h1, h2⟩ := one_step (P := N / 2 ^ (s + 1)) hB hz1
  generalize N / 2 ^ (s + 1) = P at *
  constructor
  · intro h
    obtain ⟨a, c⟩ := h1 (by omega)
    exact ⟨by omega, (bit_of_half c).symm⟩
  · intro h
    obtain ⟨a, c⟩ := h2 (by omega)
    exact ⟨by omega, (bit_of_half0 c).symm⟩
theorem over_bit_hi {hi lo : Int} {s : Nat} (l0 : 0 ≤ lo) (l1 : lo < 18446744073709551616) (hs : 63 < s) (hs2 : s < 128) : tbI hi ((s : Int) - 64) = (hi.toNat * 18446744073709551616 + lo.toNat).testBit s := by
  have e : (s : Int) - 64 = ((s - 64 : Nat) : Int) := by omega
  rw [e, tbI_nat _ _ (by omega)]
  unfold tb
  have : hi.toNat * 18446744073709551616 + lo.toNat = 2 ^ 64 * hi.toNat + lo.toNat := by rw [Nat.mul_comm]
  rw [this, Nat.testBit_two_pow_mul_add _ (by omega), if_neg (by omega)]
theorem over_bit_lo {hi lo : Int} {s : Nat} (l0 : 0 ≤ lo) (l1 : lo < 18446744073709551616) (hs : s ≤ 63) : tbI lo (s : Int) = (hi.toNat * 18446744073709551616 + lo.toNat).testBit s := by
  rw [tbI_nat _ _ (by omega)]
  unfold tb
  have : hi.toNat * 18446744073709551616 + lo.toNat = 2 ^ 64 * hi.toNat + lo.toNat := by rw [Nat.mul_comm]
  rw [this, Nat.testBit_two_pow_mul_add _ (by omega), if_pos (by omega)]
theorem over_wrap {r z b : Int} (r0 : 9223372036854775807 < r) (r1 : r < b) (b1 : b < 18446744073709551616) (z0 : 0 ≤ z) (z1 : z ≤ 1) :
    IntKind.u64.wrap (IntKind.u64.wrap (IntKind.u64.wrap (2 * r) + z) - b) = 2 * r + z - b := by
  rw [IntKind.wrap_u64, IntKind.wrap_u64, IntKind.wrap_u64]; omega
theorem join_step {D s : Nat} {k : Nat} (hk : s + k = 127) : 2 * ((D / 2 ^ (s + 1) : Nat) : Int) + bi (dbit D k) = ((D / 2 ^ s : Nat) : Int) := by
  have h := half_bit D s
  have e : dbit D k = D.testBit s := by unfold dbit; rw [show 127 - k = s by omega]
  rw [e]
  unfold bi
  split <;> simp_all <;> omega
theorem join_step_lo {D s : Nat} {k : Nat} (hk : s + k = 63) : 2 * ((D % 18446744073709551616 / 2 ^ (s + 1) : Nat) : Int) + bi (dbit D (64 + k)) = ((D % 18446744073709551616 / 2 ^ s : Nat) : Int) := by
  have h := half_bit (D % 18446744073709551616) s
  have e : dbit D (64 + k) = (D % 18446744073709551616).testBit s := by
    unfold dbit
    rw [show 127 - (64 + k) = s by omega]
    have : D % 18446744073709551616 = D % 2 ^ 64 := rfl
    rw [this, Nat.testBit_mod_two_pow]
    have : s < 64 := by omega
    simp [this]
  rw [e]
  unfold bi
  split <;> simp_all <;> omega
end Go.Proofs.Ytgfdielipbcfeaa
