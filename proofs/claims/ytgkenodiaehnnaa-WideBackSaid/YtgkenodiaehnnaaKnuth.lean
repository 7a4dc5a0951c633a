/-
  Plain numbers, no program: the division of a wide number by a word, two digits of 32 bits at a time (math/bits.Div64).
-/
import Derived.Test.YtgkenodiaehnnaaSpec
namespace Go.Proofs.Ytgkenodiaehnnaa.Kn
open Go.Proofs.Ytgkenodiaehnnaa.Wd Go.RowKit

/-- The guess q of a digit, and what it leaves: never less than the digit, and at most two more. -/
def Guess (Y u d q r : Int) : Prop := r = u - q * (Y / 4294967296) ∧ 0 ≤ r ∧ r < 4294967296 ∧ 0 ≤ q ∧ q ≤ 4294967297 ∧ (u * 4294967296 + d) / Y ≤ q
structure Fits (Y u d : Int) : Prop where
  y0 : 9223372036854775808 ≤ Y
  y1 : Y < 18446744073709551616
  u0 : 0 ≤ u
  u1 : u < Y
  d0 : 0 ≤ d
  d1 : d < 4294967296

theorem parts {Y : Int} (h0 : 9223372036854775808 ≤ Y) (h1 : Y < 18446744073709551616) : Y = Y / 4294967296 * 4294967296 + Y % 4294967296 ∧ 2147483648 ≤ Y / 4294967296 ∧ Y / 4294967296 < 4294967296 ∧ 0 ≤ Y % 4294967296 ∧ Y % 4294967296 < 4294967296 := by omega
theorem mul_parts (Y q : Int) : q * Y = q * (Y / 4294967296) * 4294967296 + q * (Y % 4294967296) := by
  have e : Y = Y / 4294967296 * 4294967296 + Y % 4294967296 := by omega
  have : q * Y = q * (Y / 4294967296 * 4294967296 + Y % 4294967296) := by rw [← e]
  rw [this, Int.mul_add, Int.mul_assoc]
theorem quo_lt {Y u d : Int} (h : Fits Y u d) : 0 ≤ (u * 4294967296 + d) / Y ∧ (u * 4294967296 + d) / Y < 4294967296 := by
  obtain ⟨y0, y1, u0, u1, d0, d1⟩ := h
  constructor
  · exact Int.ediv_nonneg (by omega) (by omega)
  · apply Int.ediv_lt_of_lt_mul (by omega)
    omega
theorem small_mul {a b A B : Int} (h0 : 0 ≤ a) (h1 : a ≤ A) (g0 : 0 ≤ b) (g1 : b ≤ B) : 0 ≤ a * b ∧ a * b ≤ A * B :=
  ⟨Int.mul_nonneg h0 g0, Int.mul_le_mul h1 g1 g0 (Int.le_trans h0 h1)⟩
theorem start {Y u d : Int} (h : Fits Y u d) : Guess Y u d (u / (Y / 4294967296)) (u - u / (Y / 4294967296) * (Y / 4294967296)) := by
  obtain ⟨y0, y1, u0, u1, d0, d1⟩ := h
  obtain ⟨e, a0, a1, b0, b1⟩ := parts y0 y1
  have hq := mul_parts Y ((u * 4294967296 + d) / Y)
  have hle := Int.ediv_mul_le (u * 4294967296 + d) (show Y ≠ 0 by omega)
  have hq0 : 0 ≤ (u * 4294967296 + d) / Y := Int.ediv_nonneg (by omega) (by omega)
  unfold Guess
  generalize (u * 4294967296 + d) / Y = Q at *
  generalize Y % 4294967296 = b at *
  generalize Y / 4294967296 = a at *
  have h1 := Int.emod_nonneg u (show a ≠ 0 by omega)
  have h2 := Int.emod_lt_of_pos u (show 0 < a by omega)
  have h3 := Int.mul_ediv_add_emod u a
  rw [Int.mul_comm] at h3
  have h4 : 0 ≤ u / a := Int.ediv_nonneg u0 (by omega)
  refine ⟨rfl, by omega, by omega, h4, ?_, ?_⟩
  · have : u / a < 4294967298 := by
      apply Int.ediv_lt_of_lt_mul (by omega)
      omega
    omega
  · apply Int.le_ediv_of_mul_le (by omega)
    have := Int.mul_nonneg hq0 b0
    generalize Q * b = x at *
    generalize Q * a = z at *
    generalize Q * Y = v at *
    omega
theorem prod {Y u d q r : Int} (h : Fits Y u d) (g : Guess Y u d q r) : 0 ≤ q * (Y % 4294967296) ∧ q * (Y % 4294967296) < 18446744073709551616 := by
  obtain ⟨e, a0, a1, b0, b1⟩ := parts h.y0 h.y1
  have := small_mul g.2.2.2.1 g.2.2.2.2.1 b0 (show Y % 4294967296 ≤ 4294967295 by omega)
  omega
theorem leaves {Y u d q r : Int} (g : Guess Y u d q r) : u * 4294967296 + d - q * Y = r * 4294967296 + d - q * (Y % 4294967296) := by
  rw [mul_parts Y q, g.1]
  generalize q * (Y / 4294967296) = z
  generalize q * (Y % 4294967296) = x
  omega
theorem stop {Y u d q r : Int} (h : Fits Y u d) (g : Guess Y u d q r) (c : q * (Y % 4294967296) ≤ 4294967296 * r + d) : q = (u * 4294967296 + d) / Y := by
  have l := leaves g
  have h1 : q ≤ (u * 4294967296 + d) / Y := by
    apply Int.le_ediv_of_mul_le (by have := h.y0; omega)
    generalize q * (Y % 4294967296) = x at *
    generalize q * Y = v at *
    omega
  have := g.2.2.2.2.2
  omega
theorem less {Y u d q r : Int} (h : Fits Y u d) (g : Guess Y u d q r) (c : 4294967296 ≤ q ∨ 4294967296 * r + d < q * (Y % 4294967296)) : (u * 4294967296 + d) / Y ≤ q - 1 ∧ 1 ≤ q := by
  have q0 := quo_lt h
  rcases c with c | c
  · omega
  · have l := leaves g
    have h1 : (u * 4294967296 + d) / Y < q := by
      apply Int.ediv_lt_of_lt_mul (by have := h.y0; omega)
      generalize q * (Y % 4294967296) = x at *
      generalize q * Y = v at *
      omega
    omega
theorem next {Y u d q r : Int} (h : Fits Y u d) (g : Guess Y u d q r) (c : 4294967296 ≤ q ∨ 4294967296 * r + d < q * (Y % 4294967296)) (hr : r + Y / 4294967296 < 4294967296) : Guess Y u d (q - 1) (r + Y / 4294967296) := by
  obtain ⟨e, a0, a1, b0, b1⟩ := parts h.y0 h.y1
  have l := less h g c
  obtain ⟨g1, g2, g3, g4, g5, g6⟩ := g
  refine ⟨?_, by omega, hr, by omega, by omega, l.1⟩
  rw [Int.sub_mul, Int.one_mul, g1]
  omega
theorem last {Y u d q r : Int} (h : Fits Y u d) (g : Guess Y u d q r) (c : 4294967296 ≤ q ∨ 4294967296 * r + d < q * (Y % 4294967296)) (hr : 4294967296 ≤ r + Y / 4294967296) : q - 1 = (u * 4294967296 + d) / Y := by
  obtain ⟨e, a0, a1, b0, b1⟩ := parts h.y0 h.y1
  have l := less h g c
  have lv := leaves g
  have e1 : (q - 1) * Y = q * Y - Y := by rw [Int.sub_mul, Int.one_mul]
  have e2 : (q - 1) * (Y % 4294967296) = q * (Y % 4294967296) - Y % 4294967296 := by rw [Int.sub_mul, Int.one_mul]
  have sm := small_mul (show 0 ≤ q - 1 by omega) (show q - 1 ≤ 4294967296 by have := g.2.2.2.2.1; omega) b0 (show Y % 4294967296 ≤ 4294967295 by omega)
  have h1 : q - 1 ≤ (u * 4294967296 + d) / Y := by
    apply Int.le_ediv_of_mul_le (by omega)
    rw [e1]
    have := h.d0
    rw [e2] at sm
    generalize q * (Y % 4294967296) = x at *
    generalize q * Y = v at *
    omega
  omega
theorem rest_range {Y u d : Int} (h : Fits Y u d) : 0 ≤ u * 4294967296 + d - (u * 4294967296 + d) / Y * Y ∧ u * 4294967296 + d - (u * 4294967296 + d) / Y * Y < Y := by
  have y0 := h.y0
  have h1 := Int.emod_nonneg (u * 4294967296 + d) (show Y ≠ 0 by omega)
  have h2 := Int.emod_lt_of_pos (u * 4294967296 + d) (show 0 < Y by omega)
  have h3 := Int.mul_ediv_add_emod (u * 4294967296 + d) Y
  rw [Int.mul_comm] at h3
  omega
/-- What is left, reckoned with wraps. -/
theorem rest_wrap {Y u d : Int} (h : Fits Y u d) : IntKind.u64.wrap (IntKind.u64.wrap (IntKind.u64.wrap (u * 4294967296) + d) - IntKind.u64.wrap ((u * 4294967296 + d) / Y * Y)) = u * 4294967296 + d - (u * 4294967296 + d) / Y * Y := by
  have r := rest_range h
  have y1 := h.y1
  generalize (u * 4294967296 + d) / Y * Y = v at *
  rw [IntKind.wrap_u64, IntKind.wrap_u64, IntKind.wrap_u64, IntKind.wrap_u64]
  omega

/-! ### the numbers moved up -/
theorem pow_split {S : Nat} (hS : S ≤ 63) : (18446744073709551616 : Int) = 2 ^ (64 - S) * 2 ^ S := by
  rw [← Int.pow_add, show 64 - S + S = 64 by omega]
  rfl
theorem moved {hi lo y Y : Int} {S : Nat} (hS : S ≤ 63) (hY : y * 2 ^ S = Y) (y1 : Y < 18446744073709551616) (h0 : 0 ≤ hi) (h1 : hi < y) (l0 : 0 ≤ lo) (l1 : lo < 18446744073709551616) :
    ∃ u e, bits .or .u64 (IntKind.u64.wrap (hi * 2 ^ S)) (lo / 2 ^ (64 - S)) = u ∧ IntKind.u64.wrap (lo * 2 ^ S) = e ∧ 0 ≤ u ∧ u < Y ∧ 0 ≤ e ∧ e < 18446744073709551616 ∧ u * 18446744073709551616 + e = (hi * 18446744073709551616 + lo) * 2 ^ S := by
  have hp : (1 : Int) ≤ 2 ^ S := (pow_le hS).1
  have hM := pow_split hS
  have hp2 : (0 : Int) < 2 ^ (64 - S) := Int.pow_pos (by decide)
  have m1 : hi * 2 ^ S + 2 ^ S ≤ Y := by
    have : (hi + 1) * 2 ^ S ≤ y * 2 ^ S := Int.mul_le_mul_of_nonneg_right (by omega) (by omega)
    rw [Int.add_mul, Int.one_mul] at this
    omega
  have m0 : 0 ≤ hi * 2 ^ S := Int.mul_nonneg h0 (by omega)
  have w1 : IntKind.u64.wrap (hi * 2 ^ S) = hi * 2 ^ S := by rw [IntKind.wrap_u64]; omega
  have k0 : 0 ≤ lo / 2 ^ (64 - S) := Int.ediv_nonneg l0 (by omega)
  have k1 : lo / 2 ^ (64 - S) < 2 ^ S := by
    apply Int.ediv_lt_of_lt_mul hp2
    rw [Int.mul_comm]
    omega
  have e1 : bits .or .u64 (hi * 2 ^ S) (lo / 2 ^ (64 - S)) = hi * 2 ^ S + lo / 2 ^ (64 - S) := by
    have r := or_range m0 (show hi * 2 ^ S < 18446744073709551616 by omega) k0 (show lo / 2 ^ (64 - S) < 18446744073709551616 by omega)
    rw [u64_or _ _ m0 (by omega) k0 (by omega)]
    obtain ⟨H, rfl⟩ := Int.eq_ofNat_of_zero_le h0
    obtain ⟨K, hK⟩ := Int.eq_ofNat_of_zero_le k0
    have f1 : ((H : Int) * 2 ^ S).toNat = 2 ^ S * H := by rw [pow_cast, ← Int.natCast_mul, Int.toNat_natCast, Nat.mul_comm]
    have f2 : K < 2 ^ S := by rw [hK, pow_cast] at k1; omega
    rw [hK, f1, Int.toNat_natCast, ← Nat.two_pow_add_eq_or_of_lt f2 H]
    rw [Int.natCast_add, Int.natCast_mul, ← pow_cast, Int.mul_comm]
  refine ⟨_, _, by rw [w1, e1], rfl, by omega, by omega, (wrap_range _).1, (wrap_range _).2, ?_⟩
  rw [IntKind.wrap_u64]
  have d1 := Int.mul_ediv_add_emod lo (2 ^ (64 - S))
  have d2 := Int.emod_nonneg lo (show (2 : Int) ^ (64 - S) ≠ 0 by omega)
  have d3 := Int.emod_lt_of_pos lo hp2
  have e2 : lo * 2 ^ S = lo / 2 ^ (64 - S) * 18446744073709551616 + lo % 2 ^ (64 - S) * 2 ^ S := by
    have : lo * 2 ^ S = (2 ^ (64 - S) * (lo / 2 ^ (64 - S)) + lo % 2 ^ (64 - S)) * 2 ^ S := by rw [d1]
    rw [this, Int.add_mul, hM]
    congr 1
    rw [Int.mul_comm (2 ^ (64 - S)), Int.mul_assoc]
  have e3 : 0 ≤ lo % 2 ^ (64 - S) * 2 ^ S := Int.mul_nonneg d2 (by omega)
  have e4 : lo % 2 ^ (64 - S) * 2 ^ S < 18446744073709551616 := by
    have : lo % 2 ^ (64 - S) * 2 ^ S < 2 ^ (64 - S) * 2 ^ S := Int.mul_lt_mul_of_pos_right d3 (by omega)
    omega
  have e5 : (hi * 18446744073709551616 + lo) * 2 ^ S = hi * 2 ^ S * 18446744073709551616 + lo * 2 ^ S := by
    rw [Int.add_mul, Int.mul_assoc, Int.mul_comm 18446744073709551616, ← Int.mul_assoc]
  rw [e5, e2]
  generalize lo % 2 ^ (64 - S) * 2 ^ S = t at *
  generalize lo / 2 ^ (64 - S) = k at *
  generalize hi * 2 ^ S = m at *
  omega
theorem finish {N y Y u e Q1 Q0 R1 R : Int} {S : Nat} (hS : S ≤ 63) (hY : y * 2 ^ S = Y) (y0 : 0 < y) (hN : u * 18446744073709551616 + e = N * 2 ^ S) (h1 : u * 4294967296 + e / 4294967296 - Q1 * Y = R1) (h2 : R1 * 4294967296 + e % 4294967296 - Q0 * Y = R) (r0 : 0 ≤ R) (r1 : R < Y) :
    Q1 * 4294967296 + Q0 = N / y ∧ R / 2 ^ S = N % y := by
  have hp : (1 : Int) ≤ 2 ^ S := (pow_le hS).1
  have k1 : N * 2 ^ S = (Q1 * 4294967296 + Q0) * Y + R := by
    rw [Int.add_mul, Int.mul_assoc, Int.mul_comm 4294967296, ← Int.mul_assoc, ← hN]
    generalize Q1 * Y = a at *
    generalize Q0 * Y = b at *
    omega
  generalize Q1 * 4294967296 + Q0 = Q at *
  have k2 : R = (N - Q * y) * 2 ^ S := by
    rw [Int.sub_mul, Int.mul_assoc, hY]
    omega
  have k3 : 0 ≤ N - Q * y := by
    by_cases c : 0 ≤ N - Q * y
    · exact c
    · have : (N - Q * y) * 2 ^ S ≤ (-1) * 2 ^ S := Int.mul_le_mul_of_nonneg_right (by omega) (by omega)
      omega
  have k4 : N - Q * y < y := by
    by_cases c : N - Q * y < y
    · exact c
    · have : y * 2 ^ S ≤ (N - Q * y) * 2 ^ S := Int.mul_le_mul_of_nonneg_right (by omega) (by omega)
      omega
  have k5 : N / y = Q := by
    apply (Int.ediv_eq_iff_of_pos y0).2
    constructor
    · omega
    · omega
  refine ⟨k5.symm, ?_⟩
  rw [k2, Int.mul_ediv_cancel _ (by omega), Int.emod_def, k5, Int.mul_comm y]
end Go.Proofs.Ytgkenodiaehnnaa.Kn
