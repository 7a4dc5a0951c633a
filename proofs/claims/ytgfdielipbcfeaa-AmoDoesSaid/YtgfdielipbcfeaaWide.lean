/-
  Contracts of package wide (layer 2) but Plus, Neg, Over and Short: each call returns the numbers that are named here.
-/
import Derived.Test.YtgfdielipbcfeaaBits
import Derived.Lib.Mul64
import Derived.Laws.Bits64b
namespace Go.Proofs.Ytgfdielipbcfeaa
open Go.ChangeShapes Go.WideShapes Go.ChangeAt Go.RowKit Wd

namespace M64
theorem maskN (a : Nat) (ha : a < 18446744073709551616) : bits .and .u64 (a : Int) 4294967295 = ((a % 4294967296 : Nat) : Int) := by
  have h := bits_and_u64_nat a 4294967295 ha (by omega)
  have e : a &&& 4294967295 = a % 4294967296 := Nat.and_two_pow_sub_one_eq_mod a 32
  rw [e] at h
  exact h
theorem divN (a : Nat) : (a : Int) / 4294967296 = ((a / 4294967296 : Nat) : Int) := by omega
theorem mulN (a b : Nat) : (a : Int) * (b : Int) = ((a * b : Nat) : Int) := (Int.natCast_mul a b).symm
theorem addN (a b : Nat) : (a : Int) + (b : Int) = ((a + b : Nat) : Int) := (Int.natCast_add a b).symm
theorem wrapN (a : Nat) (ha : a < 18446744073709551616) : IntKind.u64.wrap (a : Int) = (a : Int) := by rw [IntKind.wrap_u64]; omega
theorem wrapM (a : Nat) : IntKind.u64.wrap (a : Int) = ((a % 18446744073709551616 : Nat) : Int) := by rw [IntKind.wrap_u64]; omega
end M64

def mulHi (a b : Int) : Int := a * b / 18446744073709551616
def mulLo (a b : Int) : Int := a * b % 18446744073709551616
theorem mulLo_range (a b : Int) : 0 ≤ mulLo a b ∧ mulLo a b < 18446744073709551616 := by unfold mulLo; omega
theorem mulHi_range {a b : Int} (ha0 : 0 ≤ a) (ha : a < 18446744073709551616) (hb0 : 0 ≤ b) (hb : b < 18446744073709551616) : 0 ≤ mulHi a b ∧ mulHi a b < 18446744073709551616 := by
  unfold mulHi
  have h1 : 0 ≤ a * b := Int.mul_nonneg ha0 hb0
  have h2 : a * b ≤ 18446744073709551615 * 18446744073709551615 := Int.mul_le_mul (by omega) (by omega) hb0 (by omega)
  generalize a * b = q at *
  omega

theorem less0 {a : Int} (ha0 : 0 ≤ a) (ha : a < 18446744073709551616) : lessS a 0 = decide (9223372036854775808 ≤ a) := by
  unfold lessS
  apply decide_eq_decide.2
  unfold wrap64
  omega
def hMix (a b : Int) : Int := if 9223372036854775808 ≤ a then IntKind.u64.wrap (mulHi a b - b) else mulHi a b
def hSig (a b : Int) : Int := if 9223372036854775808 ≤ b then IntKind.u64.wrap (hMix a b - a) else hMix a b
def divS (a b : Int) : Int := if b = 0 then 18446744073709551615 else IntKind.u64.wrap (wrap64 ((wrap64 a).tdiv (wrap64 b)))
def divP (a b : Int) : Int := if b = 0 then 18446744073709551615 else a / b
theorem wrap64_ne {b : Int} (h0 : 0 ≤ b) (h : b < 18446744073709551616) (hb : ¬ b = 0) : wrap64 b ≠ 0 := by unfold wrap64; omega
def remS (a b : Int) : Int := IntKind.u64.wrap (a - IntKind.u64.wrap (b * divS a b))
def remP (a b : Int) : Int := IntKind.u64.wrap (a - IntKind.u64.wrap (b * divP a b))
/-! ### live() of the laws of layer 2 -/
end Go.Proofs.Ytgfdielipbcfeaa
