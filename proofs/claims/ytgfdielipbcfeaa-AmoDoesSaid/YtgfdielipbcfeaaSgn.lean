/-
  Plain numbers, no program: the sign of 32 bits as a sum, and what hangs on the lowest 32 bits alone.
-/
import Derived.Test.YtgfdielipbcfeaaShort
import Derived.Test.YtgfdielipbcfeaaShift
import Derived.Test.YtgfdielipbcfeaaKeeps
namespace Go.Proofs.Ytgfdielipbcfeaa
open Go.ChangeShapes Go.WideShapes Go.ChangeAt Go.RowKit Wd

theorem sgn32 {x : Int} (hx0 : 0 ≤ x) : signS x 32 = if x % 4294967296 < 2147483648 then x % 4294967296 else x % 4294967296 + 18446744069414584320 := by
  rw [← sign_mid hx0 (by omega) (by omega)]
  have e : ((64 : Int) - 32).toNat = 32 := by decide
  have e2 : (2 : Int) ^ 32 = 4294967296 := by decide
  rw [e, e2, IntKind.wrap_u64, IntKind.wrap_u64]
  unfold wrap64
  split <;> omega
theorem sgn_mod {x : Int} (hx0 : 0 ≤ x) : signS x 32 % 4294967296 = x % 4294967296 := by
  rw [sgn32 hx0]
  split <;> omega
theorem sgn_eq {x y : Int} (hx0 : 0 ≤ x) (hy0 : 0 ≤ y) (h : x % 4294967296 = y % 4294967296) : signS x 32 = signS y 32 := by
  rw [sgn32 hx0, sgn32 hy0, h]
theorem sgn_cut {x : Int} (hx0 : 0 ≤ x) : signS (cutS x 0 32) 32 = signS x 32 := by
  rw [cut32 hx0]
  exact sgn_eq (by omega) hx0 (by omega)
theorem half_cut {x : Int} (hx0 : 0 ≤ x) (p : Bool) : halfS (cutS x 0 32) p = halfS x p := by
  cases p
  · show signS (cutS x 0 32) 32 = signS x 32
    exact sgn_cut hx0
  · show cutS x 0 32 % 4294967296 = x % 4294967296
    rw [cut32 hx0]; omega
theorem half_sgn {x : Int} (hx0 : 0 ≤ x) (p : Bool) : halfS (signS x 32) p = halfS x p := by
  cases p
  · show signS (signS x 32) 32 = signS x 32
    exact keep_sign x 32
  · show signS x 32 % 4294967296 = x % 4294967296
    exact sgn_mod hx0
theorem wrap_mod (x : Int) : IntKind.u64.wrap x % 4294967296 = x % 4294967296 := by rw [IntKind.wrap_u64]; omega
theorem sgn_wrap {x y : Int} (h : x % 4294967296 = y % 4294967296) : signS (IntKind.u64.wrap x) 32 = signS (IntKind.u64.wrap y) 32 :=
  sgn_eq (wrap_range x).1 (wrap_range y).1 (by rw [wrap_mod, wrap_mod, h])
theorem addw_low {a b : Int} (ha0 : 0 ≤ a) (hb0 : 0 ≤ b) : signS (IntKind.u64.wrap (cutS a 0 32 + signS b 32)) 32 = signS (IntKind.u64.wrap (a + b)) 32 := by
  have h1 := sgn_mod hb0
  have h2 := cut32 ha0
  exact sgn_wrap (by omega)
theorem subw_low {a b : Int} (ha0 : 0 ≤ a) (hb0 : 0 ≤ b) : signS (IntKind.u64.wrap (cutS a 0 32 - signS b 32)) 32 = signS (IntKind.u64.wrap (a - b)) 32 := by
  have h1 := sgn_mod hb0
  have h2 := cut32 ha0
  exact sgn_wrap (by omega)
theorem sgn_32 {b : Int} (hb0 : 0 ≤ b) : signS b 32 % 32 = b % 32 := by
  have h1 := sgn_mod hb0
  omega
theorem sllw_low {a b : Int} (ha0 : 0 ≤ a) (hb0 : 0 ≤ b) : sllwS (cutS a 0 32) (signS b 32) = sllwS a b := by
  unfold sllwS
  rw [sgn_32 hb0, cut32 ha0]
  apply sgn_wrap
  rw [Int.mul_emod, Int.emod_emod_of_dvd _ (Int.dvd_refl _), ← Int.mul_emod]
theorem srlw_low {a b : Int} (ha0 : 0 ≤ a) (hb0 : 0 ≤ b) : srlwS (cutS a 0 32) (signS b 32) = srlwS a b := by
  unfold srlwS
  rw [sgn_32 hb0, cut32 (cutS_range a 0 32).1, cut32 ha0, Int.emod_emod_of_dvd _ (Int.dvd_refl _)]
theorem sraw_low {a b : Int} (ha0 : 0 ≤ a) (hb0 : 0 ≤ b) : srawS (cutS a 0 32) (signS b 32) = srawS a b := by
  unfold srawS
  rw [sgn_32 hb0, sgn_cut ha0]
theorem sraw_sgn (a b : Int) : signS (srawS a b) 32 = srawS a b := by
  rw [sraw_ref (F := (b % 32).toNat) (by omega) (by omega)]
  exact keep_sign _ 32
theorem or_plus (n : Nat) : ∀ a b : Nat, a < 2 ^ n → (a ||| b) + (a &&& b) = a + b := by
  induction n with
  | zero =>
    intro a b h
    obtain rfl : a = 0 := by omega
    simp
  | succ n ih =>
    intro a b h
    have i := ih (a / 2) (b / 2) (by rw [Nat.pow_succ] at h; omega)
    have o1 : (a ||| b) / 2 = a / 2 ||| b / 2 := Nat.or_div_two
    have o2 : (a &&& b) / 2 = a / 2 &&& b / 2 := Nat.and_div_two
    have m1 : (a ||| b) % 2 = 1 ↔ a % 2 = 1 ∨ b % 2 = 1 := Nat.or_mod_two_eq_one
    have m2 : (a &&& b) % 2 = 1 ↔ a % 2 = 1 ∧ b % 2 = 1 := Nat.and_mod_two_eq_one
    generalize a ||| b = o at *
    generalize a &&& b = d at *
    generalize a / 2 ||| b / 2 = o' at *
    generalize a / 2 &&& b / 2 = d' at *
    omega
theorem or_and {a b : Int} (ha0 : 0 ≤ a) (ha : a < 18446744073709551616) (hb0 : 0 ≤ b) (hb : b < 18446744073709551616) : bits .or .u64 a b + bits .and .u64 a b = a + b := by
  rw [u64_or a b ha0 ha hb0 hb, u64_and a b ha0 ha hb0 hb]
  have := or_plus 64 a.toNat b.toNat (by omega)
  omega
theorem xor_back {a b : Int} (ha0 : 0 ≤ a) (ha : a < 18446744073709551616) (hb0 : 0 ≤ b) (hb : b < 18446744073709551616) : bits .xor .u64 (bits .xor .u64 a b) b = a := by
  have e := u64_xor a b ha0 ha hb0 hb
  have l := Nat.xor_lt_two_pow (x := a.toNat) (y := b.toNat) (n := 64) (by omega) (by omega)
  rw [u64_xor (bits .xor .u64 a b) b (by omega) (by omega) hb0 hb, e, Int.toNat_natCast, Nat.xor_assoc, Nat.xor_self, Nat.xor_zero]
  omega
theorem sub_add {a b : Int} (ha0 : 0 ≤ a) (ha : a < 18446744073709551616) : IntKind.u64.wrap (IntKind.u64.wrap (a + b) - b) = a := by
  rw [IntKind.wrap_u64, IntKind.wrap_u64]; omega
theorem div_back {a b q : Int} (ha0 : 0 ≤ a) (ha : a < 18446744073709551616) : IntKind.u64.wrap (IntKind.u64.wrap (q * b) + IntKind.u64.wrap (a - IntKind.u64.wrap (b * q))) = a := by
  rw [Int.mul_comm q b]
  simp only [IntKind.wrap_u64]
  generalize b * q = p
  omega
end Go.Proofs.Ytgfdielipbcfeaa
