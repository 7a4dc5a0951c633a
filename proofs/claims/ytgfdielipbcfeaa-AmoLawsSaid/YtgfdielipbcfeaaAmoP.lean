/-
  Plain numbers, no program: what the reference of layer 8 reckons is what package amo reckons.
-/
import Derived.Test.YtgfdielipbcfeaaAluB
import Derived.Test.YtgfdielipbcfeaaAmoA
namespace Go.Proofs.Ytgfdielipbcfeaa
open Go.ChangeShapes Go.WideShapes Go.ChangeAt Go.RowKit Wd

theorem cut64 {x : Int} (h0 : 0 ≤ x) (h : x < 18446744073709551616) : cutS x 0 64 = x := by
  symm
  apply eq_word h0 h
  intro i hi
  have a : (i : Int) < 64 ∧ (0 : Int) ≤ 0 + i := by omega
  have b : (0 + (i : Int)).toNat = i := by omega
  rw [decide_eq_true a, Bool.true_and, b]
theorem sgn64 {x : Int} (h0 : 0 ≤ x) (h : x < 18446744073709551616) : signS x 64 = x := (sign_all h0 h (by omega)).symm
theorem wrap64_inj {m x : Int} (_hm0 : 0 ≤ m) (_hm : m < 18446744073709551616) (_hx0 : 0 ≤ x) (_hx : x < 18446744073709551616) (h : wrap64 x = wrap64 m) : x = m := by unfold wrap64 at h; omega
theorem low_nat {x : Int} (h0 : 0 ≤ x) : (signS x 32).toNat % 4294967296 = x.toNat % 4294967296 := by
  have := sgn_mod h0
  have := (signS_range x 32).1
  omega
theorem low_self {x : Int} (h0 : 0 ≤ x) : (x % 4294967296).toNat = x.toNat % 4294967296 := by omega
theorem ret2_u {a b : Int} (h : a = b) : Ending.returned (.tuple #[.int .u64 a, .bool true]) = .returned (.tuple #[.int .u64 b, .bool true]) := by rw [h]
theorem amoG_0 (m x : Int) : amoG 0 m x = x := rfl
theorem amoG_1 (m x : Int) : amoG 1 m x = IntKind.u64.wrap (m + x) := rfl
theorem amoG_5 (m x : Int) : amoG 5 m x = if wrap64 x < wrap64 m then x else m := rfl
theorem amoG_6 (m x : Int) : amoG 6 m x = if wrap64 m < wrap64 x then x else m := rfl
theorem amoG_7 (m x : Int) : amoG 7 m x = if x < m then x else m := rfl
theorem amoG_8 (m x : Int) : amoG 8 m x = if m < x then x else m := rfl
theorem less_yes {a b : Int} (h : lessS a b = true) : wrap64 a < wrap64 b := of_decide_eq_true h
theorem less_no {a b : Int} (h : lessS a b = false) : ¬ wrap64 a < wrap64 b := of_decide_eq_false h
theorem xor_nat (a b c d : Nat) (h1 : a % 4294967296 = c % 4294967296) (h2 : b % 4294967296 = d % 4294967296) : (a ^^^ b) % 4294967296 = (c % 4294967296 ^^^ d % 4294967296) % 4294967296 := by
  have e : (4294967296 : Nat) = 2 ^ 32 := by decide
  rw [e] at *
  rw [Nat.xor_mod_two_pow, h1, h2, Nat.mod_eq_of_lt (Nat.xor_lt_two_pow (n := 32) (by omega) (by omega))]
theorem xor_low {m x : Int} (hm0 : 0 ≤ m) (hx0 : 0 ≤ x) : bits .xor .u64 (m % 4294967296) (x % 4294967296) % 4294967296 = bits .xor .u64 (signS m 32) (signS x 32) % 4294967296 := by
  have pm := signS_range m 32
  have px := signS_range x 32
  rw [u64_xor _ _ (by omega) (by omega) (by omega) (by omega), u64_xor _ _ pm.1 pm.2 px.1 px.2, low_self hm0, low_self hx0]
  have h := xor_nat _ _ _ _ (low_nat hm0) (low_nat hx0)
  generalize (signS m 32).toNat ^^^ (signS x 32).toNat = p at *
  generalize m.toNat % 4294967296 ^^^ x.toNat % 4294967296 = q at *
  omega
theorem and_nat (a b c d : Nat) (h1 : a % 4294967296 = c % 4294967296) (h2 : b % 4294967296 = d % 4294967296) : (a &&& b) % 4294967296 = (c % 4294967296 &&& d % 4294967296) % 4294967296 := by
  have e : (4294967296 : Nat) = 2 ^ 32 := by decide
  rw [e] at *
  rw [Nat.and_mod_two_pow, h1, h2, Nat.mod_eq_of_lt (Nat.and_lt_two_pow (n := 32) _ (by omega))]
theorem and_low {m x : Int} (hm0 : 0 ≤ m) (hx0 : 0 ≤ x) : bits .and .u64 (m % 4294967296) (x % 4294967296) % 4294967296 = bits .and .u64 (signS m 32) (signS x 32) % 4294967296 := by
  have pm := signS_range m 32
  have px := signS_range x 32
  rw [u64_and _ _ (by omega) (by omega) (by omega) (by omega), u64_and _ _ pm.1 pm.2 px.1 px.2, low_self hm0, low_self hx0]
  have h := and_nat _ _ _ _ (low_nat hm0) (low_nat hx0)
  generalize (signS m 32).toNat &&& (signS x 32).toNat = p at *
  generalize m.toNat % 4294967296 &&& x.toNat % 4294967296 = q at *
  omega
theorem or_nat (a b c d : Nat) (h1 : a % 4294967296 = c % 4294967296) (h2 : b % 4294967296 = d % 4294967296) : (a ||| b) % 4294967296 = (c % 4294967296 ||| d % 4294967296) % 4294967296 := by
  have e : (4294967296 : Nat) = 2 ^ 32 := by decide
  rw [e] at *
  rw [Nat.or_mod_two_pow, h1, h2, Nat.mod_eq_of_lt (Nat.or_lt_two_pow (n := 32) (by omega) (by omega))]
theorem or_low {m x : Int} (hm0 : 0 ≤ m) (hx0 : 0 ≤ x) : bits .or .u64 (m % 4294967296) (x % 4294967296) % 4294967296 = bits .or .u64 (signS m 32) (signS x 32) % 4294967296 := by
  have pm := signS_range m 32
  have px := signS_range x 32
  rw [u64_or _ _ (by omega) (by omega) (by omega) (by omega), u64_or _ _ pm.1 pm.2 px.1 px.2, low_self hm0, low_self hx0]
  have h := or_nat _ _ _ _ (low_nat hm0) (low_nat hx0)
  generalize (signS m 32).toNat ||| (signS x 32).toNat = p at *
  generalize m.toNat % 4294967296 ||| x.toNat % 4294967296 = q at *
  omega
theorem fin64_0 {m x : Int} (_hm0 : 0 ≤ m) (_hm : m < 18446744073709551616) (hx0 : 0 ≤ x) (hx : x < 18446744073709551616) : cutS (cutS x 0 64) 0 64 = amoG 0 m x := by
  rw [cut64 hx0 hx, cut64 hx0 hx]
  rfl
theorem fin32_0 {m x : Int} (_hm0 : 0 ≤ m) (_hm : m < 18446744073709551616) (hx0 : 0 ≤ x) (_hx : x < 18446744073709551616) : cutS (cutS x 0 32) 0 32 = amoG 0 (signS m 32) (signS x 32) % 4294967296 := by
  rw [cut32 hx0, cut32 (by omega)]
  have h := sgn_mod hx0
  rw [amoG_0]
  omega
theorem fin64_1 {m x : Int} (hm0 : 0 ≤ m) (hm : m < 18446744073709551616) (hx0 : 0 ≤ x) (hx : x < 18446744073709551616) : cutS (IntKind.u64.wrap (cutS m 0 64 + cutS x 0 64)) 0 64 = amoG 1 m x := by
  rw [cut64 hm0 hm, cut64 hx0 hx]
  exact cut64 (wrap_range _).1 (wrap_range _).2
theorem fin32_1 {m x : Int} (hm0 : 0 ≤ m) (_hm : m < 18446744073709551616) (hx0 : 0 ≤ x) (_hx : x < 18446744073709551616) : cutS (IntKind.u64.wrap (cutS m 0 32 + cutS x 0 32)) 0 32 = amoG 1 (signS m 32) (signS x 32) % 4294967296 := by
  rw [cut32 hm0, cut32 hx0, cut32 (wrap_range _).1]
  have h := sgn_mod hx0
  have h' := sgn_mod hm0
  rw [amoG_1, wrap_mod, wrap_mod]
  omega
theorem fin64_2 {m x : Int} (hm0 : 0 ≤ m) (hm : m < 18446744073709551616) (hx0 : 0 ≤ x) (hx : x < 18446744073709551616) : cutS (bits .xor .u64 (cutS m 0 64) (cutS x 0 64)) 0 64 = amoG 2 m x := by
  rw [cut64 hm0 hm, cut64 hx0 hx]
  exact cut64 (xor_range hm0 hm hx0 hx).1 (xor_range hm0 hm hx0 hx).2
theorem fin32_2 {m x : Int} (hm0 : 0 ≤ m) (_hm : m < 18446744073709551616) (hx0 : 0 ≤ x) (_hx : x < 18446744073709551616) : cutS (bits .xor .u64 (cutS m 0 32) (cutS x 0 32)) 0 32 = amoG 2 (signS m 32) (signS x 32) % 4294967296 := by
  rw [cut32 hm0, cut32 hx0, cut32 (xor_range (by omega) (by omega) (by omega) (by omega)).1]
  exact xor_low hm0 hx0
theorem fin64_3 {m x : Int} (hm0 : 0 ≤ m) (hm : m < 18446744073709551616) (hx0 : 0 ≤ x) (hx : x < 18446744073709551616) : cutS (bits .and .u64 (cutS m 0 64) (cutS x 0 64)) 0 64 = amoG 3 m x := by
  rw [cut64 hm0 hm, cut64 hx0 hx]
  exact cut64 (and_range hm0 hm hx0 hx).1 (and_range hm0 hm hx0 hx).2
theorem fin32_3 {m x : Int} (hm0 : 0 ≤ m) (_hm : m < 18446744073709551616) (hx0 : 0 ≤ x) (_hx : x < 18446744073709551616) : cutS (bits .and .u64 (cutS m 0 32) (cutS x 0 32)) 0 32 = amoG 3 (signS m 32) (signS x 32) % 4294967296 := by
  rw [cut32 hm0, cut32 hx0, cut32 (and_range (by omega) (by omega) (by omega) (by omega)).1]
  exact and_low hm0 hx0
theorem fin64_4 {m x : Int} (hm0 : 0 ≤ m) (hm : m < 18446744073709551616) (hx0 : 0 ≤ x) (hx : x < 18446744073709551616) : cutS (bits .or .u64 (cutS m 0 64) (cutS x 0 64)) 0 64 = amoG 4 m x := by
  rw [cut64 hm0 hm, cut64 hx0 hx]
  exact cut64 (or_range hm0 hm hx0 hx).1 (or_range hm0 hm hx0 hx).2
theorem fin32_4 {m x : Int} (hm0 : 0 ≤ m) (_hm : m < 18446744073709551616) (hx0 : 0 ≤ x) (_hx : x < 18446744073709551616) : cutS (bits .or .u64 (cutS m 0 32) (cutS x 0 32)) 0 32 = amoG 4 (signS m 32) (signS x 32) % 4294967296 := by
  rw [cut32 hm0, cut32 hx0, cut32 (or_range (by omega) (by omega) (by omega) (by omega)).1]
  exact or_low hm0 hx0
theorem fin64_5y {m x : Int} (hm0 : 0 ≤ m) (hm : m < 18446744073709551616) (hx0 : 0 ≤ x) (hx : x < 18446744073709551616) (h : lessS (signS (cutS x 0 64) 64) (signS (cutS m 0 64) 64) = true) : cutS (cutS x 0 64) 0 64 = amoG 5 m x := by
  rw [cut64 hm0 hm, cut64 hx0 hx, sgn64 hm0 hm, sgn64 hx0 hx] at h
  rw [cut64 hx0 hx, cut64 hx0 hx, amoG_5]
  rw [if_pos (less_yes h)]
theorem fin32_5y {m x : Int} (hm0 : 0 ≤ m) (_hm : m < 18446744073709551616) (hx0 : 0 ≤ x) (_hx : x < 18446744073709551616) (h : lessS (signS (cutS x 0 32) 32) (signS (cutS m 0 32) 32) = true) : cutS (cutS x 0 32) 0 32 = amoG 5 (signS m 32) (signS x 32) % 4294967296 := by
  have e1 := sgn_mod hm0
  have e2 := sgn_mod hx0
  rw [sgn_cut hm0, sgn_cut hx0] at h
  rw [cut32 hx0, cut32 (by omega), amoG_5]
  rw [if_pos (less_yes h)]
  omega
theorem fin64_5n {m x : Int} (hm0 : 0 ≤ m) (hm : m < 18446744073709551616) (hx0 : 0 ≤ x) (hx : x < 18446744073709551616) (h : lessS (signS (cutS x 0 64) 64) (signS (cutS m 0 64) 64) = false) : cutS (cutS m 0 64) 0 64 = amoG 5 m x := by
  rw [cut64 hm0 hm, cut64 hx0 hx, sgn64 hm0 hm, sgn64 hx0 hx] at h
  rw [cut64 hm0 hm, cut64 hm0 hm, amoG_5]
  rw [if_neg (less_no h)]
theorem fin32_5n {m x : Int} (hm0 : 0 ≤ m) (_hm : m < 18446744073709551616) (hx0 : 0 ≤ x) (_hx : x < 18446744073709551616) (h : lessS (signS (cutS x 0 32) 32) (signS (cutS m 0 32) 32) = false) : cutS (cutS m 0 32) 0 32 = amoG 5 (signS m 32) (signS x 32) % 4294967296 := by
  have e1 := sgn_mod hm0
  have e2 := sgn_mod hx0
  rw [sgn_cut hm0, sgn_cut hx0] at h
  rw [cut32 hm0, cut32 (by omega), amoG_5]
  rw [if_neg (less_no h)]
  omega
theorem fin64_6y {m x : Int} (hm0 : 0 ≤ m) (hm : m < 18446744073709551616) (hx0 : 0 ≤ x) (hx : x < 18446744073709551616) (h : lessS (signS (cutS x 0 64) 64) (signS (cutS m 0 64) 64) = false) : cutS (cutS x 0 64) 0 64 = amoG 6 m x := by
  rw [cut64 hm0 hm, cut64 hx0 hx, sgn64 hm0 hm, sgn64 hx0 hx] at h
  rw [cut64 hx0 hx, cut64 hx0 hx, amoG_6]
  have c := less_no h
  split
  · rfl
  · exact wrap64_inj hm0 hm hx0 hx (by omega)
theorem fin32_6y {m x : Int} (hm0 : 0 ≤ m) (_hm : m < 18446744073709551616) (hx0 : 0 ≤ x) (_hx : x < 18446744073709551616) (h : lessS (signS (cutS x 0 32) 32) (signS (cutS m 0 32) 32) = false) : cutS (cutS x 0 32) 0 32 = amoG 6 (signS m 32) (signS x 32) % 4294967296 := by
  have e1 := sgn_mod hm0
  have e2 := sgn_mod hx0
  rw [sgn_cut hm0, sgn_cut hx0] at h
  rw [cut32 hx0, cut32 (by omega), amoG_6]
  have c := less_no h
  have pm := signS_range m 32
  have px := signS_range x 32
  split
  · omega
  · have := wrap64_inj pm.1 pm.2 px.1 px.2 (by omega)
    omega
theorem fin64_6n {m x : Int} (hm0 : 0 ≤ m) (hm : m < 18446744073709551616) (hx0 : 0 ≤ x) (hx : x < 18446744073709551616) (h : lessS (signS (cutS x 0 64) 64) (signS (cutS m 0 64) 64) = true) : cutS (cutS m 0 64) 0 64 = amoG 6 m x := by
  rw [cut64 hm0 hm, cut64 hx0 hx, sgn64 hm0 hm, sgn64 hx0 hx] at h
  rw [cut64 hm0 hm, cut64 hm0 hm, amoG_6]
  have c := less_yes h
  rw [if_neg (by omega)]
theorem fin32_6n {m x : Int} (hm0 : 0 ≤ m) (_hm : m < 18446744073709551616) (hx0 : 0 ≤ x) (_hx : x < 18446744073709551616) (h : lessS (signS (cutS x 0 32) 32) (signS (cutS m 0 32) 32) = true) : cutS (cutS m 0 32) 0 32 = amoG 6 (signS m 32) (signS x 32) % 4294967296 := by
  have e1 := sgn_mod hm0
  have e2 := sgn_mod hx0
  rw [sgn_cut hm0, sgn_cut hx0] at h
  rw [cut32 hm0, cut32 (by omega), amoG_6]
  have c := less_yes h
  rw [if_neg (by omega)]
  omega
theorem fin64_7y {m x : Int} (hm0 : 0 ≤ m) (hm : m < 18446744073709551616) (hx0 : 0 ≤ x) (hx : x < 18446744073709551616) (h : cutS x 0 64 < cutS m 0 64) : cutS (cutS x 0 64) 0 64 = amoG 7 m x := by
  rw [cut64 hm0 hm, cut64 hx0 hx] at h
  rw [cut64 hx0 hx, cut64 hx0 hx, amoG_7]
  rw [if_pos h]
theorem fin32_7y {m x : Int} (hm0 : 0 ≤ m) (_hm : m < 18446744073709551616) (hx0 : 0 ≤ x) (_hx : x < 18446744073709551616) (h : cutS x 0 32 < cutS m 0 32) : cutS (cutS x 0 32) 0 32 = amoG 7 (signS m 32) (signS x 32) % 4294967296 := by
  have e1 := sgn_mod hm0
  have e2 := sgn_mod hx0
  rw [cut32 hm0, cut32 hx0] at h
  have k1 := sgn32 hm0
  have k2 := sgn32 hx0
  rw [cut32 hx0, cut32 (by omega), amoG_7]
  have c : signS x 32 < signS m 32 := by
    rw [k1, k2]
    (repeat' split) <;> omega
  rw [if_pos c]
  omega
theorem fin64_7n {m x : Int} (hm0 : 0 ≤ m) (hm : m < 18446744073709551616) (hx0 : 0 ≤ x) (hx : x < 18446744073709551616) (h : ¬ cutS x 0 64 < cutS m 0 64) : cutS (cutS m 0 64) 0 64 = amoG 7 m x := by
  rw [cut64 hm0 hm, cut64 hx0 hx] at h
  rw [cut64 hm0 hm, cut64 hm0 hm, amoG_7]
  rw [if_neg h]
theorem fin32_7n {m x : Int} (hm0 : 0 ≤ m) (_hm : m < 18446744073709551616) (hx0 : 0 ≤ x) (_hx : x < 18446744073709551616) (h : ¬ cutS x 0 32 < cutS m 0 32) : cutS (cutS m 0 32) 0 32 = amoG 7 (signS m 32) (signS x 32) % 4294967296 := by
  have e1 := sgn_mod hm0
  have e2 := sgn_mod hx0
  rw [cut32 hm0, cut32 hx0] at h
  have k1 := sgn32 hm0
  have k2 := sgn32 hx0
  rw [cut32 hm0, cut32 (by omega), amoG_7]
  have c : ¬ (signS x 32 < signS m 32) := by
    rw [k1, k2]
    (repeat' split) <;> omega
  rw [if_neg c]
  omega
theorem fin64_8y {m x : Int} (hm0 : 0 ≤ m) (hm : m < 18446744073709551616) (hx0 : 0 ≤ x) (hx : x < 18446744073709551616) (h : cutS m 0 64 < cutS x 0 64) : cutS (cutS x 0 64) 0 64 = amoG 8 m x := by
  rw [cut64 hm0 hm, cut64 hx0 hx] at h
  rw [cut64 hx0 hx, cut64 hx0 hx, amoG_8]
  rw [if_pos h]
theorem fin32_8y {m x : Int} (hm0 : 0 ≤ m) (_hm : m < 18446744073709551616) (hx0 : 0 ≤ x) (_hx : x < 18446744073709551616) (h : cutS m 0 32 < cutS x 0 32) : cutS (cutS x 0 32) 0 32 = amoG 8 (signS m 32) (signS x 32) % 4294967296 := by
  have e1 := sgn_mod hm0
  have e2 := sgn_mod hx0
  rw [cut32 hm0, cut32 hx0] at h
  have k1 := sgn32 hm0
  have k2 := sgn32 hx0
  rw [cut32 hx0, cut32 (by omega), amoG_8]
  have c : signS m 32 < signS x 32 := by
    rw [k1, k2]
    (repeat' split) <;> omega
  rw [if_pos c]
  omega
theorem fin64_8n {m x : Int} (hm0 : 0 ≤ m) (hm : m < 18446744073709551616) (hx0 : 0 ≤ x) (hx : x < 18446744073709551616) (h : ¬ cutS m 0 64 < cutS x 0 64) : cutS (cutS m 0 64) 0 64 = amoG 8 m x := by
  rw [cut64 hm0 hm, cut64 hx0 hx] at h
  rw [cut64 hm0 hm, cut64 hm0 hm, amoG_8]
  rw [if_neg h]
theorem fin32_8n {m x : Int} (hm0 : 0 ≤ m) (_hm : m < 18446744073709551616) (hx0 : 0 ≤ x) (_hx : x < 18446744073709551616) (h : ¬ cutS m 0 32 < cutS x 0 32) : cutS (cutS m 0 32) 0 32 = amoG 8 (signS m 32) (signS x 32) % 4294967296 := by
  have e1 := sgn_mod hm0
  have e2 := sgn_mod hx0
  rw [cut32 hm0, cut32 hx0] at h
  have k1 := sgn32 hm0
  have k2 := sgn32 hx0
  rw [cut32 hm0, cut32 (by omega), amoG_8]
  have c : ¬ (signS m 32 < signS x 32) := by
    rw [k1, k2]
    (repeat' split) <;> omega
  rw [if_neg c]
  omega
end Go.Proofs.Ytgfdielipbcfeaa
