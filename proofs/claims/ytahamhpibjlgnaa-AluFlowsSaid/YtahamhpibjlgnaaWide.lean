/-
  Contracts of package wide (layer 2) but Plus, Neg, Over and Short: each call returns the numbers that are named here.
-/
import Derived.Test.YtahamhpibjlgnaaBits
import Derived.Lib.Mul64
import Derived.Laws.Bits64b
namespace Go.Proofs.Ytahamhpibjlgnaa
open Go.ChangeShapes Go.WideShapes Go.ChangeAt Go.RowKit Wd

namespace M64
theorem maskN (a : Nat) (ha : a < 18446744073709551616) : bits .and .u64 (a : Int) 4294967295 = ((a % 4294967296 : Nat) : Int) := by
  have h := bits_and_u64_nat a 4294967295 ha (by omega)
  have e : a &&& 4294967295 = a % 4294967296 := Nat.and_two_pow_sub_one_eq_mod a 32
  rw [e] at h
  exact h
theorem divN (a : Nat) : (a : Int) / 4294967296 = ((a / 4294967296 : Nat) : Int) := by omega
theorem mulN (a b : Nat) : (a : Int) * (b : Int) = ((a * b : Nat) : Int) := (Int.natCast_mul a b).symm
theorem addN (a b : Nat) : (a : Int) + (b : Int) = ((a + b : Nat) : Int) := (Int.natCast_add a b).symm
theorem wrapN (a : Nat) (ha : a < 18446744073709551616) : IntKind.u64.wrap (a : Int) = (a : Int) := by rw [IntKind.wrap_u64]; omega
theorem wrapM (a : Nat) : IntKind.u64.wrap (a : Int) = ((a % 18446744073709551616 : Nat) : Int) := by rw [IntKind.wrap_u64]; omega
end M64

def mulHi (a b : Int) : Int := a * b / 18446744073709551616
def mulLo (a b : Int) : Int := a * b % 18446744073709551616
theorem mulLo_range (a b : Int) : 0 ≤ mulLo a b ∧ mulLo a b < 18446744073709551616 := by unfold mulLo; omega
theorem mulHi_range {a b : Int} (ha0 : 0 ≤ a) (ha : a < 18446744073709551616) (hb0 : 0 ≤ b) (hb : b < 18446744073709551616) : 0 ≤ mulHi a b ∧ mulHi a b < 18446744073709551616 := by
  unfold mulHi
  have h1 : 0 ≤ a * b := Int.mul_nonneg ha0 hb0
  have h2 : a * b ≤ 18446744073709551615 * 18446744073709551615 := Int.mul_le_mul (by omega) (by omega) hb0 (by omega)
  generalize a * b = q at *
  omega

set_option maxHeartbeats 1000000 in
theorem mul64_nat (x y : Nat) (hx : x < 18446744073709551616) (hy : y < 18446744073709551616) (w : World) :
    Calls Try.prog 79 #[.int .u64 x, .int .u64 y] w fun e w' => e = .returned (.tuple #[.int .u64 ((x * y / 18446744073709551616 : Nat) : Int), .int .u64 ((x * y % 18446744073709551616 : Nat) : Int)]) ∧ w = w' := by
  obtain ⟨bd, bt, bw, hhi⟩ := Lib.mul64_hi x y hx hy
  have ba := Lib.half_mul_le (a := x / 4294967296) (b := y / 4294967296) (by omega) (by omega)
  have bb := Lib.half_mul_le (a := x / 4294967296) (b := y % 4294967296) (by omega) (by omega)
  have bc := Lib.half_mul_le (a := x % 4294967296) (b := y / 4294967296) (by omega) (by omega)
  have ba' : x / 4294967296 * (y / 4294967296) < 18446744073709551616 := by omega
  have bb' : x / 4294967296 * (y % 4294967296) < 18446744073709551616 := by omega
  have bc' : x % 4294967296 * (y / 4294967296) < 18446744073709551616 := by omega
  have bh1 : x / 4294967296 * (y / 4294967296) + (x / 4294967296 * (y % 4294967296) + x % 4294967296 * (y % 4294967296) / 4294967296) / 4294967296 < 18446744073709551616 := by omega
  have bh : x / 4294967296 * (y / 4294967296) + (x / 4294967296 * (y % 4294967296) + x % 4294967296 * (y % 4294967296) / 4294967296) / 4294967296 + ((x / 4294967296 * (y % 4294967296) + x % 4294967296 * (y % 4294967296) / 4294967296) % 4294967296 + x % 4294967296 * (y / 4294967296)) / 4294967296 < 18446744073709551616 := by omega
  go_enter Try.func79, Try.ntmps79
  go_wp2
  simp only [M64.maskN x hx, M64.maskN y hy, M64.divN, M64.mulN, M64.addN, M64.wrapN _ bd, M64.wrapN _ bb', M64.wrapN _ bt, M64.maskN _ bt, M64.wrapN _ bc', M64.wrapN _ bw, M64.wrapN _ ba', M64.wrapN _ bh1, M64.wrapN _ bh, M64.wrapM (x * y)]
  rw [hhi]
  go_ret2
  exact ⟨rfl, rfl⟩
theorem mul64_c (a b : Int) (w : World) (ha0 : 0 ≤ a) (ha : a < 18446744073709551616) (hb0 : 0 ≤ b) (hb : b < 18446744073709551616) :
    Calls Try.prog 79 #[.int .u64 a, .int .u64 b] w fun e w' => e = .returned (.tuple #[.int .u64 (mulHi a b), .int .u64 (mulLo a b)]) ∧ w = w' := by
  obtain ⟨x, rfl⟩ := Int.eq_ofNat_of_zero_le ha0
  obtain ⟨y, rfl⟩ := Int.eq_ofNat_of_zero_le hb0
  have e1 : mulHi (x : Int) (y : Int) = ((x * y / 18446744073709551616 : Nat) : Int) := by unfold mulHi; rw [M64.mulN]; omega
  have e2 : mulLo (x : Int) (y : Int) = ((x * y % 18446744073709551616 : Nat) : Int) := by unfold mulLo; rw [M64.mulN]; omega
  rw [e1, e2]
  exact mul64_nat x y (by omega) (by omega) w

set_option maxHeartbeats 400000 in
theorem times_c (a b : Int) (w : World) (ha0 : 0 ≤ a) (ha : a < 18446744073709551616) (hb0 : 0 ≤ b) (hb : b < 18446744073709551616) :
    Calls Try.prog 71 #[.int .u64 a, .int .u64 b] w fun e w' => e = .returned (.agg #[.int .u64 (mulHi a b), .int .u64 (mulLo a b)]) ∧ Below w.heap.size w w' := by
  go_enter Try.func71, Try.ntmps71
  go_wp2_with fail
  refine (mul64_c _ _ _ ha0 ha hb0 hb).mono ?_
  rintro e w' ⟨rfl, rfl⟩
  go_wp2_with fail
  refine bodyPost_ret (v := .agg #[.int .u64 (mulHi a b), .int .u64 (mulLo a b)]) (by simp [results, Try.results71, go_sem]) rfl ⟨rfl, ?_⟩
  exact (Below.refl _ _).alloc (Nat.le_refl _) _
theorem mul_c (a b : Int) (w : World) : Calls Try.prog 49 #[.int .u64 a, .int .u64 b] w fun e w' => e = .returned (.int .u64 (mulLo a b)) ∧ w = w' := by
  have H := Lib.hid (show IntKind.u64.wrap (a * b) = mulLo a b from by rw [IntKind.wrap_u64]; rfl)
  go_enter Try.func49, Try.ntmps49
  go_wp2
  go_ret
  exact ⟨ret_u H.out, rfl⟩
theorem field_hi (x y : Int) (w : World) : (Instr.field 72 (.agg #[.int .u64 x, .int .u64 y]) 0).run Try.prog w = .ok (.int .u64 x) w := by kernel_rfl
theorem field_lo (x y : Int) (w : World) : (Instr.field 72 (.agg #[.int .u64 x, .int .u64 y]) 1).run Try.prog w = .ok (.int .u64 y) w := by kernel_rfl
set_option maxHeartbeats 400000 in
theorem highPlain_c (a b : Int) (w : World) (ha0 : 0 ≤ a) (ha : a < 18446744073709551616) (hb0 : 0 ≤ b) (hb : b < 18446744073709551616) :
    Calls Try.prog 52 #[.int .u64 a, .int .u64 b] w fun e w' => e = .returned (.int .u64 (mulHi a b)) ∧ Below w.heap.size w w' := by
  go_enter Try.func52, Try.ntmps52
  go_wp2_with fail
  refine (times_c _ _ _ ha0 ha hb0 hb).mono ?_
  rintro e w1 ⟨rfl, hB⟩
  have hfd := field_hi (mulHi a b) (mulLo a b)
  go_wp2_with fail
  go_ret
  exact ⟨rfl, hB⟩
theorem less0 {a : Int} (ha0 : 0 ≤ a) (ha : a < 18446744073709551616) : lessS a 0 = decide (9223372036854775808 ≤ a) := by
  unfold lessS
  apply decide_eq_decide.2
  unfold wrap64
  omega
theorem negative_c (a : Int) (w : World) :
    Calls Try.prog 70 #[.int .u64 a] w fun e w' => e = .returned (.bool (lessS a 0)) ∧ w = w' := by
  go_enter Try.func70, Try.ntmps70
  go_wp2_with fail
  refine (less_c _ _ _).mono ?_
  rintro e w' ⟨rfl, rfl⟩
  go_wp2_with fail
  go_ret
  exact ⟨rfl, rfl⟩
def hMix (a b : Int) : Int := if 9223372036854775808 ≤ a then IntKind.u64.wrap (mulHi a b - b) else mulHi a b
def hSig (a b : Int) : Int := if 9223372036854775808 ≤ b then IntKind.u64.wrap (hMix a b - a) else hMix a b
set_option maxHeartbeats 400000 in
theorem highMixed_c (a b : Int) (w : World) (ha0 : 0 ≤ a) (ha : a < 18446744073709551616) (hb0 : 0 ≤ b) (hb : b < 18446744073709551616) :
    Calls Try.prog 51 #[.int .u64 a, .int .u64 b] w fun e w' => e = .returned (.int .u64 (hMix a b)) ∧ Below w.heap.size w w' := by
  have hl := less0 ha0 ha
  obtain ⟨q0, q1⟩ := mulHi_range ha0 ha hb0 hb
  by_cases c : 9223372036854775808 ≤ a
  · rw [decide_eq_true c] at hl
    have H := Lib.hid (show IntKind.u64.wrap (mulHi a b - b) = hMix a b from by unfold hMix; rw [if_pos c])
    go_enter Try.func51, Try.ntmps51
    go_wp2_with fail
    refine (highPlain_c _ _ _ ha0 ha hb0 hb).mono ?_
    rintro e w1 ⟨rfl, hB⟩
    go_wp2_with fail
    refine (negative_c _ _).mono ?_
    rintro e w' ⟨rfl, rfl⟩
    go_wp2_with fail
    go_ret
    exact ⟨ret_u H.out, hB⟩
  · rw [decide_eq_false c] at hl
    have H := Lib.hid (show mulHi a b = hMix a b from by unfold hMix; rw [if_neg c])
    go_enter Try.func51, Try.ntmps51
    go_wp2_with fail
    refine (highPlain_c _ _ _ ha0 ha hb0 hb).mono ?_
    rintro e w1 ⟨rfl, hB⟩
    go_wp2_with fail
    refine (negative_c _ _).mono ?_
    rintro e w' ⟨rfl, rfl⟩
    go_wp2_with fail
    go_ret
    exact ⟨ret_u H.out, hB⟩
set_option maxHeartbeats 400000 in
theorem high_c (a b : Int) (w : World) (ha0 : 0 ≤ a) (ha : a < 18446744073709551616) (hb0 : 0 ≤ b) (hb : b < 18446744073709551616) :
    Calls Try.prog 50 #[.int .u64 a, .int .u64 b] w fun e w' => e = .returned (.int .u64 (hSig a b)) ∧ Below w.heap.size w w' := by
  have hl := less0 hb0 hb
  by_cases c : 9223372036854775808 ≤ b
  · rw [decide_eq_true c] at hl
    have H := Lib.hid (show IntKind.u64.wrap (hMix a b - a) = hSig a b from by unfold hSig; rw [if_pos c])
    go_enter Try.func50, Try.ntmps50
    go_wp2_with fail
    refine (highMixed_c _ _ _ ha0 ha hb0 hb).mono ?_
    rintro e w1 ⟨rfl, hB⟩
    go_wp2_with fail
    refine (negative_c _ _).mono ?_
    rintro e w' ⟨rfl, rfl⟩
    go_wp2_with fail
    go_ret
    exact ⟨ret_u H.out, hB⟩
  · rw [decide_eq_false c] at hl
    have H := Lib.hid (show hMix a b = hSig a b from by unfold hSig; rw [if_neg c])
    go_enter Try.func50, Try.ntmps50
    go_wp2_with fail
    refine (highMixed_c _ _ _ ha0 ha hb0 hb).mono ?_
    rintro e w1 ⟨rfl, hB⟩
    go_wp2_with fail
    refine (negative_c _ _).mono ?_
    rintro e w' ⟨rfl, rfl⟩
    go_wp2_with fail
    go_ret
    exact ⟨ret_u H.out, hB⟩
def divS (a b : Int) : Int := if b = 0 then 18446744073709551615 else IntKind.u64.wrap (wrap64 ((wrap64 a).tdiv (wrap64 b)))
def divP (a b : Int) : Int := if b = 0 then 18446744073709551615 else a / b
theorem wrap64_ne {b : Int} (h0 : 0 ≤ b) (h : b < 18446744073709551616) (hb : ¬ b = 0) : wrap64 b ≠ 0 := by unfold wrap64; omega
theorem div_c (a b : Int) (w : World) (hb0 : 0 ≤ b) (hb : b < 18446744073709551616) :
    Calls Try.prog 53 #[.int .u64 a, .int .u64 b] w fun e w' => e = .returned (.int .u64 (divS a b)) ∧ w = w' := by
  by_cases c : b = 0
  · subst c
    go_enter Try.func53, Try.ntmps53
    go_wp2
    go_ret
    exact ⟨rfl, rfl⟩
  · have h1 := wrap64_ne hb0 hb c
    have h2 : (b == 0) = false := by simpa using c
    have H := Lib.hid (show IntKind.u64.wrap (wrap64 ((wrap64 a).tdiv (wrap64 b))) = divS a b from by unfold divS; rw [if_neg c])
    go_enter Try.func53, Try.ntmps53
    go_wp2
    go_ret
    exact ⟨ret_u H.out, rfl⟩
theorem divPlain_c (a b : Int) (w : World) (ha0 : 0 ≤ a) (ha : a < 18446744073709551616) (hb0 : 0 ≤ b) (hb : b < 18446744073709551616) :
    Calls Try.prog 54 #[.int .u64 a, .int .u64 b] w fun e w' => e = .returned (.int .u64 (divP a b)) ∧ w = w' := by
  by_cases c : b = 0
  · subst c
    go_enter Try.func54, Try.ntmps54
    go_wp2
    go_ret
    exact ⟨rfl, rfl⟩
  · have h1 : 0 < b := by omega
    have h2 : (b == 0) = false := by simpa using c
    have H := Lib.hid (show a / b = divP a b from by unfold divP; rw [if_neg c])
    go_enter Try.func54, Try.ntmps54
    go_wp2
    go_ret
    exact ⟨ret_u H.out, rfl⟩
def remS (a b : Int) : Int := IntKind.u64.wrap (a - IntKind.u64.wrap (b * divS a b))
def remP (a b : Int) : Int := IntKind.u64.wrap (a - IntKind.u64.wrap (b * divP a b))
theorem rem_c (a b : Int) (w : World) (hb0 : 0 ≤ b) (hb : b < 18446744073709551616) :
    Calls Try.prog 55 #[.int .u64 a, .int .u64 b] w fun e w' => e = .returned (.int .u64 (remS a b)) ∧ w = w' := by
  have H := Lib.hid (And.intro hb0 hb)
  clear hb0 hb
  go_enter Try.func55, Try.ntmps55
  go_wp2_with fail
  refine (div_c _ _ _ H.out.1 H.out.2).mono ?_
  rintro e w' ⟨rfl, rfl⟩
  go_wp2_with fail
  go_ret
  exact ⟨rfl, rfl⟩
theorem remPlain_c (a b : Int) (w : World) (ha0 : 0 ≤ a) (ha : a < 18446744073709551616) (hb0 : 0 ≤ b) (hb : b < 18446744073709551616) :
    Calls Try.prog 56 #[.int .u64 a, .int .u64 b] w fun e w' => e = .returned (.int .u64 (remP a b)) ∧ w = w' := by
  have H := Lib.hid (And.intro (And.intro ha0 ha) (And.intro hb0 hb))
  clear ha0 ha hb0 hb
  go_enter Try.func56, Try.ntmps56
  go_wp2_with fail
  refine (divPlain_c _ _ _ H.out.1.1 H.out.1.2 H.out.2.1 H.out.2.2).mono ?_
  rintro e w' ⟨rfl, rfl⟩
  go_wp2_with fail
  go_ret
  exact ⟨rfl, rfl⟩

/-! ### live() of the laws of layer 2 -/
end Go.Proofs.Ytahamhpibjlgnaa
