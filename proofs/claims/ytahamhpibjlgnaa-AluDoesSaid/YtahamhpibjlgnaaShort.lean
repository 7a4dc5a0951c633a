/-
  Contracts of wide.Short with each op that the law hands it, and of the reference's Half.
-/
import Derived.Test.YtahamhpibjlgnaaQuot
namespace Go.Proofs.Ytahamhpibjlgnaa
open Go.ChangeShapes Go.WideShapes Go.ChangeAt Go.RowKit Wd

theorem cut32 {x : Int} (hx0 : 0 ≤ x) : cutS x 0 32 = x % 4294967296 := by
  symm
  apply eq_word (by omega) (by omega)
  intro i hi
  obtain ⟨X, rfl⟩ := Int.eq_ofNat_of_zero_le hx0
  unfold tb
  have e1 : ((X : Int) % 4294967296).toNat = X % 2 ^ 32 := by omega
  have e2 : (0 + (i : Int)).toNat = i := by omega
  rw [e1, e2, Nat.testBit_mod_two_pow, Int.toNat_natCast]
  congr 1
  apply decide_eq_decide.2
  omega
def halfS (x : Int) (plain : Bool) : Int := if plain then x % 4294967296 else signS x 32
theorem halfS_range (x : Int) (p : Bool) : 0 ≤ halfS x p ∧ halfS x p < 18446744073709551616 := by
  unfold halfS
  cases p
  · exact signS_range x 32
  · simp; omega
theorem extend_c (x : Int) (p : Bool) (w : World) (hx0 : 0 ≤ x) (hx : x < 18446744073709551616) :
    Calls Try.prog 80 #[.int .u64 x, .bool p] w fun e w' => e = .returned (.int .u64 (halfS x p)) ∧ w = w' := by
  cases p
  · go_enter Try.func80, Try.ntmps80
    go_wp2_with fail
    refine (word_c _ _ hx0 hx).mono ?_
    rintro e w' ⟨rfl, rfl⟩
    go_wp2_with fail
    go_ret
    exact ⟨rfl, rfl⟩
  · have H := Lib.hid (cut32 hx0)
    go_enter Try.func80, Try.ntmps80
    go_wp2_with fail
    refine (low_c _ _ _ hx0 hx).mono ?_
    rintro e w' ⟨rfl, rfl⟩
    rw [H.out]
    go_wp2_with fail
    go_ret
    exact ⟨rfl, rfl⟩
theorem half_c (x : Int) (p : Bool) (w : World) (hx0 : 0 ≤ x) (hx : x < 18446744073709551616) :
    Calls Try.prog 60 #[.int .u64 x, .bool p] w fun e w' => e = .returned (.int .u64 (halfS x p)) ∧ Below w.heap.size w w' := by
  cases p
  · go_enter Try.func60, Try.ntmps60
    go_wp2_with fail
    refine (refSign_c _ _ _ hx0 hx (by omega)).mono ?_
    rintro e w1 ⟨rfl, hB⟩
    go_wp2_with fail
    go_ret
    exact ⟨rfl, hB⟩
  · go_enter Try.func60, Try.ntmps60
    go_wp2_with fail
    go_ret
    exact ⟨rfl, Below.refl _ _⟩
theorem divS_range {a b : Int} : 0 ≤ divS a b ∧ divS a b < 18446744073709551616 := by
  unfold divS
  split
  · omega
  · exact wrap_range _
theorem divP_range {a b : Int} (ha0 : 0 ≤ a) (ha : a < 18446744073709551616) (hb0 : 0 ≤ b) : 0 ≤ divP a b ∧ divP a b < 18446744073709551616 := by
  unfold divP
  split
  · omega
  · exact ⟨Int.ediv_nonneg ha0 hb0, Int.lt_of_le_of_lt (Int.ediv_le_self _ ha0) ha⟩
theorem remS_range {a b : Int} : 0 ≤ remS a b ∧ remS a b < 18446744073709551616 := wrap_range _
theorem remP_range {a b : Int} : 0 ≤ remP a b ∧ remP a b < 18446744073709551616 := wrap_range _

theorem fn_nil (f : FuncId) (w : World) : (binOp .eql 45 (.func (.func f) #[] #[]) .nilFunc).run Try.prog w = .ok (.bool false) w := by kernel_rfl
theorem nil_nil (w : World) : (binOp .eql 45 .nilFunc .nilFunc).run Try.prog w = .ok (.bool true) w := by kernel_rfl
theorem short_nil (p : Bool) (a b : Int) (w : World) : Calls Try.prog 73 #[.nilFunc, .bool p, .int .u64 a, .int .u64 b] w fun e w' => e = .returned (.int .u64 0) ∧ w = w' := by
  have hq := nil_nil
  go_enter Try.func73, Try.ntmps73
  go_wp2
  go_ret
  exact ⟨rfl, rfl⟩
set_option maxHeartbeats 400000 in
theorem short_mul (p : Bool) (a b : Int) (w : World) (ha0 : 0 ≤ a) (ha : a < 18446744073709551616) (hb0 : 0 ≤ b) (hb : b < 18446744073709551616) :
    Calls Try.prog 73 #[.func (.func 49) #[] #[], .bool p, .int .u64 a, .int .u64 b] w fun e w' => e = .returned (.int .u64 (signS (mulLo (halfS a p) (halfS b p)) 32)) ∧ w = w' := by
  obtain ⟨x0, x1⟩ := halfS_range a p
  obtain ⟨y0, y1⟩ := halfS_range b p
  obtain ⟨z0, z1⟩ := mulLo_range (halfS a p) (halfS b p)
  have hq := fn_nil 49
  go_enter Try.func73, Try.ntmps73
  go_wp2_with fail
  refine (extend_c _ _ _ ha0 ha).mono ?_
  rintro e w' ⟨rfl, rfl⟩
  go_wp2_with fail
  refine (extend_c _ _ _ hb0 hb).mono ?_
  rintro e w' ⟨rfl, rfl⟩
  go_wp2_with fail
  refine (mul_c _ _ _).mono ?_
  rintro e w' ⟨rfl, rfl⟩
  go_wp2_with fail
  refine (word_c _ _ z0 z1).mono ?_
  rintro e w' ⟨rfl, rfl⟩
  go_wp2_with fail
  go_ret
  exact ⟨rfl, rfl⟩
set_option maxHeartbeats 400000 in
theorem short_div (p : Bool) (a b : Int) (w : World) (ha0 : 0 ≤ a) (ha : a < 18446744073709551616) (hb0 : 0 ≤ b) (hb : b < 18446744073709551616) :
    Calls Try.prog 73 #[.func (.func 53) #[] #[], .bool p, .int .u64 a, .int .u64 b] w fun e w' => e = .returned (.int .u64 (signS (divS (halfS a p) (halfS b p)) 32)) ∧ w = w' := by
  obtain ⟨x0, x1⟩ := halfS_range a p
  obtain ⟨y0, y1⟩ := halfS_range b p
  obtain ⟨z0, z1⟩ : 0 ≤ divS (halfS a p) (halfS b p) ∧ divS (halfS a p) (halfS b p) < 18446744073709551616 := divS_range
  have hq := fn_nil 53
  go_enter Try.func73, Try.ntmps73
  go_wp2_with fail
  refine (extend_c _ _ _ ha0 ha).mono ?_
  rintro e w' ⟨rfl, rfl⟩
  go_wp2_with fail
  refine (extend_c _ _ _ hb0 hb).mono ?_
  rintro e w' ⟨rfl, rfl⟩
  go_wp2_with fail
  refine (div_c _ _ _ y0 y1).mono ?_
  rintro e w' ⟨rfl, rfl⟩
  go_wp2_with fail
  refine (word_c _ _ z0 z1).mono ?_
  rintro e w' ⟨rfl, rfl⟩
  go_wp2_with fail
  go_ret
  exact ⟨rfl, rfl⟩
set_option maxHeartbeats 400000 in
theorem short_rem (p : Bool) (a b : Int) (w : World) (ha0 : 0 ≤ a) (ha : a < 18446744073709551616) (hb0 : 0 ≤ b) (hb : b < 18446744073709551616) :
    Calls Try.prog 73 #[.func (.func 55) #[] #[], .bool p, .int .u64 a, .int .u64 b] w fun e w' => e = .returned (.int .u64 (signS (remS (halfS a p) (halfS b p)) 32)) ∧ w = w' := by
  obtain ⟨x0, x1⟩ := halfS_range a p
  obtain ⟨y0, y1⟩ := halfS_range b p
  obtain ⟨z0, z1⟩ : 0 ≤ remS (halfS a p) (halfS b p) ∧ remS (halfS a p) (halfS b p) < 18446744073709551616 := remS_range
  have hq := fn_nil 55
  go_enter Try.func73, Try.ntmps73
  go_wp2_with fail
  refine (extend_c _ _ _ ha0 ha).mono ?_
  rintro e w' ⟨rfl, rfl⟩
  go_wp2_with fail
  refine (extend_c _ _ _ hb0 hb).mono ?_
  rintro e w' ⟨rfl, rfl⟩
  go_wp2_with fail
  refine (rem_c _ _ _ y0 y1).mono ?_
  rintro e w' ⟨rfl, rfl⟩
  go_wp2_with fail
  refine (word_c _ _ z0 z1).mono ?_
  rintro e w' ⟨rfl, rfl⟩
  go_wp2_with fail
  go_ret
  exact ⟨rfl, rfl⟩
set_option maxHeartbeats 400000 in
theorem short_divp (p : Bool) (a b : Int) (w : World) (ha0 : 0 ≤ a) (ha : a < 18446744073709551616) (hb0 : 0 ≤ b) (hb : b < 18446744073709551616) :
    Calls Try.prog 73 #[.func (.func 54) #[] #[], .bool p, .int .u64 a, .int .u64 b] w fun e w' => e = .returned (.int .u64 (signS (divP (halfS a p) (halfS b p)) 32)) ∧ w = w' := by
  obtain ⟨x0, x1⟩ := halfS_range a p
  obtain ⟨y0, y1⟩ := halfS_range b p
  obtain ⟨z0, z1⟩ : 0 ≤ divP (halfS a p) (halfS b p) ∧ divP (halfS a p) (halfS b p) < 18446744073709551616 := divP_range x0 x1 y0
  have hq := fn_nil 54
  go_enter Try.func73, Try.ntmps73
  go_wp2_with fail
  refine (extend_c _ _ _ ha0 ha).mono ?_
  rintro e w' ⟨rfl, rfl⟩
  go_wp2_with fail
  refine (extend_c _ _ _ hb0 hb).mono ?_
  rintro e w' ⟨rfl, rfl⟩
  go_wp2_with fail
  refine (divPlain_c _ _ _ x0 x1 y0 y1).mono ?_
  rintro e w' ⟨rfl, rfl⟩
  go_wp2_with fail
  refine (word_c _ _ z0 z1).mono ?_
  rintro e w' ⟨rfl, rfl⟩
  go_wp2_with fail
  go_ret
  exact ⟨rfl, rfl⟩
set_option maxHeartbeats 400000 in
theorem short_remp (p : Bool) (a b : Int) (w : World) (ha0 : 0 ≤ a) (ha : a < 18446744073709551616) (hb0 : 0 ≤ b) (hb : b < 18446744073709551616) :
    Calls Try.prog 73 #[.func (.func 56) #[] #[], .bool p, .int .u64 a, .int .u64 b] w fun e w' => e = .returned (.int .u64 (signS (remP (halfS a p) (halfS b p)) 32)) ∧ w = w' := by
  obtain ⟨x0, x1⟩ := halfS_range a p
  obtain ⟨y0, y1⟩ := halfS_range b p
  obtain ⟨z0, z1⟩ : 0 ≤ remP (halfS a p) (halfS b p) ∧ remP (halfS a p) (halfS b p) < 18446744073709551616 := remP_range
  have hq := fn_nil 56
  go_enter Try.func73, Try.ntmps73
  go_wp2_with fail
  refine (extend_c _ _ _ ha0 ha).mono ?_
  rintro e w' ⟨rfl, rfl⟩
  go_wp2_with fail
  refine (extend_c _ _ _ hb0 hb).mono ?_
  rintro e w' ⟨rfl, rfl⟩
  go_wp2_with fail
  refine (remPlain_c _ _ _ x0 x1 y0 y1).mono ?_
  rintro e w' ⟨rfl, rfl⟩
  go_wp2_with fail
  refine (word_c _ _ z0 z1).mono ?_
  rintro e w' ⟨rfl, rfl⟩
  go_wp2_with fail
  go_ret
  exact ⟨rfl, rfl⟩
end Go.Proofs.Ytahamhpibjlgnaa
