/-
  Contracts of package bits (layer 1) but Gather: each call returns what Spec says, and leaves the world alone.
-/
import Derived.Test.YtahamhpibjlgnaaRows
import Derived.Test.YtahamhpibjlgnaaSpec
import Derived.WalkKit
import Derived.ProofKit
import Derived.OpenShut
import Derived.Lib.Hide
namespace Go.Proofs.Ytahamhpibjlgnaa
open Go.ChangeShapes Go.WideShapes Go.ChangeAt Go.RowKit Wd

theorem ret_u {k : IntKind} {a b : Int} (h : a = b) : Ending.returned (.int k a) = .returned (.int k b) := by rw [h]
theorem ret_b {a b : Bool} (h : a = b) : Ending.returned (.bool a) = .returned (.bool b) := by rw [h]

theorem mask_c (s : Int) (w : World) : Calls Try.prog 67 #[.int .i64 s] w fun e w' => e = .returned (.int .u64 (maskS s)) ∧ w = w' := by
  by_cases h1 : s < 1
  · go_enter Try.func67, Try.ntmps67
    go_wp2
    go_ret
    exact ⟨ret_u (mask_low h1), rfl⟩
  · by_cases h2 : 63 < s
    · have H1 := Lib.hid h1
      go_enter Try.func67, Try.ntmps67
      go_wp2
      go_ret
      exact ⟨ret_u (mask_all h2), rfl⟩
    · go_enter Try.func67, Try.ntmps67
      go_wp2
      go_ret
      exact ⟨ret_u (mask_mid (by omega) (by omega)), rfl⟩

theorem lower_c (x p : Int) (w : World) (hx0 : 0 ≤ x) (hx : x < 18446744073709551616) (hp0 : -9223372036854775808 ≤ p) (hp : p < 9223372036854775808) :
    Calls Try.prog 66 #[.int .u64 x, .int .i64 p] w fun e w' => e = .returned (.int .u64 (lowerS x p)) ∧ w = w' := by
  have H := Lib.hid (And.intro (And.intro hx0 hx) (And.intro hp0 hp))
  clear hx0 hx hp0 hp
  by_cases h1 : p < 0
  · go_enter Try.func66, Try.ntmps66
    go_wp2
    go_ret
    exact ⟨ret_u (lower_neg H.out.1.1 h1 H.out.2.1), rfl⟩
  · go_enter Try.func66, Try.ntmps66
    go_wp2
    go_ret
    exact ⟨ret_u (lower_pos H.out.1.1 H.out.1.2 (by omega) H.out.2.2), rfl⟩

theorem cut_c (x p s : Int) (w : World) (hx0 : 0 ≤ x) (hx : x < 18446744073709551616) (hp0 : -9223372036854775808 ≤ p) (hp : p < 9223372036854775808) :
    Calls Try.prog 34 #[.int .u64 x, .int .i64 p, .int .i64 s] w fun e w' => e = .returned (.int .u64 (cutS x p s)) ∧ w = w' := by
  go_enter Try.func34, Try.ntmps34
  go_wp2_with fail
  refine (lower_c _ _ _ hx0 hx hp0 hp).mono ?_
  rintro e w' ⟨rfl, rfl⟩
  go_wp2_with fail
  refine (mask_c _ _).mono ?_
  rintro e w' ⟨rfl, rfl⟩
  have H := Lib.hid (cut_and x p s)
  go_wp2_with fail
  go_ret
  exact ⟨ret_u H.out, rfl⟩

theorem low_c (x s : Int) (w : World) (hx0 : 0 ≤ x) (hx : x < 18446744073709551616) :
    Calls Try.prog 19 #[.int .u64 x, .int .i64 s] w fun e w' => e = .returned (.int .u64 (cutS x 0 s)) ∧ w = w' := by
  go_enter Try.func19, Try.ntmps19
  go_wp2_with fail
  refine (cut_c _ _ _ _ hx0 hx (by omega) (by omega)).mono ?_
  rintro e w' ⟨rfl, rfl⟩
  go_wp2_with fail
  go_ret
  exact ⟨rfl, rfl⟩

theorem sign_c (x s : Int) (w : World) (hx0 : 0 ≤ x) (hx : x < 18446744073709551616) :
    Calls Try.prog 33 #[.int .u64 x, .int .i64 s] w fun e w' => e = .returned (.int .u64 (signS x s)) ∧ w = w' := by
  by_cases h1 : s < 1
  · go_enter Try.func33, Try.ntmps33
    go_wp2
    go_ret
    exact ⟨ret_u (sign_low h1), rfl⟩
  · by_cases h2 : 63 < s
    · go_enter Try.func33, Try.ntmps33
      go_wp2
      go_ret
      exact ⟨ret_u (sign_all hx0 hx h2), rfl⟩
    · go_enter Try.func33, Try.ntmps33
      go_wp2
      go_ret
      exact ⟨ret_u (sign_mid hx0 (by omega) (by omega)), rfl⟩

theorem word_c (x : Int) (w : World) (hx0 : 0 ≤ x) (hx : x < 18446744073709551616) :
    Calls Try.prog 18 #[.int .u64 x] w fun e w' => e = .returned (.int .u64 (signS x 32)) ∧ w = w' := by
  go_enter Try.func18, Try.ntmps18
  go_wp2_with fail
  refine (sign_c _ _ _ hx0 hx).mono ?_
  rintro e w' ⟨rfl, rfl⟩
  go_wp2_with fail
  go_ret
  exact ⟨rfl, rfl⟩

def lessS (a b : Int) : Bool := decide (wrap64 a < wrap64 b)
theorem less_c (a b : Int) (w : World) : Calls Try.prog 30 #[.int .u64 a, .int .u64 b] w fun e w' => e = .returned (.bool (lessS a b)) ∧ w = w' := by
  go_enter Try.func30, Try.ntmps30
  go_wp2
  go_ret
  exact ⟨rfl, rfl⟩

def sllS (x n : Int) : Int := IntKind.u64.wrap (x * 2 ^ (n % 64).toNat)
def srlS (x n : Int) : Int := x / 2 ^ (n % 64).toNat
def sraS (x n : Int) : Int := IntKind.u64.wrap (wrap64 x / 2 ^ (n % 64).toNat)
def sllwS (x n : Int) : Int := signS (IntKind.u64.wrap (x * 2 ^ (n % 32).toNat)) 32
def srlwS (x n : Int) : Int := signS (cutS x 0 32 / 2 ^ (n % 32).toNat) 32
def srawS (x n : Int) : Int := sraS (signS x 32) (n % 32)

theorem sll_c (x n : Int) (w : World) (hn0 : 0 ≤ n) (hn : n < 18446744073709551616) :
    Calls Try.prog 37 #[.int .u64 x, .int .u64 n] w fun e w' => e = .returned (.int .u64 (sllS x n)) ∧ w = w' := by
  have e1 := and63 hn0 hn
  have e2 : 0 ≤ n % 64 := by omega
  have e3 : n % 64 < 64 := by omega
  go_enter Try.func37, Try.ntmps37
  go_wp2
  go_ret
  exact ⟨rfl, rfl⟩
theorem srl_c (x n : Int) (w : World) (hn0 : 0 ≤ n) (hn : n < 18446744073709551616) :
    Calls Try.prog 38 #[.int .u64 x, .int .u64 n] w fun e w' => e = .returned (.int .u64 (srlS x n)) ∧ w = w' := by
  have e1 := and63 hn0 hn
  have e2 : 0 ≤ n % 64 := by omega
  have e3 : n % 64 < 64 := by omega
  go_enter Try.func38, Try.ntmps38
  go_wp2
  go_ret
  exact ⟨rfl, rfl⟩
theorem sra_c (x n : Int) (w : World) (hn0 : 0 ≤ n) (hn : n < 18446744073709551616) :
    Calls Try.prog 39 #[.int .u64 x, .int .u64 n] w fun e w' => e = .returned (.int .u64 (sraS x n)) ∧ w = w' := by
  have e1 := and63 hn0 hn
  have e2 : 0 ≤ n % 64 := by omega
  have e3 : n % 64 < 64 := by omega
  go_enter Try.func39, Try.ntmps39
  go_wp2
  go_ret
  exact ⟨rfl, rfl⟩
theorem sllw_c (x n : Int) (w : World) (hn0 : 0 ≤ n) (hn : n < 18446744073709551616) :
    Calls Try.prog 46 #[.int .u64 x, .int .u64 n] w fun e w' => e = .returned (.int .u64 (sllwS x n)) ∧ w = w' := by
  have e1 := and31 hn0 hn
  have e2 : 0 ≤ n % 32 := by omega
  have e3 : n % 32 < 32 := by omega
  have hr := wrap_range (x * 2 ^ (n % 32).toNat)
  have H := Lib.hid hr
  clear hr
  go_enter Try.func46, Try.ntmps46
  go_wp2_with fail
  refine (word_c _ _ H.out.1 H.out.2).mono ?_
  rintro e w' ⟨rfl, rfl⟩
  go_wp2_with fail
  go_ret
  exact ⟨rfl, rfl⟩
theorem srlw_c (x n : Int) (w : World) (hx0 : 0 ≤ x) (hx : x < 18446744073709551616) (hn0 : 0 ≤ n) (hn : n < 18446744073709551616) :
    Calls Try.prog 47 #[.int .u64 x, .int .u64 n] w fun e w' => e = .returned (.int .u64 (srlwS x n)) ∧ w = w' := by
  have e1 := and31 hn0 hn
  have e2 : 0 ≤ n % 32 := by omega
  have e3 : n % 32 < 32 := by omega
  have hc := cutS_range x 0 32
  have hr := div_range hc.1 hc.2 (n % 32).toNat
  have H := Lib.hid hr
  clear hr hc
  go_enter Try.func47, Try.ntmps47
  go_wp2_with fail
  refine (low_c _ _ _ hx0 hx).mono ?_
  rintro e w' ⟨rfl, rfl⟩
  go_wp2_with fail
  refine (word_c _ _ H.out.1 H.out.2).mono ?_
  rintro e w' ⟨rfl, rfl⟩
  go_wp2_with fail
  go_ret
  exact ⟨rfl, rfl⟩
theorem sraw_c (x n : Int) (w : World) (hx0 : 0 ≤ x) (hx : x < 18446744073709551616) (hn0 : 0 ≤ n) (hn : n < 18446744073709551616) :
    Calls Try.prog 48 #[.int .u64 x, .int .u64 n] w fun e w' => e = .returned (.int .u64 (srawS x n)) ∧ w = w' := by
  have e1 := and31 hn0 hn
  have e2 : 0 ≤ n % 32 := by omega
  have e3 : n % 32 < 32 := by omega
  go_enter Try.func48, Try.ntmps48
  go_wp2_with fail
  refine (word_c _ _ hx0 hx).mono ?_
  rintro e w' ⟨rfl, rfl⟩
  go_wp2_with fail
  refine (sra_c _ _ _ (by omega) (by omega)).mono ?_
  rintro e w' ⟨rfl, rfl⟩
  go_wp2_with fail
  go_ret
  exact ⟨rfl, rfl⟩
end Go.Proofs.Ytahamhpibjlgnaa
