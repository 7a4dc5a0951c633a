/-
  Contracts of package bits (layer 1) but Gather: each call returns what Spec says, and leaves the world alone.
-/
import Derived.Test.YtmieabafiijfjaaDoorRows
import Derived.Test.YtmieabafiijfjaaDoorSpec
import Derived.WalkKit
import Derived.ProofKit
import Derived.OpenShut
import Derived.Lib.Hide
set_option maxRecDepth 4000
namespace Go.Proofs.YtmieabafiijfjaaDoor
open Go.ChangeShapes Go.WideShapes Go.ChangeAt Go.RowKit Wd

theorem ret_u {k : IntKind} {a b : Int} (h : a = b) : Ending.returned (.int k a) = .returned (.int k b) := by rw [h]
theorem ret_b {a b : Bool} (h : a = b) : Ending.returned (.bool a) = .returned (.bool b) := by rw [h]

theorem mask_c (s : Int) (w : World) : Calls Tryd.prog 33 #[.int .i64 s] w fun e w' => e = .returned (.int .u64 (maskS s)) ∧ w = w' := by
  by_cases h1 : s < 1
  · go_enter Tryd.func33, Tryd.ntmps33
    go_wp2
    go_ret
    exact ⟨ret_u (mask_low h1), rfl⟩
  · by_cases h2 : 63 < s
    · have H1 := Lib.hid h1
      go_enter Tryd.func33, Tryd.ntmps33
      go_wp2
      go_ret
      exact ⟨ret_u (mask_all h2), rfl⟩
    · go_enter Tryd.func33, Tryd.ntmps33
      go_wp2
      go_ret
      exact ⟨ret_u (mask_mid (by omega) (by omega)), rfl⟩

theorem raise_c (x p : Int) (w : World) (hx0 : 0 ≤ x) (hx : x < 18446744073709551616) (hp0 : -9223372036854775808 ≤ p) (hp : p < 9223372036854775808) :
    Calls Tryd.prog 29 #[.int .u64 x, .int .i64 p] w fun e w' => e = .returned (.int .u64 (raiseS x p)) ∧ w = w' := by
  have H := Lib.hid (And.intro (And.intro hx0 hx) (And.intro hp0 hp))
  clear hx0 hx hp0 hp
  by_cases h1 : p < 0
  · go_enter Tryd.func29, Tryd.ntmps29
    go_wp2
    go_ret
    exact ⟨ret_u (raise_neg H.out.1.1 H.out.1.2 h1 H.out.2.1), rfl⟩
  · go_enter Tryd.func29, Tryd.ntmps29
    go_wp2
    go_ret
    exact ⟨ret_u (raise_pos H.out.1.1 (by omega) H.out.2.2), rfl⟩

theorem lower_c (x p : Int) (w : World) (hx0 : 0 ≤ x) (hx : x < 18446744073709551616) (hp0 : -9223372036854775808 ≤ p) (hp : p < 9223372036854775808) :
    Calls Tryd.prog 32 #[.int .u64 x, .int .i64 p] w fun e w' => e = .returned (.int .u64 (lowerS x p)) ∧ w = w' := by
  have H := Lib.hid (And.intro (And.intro hx0 hx) (And.intro hp0 hp))
  clear hx0 hx hp0 hp
  by_cases h1 : p < 0
  · go_enter Tryd.func32, Tryd.ntmps32
    go_wp2
    go_ret
    exact ⟨ret_u (lower_neg H.out.1.1 h1 H.out.2.1), rfl⟩
  · go_enter Tryd.func32, Tryd.ntmps32
    go_wp2
    go_ret
    exact ⟨ret_u (lower_pos H.out.1.1 H.out.1.2 (by omega) H.out.2.2), rfl⟩

theorem ones_c (p s : Int) (w : World) (hp0 : -9223372036854775808 ≤ p) (hp : p < 9223372036854775808) (hs0 : -9223372036854775808 ≤ s) (hs : s < 9223372036854775808) :
    Calls Tryd.prog 28 #[.int .i64 p, .int .i64 s] w fun e w' => e = .returned (.int .u64 (onesS p s)) ∧ w = w' := by
  by_cases h1 : s < 1
  · go_enter Tryd.func28, Tryd.ntmps28
    go_wp2
    go_ret
    exact ⟨ret_u (ones_low h1), rfl⟩
  · by_cases h2 : p < 0
    · go_enter Tryd.func28, Tryd.ntmps28
      go_wp2_with fail
      refine (mask_c _ _).mono ?_
      rintro e w' ⟨rfl, rfl⟩
      go_wp2_with fail
      go_ret
      exact ⟨ret_u (ones_neg (by omega) h2), rfl⟩
    · go_enter Tryd.func28, Tryd.ntmps28
      go_wp2_with fail
      refine (mask_c _ _).mono ?_
      rintro e w' ⟨rfl, rfl⟩
      have hr := maskS_range s
      go_wp2_with fail
      refine (raise_c _ _ _ hr.1 hr.2 hp0 hp).mono ?_
      rintro e w' ⟨rfl, rfl⟩
      go_wp2_with fail
      go_ret
      exact ⟨ret_u (ones_pos (by omega) (by omega)), rfl⟩

theorem cut_c (x p s : Int) (w : World) (hx0 : 0 ≤ x) (hx : x < 18446744073709551616) (hp0 : -9223372036854775808 ≤ p) (hp : p < 9223372036854775808) :
    Calls Tryd.prog 24 #[.int .u64 x, .int .i64 p, .int .i64 s] w fun e w' => e = .returned (.int .u64 (cutS x p s)) ∧ w = w' := by
  go_enter Tryd.func24, Tryd.ntmps24
  go_wp2_with fail
  refine (lower_c _ _ _ hx0 hx hp0 hp).mono ?_
  rintro e w' ⟨rfl, rfl⟩
  go_wp2_with fail
  refine (mask_c _ _).mono ?_
  rintro e w' ⟨rfl, rfl⟩
  have H := Lib.hid (cut_and x p s)
  go_wp2_with fail
  go_ret
  exact ⟨ret_u H.out, rfl⟩

theorem put_c (x p s n : Int) (w : World) (hx0 : 0 ≤ x) (hx : x < 18446744073709551616) (hp0 : -9223372036854775808 ≤ p) (hp : p < 9223372036854775808) (hs0 : -9223372036854775808 ≤ s) (hs : s < 9223372036854775808) (hn0 : 0 ≤ n) (hn : n < 18446744073709551616) :
    Calls Tryd.prog 19 #[.int .u64 x, .int .i64 p, .int .i64 s, .int .u64 n] w fun e w' => e = .returned (.int .u64 (putS x p s n)) ∧ w = w' := by
  go_enter Tryd.func19, Tryd.ntmps19
  go_wp2_with fail
  refine (ones_c _ _ _ hp0 hp hs0 hs).mono ?_
  rintro e w' ⟨rfl, rfl⟩
  go_wp2_with fail
  refine (raise_c _ _ _ hn0 hn hp0 hp).mono ?_
  rintro e w' ⟨rfl, rfl⟩
  go_wp2_with fail
  go_ret
  exact ⟨ret_u (put_or hx0 hx), rfl⟩

theorem low_c (x s : Int) (w : World) (hx0 : 0 ≤ x) (hx : x < 18446744073709551616) :
    Calls Tryd.prog 31 #[.int .u64 x, .int .i64 s] w fun e w' => e = .returned (.int .u64 (cutS x 0 s)) ∧ w = w' := by
  go_enter Tryd.func31, Tryd.ntmps31
  go_wp2_with fail
  refine (cut_c _ _ _ _ hx0 hx (by omega) (by omega)).mono ?_
  rintro e w' ⟨rfl, rfl⟩
  go_wp2_with fail
  go_ret
  exact ⟨rfl, rfl⟩

def lessS (a b : Int) : Bool := decide (wrap64 a < wrap64 b)
def sllS (x n : Int) : Int := IntKind.u64.wrap (x * 2 ^ (n % 64).toNat)
def srlS (x n : Int) : Int := x / 2 ^ (n % 64).toNat
def sraS (x n : Int) : Int := IntKind.u64.wrap (wrap64 x / 2 ^ (n % 64).toNat)
def sllwS (x n : Int) : Int := signS (IntKind.u64.wrap (x * 2 ^ (n % 32).toNat)) 32
def srlwS (x n : Int) : Int := signS (cutS x 0 32 / 2 ^ (n % 32).toNat) 32
def srawS (x n : Int) : Int := sraS (signS x 32) (n % 32)

end Go.Proofs.YtmieabafiijfjaaDoor
