/-
  Contracts of package bits (layer 1) but Gather: each call returns what Spec says, and leaves the world alone.
-/
import Derived.Test.YtgfdielipbcfeaaRows
import Derived.Test.YtgfdielipbcfeaaSpec
import Derived.WalkKit
import Derived.ProofKit
import Derived.OpenShut
import Derived.Lib.Hide
namespace Go.Proofs.Ytgfdielipbcfeaa
open Go.ChangeShapes Go.WideShapes Go.ChangeAt Go.RowKit Wd

theorem ret_u {k : IntKind} {a b : Int} (h : a = b) : Ending.returned (.int k a) = .returned (.int k b) := by rw [h]
theorem ret_b {a b : Bool} (h : a = b) : Ending.returned (.bool a) = .returned (.bool b) := by rw [h]

theorem sign_c (x s : Int) (w : World) (hx0 : 0 ≤ x) (hx : x < 18446744073709551616) :
    Calls Try.prog 31 #[.int .u64 x, .int .i64 s] w fun e w' => e = .returned (.int .u64 (signS x s)) ∧ w = w' := by
  by_cases h1 : s < 1
  · go_enter Try.func31, Try.ntmps31
    go_wp2
    go_ret
    exact ⟨ret_u (sign_low h1), rfl⟩
  · by_cases h2 : 63 < s
    · go_enter Try.func31, Try.ntmps31
      go_wp2
      go_ret
      exact ⟨ret_u (sign_all hx0 hx h2), rfl⟩
    · go_enter Try.func31, Try.ntmps31
      go_wp2
      go_ret
      exact ⟨ret_u (sign_mid hx0 (by omega) (by omega)), rfl⟩

theorem word_c (x : Int) (w : World) (hx0 : 0 ≤ x) (hx : x < 18446744073709551616) :
    Calls Try.prog 18 #[.int .u64 x] w fun e w' => e = .returned (.int .u64 (signS x 32)) ∧ w = w' := by
  go_enter Try.func18, Try.ntmps18
  go_wp2_with fail
  refine (sign_c _ _ _ hx0 hx).mono ?_
  rintro e w' ⟨rfl, rfl⟩
  go_wp2_with fail
  go_ret
  exact ⟨rfl, rfl⟩

def lessS (a b : Int) : Bool := decide (wrap64 a < wrap64 b)
def sllS (x n : Int) : Int := IntKind.u64.wrap (x * 2 ^ (n % 64).toNat)
def srlS (x n : Int) : Int := x / 2 ^ (n % 64).toNat
def sraS (x n : Int) : Int := IntKind.u64.wrap (wrap64 x / 2 ^ (n % 64).toNat)
def sllwS (x n : Int) : Int := signS (IntKind.u64.wrap (x * 2 ^ (n % 32).toNat)) 32
def srlwS (x n : Int) : Int := signS (cutS x 0 32 / 2 ^ (n % 32).toNat) 32
def srawS (x n : Int) : Int := sraS (signS x 32) (n % 32)

end Go.Proofs.Ytgfdielipbcfeaa
