/-
  Contracts of package bits (layer 1) but Gather: each call returns what Spec says, and leaves the world alone.
-/
import Derived.Test.YtfjdalepaacmgaaDoorRows
import Derived.Test.YtfjdalepaacmgaaDoorSpec
import Derived.WalkKit
import Derived.ProofKit
import Derived.OpenShut
import Derived.Lib.Hide
set_option maxRecDepth 20000
namespace Go.Proofs.YtfjdalepaacmgaaDoor
open Go.ChangeShapes Go.WideShapes Go.ChangeAt Go.RowKit Wd

theorem ret_u {k : IntKind} {a b : Int} (h : a = b) : Ending.returned (.int k a) = .returned (.int k b) := by rw [h]
theorem ret_b {a b : Bool} (h : a = b) : Ending.returned (.bool a) = .returned (.bool b) := by rw [h]

def lessS (a b : Int) : Bool := decide (wrap64 a < wrap64 b)
def sllS (x n : Int) : Int := IntKind.u64.wrap (x * 2 ^ (n % 64).toNat)
def srlS (x n : Int) : Int := x / 2 ^ (n % 64).toNat
def sraS (x n : Int) : Int := IntKind.u64.wrap (wrap64 x / 2 ^ (n % 64).toNat)
def sllwS (x n : Int) : Int := signS (IntKind.u64.wrap (x * 2 ^ (n % 32).toNat)) 32
def srlwS (x n : Int) : Int := signS (cutS x 0 32 / 2 ^ (n % 32).toNat) 32
def srawS (x n : Int) : Int := sraS (signS x 32) (n % 32)

end Go.Proofs.YtfjdalepaacmgaaDoor
