/-
  Contracts of slices.Sort at []int, of at most 12 numbers that the call owns: its sort by insertion is walked.
-/
import Derived.Test.YtabackklpemhpaaSrtB
namespace Go.Proofs.Ytabackklpemhpaa
open Go.ChangeShapes Go.WideShapes Go.ChangeAt Go.RowKit

/-- Between two rounds of the outer loop. -/
structure SoAt (w W : World) (base g cap : Nat) (xs ys : List Int) : Prop where
  bel : Below base w W
  row : Ints W base g cap ys
  len : ys.length = xs.length
theorem SoAt.drewN {w W : World} {base g cap : Nat} {xs ys : List Int} (h : SoAt w W base g cap xs ys) (n : Nat) : SoAt w (W.drewN n) base g cap xs ys := ⟨below_dnS h.bel n, h.row.drewN n, h.len⟩
end Go.Proofs.Ytabackklpemhpaa
