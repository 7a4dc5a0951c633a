/-
  The contract of the laws' live() of layer 1: the chapter's examples come out; only new memory is made.
-/
import Derived.Test.YtgfdielipbcfeaaGather
namespace Go.Proofs.Ytgfdielipbcfeaa
open Go.ChangeShapes Go.WideShapes Go.ChangeAt Go.RowKit Wd

theorem live_fit : FitAll [(1, 1), (4, 1)] := by
  intro j
  match j with
  | 0 => simp
  | 1 => simp
  | j + 2 => simp

end Go.Proofs.Ytgfdielipbcfeaa
