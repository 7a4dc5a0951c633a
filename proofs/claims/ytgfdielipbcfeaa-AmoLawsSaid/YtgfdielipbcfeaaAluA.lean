/-
  Contracts of package alu (layer 7): the functions that long, short and product hand out.
-/
import Derived.Test.YtgfdielipbcfeaaShort
namespace Go.Proofs.Ytgfdielipbcfeaa
open Go.ChangeShapes Go.WideShapes Go.ChangeAt Go.RowKit Wd

def lessU (a b : Int) : Bool := decide (a < b)
end Go.Proofs.Ytgfdielipbcfeaa
