/-
  Contracts of the reference's tables (layers 3 and 4): Names, Rows.
-/
import Derived.Test.YteknlcigfjdmdaaDoorRefC
import Derived.Test.YteknlcigfjdmdaaDoorTab
import Derived.Great.BuildSlice
import Derived.Deep.DeepCutAuto
namespace Go.Proofs.YteknlcigfjdmdaaDoor
open Go.ChangeShapes Go.WideShapes Go.ChangeAt Go.RowKit Wd

def bsOf (l : List UInt8) : ByteArray := ⟨l.toArray⟩
abbrev strV (l : List UInt8) : Value := .string (bsOf l)
theorem info_str : (Tryd.prog.info? 9).map (fun i => (i.zero, i.size, i.bytes)) = some (some (.string ⟨#[]⟩), 1, 16) := by kernel_rfl
end Go.Proofs.YteknlcigfjdmdaaDoor
