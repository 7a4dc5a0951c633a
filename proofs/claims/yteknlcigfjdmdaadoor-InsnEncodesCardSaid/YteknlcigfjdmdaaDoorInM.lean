/-
  The contract of insn.foreign.
-/
import Derived.Test.YteknlcigfjdmdaaDoorInKa
import Derived.Test.YteknlcigfjdmdaaDoorInKb
import Derived.Test.YteknlcigfjdmdaaDoorInKc
import Derived.Test.YteknlcigfjdmdaaDoorInKd
import Derived.Test.YteknlcigfjdmdaaDoorInKe
namespace Go.Proofs.YteknlcigfjdmdaaDoor
open Go.ChangeShapes Go.WideShapes Go.ChangeAt Go.RowKit Wd

theorem lacks_land : ∀ f : Fin 15, lacksB f.val 1 = ((fldL.getD f.val 0) &&& 1 == 0) ∧ lacksB f.val 2 = ((fldL.getD f.val 0) &&& 2 == 0) ∧ lacksB f.val 4 = ((fldL.getD f.val 0) &&& 4 == 0) ∧ lacksB f.val 8 = ((fldL.getD f.val 0) &&& 8 == 0) ∧ lacksB f.val 16 = ((fldL.getD f.val 0) &&& 16 == 0) := by decide +kernel
theorem fld_all : ∀ f : Fin 15, (fldL.getD f.val 0 = 7 ∧ partsL (f.val : Nat) = []) ∨ (fldL.getD f.val 0 = 3 ∧ partsL (f.val : Nat) ≠ []) ∨ (fldL.getD f.val 0 = 6 ∧ partsL (f.val : Nat) ≠ []) ∨ (fldL.getD f.val 0 = 1 ∧ partsL (f.val : Nat) ≠ []) ∨
    (fldL.getD f.val 0 = 11 ∧ partsL (f.val : Nat) = []) ∨ (fldL.getD f.val 0 = 23 ∧ partsL (f.val : Nat) = []) ∨ (fldL.getD f.val 0 = 19 ∧ partsL (f.val : Nat) = []) ∨ (fldL.getD f.val 0 = 0 ∧ partsL (f.val : Nat) = []) ∨ (fldL.getD f.val 0 = 6 ∧ partsL (f.val : Nat) = []) := by decide +kernel
theorem foreign_c (f : Nat) (hf : f < 15) (op rd rs1 rs2 imm csr : Int) (aq rl : Bool) (w : World) (hv : VarsAt w) :
    Calls Tryd.prog 26 #[.int .i64 (f : Nat), .agg #[.int .i64 op, .int .i64 rd, .int .i64 rs1, .int .i64 rs2, .int .i64 imm, .int .i64 csr, .bool aq, .bool rl]] w fun e w' => e = .returned (.bool (foreignS f rd rs1 rs2 imm csr aq rl)) ∧ Below w.heap.size w w' := by
  obtain ⟨a, b, c, d, g⟩ := lacks_land ⟨f, hf⟩
  simp only at a b c d g
  rcases fld_all ⟨f, hf⟩ with ⟨h, e⟩ | ⟨h, e⟩ | ⟨h, e⟩ | ⟨h, e⟩ | ⟨h, e⟩ | ⟨h, e⟩ | ⟨h, e⟩ | ⟨h, e⟩ | ⟨h, e⟩
  · simp only at h; rw [h] at a b c d g
    exact foreign_0 f hf op rd rs1 rs2 imm csr aq rl w hv a b c d g e
  · simp only at h; rw [h] at a b c d g
    exact foreign_1 f hf op rd rs1 rs2 imm csr aq rl w hv a b c d g e
  · simp only at h; rw [h] at a b c d g
    exact foreign_2 f hf op rd rs1 rs2 imm csr aq rl w hv a b c d g e
  · simp only at h; rw [h] at a b c d g
    exact foreign_3 f hf op rd rs1 rs2 imm csr aq rl w hv a b c d g e
  · simp only at h; rw [h] at a b c d g
    exact foreign_4 f hf op rd rs1 rs2 imm csr aq rl w hv a b c d g e
  · simp only at h; rw [h] at a b c d g
    exact foreign_5 f hf op rd rs1 rs2 imm csr aq rl w hv a b c d g e
  · simp only at h; rw [h] at a b c d g
    exact foreign_6 f hf op rd rs1 rs2 imm csr aq rl w hv a b c d g e
  · simp only at h; rw [h] at a b c d g
    exact foreign_7 f hf op rd rs1 rs2 imm csr aq rl w hv a b c d g e
  · simp only at h; rw [h] at a b c d g
    exact foreign_8 f hf op rd rs1 rs2 imm csr aq rl w hv a b c d g e
end Go.Proofs.YteknlcigfjdmdaaDoor
