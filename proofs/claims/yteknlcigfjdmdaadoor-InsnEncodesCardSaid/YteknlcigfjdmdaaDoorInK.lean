/-
  What the walks of insn.foreign lean on.
-/
import Derived.Test.YteknlcigfjdmdaaDoorInJ
namespace Go.Proofs.YteknlcigfjdmdaaDoor
open Go.ChangeShapes Go.WideShapes Go.ChangeAt Go.RowKit Wd

set_option maxHeartbeats 1000000 in
theorem foreign1_c (f : Nat) (hf : f < 15) (what : Int) (b : Bool) (pf : Nat) (W : World) (hv : VarsAt W) (hcf : W.cell? ⟨pf, 0, none⟩ = some (.int .i64 (f : Nat))) (hb : lacksB f what = b) :
    Calls Tryd.prog 40 #[.int .u8 what, .pointer (some ⟨pf, 0, none⟩)] W fun e W' => e = .returned (.bool b) ∧ W = W' := by
  have hfl := hv.flds f hf
  have hf2 : (f : Int) < 15 := by omega
  have hl2 : (bits .and .u8 ((fldL.getD f 0 : Nat) : Int) what == 0) = b := hb
  clear hv hb
  generalize ((fldL.getD f 0 : Nat) : Int) = g at *
  go_enter Tryd.func40, Tryd.ntmps40
  go_wp2_with fail
  go_ret
  exact ⟨rfl, rfl⟩
theorem parts_E (f : Int) (h : partsL f = []) (w : World) : Calls Tryd.prog 41 #[.int .i64 f] w fun e w' => e = .returned (.slice none 0 0) ∧ w = w' := by
  refine (parts_c f w).mono ?_
  rintro e w' (⟨-, rfl, rfl⟩ | ⟨hne, -⟩)
  · exact ⟨rfl, rfl⟩
  · exact absurd h hne
theorem parts_N (f : Int) (h : partsL f ≠ []) (w : World) : Calls Tryd.prog 41 #[.int .i64 f] w fun e w' => e = .returned (.slice (some ⟨w.heap.size, 0, none⟩) (partsL f).length (partsL f).length) ∧ Below w.heap.size w w' := by
  refine (parts_c f w).mono ?_
  rintro e w' (⟨he, -⟩ | ⟨-, rfl, -, hb, -⟩)
  · exact absurd he h
  · exact ⟨rfl, hb⟩
def foreignS (f : Nat) (rd rs1 rs2 imm csr : Int) (aq rl : Bool) : Bool := (lacksB f 1 && (rd != 0)) || (lacksB f 2 && (rs1 != 0)) || (lacksB f 4 && (rs2 != 0)) || (lacksB f 8 && (csr != 0)) || (lacksB f 16 && (aq || rl)) || ((partsL (f : Nat)).isEmpty && (imm != 0))
theorem ins_box (w : World) (f op rd rs1 rs2 imm csr : Int) (aq rl : Bool) (s t : TypeId) : ((w.alloc (.cells #[.int .i64 f] s)).alloc (.cells #[.int .i64 op, .int .i64 rd, .int .i64 rs1, .int .i64 rs2, .int .i64 imm, .int .i64 csr, .bool aq, .bool rl] t)).cell? ⟨w.heap.size, 0, none⟩ = some (.int .i64 f) := by
  simp [go_sem, World.cell?_alloc_past]
end Go.Proofs.YteknlcigfjdmdaaDoor
