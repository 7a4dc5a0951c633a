/-
  InsnBack: how Decode answers; cells behind eight stores.
-/
import Derived.Test.YteknlcigfjdmdaaDoorDoor3
import Derived.Test.YteknlcigfjdmdaaDoorBack5
import Derived.Test.YteknlcigfjdmdaaDoorOpenInsn
import Derived.Test.YteknlcigfjdmdaaDoorRef3h
namespace Go.Proofs.YteknlcigfjdmdaaDoor
open Go.ChangeShapes Go.WideShapes Go.ChangeAt Go.RowKit Wd

/-- How Decode answers, as six integers and two bools. -/
theorem dec_shape (X : Nat) (hX : X < 4294967296) : (decV X = .tuple #[.agg #[.int .i64 0, .int .i64 0, .int .i64 0, .int .i64 0, .int .i64 0, .int .i64 0, .bool false, .bool false], .bool false]) ∨
    ∃ (op rd rs1 rs2 imm csr : Int) (aq rl : Bool), decV X = .tuple #[.agg #[.int .i64 op, .int .i64 rd, .int .i64 rs1, .int .i64 rs2, .int .i64 imm, .int .i64 csr, .bool aq, .bool rl], .bool true] ∧ checkS op rd rs1 rs2 imm csr aq rl = 0 ∧ encI (fixV op) (layD (fmtN op : Nat) imm) rd rs1 rs2 csr aq rl = (X : Nat) := by
  unfold decV
  cases h : decN X with
  | none => exact .inl rfl
  | some k =>
    have hk := mem_opsTo.1 (List.mem_of_find?_eq_some h)
    exact .inr ⟨_, _, _, _, _, _, _, _, rfl, chk_of_dec X k hk.1 hk.2, enc_of_dec X k hX hk.1 hk.2 (List.find?_some h)⟩
theorem xAt_gen (w : World) (t : TypeId) (e0 e1 e2 e3 e4 e5 : Int) (e6 e7 : Bool) : XAt (w.alloc (.cells #[.int .i64 e0, .int .i64 e1, .int .i64 e2, .int .i64 e3, .int .i64 e4, .int .i64 e5, .bool e6, .bool e7] t)) w.heap.size (.int .i64 e0) (.int .i64 e1) (.int .i64 e2) (.int .i64 e3) (.int .i64 e4) (.int .i64 e5) (.bool e6) (.bool e7) := by
  constructor
  · refine ⟨?_, ?_, ?_, ?_, ?_, ?_, ?_, ?_⟩ <;> simp [go_sem]
  · refine ⟨?_, ?_, ?_, ?_, ?_, ?_, ?_, ?_⟩ <;> simp [go_sem]
theorem set8_far {W : World} {b a i : Nat} {u v0 v1 v2 v3 v4 v5 v6 v7 : Value} (hne : b ≠ a) (h : W.cell? ⟨a, i, none⟩ = some u) : ((((((((W.setCell ⟨b, 0, none⟩ v0).setCell ⟨b, 1, none⟩ v1).setCell ⟨b, 2, none⟩ v2).setCell ⟨b, 3, none⟩ v3).setCell ⟨b, 4, none⟩ v4).setCell ⟨b, 5, none⟩ v5).setCell ⟨b, 6, none⟩ v6).setCell ⟨b, 7, none⟩ v7).cell? ⟨a, i, none⟩ = some u := by
  rw [World.cell?_setCell_far _ _ _ _ hne, World.cell?_setCell_far _ _ _ _ hne, World.cell?_setCell_far _ _ _ _ hne, World.cell?_setCell_far _ _ _ _ hne, World.cell?_setCell_far _ _ _ _ hne, World.cell?_setCell_far _ _ _ _ hne, World.cell?_setCell_far _ _ _ _ hne, World.cell?_setCell_far _ _ _ _ hne]
  exact h
theorem InsAt.set8 {W : World} {b a : Nat} {op rd rs1 rs2 imm csr : Int} {aq rl : Bool} (h : InsAt W a op rd rs1 rs2 imm csr aq rl) (hne : b ≠ a) (v0 v1 v2 v3 v4 v5 v6 v7 : Value) : InsAt ((((((((W.setCell ⟨b, 0, none⟩ v0).setCell ⟨b, 1, none⟩ v1).setCell ⟨b, 2, none⟩ v2).setCell ⟨b, 3, none⟩ v3).setCell ⟨b, 4, none⟩ v4).setCell ⟨b, 5, none⟩ v5).setCell ⟨b, 6, none⟩ v6).setCell ⟨b, 7, none⟩ v7) a op rd rs1 rs2 imm csr aq rl := by
  obtain ⟨⟨c0, c1, c2, c3, c4, c5, c6, c7⟩⟩ := h
  exact ⟨⟨set8_far hne c0, set8_far hne c1, set8_far hne c2, set8_far hne c3, set8_far hne c4, set8_far hne c5, set8_far hne c6, set8_far hne c7⟩⟩
theorem _root_.Go.Below.sets8 {B b : Nat} {w W : World} (h : Below B w W) (hb : B ≤ b) (v0 v1 v2 v3 v4 v5 v6 v7 : Value) : Below B w ((((((((W.setCell ⟨b, 0, none⟩ v0).setCell ⟨b, 1, none⟩ v1).setCell ⟨b, 2, none⟩ v2).setCell ⟨b, 3, none⟩ v3).setCell ⟨b, 4, none⟩ v4).setCell ⟨b, 5, none⟩ v5).setCell ⟨b, 6, none⟩ v6).setCell ⟨b, 7, none⟩ v7) :=
  (((((((h.setCell (p := ⟨b, 0, none⟩) hb v0).setCell (p := ⟨b, 1, none⟩) hb v1).setCell (p := ⟨b, 2, none⟩) hb v2).setCell (p := ⟨b, 3, none⟩) hb v3).setCell (p := ⟨b, 4, none⟩) hb v4).setCell (p := ⟨b, 5, none⟩) hb v5).setCell (p := ⟨b, 6, none⟩) hb v6).setCell (p := ⟨b, 7, none⟩) hb v7
end Go.Proofs.YteknlcigfjdmdaaDoor
