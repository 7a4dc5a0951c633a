/-
  The contract of insn.Check.
-/
import Derived.Test.YteknlcigfjdmdaaDoorInM
import Derived.Test.YteknlcigfjdmdaaDoorInL
import Derived.Deep.RegionHeld3
namespace Go.Proofs.YteknlcigfjdmdaaDoor
open Go.ChangeShapes Go.WideShapes Go.ChangeAt Go.RowKit Wd

def rangeB (rd rs1 rs2 csr : Int) : Bool := inF rd 32 && inF rs1 32 && inF rs2 32 && inF csr 4096
def checkS (op rd rs1 rs2 imm csr : Int) (aq rl : Bool) : Int :=
  if fmtN op = 0 then 1 else if foreignS (fmtN op) rd rs1 rs2 imm csr aq rl = true then 2 else if rangeB rd rs1 rs2 csr = false then 3 else if immD (fmtN op : Nat) (layD (fmtN op : Nat) imm) = imm then 0 else 3
structure InsAt (w : World) (b : Nat) (op rd rs1 rs2 imm csr : Int) (aq rl : Bool) : Prop where
  c : w.cell? ⟨b, 0, none⟩ = some (.int .i64 op) ∧ w.cell? ⟨b, 1, none⟩ = some (.int .i64 rd) ∧ w.cell? ⟨b, 2, none⟩ = some (.int .i64 rs1) ∧ w.cell? ⟨b, 3, none⟩ = some (.int .i64 rs2) ∧ w.cell? ⟨b, 4, none⟩ = some (.int .i64 imm) ∧ w.cell? ⟨b, 5, none⟩ = some (.int .i64 csr) ∧ w.cell? ⟨b, 6, none⟩ = some (.bool aq) ∧ w.cell? ⟨b, 7, none⟩ = some (.bool rl)
theorem insAt_new (w : World) (t : TypeId) (op rd rs1 rs2 imm csr : Int) (aq rl : Bool) : InsAt (w.alloc (.cells #[.int .i64 op, .int .i64 rd, .int .i64 rs1, .int .i64 rs2, .int .i64 imm, .int .i64 csr, .bool aq, .bool rl] t)) w.heap.size op rd rs1 rs2 imm csr aq rl := by
  constructor
  refine ⟨?_, ?_, ?_, ?_, ?_, ?_, ?_, ?_⟩ <;> simp [go_sem]
theorem InsAt.on {w w' : World} {b : Nat} {op rd rs1 rs2 imm csr : Int} {aq rl : Bool} (h : InsAt w b op rd rs1 rs2 imm csr aq rl) (hb : Below w.heap.size w w') : InsAt w' b op rd rs1 rs2 imm csr aq rl := by
  obtain ⟨⟨c0, c1, c2, c3, c4, c5, c6, c7⟩⟩ := h
  have hl := lt_cell c0
  exact ⟨⟨(hb.cell (p := ⟨b, 0, none⟩) hl).trans c0, (hb.cell (p := ⟨b, 1, none⟩) hl).trans c1, (hb.cell (p := ⟨b, 2, none⟩) hl).trans c2, (hb.cell (p := ⟨b, 3, none⟩) hl).trans c3, (hb.cell (p := ⟨b, 4, none⟩) hl).trans c4, (hb.cell (p := ⟨b, 5, none⟩) hl).trans c5, (hb.cell (p := ⟨b, 6, none⟩) hl).trans c6, (hb.cell (p := ⟨b, 7, none⟩) hl).trans c7⟩⟩
abbrev CS (w : World) (b : Nat) (imm : Int) (w' : World) : Prop := Below w.heap.size w w' ∧ w'.cell? ⟨b, 4, none⟩ = some (.int .i64 imm)
theorem CS.on {w w' w2 : World} {b : Nat} {imm : Int} (h : CS w b imm w') (hb : Below w'.heap.size w' w2) : CS w b imm w2 :=
  ⟨h.1.trans (hb.mono h.1.size), (hb.cell (p := ⟨b, 4, none⟩) (lt_cell h.2)).trans h.2⟩
theorem CS.drew {w w' : World} {b : Nat} {imm : Int} (h : CS w b imm w') : CS w b imm w'.drew := h.on ((Below.refl _ _).drew)
set_option maxHeartbeats 4000000 in
theorem check_c (op rd rs1 rs2 imm csr : Int) (aq rl : Bool) (w : World) (hv : VarsAt w) :
    Calls Tryd.prog 11 #[.agg #[.int .i64 op, .int .i64 rd, .int .i64 rs1, .int .i64 rs2, .int .i64 imm, .int .i64 csr, .bool aq, .bool rl]] w fun e w' => e = .returned (.int .i64 (checkS op rd rs1 rs2 imm csr aq rl)) ∧ Below w.heap.size w w' := by
  generalize hr : checkS op rd rs1 rs2 imm csr aq rl = r
  unfold checkS at hr
  have HR := Lib.hid hr
  have HV := Lib.hid hv
  have hfl := fmtN_lt op
  clear hr hv
  go_enter Tryd.func11, Tryd.ntmps11
  go_wp2_with fail
  have HB0 := Lib.hid (show Below w.heap.size w (w.alloc (.cells #[.int .i64 op, .int .i64 rd, .int .i64 rs1, .int .i64 rs2, .int .i64 imm, .int .i64 csr, .bool aq, .bool rl] 25)) from (Below.refl _ _).alloc (Nat.le_refl _) _)
  have HI0 := Lib.hid (insAt_new w 25 op rd rs1 rs2 imm csr aq rl)
  generalize (w.alloc (.cells #[.int .i64 op, .int .i64 rd, .int .i64 rs1, .int .i64 rs2, .int .i64 imm, .int .i64 csr, .bool aq, .bool rl] 25)) = wa at *
  refine (formatOf_c _ _).mono ?_
  rintro e w1 ⟨rfl, hb⟩
  have HI1 := Lib.hid (HI0.out.on hb)
  have HB1 := Lib.hid (HB0.out.trans (hb.mono HB0.out.size))
  clear hb HI0 HB0
  generalize hff : fmtN op = f at *
  clear hff
  by_cases h0 : f = 0
  · have e0 : (((f : Nat) : Int) == 0) = true := by rw [h0]; rfl
    have HX := Lib.hid (show (1 : Int) = r by rw [← HR.out, if_pos h0])
    clear h0 HR
    generalize ((f : Nat) : Int) = fi at *
    go_wp2_with fail
    go_ret
    exact ⟨ret_u HX.out, HB1.out⟩
  have e0 : (((f : Nat) : Int) == 0) = false := by simpa using h0
  have hr1 := HR.out
  rw [if_neg h0] at hr1
  have HR1 := Lib.hid hr1
  clear hr1 HR h0
  obtain ⟨c0, c1, c2, c3, c4, c5, c6, c7⟩ := HI1.out.c
  go_wp2_with fail
  refine (foreign_c f hfl op rd rs1 rs2 imm csr aq rl _ (HV.out.low HB1.out)).mono ?_
  rintro e w2 ⟨rfl, hb⟩
  have HI2 := Lib.hid (HI1.out.on hb)
  have HB2 := Lib.hid (HB1.out.trans (hb.mono HB1.out.size))
  clear hb c0 c1 c2 c3 c4 c5 c6 c7 HI1 HB1
  obtain ⟨c0, c1, c2, c3, c4, c5, c6, c7⟩ := HI2.out.c
  cases hfo : foreignS f rd rs1 rs2 imm csr aq rl
  rotate_left
  · have HX := Lib.hid (show (2 : Int) = r by rw [← HR1.out, if_pos hfo])
    clear hfo HR1
    go_wp2_with fail
    go_ret
    exact ⟨ret_u HX.out, HB2.out⟩
  have hr1 := HR1.out
  rw [if_neg (by rw [hfo]; exact Bool.false_ne_true)] at hr1
  have HR2 := Lib.hid hr1
  clear hr1 HR1 hfo
  cases i1 : inF rd 32
  · have HX := Lib.hid (show (3 : Int) = r by rw [← HR2.out, if_pos (by unfold rangeB; simp [i1])])
    go_wp2_with fail
    refine (isField5_c rd _ i1 _).mono ?_
    rintro e wz ⟨rfl, rfl⟩
    go_wp2_with fail
    go_ret
    exact ⟨ret_u HX.out, HB2.out⟩
  cases i2 : inF rs1 32
  · have HX := Lib.hid (show (3 : Int) = r by rw [← HR2.out, if_pos (by unfold rangeB; simp [i1, i2])])
    go_wp2_with fail
    refine (isField5_c rd _ i1 _).mono ?_
    rintro e wz ⟨rfl, rfl⟩
    go_wp2_with fail
    refine (isField5_c rs1 _ i2 _).mono ?_
    rintro e wz ⟨rfl, rfl⟩
    go_wp2_with fail
    go_ret
    exact ⟨ret_u HX.out, HB2.out⟩
  cases i3 : inF rs2 32
  · have HX := Lib.hid (show (3 : Int) = r by rw [← HR2.out, if_pos (by unfold rangeB; simp [i1, i2, i3])])
    go_wp2_with fail
    refine (isField5_c rd _ i1 _).mono ?_
    rintro e wz ⟨rfl, rfl⟩
    go_wp2_with fail
    refine (isField5_c rs1 _ i2 _).mono ?_
    rintro e wz ⟨rfl, rfl⟩
    go_wp2_with fail
    refine (isField5_c rs2 _ i3 _).mono ?_
    rintro e wz ⟨rfl, rfl⟩
    go_wp2_with fail
    go_ret
    exact ⟨ret_u HX.out, HB2.out⟩
  cases i4 : inF csr 4096
  · have HX := Lib.hid (show (3 : Int) = r by rw [← HR2.out, if_pos (by unfold rangeB; simp [i1, i2, i3, i4])])
    go_wp2_with fail
    refine (isField5_c rd _ i1 _).mono ?_
    rintro e wz ⟨rfl, rfl⟩
    go_wp2_with fail
    refine (isField5_c rs1 _ i2 _).mono ?_
    rintro e wz ⟨rfl, rfl⟩
    go_wp2_with fail
    refine (isField5_c rs2 _ i3 _).mono ?_
    rintro e wz ⟨rfl, rfl⟩
    go_wp2_with fail
    refine (isField12_c csr _ i4 _).mono ?_
    rintro e wz ⟨rfl, rfl⟩
    go_wp2_with fail
    go_ret
    exact ⟨ret_u HX.out, HB2.out⟩
  have hr1 := HR2.out
  rw [if_neg (by unfold rangeB; simp [i1, i2, i3, i4])] at hr1
  have HR3 := Lib.hid hr1
  clear hr1 HR2
  go_wp2_with fail
  refine (isField5_c rd _ i1 _).mono ?_
  rintro e wz ⟨rfl, rfl⟩
  go_wp2_with fail
  refine (isField5_c rs1 _ i2 _).mono ?_
  rintro e wz ⟨rfl, rfl⟩
  go_wp2_with fail
  refine (isField5_c rs2 _ i3 _).mono ?_
  rintro e wz ⟨rfl, rfl⟩
  go_wp2_with fail
  refine (isField12_c csr _ i4 _).mono ?_
  rintro e wz ⟨rfl, rfl⟩
  go_wp2_with fail
  clear i1 i2 i3 i4
  have HS0 := Lib.hid (show CS w w.heap.size imm w2 from ⟨HB2.out, c4⟩)
  have hll := layD_lt (f : Nat) imm
  clear c0 c1 c2 c3 c4 c5 c6 c7
  go_region_held3 (fun w' => Below w.heap.size w w' ∧ w'.cell? ⟨w.heap.size, 4, none⟩ = some (.int .i64 imm))
    (first | with_reducible exact HS0.out.drew | with_reducible exact CS.on (by assumption) (by assumption) | with_reducible assumption)
    (first
      | (go_at_call 21; refine (lay_c _ _ _).mono ?_; rintro e wn ⟨rfl, hb⟩)
      | (go_at_call 28; refine (imm_c _ _ _ hll.1 hll.2).mono ?_; rintro e wm ⟨rfl, hb2⟩))
  have HE := Lib.hid (CS.on (CS.on HS0.out.drew hb) hb2)
  rename_i hHeldEnd
  clear hb hb2 HS0 hHeldEnd
  by_cases hq : immD (f : Nat) (layD (f : Nat) imm) = imm
  · have q1 : (immD (f : Nat) (layD (f : Nat) imm) != imm) = false := by simp [hq]
    have HX := Lib.hid (show (0 : Int) = r by rw [← HR3.out, if_pos hq])
    clear hq HR3
    generalize immD (f : Nat) (layD (f : Nat) imm) = im at *
    go_wp2_with fail
    go_ret
    exact ⟨ret_u HX.out, HE.out.1⟩
  · have q1 : (immD (f : Nat) (layD (f : Nat) imm) != imm) = true := by simpa using hq
    have HX := Lib.hid (show (3 : Int) = r by rw [← HR3.out, if_neg hq])
    clear hq HR3
    generalize immD (f : Nat) (layD (f : Nat) imm) = im at *
    go_wp2_with fail
    go_ret
    exact ⟨ret_u HX.out, HE.out.1⟩
end Go.Proofs.YteknlcigfjdmdaaDoor
