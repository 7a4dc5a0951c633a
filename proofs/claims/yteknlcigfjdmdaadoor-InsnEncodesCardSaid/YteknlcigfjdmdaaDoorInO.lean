/-
  The contract of insn.Encode.
-/
import Derived.Test.YteknlcigfjdmdaaDoorInN
namespace Go.Proofs.YteknlcigfjdmdaaDoor
open Go.ChangeShapes Go.WideShapes Go.ChangeAt Go.RowKit Wd

theorem check_ok {op rd rs1 rs2 imm csr : Int} {aq rl : Bool} (h : checkS op rd rs1 rs2 imm csr aq rl = 0) : (1 ≤ op ∧ op ≤ 98) ∧ foreignS (fmtN op) rd rs1 rs2 imm csr aq rl = false ∧ ((0 ≤ rd ∧ rd < 32) ∧ (0 ≤ rs1 ∧ rs1 < 32) ∧ (0 ≤ rs2 ∧ rs2 < 32) ∧ 0 ≤ csr ∧ csr < 4096) ∧ immD (fmtN op : Nat) (layD (fmtN op : Nat) imm) = imm := by
  unfold checkS at h
  by_cases h0 : fmtN op = 0
  · rw [if_pos h0] at h; omega
  rw [if_neg h0] at h
  have hop : 1 ≤ op ∧ op ≤ 98 := Classical.byContradiction fun hn => h0 ((fmt_zero op).2 hn)
  cases hf : foreignS (fmtN op) rd rs1 rs2 imm csr aq rl
  rotate_left
  · rw [if_pos hf] at h; omega
  rw [if_neg (by rw [hf]; exact Bool.false_ne_true)] at h
  cases hr : rangeB rd rs1 rs2 csr
  · rw [if_pos hr] at h; omega
  rw [if_neg (by rw [hr]; exact Bool.noConfusion)] at h
  by_cases hi : immD (fmtN op : Nat) (layD (fmtN op : Nat) imm) = imm
  rotate_left
  · rw [if_neg hi] at h; omega
  refine ⟨hop, rfl, ?_, hi⟩
  unfold rangeB at hr
  simp only [Bool.and_eq_true, inF_iff] at hr
  exact ⟨hr.1.1.1, hr.1.1.2, hr.1.2, hr.2⟩
/-- The word that Encode puts together. -/
def encI (v la rd rs1 rs2 csr : Int) (aq rl : Bool) : Int := bits .or .u32 (bits .or .u32 (bits .or .u32 v la) (bits .or .u32 (bits .or .u32 (bits .or .u32 (rd * 128) (rs1 * 32768)) (rs2 * 1048576)) (csr * 1048576))) (bits .or .u32 (flagS aq 67108864) (flagS rl 33554432))
abbrev ES (w : World) (b : Nat) (op imm : Int) (k : Nat) (v : Int) (w' : World) : Prop := Below w.heap.size w w' ∧ w'.cell? ⟨b, 0, none⟩ = some (.int .i64 op) ∧ w'.cell? ⟨b, 4, none⟩ = some (.int .i64 imm) ∧ w'.cell? ⟨0, k, none⟩ = some (.int .u32 v)
theorem ES.on {w w' w2 : World} {b : Nat} {op imm : Int} {k : Nat} {v : Int} (h : ES w b op imm k v w') (hb : Below w'.heap.size w' w2) : ES w b op imm k v w2 :=
  ⟨h.1.trans (hb.mono h.1.size), (hb.cell (p := ⟨b, 0, none⟩) (lt_cell h.2.1)).trans h.2.1, (hb.cell (p := ⟨b, 4, none⟩) (lt_cell h.2.2.1)).trans h.2.2.1, (hb.cell (p := ⟨0, k, none⟩) (lt_cell h.2.2.2)).trans h.2.2.2⟩
theorem ES.drew {w w' : World} {b : Nat} {op imm : Int} {k : Nat} {v : Int} (h : ES w b op imm k v w') : ES w b op imm k v w'.drew := h.on ((Below.refl _ _).drew)
set_option maxHeartbeats 4000000 in
theorem encode_no (op rd rs1 rs2 imm csr : Int) (aq rl : Bool) (w : World) (hv : VarsAt w) (he : checkS op rd rs1 rs2 imm csr aq rl ≠ 0) :
    Calls Tryd.prog 9 #[.agg #[.int .i64 op, .int .i64 rd, .int .i64 rs1, .int .i64 rs2, .int .i64 imm, .int .i64 csr, .bool aq, .bool rl]] w fun e w' => e = .returned (.tuple #[.int .u32 0, .int .i64 (checkS op rd rs1 rs2 imm csr aq rl)]) ∧ Below w.heap.size w w' := by
  have q1 : (checkS op rd rs1 rs2 imm csr aq rl != 0) = true := by simpa using he
  have HV := Lib.hid hv
  clear hv he
  go_enter Tryd.func9, Tryd.ntmps9
  go_wp2_with fail
  have HB0 := Lib.hid (show Below w.heap.size w (w.alloc (.cells #[.int .i64 op, .int .i64 rd, .int .i64 rs1, .int .i64 rs2, .int .i64 imm, .int .i64 csr, .bool aq, .bool rl] 25)) from (Below.refl _ _).alloc (Nat.le_refl _) _)
  refine (check_c op rd rs1 rs2 imm csr aq rl _ (HV.out.low HB0.out)).mono ?_
  rintro e w1 ⟨rfl, hb⟩
  have HB1 := Lib.hid (HB0.out.trans (hb.mono HB0.out.size))
  clear hb HB0
  generalize hcc : checkS op rd rs1 rs2 imm csr aq rl = c at *
  have HCC := Lib.hid hcc
  clear hcc
  go_wp2_with fail
  go_ret2
  exact ⟨by rw [HCC.out]; rfl, HB1.out⟩
set_option maxHeartbeats 4000000 in
theorem encode_yes (op rd rs1 rs2 imm csr : Int) (aq rl : Bool) (w : World) (hv : VarsAt w) (he : checkS op rd rs1 rs2 imm csr aq rl = 0) :
    Calls Tryd.prog 9 #[.agg #[.int .i64 op, .int .i64 rd, .int .i64 rs1, .int .i64 rs2, .int .i64 imm, .int .i64 csr, .bool aq, .bool rl]] w fun e w' => e = .returned (.tuple #[.int .u32 (encI (fixV op) (layD (fmtN op : Nat) imm) rd rs1 rs2 csr aq rl), .int .i64 0]) ∧ Below w.heap.size w w' := by
  obtain ⟨⟨o1, o2⟩, hfo, ⟨⟨a0, a1⟩, ⟨b0, b1⟩, ⟨d0, d1⟩, g0, g1⟩, him⟩ := check_ok he
  obtain ⟨k, rfl⟩ : ∃ k : Nat, op = (k : Int) := ⟨op.toNat, by omega⟩
  have hk : k < 99 := by omega
  have hk2 : (k : Int) < 99 := by omega
  have HV := Lib.hid hv
  have HE := Lib.hid he
  clear hv he hfo him
  go_enter Tryd.func9, Tryd.ntmps9
  go_wp2_with fail
  have HB0 := Lib.hid (show Below w.heap.size w (w.alloc (.cells #[.int .i64 (k : Int), .int .i64 rd, .int .i64 rs1, .int .i64 rs2, .int .i64 imm, .int .i64 csr, .bool aq, .bool rl] 25)) from (Below.refl _ _).alloc (Nat.le_refl _) _)
  have HI0 := Lib.hid (insAt_new w 25 (k : Int) rd rs1 rs2 imm csr aq rl)
  refine (check_c (k : Int) rd rs1 rs2 imm csr aq rl _ (HV.out.low HB0.out)).mono ?_
  rintro e w1 ⟨rfl, hb⟩
  have HB1 := Lib.hid (HB0.out.trans (hb.mono HB0.out.size))
  have HI1 := Lib.hid (HI0.out.on hb)
  clear hb HB0 HI0
  rw [HE.out]
  have HS0 := Lib.hid (show ES w w.heap.size (k : Int) imm k (valN k : Nat) w1 from ⟨HB1.out, HI1.out.c.1, HI1.out.c.2.2.2.2.1, (HV.out.low HB1.out).vals k hk⟩)
  go_wp2_with fail
  go_region_held3 (fun w' => Below w.heap.size w w' ∧ w'.cell? ⟨w.heap.size, 0, none⟩ = some (.int .i64 (k : Int)) ∧ w'.cell? ⟨w.heap.size, 4, none⟩ = some (.int .i64 imm) ∧ w'.cell? ⟨0, k, none⟩ = some (.int .u32 ((valN k : Nat) : Int)))
    (first | with_reducible exact HS0.out.drew | with_reducible exact ES.on (by assumption) (by assumption) | with_reducible assumption)
    (first
      | (go_at_call 22; refine (formatOf_c _ _).mono ?_; rintro e wn ⟨rfl, hb⟩)
      | (go_at_call 21; refine (lay_c _ _ _).mono ?_; rintro e wm ⟨rfl, hb2⟩))
  rename_i hHeldEnd
  have HI2 := Lib.hid ((HI1.out.on ((Below.refl _ _).drew)).on hb)
  have HI3 := Lib.hid (HI2.out.on hb2)
  have HB3 := Lib.hid hHeldEnd.1
  clear hb hb2 hHeldEnd HS0 HI1 HI2 HB1
  obtain ⟨c0, c1, c2, c3, c4, c5, c6, c7⟩ := HI3.out.c
  have hll := layD_lt (fmtN (k : Int) : Nat) imm
  generalize hla : layD (fmtN (k : Int) : Nat) imm = la at *
  have HLA := Lib.hid hla
  clear hla
  obtain ⟨l0, l1⟩ := hll
  have hvl := (tabs_ok ⟨k, hk⟩ (by simp only; omega)).2.2
  simp only at hvl
  go_wp2_with fail
  refine wp_region_still_lit (by kernel_rfl) (by kernel_rfl) ?_
  simp only [drew_eq]
  have c6' : wm.drew.cell? ⟨w.heap.size, 6, none⟩ = some (.bool aq) := c6
  have c7' : wm.drew.cell? ⟨w.heap.size, 7, none⟩ = some (.bool rl) := c7
  have HB4 := Lib.hid (HB3.out.drew)
  have HCU := Lib.hid (fun w' => Calls.turn (flag26_c aq w'))
  have HCV := Lib.hid (fun w' => Calls.turn (flag25_c rl w'))
  clear c0 c1 c2 c3 c4 c5 c6 c7 l0 l1 hvl
  generalize wm.drew = wq at *
  generalize hw5 : bits .or .u32 (bits .or .u32 ((valN k : Nat) : Int) la) (bits .or .u32 (bits .or .u32 (bits .or .u32 (rd * 128) (rs1 * 32768)) (rs2 * 1048576)) (csr * 1048576)) = w5 at *
  have HW5 := Lib.hid hw5
  clear hw5
  iterate 3 still_step
  still_call (HCU.out _)
  iterate 2 still_step
  still_call (HCV.out _)
  iterate 3 still_step
  refine wpStill_nil ?_
  go_wp2_with fail
  go_ret2
  exact ⟨by rw [← HW5.out, ← HLA.out]; rfl, HB4.out⟩
end Go.Proofs.YteknlcigfjdmdaaDoor
