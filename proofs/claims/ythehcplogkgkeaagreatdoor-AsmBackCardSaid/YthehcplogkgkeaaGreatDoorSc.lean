/-
  The contract of the reference's Encode (layer 3).
-/
import Derived.Test.YthehcplogkgkeaaGreatDoorQk
import Derived.Test.YthehcplogkgkeaaGreatDoorSa
import Derived.Test.YthehcplogkgkeaaGreatDoorQm
set_option maxRecDepth 4000
namespace Go.Proofs.YthehcplogkgkeaaGreatDoor
open Go.ChangeShapes Go.WideShapes Go.ChangeAt Go.RowKit Wd

theorem ret2_u {a b c : Int} (h : a = b) : Ending.returned (.tuple #[.int .u64 a, .int .i64 c]) = .returned (.tuple #[.int .u64 b, .int .i64 c]) := by rw [h]
set_option maxHeartbeats 4000000 in
theorem refEncode_no (op rd rs1 rs2 imm csr : Int) (aq rl : Bool) (w : World) (hc : checkS op rd rs1 rs2 imm csr aq rl ≠ 0) :
    Calls Tryz.prog 42 #[.agg #[.int .i64 op, .int .i64 rd, .int .i64 rs1, .int .i64 rs2, .int .i64 imm, .int .i64 csr, .bool aq, .bool rl]] w fun e w' => e = .returned (.tuple #[.int .u64 0, .int .i64 (checkS op rd rs1 rs2 imm csr aq rl)]) ∧ Below w.heap.size w w' := by
  have q1 : (checkS op rd rs1 rs2 imm csr aq rl != 0) = true := by simpa using hc
  go_enter Tryz.func42, Tryz.ntmps42
  go_wp2_with fail
  have HB0 := Lib.hid (show Below w.heap.size w (w.alloc (.cells #[.int .i64 op, .int .i64 rd, .int .i64 rs1, .int .i64 rs2, .int .i64 imm, .int .i64 csr, .bool aq, .bool rl] 24)) from (Below.refl _ _).alloc (Nat.le_refl _) _)
  refine (refCheck_c op rd rs1 rs2 imm csr aq rl _).mono ?_
  rintro e w1 ⟨rfl, hb⟩
  have HB1 := Lib.hid (HB0.out.trans (hb.mono HB0.out.size))
  clear hb HB0 hc
  go_wp2_with fail
  go_ret2
  exact ⟨rfl, HB1.out⟩
set_option maxHeartbeats 4000000 in
set_option maxRecDepth 100000 in
theorem refEncode_yes (op rd rs1 rs2 imm csr : Int) (aq rl : Bool) (w : World) (hc : checkS op rd rs1 rs2 imm csr aq rl = 0) :
    Calls Tryz.prog 42 #[.agg #[.int .i64 op, .int .i64 rd, .int .i64 rs1, .int .i64 rs2, .int .i64 imm, .int .i64 csr, .bool aq, .bool rl]] w fun e w' => e = .returned (.tuple #[.int .u64 (encI (fixV op) (layD (fmtN op : Nat) imm) rd rs1 rs2 csr aq rl), .int .i64 0]) ∧ Below w.heap.size w w' := by
  obtain ⟨⟨o1, o2⟩, -, ⟨⟨a0, a1⟩, ⟨b0, b1⟩, ⟨g0, g1⟩, d0, d1⟩, -⟩ := check_ok hc
  have hfl := fmtN_lt op
  have HS := Lib.hid (show fixV op + layD (fmtN op : Nat) imm + 128 * rd + 32768 * rs1 + 1048576 * rs2 + 1048576 * csr + flagS aq 67108864 + flagS rl 33554432 = encI (fixV op) (layD (fmtN op : Nat) imm) rd rs1 rs2 csr aq rl by
    obtain ⟨k, rfl⟩ : ∃ k : Nat, op = (k : Int) := ⟨op.toNat, by omega⟩
    exact enc_sum k (by omega) (by omega) rd rs1 rs2 imm csr aq rl hc)
  have HC := Lib.hid hc
  obtain ⟨l0, l1⟩ := layD_lt (fmtN op : Nat) imm
  have v0 : 0 ≤ fixV op ∧ fixV op < 4294967296 := by
    obtain ⟨k, rfl⟩ : ∃ k : Nat, op = (k : Int) := ⟨op.toNat, by omega⟩
    have := (tabs_ok ⟨k, by omega⟩ (by simp only; omega)).2.2
    simp only at this
    have hv : fixV (k : Nat) = ((valN k : Nat) : Int) := rfl
    rw [hv]; omega
  clear hc o1 o2
  go_enter Tryz.func42, Tryz.ntmps42
  go_wp2_with fail
  have HB0 := Lib.hid (show Below w.heap.size w (w.alloc (.cells #[.int .i64 op, .int .i64 rd, .int .i64 rs1, .int .i64 rs2, .int .i64 imm, .int .i64 csr, .bool aq, .bool rl] 24)) from (Below.refl _ _).alloc (Nat.le_refl _) _)
  have HI0 := Lib.hid (insAt_new w 24 op rd rs1 rs2 imm csr aq rl)
  generalize (w.alloc (.cells #[.int .i64 op, .int .i64 rd, .int .i64 rs1, .int .i64 rs2, .int .i64 imm, .int .i64 csr, .bool aq, .bool rl] 24)) = wa at *
  refine (refCheck_c op rd rs1 rs2 imm csr aq rl _).mono ?_
  rintro e w1 ⟨rfl, hb⟩
  rw [HC.out]
  have HB1 := Lib.hid (HB0.out.trans (hb.mono HB0.out.size))
  have HI1 := Lib.hid (HI0.out.on hb)
  clear hb HB0 HI0
  obtain ⟨c0, -⟩ := HI1.out.c
  go_wp2_with fail
  refine (refFind_c _ _).mono ?_
  rintro e w2 ⟨rfl, hb⟩
  have HB2 := Lib.hid (HB1.out.trans (hb.mono HB1.out.size))
  have HI2 := Lib.hid (HI1.out.on hb)
  clear hb HB1 HI1 c0
  have HFM := Lib.hid (show (findRow op).2.1 = fmtN op from rfl)
  have HFV := Lib.hid (show (((findRow op).2.2.2 : Nat) : Int) = fixV op from rfl)
  unfold rowAgg
  rw [HFM.out, HFV.out]
  rw [show strV (Tab.names3.getD (fmtN op) []) = .string (bsOf (Tab.names3.getD (fmtN op) [])) from rfl]
  have HLA := Lib.hid (fun w' => (show Calls Tryz.prog 67 #[.string (bsOf (Tab.names3.getD (fmtN op) [])), .int .i64 imm] w' fun e w'' => e = .returned (.int .u64 (layD (fmtN op : Nat) imm)) ∧ Below w'.heap.size w' w'' from by rw [layD_eq _ hfl]; exact refLay_c _ hfl imm w'))
  generalize (((findRow op).1 : Nat) : Int) = q1 at *
  generalize (((findRow op).2.2.1 : Nat) : Int) = q2 at *
  generalize bsOf (Tab.names3.getD (fmtN op) []) = nm at *
  generalize hla : layD (fmtN op : Nat) imm = la at *
  generalize hvv : fixV op = v at *
  have HLL := Lib.hid hla
  have HVV := Lib.hid hvv
  clear HFM HFV hfl hla hvv
  go_upto_region 5 with (fail)
  have hI3 := HI2.out.on ((Below.refl _ w2).alloc (Nat.le_refl _) (.cells #[.int .i64 q1, .string nm, .int .u64 q2, .int .u64 v] 62))
  have hB3 := HB2.out.alloc HB2.out.size (.cells #[.int .i64 q1, .string nm, .int .u64 q2, .int .u64 v] 62)
  have hR3 := CsAt.new w2 62 #[.int .i64 q1, .string nm, .int .u64 q2, .int .u64 v]
  generalize w2.alloc (.cells #[.int .i64 q1, .string nm, .int .u64 q2, .int .u64 v] 62) = w3 at *
  generalize w2.heap.size = rb at *
  have r1 : w3.cell? ⟨rb, 1, none⟩ = some (.string nm) := hR3.cell 1
  have r3 : w3.cell? ⟨rb, 3, none⟩ = some (.int .u64 v) := hR3.cell 3
  have HI3 := Lib.hid hI3
  have HB3 := Lib.hid hB3
  have HR1 := Lib.hid r1
  have HR3 := Lib.hid r3
  clear hI3 hB3 hR3 r1 r3 HI2 HB2
  have hw1 : IntKind.u64.wrap (v + la) = v + la := IntWalk.u64_in _ (by omega)
  refine wp_region_steady (fun W => (W.cell? ⟨rb, 1, none⟩ = some (.string nm) ∧ W.cell? ⟨rb, 3, none⟩ = some (.int .u64 v)) ∧ InsAt W w.heap.size op rd rs1 rs2 imm csr aq rl ∧ Below w.heap.size w W) (by kernel_rfl) (by kernel_rfl) ⟨⟨HR1.out, HR3.out⟩, HI3.out.on ((Below.refl _ _).drew), HB3.out.drew⟩ ?_
  iterate 6
    refine steady_val ?_ ?_ (by kernel_rfl) (fun W hS => ?_) ?_ ?_
    rotate_left 2
    · obtain ⟨⟨k1, k3⟩, ⟨⟨-, -, -, -, k4, -, -, -⟩⟩, -⟩ := hS
      go_simp
      exact rfl
    · go_simp
      exact rfl
  refine steady_enter (.int .u64 la) 67 #[.string nm, .int .i64 imm] ?_ (by kernel_rfl) (fun W hS => ?_) (fun W hS => (HLA.out W).mono fun e W' ⟨he, hb⟩ => ⟨he, ⟨(hb.cell (p := ⟨rb, 1, none⟩) (lt_cell hS.1.1)).trans hS.1.1, (hb.cell (p := ⟨rb, 3, none⟩) (lt_cell hS.1.1)).trans hS.1.2⟩, hS.2.1.on hb, hS.2.2.trans (hb.mono hS.2.2.size)⟩) ?_ ?_
  rotate_left 1
  · go_simp
  · go_simp
    exact rfl
  iterate 2
    refine steady_val ?_ ?_ (by kernel_rfl) (fun W hS => ?_) ?_ ?_
    rotate_left 2
    · go_simp
      exact rfl
    · go_simp
      exact rfl
  refine steady_nil ?_
  rintro W ⟨-, qI, qB⟩
  have HB := Lib.hid qB
  obtain ⟨c0, c1, c2, c3, c4, c5, c6, c7⟩ := qI.c
  clear qB qI HR1 HR3 HI3 HB3 hw1
  rcases bool_or aq with ta | ta <;> rcases bool_or rl with tl | tl
  · skip
    rw [ta] at c6
    rw [tl] at c7
    have HE := Lib.hid (show v + la + 128 * rd + 32768 * rs1 + 1048576 * rs2 + 1048576 * csr + 67108864 + 33554432 = encI (fixV op) (layD (fmtN op : Nat) imm) rd rs1 rs2 csr aq rl by rw [HVV.out, HLL.out, ← HS.out, ta, tl]; simp [flagS])
    clear ta tl
    go_wp2_with fail
    go_ret2
    exact ⟨ret2_u HE.out, HB.out⟩
  · skip
    rw [ta] at c6
    rw [tl] at c7
    have HE := Lib.hid (show v + la + 128 * rd + 32768 * rs1 + 1048576 * rs2 + 1048576 * csr + 67108864 = encI (fixV op) (layD (fmtN op : Nat) imm) rd rs1 rs2 csr aq rl by rw [HVV.out, HLL.out, ← HS.out, ta, tl]; simp [flagS])
    clear ta tl
    go_wp2_with fail
    go_ret2
    exact ⟨ret2_u HE.out, HB.out⟩
  · skip
    rw [ta] at c6
    rw [tl] at c7
    have HE := Lib.hid (show v + la + 128 * rd + 32768 * rs1 + 1048576 * rs2 + 1048576 * csr + 33554432 = encI (fixV op) (layD (fmtN op : Nat) imm) rd rs1 rs2 csr aq rl by rw [HVV.out, HLL.out, ← HS.out, ta, tl]; simp [flagS])
    clear ta tl
    go_wp2_with fail
    go_ret2
    exact ⟨ret2_u HE.out, HB.out⟩
  · skip
    rw [ta] at c6
    rw [tl] at c7
    have HE := Lib.hid (show v + la + 128 * rd + 32768 * rs1 + 1048576 * rs2 + 1048576 * csr = encI (fixV op) (layD (fmtN op : Nat) imm) rd rs1 rs2 csr aq rl by rw [HVV.out, HLL.out, ← HS.out, ta, tl]; simp [flagS])
    clear ta tl
    go_wp2_with fail
    go_ret2
    exact ⟨ret2_u HE.out, HB.out⟩
end Go.Proofs.YthehcplogkgkeaaGreatDoor
