/-
  The contract of the reference's Check (layer 3).
-/
import Derived.Test.YthehcplogkgkeaaGreatDoorQj
import Derived.Test.YthehcplogkgkeaaGreatDoorQc
import Derived.Test.YthehcplogkgkeaaGreatDoorQi
import Derived.Test.YthehcplogkgkeaaGreatDoorQm
import Derived.Deep.DeepCutAuto
set_option maxRecDepth 4000
namespace Go.Proofs.YthehcplogkgkeaaGreatDoor
open Go.ChangeShapes Go.WideShapes Go.ChangeAt Go.RowKit Wd

theorem has_pats9 : ∀ f : Fin 15, (hasF f.val 100 = true ∧ hasF f.val 49 = true ∧ hasF f.val 50 = true ∧ hasF f.val 105 = false ∧ hasF f.val 99 = false ∧ hasF f.val 113 = false) ∨ (hasF f.val 100 = true ∧ hasF f.val 49 = true ∧ hasF f.val 50 = false ∧ hasF f.val 105 = true ∧ hasF f.val 99 = false ∧ hasF f.val 113 = false) ∨ (hasF f.val 100 = false ∧ hasF f.val 49 = true ∧ hasF f.val 50 = true ∧ hasF f.val 105 = true ∧ hasF f.val 99 = false ∧ hasF f.val 113 = false) ∨ (hasF f.val 100 = true ∧ hasF f.val 49 = false ∧ hasF f.val 50 = false ∧ hasF f.val 105 = true ∧ hasF f.val 99 = false ∧ hasF f.val 113 = false) ∨ (hasF f.val 100 = true ∧ hasF f.val 49 = true ∧ hasF f.val 50 = false ∧ hasF f.val 105 = false ∧ hasF f.val 99 = true ∧ hasF f.val 113 = false) ∨ (hasF f.val 100 = true ∧ hasF f.val 49 = true ∧ hasF f.val 50 = true ∧ hasF f.val 105 = false ∧ hasF f.val 99 = false ∧ hasF f.val 113 = true) ∨ (hasF f.val 100 = true ∧ hasF f.val 49 = true ∧ hasF f.val 50 = false ∧ hasF f.val 105 = false ∧ hasF f.val 99 = false ∧ hasF f.val 113 = true) ∨ (hasF f.val 100 = false ∧ hasF f.val 49 = false ∧ hasF f.val 50 = false ∧ hasF f.val 105 = false ∧ hasF f.val 99 = false ∧ hasF f.val 113 = false) ∨ (hasF f.val 100 = false ∧ hasF f.val 49 = true ∧ hasF f.val 50 = true ∧ hasF f.val 105 = false ∧ hasF f.val 99 = false ∧ hasF f.val 113 = false) := by decide +kernel
theorem has_parts : ∀ f : Fin 15, hasF f.val 105 = !(partsL ((f.val : Nat) : Int)).isEmpty := by decide +kernel
theorem nm_empty : ∀ f : Fin 15, (bsOf (Tab.names3.getD f.val [])).toList.isEmpty = (f.val == 0) := by decide +kernel
theorem not_of2 {a b : Bool} (h : a = !b) : b = !a := by cases a <;> cases b <;> simp_all
theorem lays_range (f : Nat) (hf : f < 15) (n : Int) : 0 ≤ layS f n ∧ layS f n < 4294967296 := by rw [← layD_eq f hf n]; exact layD_lt _ _
theorem bool_or (b : Bool) : b = true ∨ b = false := by cases b <;> simp
theorem range_no {rd rs1 rs2 csr : Int} (h : ¬ ((0 ≤ rd ∧ rd < 32) ∧ (0 ≤ rs1 ∧ rs1 < 32) ∧ (0 ≤ rs2 ∧ rs2 < 32) ∧ 0 ≤ csr ∧ csr < 4096)) : rangeB rd rs1 rs2 csr = false := by
  cases hb : rangeB rd rs1 rs2 csr
  · rfl
  · exfalso; apply h; simp [rangeB, inF] at hb; omega
theorem range_yes {rd rs1 rs2 csr : Int} (h : (0 ≤ rd ∧ rd < 32) ∧ (0 ≤ rs1 ∧ rs1 < 32) ∧ (0 ≤ rs2 ∧ rs2 < 32) ∧ 0 ≤ csr ∧ csr < 4096) : rangeB rd rs1 rs2 csr = true := by
  simp [rangeB, inF]; omega
set_option maxHeartbeats 8000000 in
set_option maxRecDepth 100000 in
theorem refCheck_c (op rd rs1 rs2 imm csr : Int) (aq rl : Bool) (w : World) :
    Calls Tryz.prog 23 #[.agg #[.int .i64 op, .int .i64 rd, .int .i64 rs1, .int .i64 rs2, .int .i64 imm, .int .i64 csr, .bool aq, .bool rl]] w fun e w' => e = .returned (.int .i64 (checkS op rd rs1 rs2 imm csr aq rl)) ∧ Below w.heap.size w w' := by
  generalize hr : checkS op rd rs1 rs2 imm csr aq rl = r
  unfold checkS at hr
  have HR := Lib.hid hr
  have hfl := fmtN_lt op
  clear hr
  go_enter Tryz.func23, Tryz.ntmps23
  go_wp2_with fail
  have HB0 := Lib.hid (show Below w.heap.size w (w.alloc (.cells #[.int .i64 op, .int .i64 rd, .int .i64 rs1, .int .i64 rs2, .int .i64 imm, .int .i64 csr, .bool aq, .bool rl] 24)) from (Below.refl _ _).alloc (Nat.le_refl _) _)
  have HI0 := Lib.hid (insAt_new w 24 op rd rs1 rs2 imm csr aq rl)
  generalize (w.alloc (.cells #[.int .i64 op, .int .i64 rd, .int .i64 rs1, .int .i64 rs2, .int .i64 imm, .int .i64 csr, .bool aq, .bool rl] 24)) = wa at *
  refine (refFind_c _ _).mono ?_
  rintro e w1 ⟨rfl, hb⟩
  have HB1 := Lib.hid (HB0.out.trans (hb.mono HB0.out.size))
  have HI1 := Lib.hid (HI0.out.on hb)
  clear hb HB0 HI0
  have HFM := Lib.hid (show (findRow op).2.1 = fmtN op from rfl)
  unfold rowAgg
  rw [HFM.out]
  generalize (((findRow op).1 : Nat) : Int) = q1 at *
  generalize (((findRow op).2.2.1 : Nat) : Int) = q2 at *
  generalize (((findRow op).2.2.2 : Nat) : Int) = q3 at *
  generalize fmtN op = f at *
  clear HFM
  have HHA := Lib.hid (fun c w' => (show Calls Tryz.prog 51 #[.string (bsOf (Tab.names3.getD f [])), .int .u8 c] w' fun e w'' => e = .returned (.bool (hasF f c)) ∧ w' = w'' from refHas_c _ hfl c w'))
  have HLA := Lib.hid (fun w' => (show Calls Tryz.prog 67 #[.string (bsOf (Tab.names3.getD f [])), .int .i64 imm] w' fun e w'' => e = .returned (.int .u64 (layS f imm)) ∧ Below w'.heap.size w' w'' from refLay_c _ hfl imm w'))
  have HIM := Lib.hid (fun w' => (show Calls Tryz.prog 50 #[.string (bsOf (Tab.names3.getD f [])), .int .u64 (layS f imm)] w' fun e w'' => e = .returned (.int .i64 (immD (f : Nat) (layD (f : Nat) imm))) ∧ Below w'.heap.size w' w'' by
    rw [immD_eq _ hfl, layD_eq _ hfl]; exact refImm_c _ hfl _ w' (lays_range f hfl imm).1 (by have := (lays_range f hfl imm).2; omega)))
  have hem := nm_empty ⟨f, hfl⟩
  simp only at hem
  have HPT := Lib.hid (has_pats9 ⟨f, hfl⟩)
  have HLK := Lib.hid (has_lacks ⟨f, hfl⟩)
  have HPA := Lib.hid (has_parts ⟨f, hfl⟩)
  simp only at HPT HLK HPA
  rw [show strV (Tab.names3.getD f []) = .string (bsOf (Tab.names3.getD f [])) from rfl]
  generalize layS f imm = la at *
  generalize immD (f : Nat) (layD (f : Nat) imm) = ii at *
  generalize bsOf (Tab.names3.getD f []) = nm at *
  clear hfl
  by_cases hf0 : f = 0
  · have e0 : nm.toList.isEmpty = true := by rw [hem, hf0]; rfl
    have HRR := Lib.hid (show r = 1 by rw [← HR.out, if_pos hf0])
    clear hem hf0
    go_wp2_with fail
    go_ret
    exact ⟨by rw [HRR.out]; rfl, HB1.out.alloc HB1.out.size _⟩
  have e0 : nm.toList.isEmpty = false := by rw [hem]; simpa using hf0
  have HRR := Lib.hid (show r = if foreignS f rd rs1 rs2 imm csr aq rl = true then 2 else if rangeB rd rs1 rs2 csr = false then 3 else if ii = imm then 0 else 3 by rw [← HR.out, if_neg hf0])
  clear hem hf0 HR
  go_upto_region 5 with (fail)
  have hI2 := HI1.out.on ((Below.refl _ w1).alloc (Nat.le_refl _) (.cells #[.int .i64 q1, .string nm, .int .u64 q2, .int .u64 q3] 62))
  have hB2 := HB1.out.alloc HB1.out.size (.cells #[.int .i64 q1, .string nm, .int .u64 q2, .int .u64 q3] 62)
  generalize w1.alloc (.cells #[.int .i64 q1, .string nm, .int .u64 q2, .int .u64 q3] 62) = w2 at *
  have HI2 := Lib.hid hI2
  have HB2 := Lib.hid hB2
  obtain ⟨c0, c1, c2, c3, c4, c5, c6, c7⟩ := hI2.c
  clear hI2 hB2 HI1 HB1
  go_cut [72] (fun s wx => s = .bool (foreignS f rd rs1 rs2 imm csr aq rl) ∧ w2 = wx)
  case first =>
    rcases HPT.out with ⟨h100, h49, h50, h105, h99, h113⟩ | ⟨h100, h49, h50, h105, h99, h113⟩ | ⟨h100, h49, h50, h105, h99, h113⟩ | ⟨h100, h49, h50, h105, h99, h113⟩ | ⟨h100, h49, h50, h105, h99, h113⟩ | ⟨h100, h49, h50, h105, h99, h113⟩ | ⟨h100, h49, h50, h105, h99, h113⟩ | ⟨h100, h49, h50, h105, h99, h113⟩ | ⟨h100, h49, h50, h105, h99, h113⟩
    · skip
      have k1 : lacksB f 1 = false := (not_of2 HLK.out.1).trans (by rw [h100]; rfl)
      have k2 : lacksB f 2 = false := (not_of2 HLK.out.2.1).trans (by rw [h49]; rfl)
      have k4 : lacksB f 4 = false := (not_of2 HLK.out.2.2.1).trans (by rw [h50]; rfl)
      have k8 : lacksB f 8 = true := (not_of2 HLK.out.2.2.2.1).trans (by rw [h99]; rfl)
      have k16 : lacksB f 16 = true := (not_of2 HLK.out.2.2.2.2).trans (by rw [h113]; rfl)
      have kp : (partsL (f : Nat)).isEmpty = true := (not_of2 HPA.out).trans (by rw [h105]; rfl)
      rcases bool_or (imm != 0) with ti | ti
      · skip
        have HFO := Lib.hid (show foreignS f rd rs1 rs2 imm csr aq rl = true by simp [foreignS, k1, k2, k4, k8, k16, kp, ti])
        clear k1 k2 k4 k8 k16 kp
        go_wp2_with (go_at_call 51; refine (HHA.out _ _).mono ?_; rintro e w' ⟨rfl, rfl⟩)
        go_meet
        exact ⟨by rw [HFO.out], rfl⟩
      rcases bool_or (csr != 0) with tc | tc
      · skip
        have HFO := Lib.hid (show foreignS f rd rs1 rs2 imm csr aq rl = true by simp [foreignS, k1, k2, k4, k8, k16, kp, ti, tc])
        clear k1 k2 k4 k8 k16 kp
        go_wp2_with (go_at_call 51; refine (HHA.out _ _).mono ?_; rintro e w' ⟨rfl, rfl⟩)
        go_meet
        exact ⟨by rw [HFO.out], rfl⟩
      rcases bool_or aq with ta | ta
      · skip
        have HFO := Lib.hid (show foreignS f rd rs1 rs2 imm csr aq rl = true by simp [foreignS, k1, k2, k4, k8, k16, kp, ti, tc, ta])
        rw [ta] at c6
        clear k1 k2 k4 k8 k16 kp ta
        go_wp2_with (go_at_call 51; refine (HHA.out _ _).mono ?_; rintro e w' ⟨rfl, rfl⟩)
        go_meet
        exact ⟨by rw [HFO.out], rfl⟩
      rcases bool_or rl with tl | tl
      · skip
        have HFO := Lib.hid (show foreignS f rd rs1 rs2 imm csr aq rl = true by simp [foreignS, k1, k2, k4, k8, k16, kp, ti, tc, ta, tl])
        rw [ta] at c6
        rw [tl] at c7
        clear k1 k2 k4 k8 k16 kp ta tl
        go_wp2_with (go_at_call 51; refine (HHA.out _ _).mono ?_; rintro e w' ⟨rfl, rfl⟩)
        go_meet
        exact ⟨by rw [HFO.out], rfl⟩
      have HFO := Lib.hid (show foreignS f rd rs1 rs2 imm csr aq rl = false by simp [foreignS, k1, k2, k4, k8, k16, kp, ti, tc, ta, tl])
      rw [ta] at c6
      rw [tl] at c7
      clear k1 k2 k4 k8 k16 kp ta tl
      go_wp2_with (go_at_call 51; refine (HHA.out _ _).mono ?_; rintro e w' ⟨rfl, rfl⟩)
      go_meet
      exact ⟨by rw [HFO.out], rfl⟩
    · skip
      have k1 : lacksB f 1 = false := (not_of2 HLK.out.1).trans (by rw [h100]; rfl)
      have k2 : lacksB f 2 = false := (not_of2 HLK.out.2.1).trans (by rw [h49]; rfl)
      have k4 : lacksB f 4 = true := (not_of2 HLK.out.2.2.1).trans (by rw [h50]; rfl)
      have k8 : lacksB f 8 = true := (not_of2 HLK.out.2.2.2.1).trans (by rw [h99]; rfl)
      have k16 : lacksB f 16 = true := (not_of2 HLK.out.2.2.2.2).trans (by rw [h113]; rfl)
      have kp : (partsL (f : Nat)).isEmpty = false := (not_of2 HPA.out).trans (by rw [h105]; rfl)
      rcases bool_or (rs2 != 0) with t2 | t2
      · skip
        have HFO := Lib.hid (show foreignS f rd rs1 rs2 imm csr aq rl = true by simp [foreignS, k1, k2, k4, k8, k16, kp, t2])
        clear k1 k2 k4 k8 k16 kp
        go_wp2_with (go_at_call 51; refine (HHA.out _ _).mono ?_; rintro e w' ⟨rfl, rfl⟩)
        go_meet
        exact ⟨by rw [HFO.out], rfl⟩
      rcases bool_or (csr != 0) with tc | tc
      · skip
        have HFO := Lib.hid (show foreignS f rd rs1 rs2 imm csr aq rl = true by simp [foreignS, k1, k2, k4, k8, k16, kp, t2, tc])
        clear k1 k2 k4 k8 k16 kp
        go_wp2_with (go_at_call 51; refine (HHA.out _ _).mono ?_; rintro e w' ⟨rfl, rfl⟩)
        go_meet
        exact ⟨by rw [HFO.out], rfl⟩
      rcases bool_or aq with ta | ta
      · skip
        have HFO := Lib.hid (show foreignS f rd rs1 rs2 imm csr aq rl = true by simp [foreignS, k1, k2, k4, k8, k16, kp, t2, tc, ta])
        rw [ta] at c6
        clear k1 k2 k4 k8 k16 kp ta
        go_wp2_with (go_at_call 51; refine (HHA.out _ _).mono ?_; rintro e w' ⟨rfl, rfl⟩)
        go_meet
        exact ⟨by rw [HFO.out], rfl⟩
      rcases bool_or rl with tl | tl
      · skip
        have HFO := Lib.hid (show foreignS f rd rs1 rs2 imm csr aq rl = true by simp [foreignS, k1, k2, k4, k8, k16, kp, t2, tc, ta, tl])
        rw [ta] at c6
        rw [tl] at c7
        clear k1 k2 k4 k8 k16 kp ta tl
        go_wp2_with (go_at_call 51; refine (HHA.out _ _).mono ?_; rintro e w' ⟨rfl, rfl⟩)
        go_meet
        exact ⟨by rw [HFO.out], rfl⟩
      have HFO := Lib.hid (show foreignS f rd rs1 rs2 imm csr aq rl = false by simp [foreignS, k1, k2, k4, k8, k16, kp, t2, tc, ta, tl])
      rw [ta] at c6
      rw [tl] at c7
      clear k1 k2 k4 k8 k16 kp ta tl
      go_wp2_with (go_at_call 51; refine (HHA.out _ _).mono ?_; rintro e w' ⟨rfl, rfl⟩)
      go_meet
      exact ⟨by rw [HFO.out], rfl⟩
    · skip
      have k1 : lacksB f 1 = true := (not_of2 HLK.out.1).trans (by rw [h100]; rfl)
      have k2 : lacksB f 2 = false := (not_of2 HLK.out.2.1).trans (by rw [h49]; rfl)
      have k4 : lacksB f 4 = false := (not_of2 HLK.out.2.2.1).trans (by rw [h50]; rfl)
      have k8 : lacksB f 8 = true := (not_of2 HLK.out.2.2.2.1).trans (by rw [h99]; rfl)
      have k16 : lacksB f 16 = true := (not_of2 HLK.out.2.2.2.2).trans (by rw [h113]; rfl)
      have kp : (partsL (f : Nat)).isEmpty = false := (not_of2 HPA.out).trans (by rw [h105]; rfl)
      rcases bool_or (rd != 0) with td | td
      · skip
        have HFO := Lib.hid (show foreignS f rd rs1 rs2 imm csr aq rl = true by simp [foreignS, k1, k2, k4, k8, k16, kp, td])
        clear k1 k2 k4 k8 k16 kp
        go_wp2_with (go_at_call 51; refine (HHA.out _ _).mono ?_; rintro e w' ⟨rfl, rfl⟩)
        go_meet
        exact ⟨by rw [HFO.out], rfl⟩
      rcases bool_or (csr != 0) with tc | tc
      · skip
        have HFO := Lib.hid (show foreignS f rd rs1 rs2 imm csr aq rl = true by simp [foreignS, k1, k2, k4, k8, k16, kp, td, tc])
        clear k1 k2 k4 k8 k16 kp
        go_wp2_with (go_at_call 51; refine (HHA.out _ _).mono ?_; rintro e w' ⟨rfl, rfl⟩)
        go_meet
        exact ⟨by rw [HFO.out], rfl⟩
      rcases bool_or aq with ta | ta
      · skip
        have HFO := Lib.hid (show foreignS f rd rs1 rs2 imm csr aq rl = true by simp [foreignS, k1, k2, k4, k8, k16, kp, td, tc, ta])
        rw [ta] at c6
        clear k1 k2 k4 k8 k16 kp ta
        go_wp2_with (go_at_call 51; refine (HHA.out _ _).mono ?_; rintro e w' ⟨rfl, rfl⟩)
        go_meet
        exact ⟨by rw [HFO.out], rfl⟩
      rcases bool_or rl with tl | tl
      · skip
        have HFO := Lib.hid (show foreignS f rd rs1 rs2 imm csr aq rl = true by simp [foreignS, k1, k2, k4, k8, k16, kp, td, tc, ta, tl])
        rw [ta] at c6
        rw [tl] at c7
        clear k1 k2 k4 k8 k16 kp ta tl
        go_wp2_with (go_at_call 51; refine (HHA.out _ _).mono ?_; rintro e w' ⟨rfl, rfl⟩)
        go_meet
        exact ⟨by rw [HFO.out], rfl⟩
      have HFO := Lib.hid (show foreignS f rd rs1 rs2 imm csr aq rl = false by simp [foreignS, k1, k2, k4, k8, k16, kp, td, tc, ta, tl])
      rw [ta] at c6
      rw [tl] at c7
      clear k1 k2 k4 k8 k16 kp ta tl
      go_wp2_with (go_at_call 51; refine (HHA.out _ _).mono ?_; rintro e w' ⟨rfl, rfl⟩)
      go_meet
      exact ⟨by rw [HFO.out], rfl⟩
    · skip
      have k1 : lacksB f 1 = false := (not_of2 HLK.out.1).trans (by rw [h100]; rfl)
      have k2 : lacksB f 2 = true := (not_of2 HLK.out.2.1).trans (by rw [h49]; rfl)
      have k4 : lacksB f 4 = true := (not_of2 HLK.out.2.2.1).trans (by rw [h50]; rfl)
      have k8 : lacksB f 8 = true := (not_of2 HLK.out.2.2.2.1).trans (by rw [h99]; rfl)
      have k16 : lacksB f 16 = true := (not_of2 HLK.out.2.2.2.2).trans (by rw [h113]; rfl)
      have kp : (partsL (f : Nat)).isEmpty = false := (not_of2 HPA.out).trans (by rw [h105]; rfl)
      rcases bool_or (rs1 != 0) with t1 | t1
      · skip
        have HFO := Lib.hid (show foreignS f rd rs1 rs2 imm csr aq rl = true by simp [foreignS, k1, k2, k4, k8, k16, kp, t1])
        clear k1 k2 k4 k8 k16 kp
        go_wp2_with (go_at_call 51; refine (HHA.out _ _).mono ?_; rintro e w' ⟨rfl, rfl⟩)
        go_meet
        exact ⟨by rw [HFO.out], rfl⟩
      rcases bool_or (rs2 != 0) with t2 | t2
      · skip
        have HFO := Lib.hid (show foreignS f rd rs1 rs2 imm csr aq rl = true by simp [foreignS, k1, k2, k4, k8, k16, kp, t1, t2])
        clear k1 k2 k4 k8 k16 kp
        go_wp2_with (go_at_call 51; refine (HHA.out _ _).mono ?_; rintro e w' ⟨rfl, rfl⟩)
        go_meet
        exact ⟨by rw [HFO.out], rfl⟩
      rcases bool_or (csr != 0) with tc | tc
      · skip
        have HFO := Lib.hid (show foreignS f rd rs1 rs2 imm csr aq rl = true by simp [foreignS, k1, k2, k4, k8, k16, kp, t1, t2, tc])
        clear k1 k2 k4 k8 k16 kp
        go_wp2_with (go_at_call 51; refine (HHA.out _ _).mono ?_; rintro e w' ⟨rfl, rfl⟩)
        go_meet
        exact ⟨by rw [HFO.out], rfl⟩
      rcases bool_or aq with ta | ta
      · skip
        have HFO := Lib.hid (show foreignS f rd rs1 rs2 imm csr aq rl = true by simp [foreignS, k1, k2, k4, k8, k16, kp, t1, t2, tc, ta])
        rw [ta] at c6
        clear k1 k2 k4 k8 k16 kp ta
        go_wp2_with (go_at_call 51; refine (HHA.out _ _).mono ?_; rintro e w' ⟨rfl, rfl⟩)
        go_meet
        exact ⟨by rw [HFO.out], rfl⟩
      rcases bool_or rl with tl | tl
      · skip
        have HFO := Lib.hid (show foreignS f rd rs1 rs2 imm csr aq rl = true by simp [foreignS, k1, k2, k4, k8, k16, kp, t1, t2, tc, ta, tl])
        rw [ta] at c6
        rw [tl] at c7
        clear k1 k2 k4 k8 k16 kp ta tl
        go_wp2_with (go_at_call 51; refine (HHA.out _ _).mono ?_; rintro e w' ⟨rfl, rfl⟩)
        go_meet
        exact ⟨by rw [HFO.out], rfl⟩
      have HFO := Lib.hid (show foreignS f rd rs1 rs2 imm csr aq rl = false by simp [foreignS, k1, k2, k4, k8, k16, kp, t1, t2, tc, ta, tl])
      rw [ta] at c6
      rw [tl] at c7
      clear k1 k2 k4 k8 k16 kp ta tl
      go_wp2_with (go_at_call 51; refine (HHA.out _ _).mono ?_; rintro e w' ⟨rfl, rfl⟩)
      go_meet
      exact ⟨by rw [HFO.out], rfl⟩
    · skip
      have k1 : lacksB f 1 = false := (not_of2 HLK.out.1).trans (by rw [h100]; rfl)
      have k2 : lacksB f 2 = false := (not_of2 HLK.out.2.1).trans (by rw [h49]; rfl)
      have k4 : lacksB f 4 = true := (not_of2 HLK.out.2.2.1).trans (by rw [h50]; rfl)
      have k8 : lacksB f 8 = false := (not_of2 HLK.out.2.2.2.1).trans (by rw [h99]; rfl)
      have k16 : lacksB f 16 = true := (not_of2 HLK.out.2.2.2.2).trans (by rw [h113]; rfl)
      have kp : (partsL (f : Nat)).isEmpty = true := (not_of2 HPA.out).trans (by rw [h105]; rfl)
      rcases bool_or (rs2 != 0) with t2 | t2
      · skip
        have HFO := Lib.hid (show foreignS f rd rs1 rs2 imm csr aq rl = true by simp [foreignS, k1, k2, k4, k8, k16, kp, t2])
        clear k1 k2 k4 k8 k16 kp
        go_wp2_with (go_at_call 51; refine (HHA.out _ _).mono ?_; rintro e w' ⟨rfl, rfl⟩)
        go_meet
        exact ⟨by rw [HFO.out], rfl⟩
      rcases bool_or (imm != 0) with ti | ti
      · skip
        have HFO := Lib.hid (show foreignS f rd rs1 rs2 imm csr aq rl = true by simp [foreignS, k1, k2, k4, k8, k16, kp, t2, ti])
        clear k1 k2 k4 k8 k16 kp
        go_wp2_with (go_at_call 51; refine (HHA.out _ _).mono ?_; rintro e w' ⟨rfl, rfl⟩)
        go_meet
        exact ⟨by rw [HFO.out], rfl⟩
      rcases bool_or aq with ta | ta
      · skip
        have HFO := Lib.hid (show foreignS f rd rs1 rs2 imm csr aq rl = true by simp [foreignS, k1, k2, k4, k8, k16, kp, t2, ti, ta])
        rw [ta] at c6
        clear k1 k2 k4 k8 k16 kp ta
        go_wp2_with (go_at_call 51; refine (HHA.out _ _).mono ?_; rintro e w' ⟨rfl, rfl⟩)
        go_meet
        exact ⟨by rw [HFO.out], rfl⟩
      rcases bool_or rl with tl | tl
      · skip
        have HFO := Lib.hid (show foreignS f rd rs1 rs2 imm csr aq rl = true by simp [foreignS, k1, k2, k4, k8, k16, kp, t2, ti, ta, tl])
        rw [ta] at c6
        rw [tl] at c7
        clear k1 k2 k4 k8 k16 kp ta tl
        go_wp2_with (go_at_call 51; refine (HHA.out _ _).mono ?_; rintro e w' ⟨rfl, rfl⟩)
        go_meet
        exact ⟨by rw [HFO.out], rfl⟩
      have HFO := Lib.hid (show foreignS f rd rs1 rs2 imm csr aq rl = false by simp [foreignS, k1, k2, k4, k8, k16, kp, t2, ti, ta, tl])
      rw [ta] at c6
      rw [tl] at c7
      clear k1 k2 k4 k8 k16 kp ta tl
      go_wp2_with (go_at_call 51; refine (HHA.out _ _).mono ?_; rintro e w' ⟨rfl, rfl⟩)
      go_meet
      exact ⟨by rw [HFO.out], rfl⟩
    · skip
      have k1 : lacksB f 1 = false := (not_of2 HLK.out.1).trans (by rw [h100]; rfl)
      have k2 : lacksB f 2 = false := (not_of2 HLK.out.2.1).trans (by rw [h49]; rfl)
      have k4 : lacksB f 4 = false := (not_of2 HLK.out.2.2.1).trans (by rw [h50]; rfl)
      have k8 : lacksB f 8 = true := (not_of2 HLK.out.2.2.2.1).trans (by rw [h99]; rfl)
      have k16 : lacksB f 16 = false := (not_of2 HLK.out.2.2.2.2).trans (by rw [h113]; rfl)
      have kp : (partsL (f : Nat)).isEmpty = true := (not_of2 HPA.out).trans (by rw [h105]; rfl)
      rcases bool_or (imm != 0) with ti | ti
      · skip
        have HFO := Lib.hid (show foreignS f rd rs1 rs2 imm csr aq rl = true by simp [foreignS, k1, k2, k4, k8, k16, kp, ti])
        clear k1 k2 k4 k8 k16 kp
        go_wp2_with (go_at_call 51; refine (HHA.out _ _).mono ?_; rintro e w' ⟨rfl, rfl⟩)
        go_meet
        exact ⟨by rw [HFO.out], rfl⟩
      rcases bool_or (csr != 0) with tc | tc
      · skip
        have HFO := Lib.hid (show foreignS f rd rs1 rs2 imm csr aq rl = true by simp [foreignS, k1, k2, k4, k8, k16, kp, ti, tc])
        clear k1 k2 k4 k8 k16 kp
        go_wp2_with (go_at_call 51; refine (HHA.out _ _).mono ?_; rintro e w' ⟨rfl, rfl⟩)
        go_meet
        exact ⟨by rw [HFO.out], rfl⟩
      have HFO := Lib.hid (show foreignS f rd rs1 rs2 imm csr aq rl = false by simp [foreignS, k1, k2, k4, k8, k16, kp, ti, tc])
      clear k1 k2 k4 k8 k16 kp
      go_wp2_with (go_at_call 51; refine (HHA.out _ _).mono ?_; rintro e w' ⟨rfl, rfl⟩)
      go_meet
      exact ⟨by rw [HFO.out], rfl⟩
    · skip
      have k1 : lacksB f 1 = false := (not_of2 HLK.out.1).trans (by rw [h100]; rfl)
      have k2 : lacksB f 2 = false := (not_of2 HLK.out.2.1).trans (by rw [h49]; rfl)
      have k4 : lacksB f 4 = true := (not_of2 HLK.out.2.2.1).trans (by rw [h50]; rfl)
      have k8 : lacksB f 8 = true := (not_of2 HLK.out.2.2.2.1).trans (by rw [h99]; rfl)
      have k16 : lacksB f 16 = false := (not_of2 HLK.out.2.2.2.2).trans (by rw [h113]; rfl)
      have kp : (partsL (f : Nat)).isEmpty = true := (not_of2 HPA.out).trans (by rw [h105]; rfl)
      rcases bool_or (rs2 != 0) with t2 | t2
      · skip
        have HFO := Lib.hid (show foreignS f rd rs1 rs2 imm csr aq rl = true by simp [foreignS, k1, k2, k4, k8, k16, kp, t2])
        clear k1 k2 k4 k8 k16 kp
        go_wp2_with (go_at_call 51; refine (HHA.out _ _).mono ?_; rintro e w' ⟨rfl, rfl⟩)
        go_meet
        exact ⟨by rw [HFO.out], rfl⟩
      rcases bool_or (imm != 0) with ti | ti
      · skip
        have HFO := Lib.hid (show foreignS f rd rs1 rs2 imm csr aq rl = true by simp [foreignS, k1, k2, k4, k8, k16, kp, t2, ti])
        clear k1 k2 k4 k8 k16 kp
        go_wp2_with (go_at_call 51; refine (HHA.out _ _).mono ?_; rintro e w' ⟨rfl, rfl⟩)
        go_meet
        exact ⟨by rw [HFO.out], rfl⟩
      rcases bool_or (csr != 0) with tc | tc
      · skip
        have HFO := Lib.hid (show foreignS f rd rs1 rs2 imm csr aq rl = true by simp [foreignS, k1, k2, k4, k8, k16, kp, t2, ti, tc])
        clear k1 k2 k4 k8 k16 kp
        go_wp2_with (go_at_call 51; refine (HHA.out _ _).mono ?_; rintro e w' ⟨rfl, rfl⟩)
        go_meet
        exact ⟨by rw [HFO.out], rfl⟩
      have HFO := Lib.hid (show foreignS f rd rs1 rs2 imm csr aq rl = false by simp [foreignS, k1, k2, k4, k8, k16, kp, t2, ti, tc])
      clear k1 k2 k4 k8 k16 kp
      go_wp2_with (go_at_call 51; refine (HHA.out _ _).mono ?_; rintro e w' ⟨rfl, rfl⟩)
      go_meet
      exact ⟨by rw [HFO.out], rfl⟩
    · skip
      have k1 : lacksB f 1 = true := (not_of2 HLK.out.1).trans (by rw [h100]; rfl)
      have k2 : lacksB f 2 = true := (not_of2 HLK.out.2.1).trans (by rw [h49]; rfl)
      have k4 : lacksB f 4 = true := (not_of2 HLK.out.2.2.1).trans (by rw [h50]; rfl)
      have k8 : lacksB f 8 = true := (not_of2 HLK.out.2.2.2.1).trans (by rw [h99]; rfl)
      have k16 : lacksB f 16 = true := (not_of2 HLK.out.2.2.2.2).trans (by rw [h113]; rfl)
      have kp : (partsL (f : Nat)).isEmpty = true := (not_of2 HPA.out).trans (by rw [h105]; rfl)
      rcases bool_or (rd != 0) with td | td
      · skip
        have HFO := Lib.hid (show foreignS f rd rs1 rs2 imm csr aq rl = true by simp [foreignS, k1, k2, k4, k8, k16, kp, td])
        clear k1 k2 k4 k8 k16 kp
        go_wp2_with (go_at_call 51; refine (HHA.out _ _).mono ?_; rintro e w' ⟨rfl, rfl⟩)
        go_meet
        exact ⟨by rw [HFO.out], rfl⟩
      rcases bool_or (rs1 != 0) with t1 | t1
      · skip
        have HFO := Lib.hid (show foreignS f rd rs1 rs2 imm csr aq rl = true by simp [foreignS, k1, k2, k4, k8, k16, kp, td, t1])
        clear k1 k2 k4 k8 k16 kp
        go_wp2_with (go_at_call 51; refine (HHA.out _ _).mono ?_; rintro e w' ⟨rfl, rfl⟩)
        go_meet
        exact ⟨by rw [HFO.out], rfl⟩
      rcases bool_or (rs2 != 0) with t2 | t2
      · skip
        have HFO := Lib.hid (show foreignS f rd rs1 rs2 imm csr aq rl = true by simp [foreignS, k1, k2, k4, k8, k16, kp, td, t1, t2])
        clear k1 k2 k4 k8 k16 kp
        go_wp2_with (go_at_call 51; refine (HHA.out _ _).mono ?_; rintro e w' ⟨rfl, rfl⟩)
        go_meet
        exact ⟨by rw [HFO.out], rfl⟩
      rcases bool_or (imm != 0) with ti | ti
      · skip
        have HFO := Lib.hid (show foreignS f rd rs1 rs2 imm csr aq rl = true by simp [foreignS, k1, k2, k4, k8, k16, kp, td, t1, t2, ti])
        clear k1 k2 k4 k8 k16 kp
        go_wp2_with (go_at_call 51; refine (HHA.out _ _).mono ?_; rintro e w' ⟨rfl, rfl⟩)
        go_meet
        exact ⟨by rw [HFO.out], rfl⟩
      rcases bool_or (csr != 0) with tc | tc
      · skip
        have HFO := Lib.hid (show foreignS f rd rs1 rs2 imm csr aq rl = true by simp [foreignS, k1, k2, k4, k8, k16, kp, td, t1, t2, ti, tc])
        clear k1 k2 k4 k8 k16 kp
        go_wp2_with (go_at_call 51; refine (HHA.out _ _).mono ?_; rintro e w' ⟨rfl, rfl⟩)
        go_meet
        exact ⟨by rw [HFO.out], rfl⟩
      rcases bool_or aq with ta | ta
      · skip
        have HFO := Lib.hid (show foreignS f rd rs1 rs2 imm csr aq rl = true by simp [foreignS, k1, k2, k4, k8, k16, kp, td, t1, t2, ti, tc, ta])
        rw [ta] at c6
        clear k1 k2 k4 k8 k16 kp ta
        go_wp2_with (go_at_call 51; refine (HHA.out _ _).mono ?_; rintro e w' ⟨rfl, rfl⟩)
        go_meet
        exact ⟨by rw [HFO.out], rfl⟩
      rcases bool_or rl with tl | tl
      · skip
        have HFO := Lib.hid (show foreignS f rd rs1 rs2 imm csr aq rl = true by simp [foreignS, k1, k2, k4, k8, k16, kp, td, t1, t2, ti, tc, ta, tl])
        rw [ta] at c6
        rw [tl] at c7
        clear k1 k2 k4 k8 k16 kp ta tl
        go_wp2_with (go_at_call 51; refine (HHA.out _ _).mono ?_; rintro e w' ⟨rfl, rfl⟩)
        go_meet
        exact ⟨by rw [HFO.out], rfl⟩
      have HFO := Lib.hid (show foreignS f rd rs1 rs2 imm csr aq rl = false by simp [foreignS, k1, k2, k4, k8, k16, kp, td, t1, t2, ti, tc, ta, tl])
      rw [ta] at c6
      rw [tl] at c7
      clear k1 k2 k4 k8 k16 kp ta tl
      go_wp2_with (go_at_call 51; refine (HHA.out _ _).mono ?_; rintro e w' ⟨rfl, rfl⟩)
      go_meet
      exact ⟨by rw [HFO.out], rfl⟩
    · skip
      have k1 : lacksB f 1 = true := (not_of2 HLK.out.1).trans (by rw [h100]; rfl)
      have k2 : lacksB f 2 = false := (not_of2 HLK.out.2.1).trans (by rw [h49]; rfl)
      have k4 : lacksB f 4 = false := (not_of2 HLK.out.2.2.1).trans (by rw [h50]; rfl)
      have k8 : lacksB f 8 = true := (not_of2 HLK.out.2.2.2.1).trans (by rw [h99]; rfl)
      have k16 : lacksB f 16 = true := (not_of2 HLK.out.2.2.2.2).trans (by rw [h113]; rfl)
      have kp : (partsL (f : Nat)).isEmpty = true := (not_of2 HPA.out).trans (by rw [h105]; rfl)
      rcases bool_or (rd != 0) with td | td
      · skip
        have HFO := Lib.hid (show foreignS f rd rs1 rs2 imm csr aq rl = true by simp [foreignS, k1, k2, k4, k8, k16, kp, td])
        clear k1 k2 k4 k8 k16 kp
        go_wp2_with (go_at_call 51; refine (HHA.out _ _).mono ?_; rintro e w' ⟨rfl, rfl⟩)
        go_meet
        exact ⟨by rw [HFO.out], rfl⟩
      rcases bool_or (imm != 0) with ti | ti
      · skip
        have HFO := Lib.hid (show foreignS f rd rs1 rs2 imm csr aq rl = true by simp [foreignS, k1, k2, k4, k8, k16, kp, td, ti])
        clear k1 k2 k4 k8 k16 kp
        go_wp2_with (go_at_call 51; refine (HHA.out _ _).mono ?_; rintro e w' ⟨rfl, rfl⟩)
        go_meet
        exact ⟨by rw [HFO.out], rfl⟩
      rcases bool_or (csr != 0) with tc | tc
      · skip
        have HFO := Lib.hid (show foreignS f rd rs1 rs2 imm csr aq rl = true by simp [foreignS, k1, k2, k4, k8, k16, kp, td, ti, tc])
        clear k1 k2 k4 k8 k16 kp
        go_wp2_with (go_at_call 51; refine (HHA.out _ _).mono ?_; rintro e w' ⟨rfl, rfl⟩)
        go_meet
        exact ⟨by rw [HFO.out], rfl⟩
      rcases bool_or aq with ta | ta
      · skip
        have HFO := Lib.hid (show foreignS f rd rs1 rs2 imm csr aq rl = true by simp [foreignS, k1, k2, k4, k8, k16, kp, td, ti, tc, ta])
        rw [ta] at c6
        clear k1 k2 k4 k8 k16 kp ta
        go_wp2_with (go_at_call 51; refine (HHA.out _ _).mono ?_; rintro e w' ⟨rfl, rfl⟩)
        go_meet
        exact ⟨by rw [HFO.out], rfl⟩
      rcases bool_or rl with tl | tl
      · skip
        have HFO := Lib.hid (show foreignS f rd rs1 rs2 imm csr aq rl = true by simp [foreignS, k1, k2, k4, k8, k16, kp, td, ti, tc, ta, tl])
        rw [ta] at c6
        rw [tl] at c7
        clear k1 k2 k4 k8 k16 kp ta tl
        go_wp2_with (go_at_call 51; refine (HHA.out _ _).mono ?_; rintro e w' ⟨rfl, rfl⟩)
        go_meet
        exact ⟨by rw [HFO.out], rfl⟩
      have HFO := Lib.hid (show foreignS f rd rs1 rs2 imm csr aq rl = false by simp [foreignS, k1, k2, k4, k8, k16, kp, td, ti, tc, ta, tl])
      rw [ta] at c6
      rw [tl] at c7
      clear k1 k2 k4 k8 k16 kp ta tl
      go_wp2_with (go_at_call 51; refine (HHA.out _ _).mono ?_; rintro e w' ⟨rfl, rfl⟩)
      go_meet
      exact ⟨by rw [HFO.out], rfl⟩
  case rest =>
    obtain ⟨rfl, rfl⟩ := hcut
    rcases bool_or (foreignS f rd rs1 rs2 imm csr aq rl) with hfo | hfo
    · have HE := Lib.hid (show r = 2 by rw [HRR.out, if_pos hfo])
      rw [hfo]
      clear hfo
      go_wp2_with fail
      go_ret
      exact ⟨by rw [HE.out]; rfl, HB2.out⟩
    have HRR2 := Lib.hid (show r = if rangeB rd rs1 rs2 csr = false then 3 else if ii = imm then 0 else 3 by rw [HRR.out, if_neg (by rw [hfo]; decide)])
    rw [hfo]
    clear hfo HRR
    go_upto_region 7 with (fail)
    go_cut [110] (fun s wx => s = .bool (!rangeB rd rs1 rs2 csr) ∧ w2 = wx)
    case first =>
      by_cases g0 : rd < 0
      · have d0 : decide (rd < 0) = true := by simpa using g0
        have HF := Lib.hid (range_no (rd := rd) (rs1 := rs1) (rs2 := rs2) (csr := csr) (by omega))
        clear g0
        go_wp2_with fail
        go_meet
        exact ⟨by rw [HF.out]; rfl, rfl⟩
      have d0 : decide (rd < 0) = false := by simpa using g0
      by_cases g1 : 31 < rd
      · have d1 : decide (31 < rd) = true := by simpa using g1
        have HF := Lib.hid (range_no (rd := rd) (rs1 := rs1) (rs2 := rs2) (csr := csr) (by omega))
        clear g0 g1
        go_wp2_with fail
        go_meet
        exact ⟨by rw [HF.out]; rfl, rfl⟩
      have d1 : decide (31 < rd) = false := by simpa using g1
      by_cases g2 : rs1 < 0
      · have d2 : decide (rs1 < 0) = true := by simpa using g2
        have HF := Lib.hid (range_no (rd := rd) (rs1 := rs1) (rs2 := rs2) (csr := csr) (by omega))
        clear g0 g1 g2
        go_wp2_with fail
        go_meet
        exact ⟨by rw [HF.out]; rfl, rfl⟩
      have d2 : decide (rs1 < 0) = false := by simpa using g2
      by_cases g3 : 31 < rs1
      · have d3 : decide (31 < rs1) = true := by simpa using g3
        have HF := Lib.hid (range_no (rd := rd) (rs1 := rs1) (rs2 := rs2) (csr := csr) (by omega))
        clear g0 g1 g2 g3
        go_wp2_with fail
        go_meet
        exact ⟨by rw [HF.out]; rfl, rfl⟩
      have d3 : decide (31 < rs1) = false := by simpa using g3
      by_cases g4 : rs2 < 0
      · have d4 : decide (rs2 < 0) = true := by simpa using g4
        have HF := Lib.hid (range_no (rd := rd) (rs1 := rs1) (rs2 := rs2) (csr := csr) (by omega))
        clear g0 g1 g2 g3 g4
        go_wp2_with fail
        go_meet
        exact ⟨by rw [HF.out]; rfl, rfl⟩
      have d4 : decide (rs2 < 0) = false := by simpa using g4
      by_cases g5 : 31 < rs2
      · have d5 : decide (31 < rs2) = true := by simpa using g5
        have HF := Lib.hid (range_no (rd := rd) (rs1 := rs1) (rs2 := rs2) (csr := csr) (by omega))
        clear g0 g1 g2 g3 g4 g5
        go_wp2_with fail
        go_meet
        exact ⟨by rw [HF.out]; rfl, rfl⟩
      have d5 : decide (31 < rs2) = false := by simpa using g5
      by_cases g6 : csr < 0
      · have d6 : decide (csr < 0) = true := by simpa using g6
        have HF := Lib.hid (range_no (rd := rd) (rs1 := rs1) (rs2 := rs2) (csr := csr) (by omega))
        clear g0 g1 g2 g3 g4 g5 g6
        go_wp2_with fail
        go_meet
        exact ⟨by rw [HF.out]; rfl, rfl⟩
      have d6 : decide (csr < 0) = false := by simpa using g6
      by_cases g7 : 4095 < csr
      · have d7 : decide (4095 < csr) = true := by simpa using g7
        have HF := Lib.hid (range_no (rd := rd) (rs1 := rs1) (rs2 := rs2) (csr := csr) (by omega))
        clear g0 g1 g2 g3 g4 g5 g6 g7
        go_wp2_with fail
        go_meet
        exact ⟨by rw [HF.out]; rfl, rfl⟩
      have d7 : decide (4095 < csr) = false := by simpa using g7
      have HF := Lib.hid (range_yes (rd := rd) (rs1 := rs1) (rs2 := rs2) (csr := csr) (by omega))
      clear g0 g1 g2 g3 g4 g5 g6 g7
      go_wp2_with fail
      go_meet
      exact ⟨by rw [HF.out]; rfl, rfl⟩
    case rest =>
      obtain ⟨rfl, rfl⟩ := hcut
      rcases bool_or (rangeB rd rs1 rs2 csr) with hrg | hrg
      · have HRR3 := Lib.hid (show r = if ii = imm then 0 else 3 by rw [HRR2.out, if_neg (by rw [hrg]; decide)])
        rw [hrg]
        clear hrg HRR2
        go_upto_region 9 with (fail)
        have C4 := Lib.hid c4
        clear c0 c1 c2 c3 c4 c5 c6 c7
        refine wp_region_steady (fun W => W.cell? ⟨w.heap.size, 4, none⟩ = some (.int .i64 imm) ∧ Below w.heap.size w W) (by kernel_rfl) (by kernel_rfl) ⟨C4.out, HB2.out.drew⟩ ?_
        iterate 4
          refine steady_val ?_ ?_ (by kernel_rfl) (fun W hS => ?_) ?_ ?_
          rotate_left 2
          · obtain ⟨k4, -⟩ := hS
            go_simp
            exact rfl
          · go_simp
            exact rfl
        refine steady_enter (.int .u64 la) 67 #[.string nm, .int .i64 imm] ?_ (by kernel_rfl) (fun W hS => ?_) (fun W hS => (HLA.out W).mono fun e W' ⟨he, hb⟩ => ⟨he, (hb.cell (p := ⟨w.heap.size, 4, none⟩) (lt_cell hS.1)).trans hS.1, hS.2.trans (hb.mono hS.2.size)⟩) ?_ ?_
        rotate_left 1
        · go_simp
        · go_simp
          exact rfl
        refine steady_enter (.int .i64 ii) 50 #[.string nm, .int .u64 la] ?_ (by kernel_rfl) (fun W hS => ?_) (fun W hS => (HIM.out W).mono fun e W' ⟨he, hb⟩ => ⟨he, (hb.cell (p := ⟨w.heap.size, 4, none⟩) (lt_cell hS.1)).trans hS.1, hS.2.trans (hb.mono hS.2.size)⟩) ?_ ?_
        rotate_left 1
        · go_simp
        · go_simp
          exact rfl
        iterate 3
          refine steady_val ?_ ?_ (by kernel_rfl) (fun W hS => ?_) ?_ ?_
          rotate_left 2
          · obtain ⟨k4, -⟩ := hS
            go_simp
            exact rfl
          · go_simp
            exact rfl
        refine steady_nil ?_
        rintro W ⟨-, qB⟩
        have HB := Lib.hid qB
        clear qB
        by_cases hi : ii = imm
        · have e1 : (ii != imm) = false := by simpa using hi
          have HE := Lib.hid (show r = 0 by rw [HRR3.out, if_pos hi])
          clear hi
          go_wp2_with fail
          go_ret
          exact ⟨by rw [HE.out]; rfl, HB.out⟩
        · have e1 : (ii != imm) = true := by simpa using hi
          have HE := Lib.hid (show r = 3 by rw [HRR3.out, if_neg hi])
          clear hi
          go_wp2_with fail
          go_ret
          exact ⟨by rw [HE.out]; rfl, HB.out⟩
      · have HE := Lib.hid (show r = 3 by rw [HRR2.out, if_pos hrg])
        rw [hrg]
        clear hrg
        go_wp2_with fail
        go_ret
        exact ⟨by rw [HE.out]; rfl, HB2.out⟩
end Go.Proofs.YthehcplogkgkeaaGreatDoor
