/-
  The contract of insn.foreign, by what a format has.
-/
import Derived.Test.YthehcplogkgkeaaGreatDoorQc
set_option maxRecDepth 4000
namespace Go.Proofs.YthehcplogkgkeaaGreatDoor
open Go.ChangeShapes Go.WideShapes Go.ChangeAt Go.RowKit Wd

set_option maxHeartbeats 4000000 in
theorem foreign_0 (f : Nat) (hf : f < 15) (op rd rs1 rs2 imm csr : Int) (aq rl : Bool) (w : World) (hv : FldsAt w) (l1 : lacksB f 1 = false) (l2 : lacksB f 2 = false) (l4 : lacksB f 4 = false) (l8 : lacksB f 8 = true) (l16 : lacksB f 16 = true) (he : partsL (f : Nat) = []) :
    Calls Tryz.prog 54 #[.int .i64 (f : Nat), .agg #[.int .i64 op, .int .i64 rd, .int .i64 rs1, .int .i64 rs2, .int .i64 imm, .int .i64 csr, .bool aq, .bool rl]] w fun e w' => e = .returned (.bool (foreignS f rd rs1 rs2 imm csr aq rl)) ∧ Below w.heap.size w w' := by
  generalize hr : foreignS f rd rs1 rs2 imm csr aq rl = r
  have HR := Lib.hid hr
  have hie : (partsL (f : Nat)).isEmpty = true := by rw [he]; rfl
  unfold foreignS at hr
  simp only [l1, l2, l4, l8, l16, hie, Bool.true_and, Bool.false_and, Bool.or_false, Bool.false_or] at hr
  have HB0 := Lib.hid (show Below w.heap.size w ((w.alloc (.cells #[.int .i64 (f : Nat)] 53)).alloc (.cells #[.int .i64 op, .int .i64 rd, .int .i64 rs1, .int .i64 rs2, .int .i64 imm, .int .i64 csr, .bool aq, .bool rl] 24)) from ((Below.refl _ _).alloc (Nat.le_refl _) _).alloc (by simp) _)
  have HVW := Lib.hid (hv.low HB0.out)
  have HCW := Lib.hid (ins_box w (f : Nat) op rd rs1 rs2 imm csr aq rl 53 24)
  have HE := Lib.hid he
  have L1 := Lib.hid l1
  have L2 := Lib.hid l2
  have L4 := Lib.hid l4
  have L8 := Lib.hid l8
  have L16 := Lib.hid l16
  have HHR := Lib.hid hr
  clear hr hv he hie
  cases hcsr : (csr != 0)
  rotate_left
  · have HX := Lib.hid (show true = r by rw [← HHR.out]; simp [hcsr])
    clear HR HHR l1 l2 l4 l8 l16
    go_enter Tryz.func54, Tryz.ntmps54
    go_wp2_with (first
        | (go_at_call 88; (first | (with_reducible refine (foreign1_c f hf 1 _ w.heap.size _ HVW.out HCW.out L1.out).mono ?_) | (with_reducible refine (foreign1_c f hf 2 _ w.heap.size _ HVW.out HCW.out L2.out).mono ?_) | (with_reducible refine (foreign1_c f hf 4 _ w.heap.size _ HVW.out HCW.out L4.out).mono ?_) | (with_reducible refine (foreign1_c f hf 8 _ w.heap.size _ HVW.out HCW.out L8.out).mono ?_) | (with_reducible refine (foreign1_c f hf 16 _ w.heap.size _ HVW.out HCW.out L16.out).mono ?_)); rintro e w' ⟨rfl, rfl⟩)
        | (go_at_call 89; refine (parts_E (f : Nat) HE.out _).mono ?_; rintro e w' ⟨rfl, rfl⟩))
    go_ret
    exact ⟨ret_b HX.out, HB0.out⟩
  cases aq
  rotate_left
  · have HX := Lib.hid (show true = r by rw [← HHR.out]; simp [hcsr])
    clear HR HHR l1 l2 l4 l8 l16
    go_enter Tryz.func54, Tryz.ntmps54
    go_wp2_with (first
        | (go_at_call 88; (first | (with_reducible refine (foreign1_c f hf 1 _ w.heap.size _ HVW.out HCW.out L1.out).mono ?_) | (with_reducible refine (foreign1_c f hf 2 _ w.heap.size _ HVW.out HCW.out L2.out).mono ?_) | (with_reducible refine (foreign1_c f hf 4 _ w.heap.size _ HVW.out HCW.out L4.out).mono ?_) | (with_reducible refine (foreign1_c f hf 8 _ w.heap.size _ HVW.out HCW.out L8.out).mono ?_) | (with_reducible refine (foreign1_c f hf 16 _ w.heap.size _ HVW.out HCW.out L16.out).mono ?_)); rintro e w' ⟨rfl, rfl⟩)
        | (go_at_call 89; refine (parts_E (f : Nat) HE.out _).mono ?_; rintro e w' ⟨rfl, rfl⟩))
    go_ret
    exact ⟨ret_b HX.out, HB0.out⟩
  cases rl
  rotate_left
  · have HX := Lib.hid (show true = r by rw [← HHR.out]; simp [hcsr])
    clear HR HHR l1 l2 l4 l8 l16
    go_enter Tryz.func54, Tryz.ntmps54
    go_wp2_with (first
        | (go_at_call 88; (first | (with_reducible refine (foreign1_c f hf 1 _ w.heap.size _ HVW.out HCW.out L1.out).mono ?_) | (with_reducible refine (foreign1_c f hf 2 _ w.heap.size _ HVW.out HCW.out L2.out).mono ?_) | (with_reducible refine (foreign1_c f hf 4 _ w.heap.size _ HVW.out HCW.out L4.out).mono ?_) | (with_reducible refine (foreign1_c f hf 8 _ w.heap.size _ HVW.out HCW.out L8.out).mono ?_) | (with_reducible refine (foreign1_c f hf 16 _ w.heap.size _ HVW.out HCW.out L16.out).mono ?_)); rintro e w' ⟨rfl, rfl⟩)
        | (go_at_call 89; refine (parts_E (f : Nat) HE.out _).mono ?_; rintro e w' ⟨rfl, rfl⟩))
    go_ret
    exact ⟨ret_b HX.out, HB0.out⟩
  cases himm : (imm != 0)
  · have HX := Lib.hid (show false = r by rw [← HHR.out]; simp [hcsr, himm])
    clear HR HHR l1 l2 l4 l8 l16
    go_enter Tryz.func54, Tryz.ntmps54
    go_wp2_with (first
        | (go_at_call 88; (first | (with_reducible refine (foreign1_c f hf 1 _ w.heap.size _ HVW.out HCW.out L1.out).mono ?_) | (with_reducible refine (foreign1_c f hf 2 _ w.heap.size _ HVW.out HCW.out L2.out).mono ?_) | (with_reducible refine (foreign1_c f hf 4 _ w.heap.size _ HVW.out HCW.out L4.out).mono ?_) | (with_reducible refine (foreign1_c f hf 8 _ w.heap.size _ HVW.out HCW.out L8.out).mono ?_) | (with_reducible refine (foreign1_c f hf 16 _ w.heap.size _ HVW.out HCW.out L16.out).mono ?_)); rintro e w' ⟨rfl, rfl⟩)
        | (go_at_call 89; refine (parts_E (f : Nat) HE.out _).mono ?_; rintro e w' ⟨rfl, rfl⟩))
    go_ret
    exact ⟨ret_b HX.out, HB0.out⟩
  · have HX := Lib.hid (show true = r by rw [← HHR.out]; simp [hcsr, himm])
    clear HR HHR l1 l2 l4 l8 l16
    go_enter Tryz.func54, Tryz.ntmps54
    go_wp2_with (first
        | (go_at_call 88; (first | (with_reducible refine (foreign1_c f hf 1 _ w.heap.size _ HVW.out HCW.out L1.out).mono ?_) | (with_reducible refine (foreign1_c f hf 2 _ w.heap.size _ HVW.out HCW.out L2.out).mono ?_) | (with_reducible refine (foreign1_c f hf 4 _ w.heap.size _ HVW.out HCW.out L4.out).mono ?_) | (with_reducible refine (foreign1_c f hf 8 _ w.heap.size _ HVW.out HCW.out L8.out).mono ?_) | (with_reducible refine (foreign1_c f hf 16 _ w.heap.size _ HVW.out HCW.out L16.out).mono ?_)); rintro e w' ⟨rfl, rfl⟩)
        | (go_at_call 89; refine (parts_E (f : Nat) HE.out _).mono ?_; rintro e w' ⟨rfl, rfl⟩))
    go_ret
    exact ⟨ret_b HX.out, HB0.out⟩

set_option maxHeartbeats 4000000 in
theorem foreign_4 (f : Nat) (hf : f < 15) (op rd rs1 rs2 imm csr : Int) (aq rl : Bool) (w : World) (hv : FldsAt w) (l1 : lacksB f 1 = false) (l2 : lacksB f 2 = false) (l4 : lacksB f 4 = true) (l8 : lacksB f 8 = false) (l16 : lacksB f 16 = true) (he : partsL (f : Nat) = []) :
    Calls Tryz.prog 54 #[.int .i64 (f : Nat), .agg #[.int .i64 op, .int .i64 rd, .int .i64 rs1, .int .i64 rs2, .int .i64 imm, .int .i64 csr, .bool aq, .bool rl]] w fun e w' => e = .returned (.bool (foreignS f rd rs1 rs2 imm csr aq rl)) ∧ Below w.heap.size w w' := by
  generalize hr : foreignS f rd rs1 rs2 imm csr aq rl = r
  have HR := Lib.hid hr
  have hie : (partsL (f : Nat)).isEmpty = true := by rw [he]; rfl
  unfold foreignS at hr
  simp only [l1, l2, l4, l8, l16, hie, Bool.true_and, Bool.false_and, Bool.or_false, Bool.false_or] at hr
  have HB0 := Lib.hid (show Below w.heap.size w ((w.alloc (.cells #[.int .i64 (f : Nat)] 53)).alloc (.cells #[.int .i64 op, .int .i64 rd, .int .i64 rs1, .int .i64 rs2, .int .i64 imm, .int .i64 csr, .bool aq, .bool rl] 24)) from ((Below.refl _ _).alloc (Nat.le_refl _) _).alloc (by simp) _)
  have HVW := Lib.hid (hv.low HB0.out)
  have HCW := Lib.hid (ins_box w (f : Nat) op rd rs1 rs2 imm csr aq rl 53 24)
  have HE := Lib.hid he
  have L1 := Lib.hid l1
  have L2 := Lib.hid l2
  have L4 := Lib.hid l4
  have L8 := Lib.hid l8
  have L16 := Lib.hid l16
  have HHR := Lib.hid hr
  clear hr hv he hie
  cases hrs2 : (rs2 != 0)
  rotate_left
  · have HX := Lib.hid (show true = r by rw [← HHR.out]; simp [hrs2])
    clear HR HHR l1 l2 l4 l8 l16
    go_enter Tryz.func54, Tryz.ntmps54
    go_wp2_with (first
        | (go_at_call 88; (first | (with_reducible refine (foreign1_c f hf 1 _ w.heap.size _ HVW.out HCW.out L1.out).mono ?_) | (with_reducible refine (foreign1_c f hf 2 _ w.heap.size _ HVW.out HCW.out L2.out).mono ?_) | (with_reducible refine (foreign1_c f hf 4 _ w.heap.size _ HVW.out HCW.out L4.out).mono ?_) | (with_reducible refine (foreign1_c f hf 8 _ w.heap.size _ HVW.out HCW.out L8.out).mono ?_) | (with_reducible refine (foreign1_c f hf 16 _ w.heap.size _ HVW.out HCW.out L16.out).mono ?_)); rintro e w' ⟨rfl, rfl⟩)
        | (go_at_call 89; refine (parts_E (f : Nat) HE.out _).mono ?_; rintro e w' ⟨rfl, rfl⟩))
    go_ret
    exact ⟨ret_b HX.out, HB0.out⟩
  cases aq
  rotate_left
  · have HX := Lib.hid (show true = r by rw [← HHR.out]; simp [hrs2])
    clear HR HHR l1 l2 l4 l8 l16
    go_enter Tryz.func54, Tryz.ntmps54
    go_wp2_with (first
        | (go_at_call 88; (first | (with_reducible refine (foreign1_c f hf 1 _ w.heap.size _ HVW.out HCW.out L1.out).mono ?_) | (with_reducible refine (foreign1_c f hf 2 _ w.heap.size _ HVW.out HCW.out L2.out).mono ?_) | (with_reducible refine (foreign1_c f hf 4 _ w.heap.size _ HVW.out HCW.out L4.out).mono ?_) | (with_reducible refine (foreign1_c f hf 8 _ w.heap.size _ HVW.out HCW.out L8.out).mono ?_) | (with_reducible refine (foreign1_c f hf 16 _ w.heap.size _ HVW.out HCW.out L16.out).mono ?_)); rintro e w' ⟨rfl, rfl⟩)
        | (go_at_call 89; refine (parts_E (f : Nat) HE.out _).mono ?_; rintro e w' ⟨rfl, rfl⟩))
    go_ret
    exact ⟨ret_b HX.out, HB0.out⟩
  cases rl
  rotate_left
  · have HX := Lib.hid (show true = r by rw [← HHR.out]; simp [hrs2])
    clear HR HHR l1 l2 l4 l8 l16
    go_enter Tryz.func54, Tryz.ntmps54
    go_wp2_with (first
        | (go_at_call 88; (first | (with_reducible refine (foreign1_c f hf 1 _ w.heap.size _ HVW.out HCW.out L1.out).mono ?_) | (with_reducible refine (foreign1_c f hf 2 _ w.heap.size _ HVW.out HCW.out L2.out).mono ?_) | (with_reducible refine (foreign1_c f hf 4 _ w.heap.size _ HVW.out HCW.out L4.out).mono ?_) | (with_reducible refine (foreign1_c f hf 8 _ w.heap.size _ HVW.out HCW.out L8.out).mono ?_) | (with_reducible refine (foreign1_c f hf 16 _ w.heap.size _ HVW.out HCW.out L16.out).mono ?_)); rintro e w' ⟨rfl, rfl⟩)
        | (go_at_call 89; refine (parts_E (f : Nat) HE.out _).mono ?_; rintro e w' ⟨rfl, rfl⟩))
    go_ret
    exact ⟨ret_b HX.out, HB0.out⟩
  cases himm : (imm != 0)
  · have HX := Lib.hid (show false = r by rw [← HHR.out]; simp [hrs2, himm])
    clear HR HHR l1 l2 l4 l8 l16
    go_enter Tryz.func54, Tryz.ntmps54
    go_wp2_with (first
        | (go_at_call 88; (first | (with_reducible refine (foreign1_c f hf 1 _ w.heap.size _ HVW.out HCW.out L1.out).mono ?_) | (with_reducible refine (foreign1_c f hf 2 _ w.heap.size _ HVW.out HCW.out L2.out).mono ?_) | (with_reducible refine (foreign1_c f hf 4 _ w.heap.size _ HVW.out HCW.out L4.out).mono ?_) | (with_reducible refine (foreign1_c f hf 8 _ w.heap.size _ HVW.out HCW.out L8.out).mono ?_) | (with_reducible refine (foreign1_c f hf 16 _ w.heap.size _ HVW.out HCW.out L16.out).mono ?_)); rintro e w' ⟨rfl, rfl⟩)
        | (go_at_call 89; refine (parts_E (f : Nat) HE.out _).mono ?_; rintro e w' ⟨rfl, rfl⟩))
    go_ret
    exact ⟨ret_b HX.out, HB0.out⟩
  · have HX := Lib.hid (show true = r by rw [← HHR.out]; simp [hrs2, himm])
    clear HR HHR l1 l2 l4 l8 l16
    go_enter Tryz.func54, Tryz.ntmps54
    go_wp2_with (first
        | (go_at_call 88; (first | (with_reducible refine (foreign1_c f hf 1 _ w.heap.size _ HVW.out HCW.out L1.out).mono ?_) | (with_reducible refine (foreign1_c f hf 2 _ w.heap.size _ HVW.out HCW.out L2.out).mono ?_) | (with_reducible refine (foreign1_c f hf 4 _ w.heap.size _ HVW.out HCW.out L4.out).mono ?_) | (with_reducible refine (foreign1_c f hf 8 _ w.heap.size _ HVW.out HCW.out L8.out).mono ?_) | (with_reducible refine (foreign1_c f hf 16 _ w.heap.size _ HVW.out HCW.out L16.out).mono ?_)); rintro e w' ⟨rfl, rfl⟩)
        | (go_at_call 89; refine (parts_E (f : Nat) HE.out _).mono ?_; rintro e w' ⟨rfl, rfl⟩))
    go_ret
    exact ⟨ret_b HX.out, HB0.out⟩
end Go.Proofs.YthehcplogkgkeaaGreatDoor
