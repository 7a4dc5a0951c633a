/-
  What layer 20's statements ask of the chapter's example (live): true. StatusTraps walked.
-/
import Derived.Test.YtkknfhbaldeigaaDoorStaC
import Derived.Test.YtkknfhbaldeigaaDoorStaD
namespace Go.Proofs.YtkknfhbaldeigaaDoor
open Go.ChangeShapes Go.WideShapes Go.ChangeAt Go.RowKit Wd Csr Sta

theorem lw1 : leaveV 2176 3 = 136 := by decide +kernel
theorem lw2 : leaveP 2176 3 = 1 := by decide +kernel
theorem lw3 : enterV 8 1 3 = 2176 := by decide +kernel
set_option maxHeartbeats 1000000 in
theorem live20_c (w : World) : Calls Tryd.prog 26 #[] w fun e w' => e = .returned (.bool true) ∧ Below w.heap.size w w' := by
  go_enter Tryd.func26, Tryd.ntmps26
  go_wp2_with fail
  refine (leave_c 2176 3 (by decide) _).mono ?_
  rintro e w1 ⟨rfl, hb⟩
  have HB1 := Lib.hid hb
  clear hb
  rw [lw1, lw2]
  go_wp2_with fail
  refine (enter_c 8 1 3 (by decide) _).mono ?_
  rintro e w2 ⟨rfl, hb⟩
  have HB2 := Lib.hid (HB1.out.trans (hb.mono HB1.out.size))
  clear hb
  rw [lw3]
  go_wp2_with fail
  go_ret
  exact ⟨rfl, HB2.out⟩
end Go.Proofs.YtkknfhbaldeigaaDoor
