/-
  What layer 4's statements ask of the chapter's examples (live): true.
-/
import Derived.Test.YtmaooljlkpfkoaaKind
import Derived.Test.YtmaooljlkpfkoaaIt2
namespace Go.Proofs.Ytmaooljlkpfkoaa
open Go.ChangeShapes Go.WideShapes Go.ChangeAt Go.RowKit Wd

theorem find_fence : findN ⟨#[102, 101, 110, 99, 101, 46, 105]⟩ = 51 := by decide +kernel
theorem name_70 : ((nameB 70).toList == [97, 109, 111, 97, 100, 100, 46, 119]) = true := by decide +kernel
theorem class_17 : classS 17 = 5 := by decide +kernel
set_option maxHeartbeats 1000000 in
theorem live4_c (w : World) : Calls Try.prog 6 #[] w fun e w' => e = .returned (.bool true) ∧ Below w.heap.size w w' := by
  go_enter Try.func6, Try.ntmps6
  go_wp2_with fail
  refine (find_c _ _).mono ?_
  rintro e w1 ⟨rfl, hb1⟩
  have HB1 := Lib.hid hb1
  clear hb1
  rw [find_fence]
  go_wp2_with fail
  refine (name_c _ _).mono ?_
  rintro e w2 ⟨rfl, hb⟩
  have HB2 := Lib.hid (HB1.out.trans (hb.mono HB1.out.size))
  have hn := name_70
  clear hb
  go_wp2_with fail
  refine (class_c _ _).mono ?_
  rintro e w3 ⟨rfl, rfl⟩
  rw [class_17]
  go_wp2_with fail
  go_ret
  exact ⟨rfl, HB2.out⟩
end Go.Proofs.Ytmaooljlkpfkoaa
