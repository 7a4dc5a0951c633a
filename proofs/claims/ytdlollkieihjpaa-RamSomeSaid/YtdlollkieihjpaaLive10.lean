/-
  What layer 10's statements ask of the chapter's example (live): true.
-/
import Derived.Test.YtdlollkieihjpaaRmI
namespace Go.Proofs.Ytdlollkieihjpaa
open Go.ChangeShapes Go.WideShapes Go.ChangeAt Go.RowKit Wd

theorem lv_a : hasN 1 2147483710 2 = true := by decide
theorem lv_b : hasN 2 2147483710 2 = true := by decide
theorem lv_c : hasN 1 2147483710 4 = false := by decide
theorem lv_d : hasN 2 2147483710 4 = true := by decide
theorem lv_1 : ldV (stV (Rm.nought 1) 1 2147483710 2 513) 1 2147483710 2 = 513 := by decide +kernel
theorem lv_2 : ldV (stV (Rm.nought 1) 1 2147483710 2 513) 1 2147483710 4 = 0 := by decide +kernel
theorem lv_3 : ldV (stV (Rm.nought 2) 2 2147483710 2 513) 2 2147483710 4 = 513 := by decide +kernel
set_option maxHeartbeats 2000000 in
theorem live10_c (w : World) : Calls Try.prog 7 #[] w fun e w' => e = .returned (.bool true) ∧ Below w.heap.size w w' := by
  go_enter Try.func7, Try.ntmps7
  go_wp2_with fail
  refine (new_c 1 (by decide) (by decide) w).mono ?_
  rintro e w1 ⟨rfl, h1, b1⟩
  have H1 := Lib.hid (And.intro h1 b1)
  clear h1 b1
  go_wp2_with fail
  refine (new_c 2 (by decide) (by decide) w1).mono ?_
  rintro e w2 ⟨rfl, h2, b2⟩
  have hz := b2.size
  have hlt := H1.out.1.lt
  have H2 := Lib.hid (show RamAt w2 (w.heap.size + 1) w.heap.size 1 (Rm.nought 1) ∧ RamAt w2 (w1.heap.size + 1) w1.heap.size 2 (Rm.nought 2) ∧ Below w.heap.size w w2 from ⟨H1.out.1.low b2, h2, H1.out.2.trans (b2.mono H1.out.2.size)⟩)
  clear h2 b2 H1
  go_wp2_with fail
  refine (store_c H2.out.1 2147483710 2 513 (by omega) (by omega) (by omega)).mono ?_
  rintro e w3 ⟨rfl, h3, o3⟩
  have H3 := Lib.hid (And.intro h3 (And.intro (H2.out.2.1.only o3 (by omega) (by omega)) (H2.out.2.2.trans (o3.below (Nat.le_refl _) H2.out.2.2.size))))
  have hz3 := o3.size
  clear h3 o3 H2
  rw [lv_a]
  go_wp2_with fail
  refine (store_c H3.out.2.1 2147483710 2 513 (by omega) (by omega) (by omega)).mono ?_
  rintro e w4 ⟨rfl, h4, o4⟩
  have H4 := Lib.hid (And.intro (H3.out.1.only o4 (by omega) (by omega)) (And.intro h4 (H3.out.2.2.trans (o4.below (by omega) H3.out.2.2.size))))
  clear h4 o4 H3
  rw [lv_b]
  go_wp2_with fail
  refine (load_c H4.out.1 2147483710 2 (by omega) (by omega)).mono ?_
  rintro e w5 ⟨rfl, b5⟩
  have H5 := Lib.hid (And.intro (H4.out.1.low b5) (And.intro (H4.out.2.1.low b5) (H4.out.2.2.trans (b5.mono H4.out.2.2.size))))
  clear b5 H4
  rw [lv_a, lv_1]
  go_wp2_with fail
  refine (load_c H5.out.1 2147483710 4 (by omega) (by omega)).mono ?_
  rintro e w6 ⟨rfl, b6⟩
  have H6 := Lib.hid (And.intro (H5.out.2.1.low b6) (H5.out.2.2.trans (b6.mono H5.out.2.2.size)))
  clear b6 H5
  rw [lv_c, lv_2]
  go_wp2_with fail
  refine (load_c H6.out.1 2147483710 4 (by omega) (by omega)).mono ?_
  rintro e w7 ⟨rfl, b7⟩
  have H7 := Lib.hid (H6.out.2.trans (b7.mono H6.out.2.size))
  clear b7 H6
  rw [lv_d, lv_3]
  go_wp2_with fail
  go_ret
  exact ⟨rfl, H7.out⟩
end Go.Proofs.Ytdlollkieihjpaa
