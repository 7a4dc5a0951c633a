/-
  What layer 9's statements ask of the chapter's examples (live): true.
-/
import Derived.Test.YteaooopjfmlcbaaLnC
namespace Go.Proofs.Yteaooopjfmlcbaa
open Go.ChangeShapes Go.WideShapes Go.ChangeAt Go.RowKit Wd

theorem l513 : Ln.get (Ln.ofB [1, 2, 3]) 0 2 = 513 := by decide +kernel
theorem lfit : Ln.fits 0 2 = true := by decide
theorem lfit2 : Ln.fits 63 2 = false := by decide
theorem l48 : (onesS 4 2 == 48) = true := by decide +kernel
theorem sl123 (w : World) : SlAt (w.alloc (.cells #[.int .u8 1, .int .u8 2, .int .u8 3] 5)) (some ⟨w.heap.size, 0, none⟩) [1, 2, 3] := by
  refine ⟨by intro x hx; simp at hx; omega, .inr ⟨_, _, rfl, by simp, fun j hj => ?_⟩⟩
  have hg := CsAt.new w 5 #[.int .u8 1, .int .u8 2, .int .u8 3]
  rw [hg.cell]
  have : j = 0 ∨ j = 1 ∨ j = 2 := by simp at hj; omega
  rcases this with rfl | rfl | rfl <;> rfl
set_option maxHeartbeats 1000000 in
theorem live9_c (w : World) : Calls Try.prog 13 #[] w fun e w' => e = .returned (.bool true) ∧ Below w.heap.size w w' := by
  have HI := Lib.hid (Ln.ofB_is (sl123 w).rng)
  go_enter Try.func13, Try.ntmps13
  go_wp2_with fail
  have HB0 := Lib.hid (show Below w.heap.size w (w.alloc (.cells #[.int .u8 1, .int .u8 2, .int .u8 3] 5)) from (Below.refl _ _).alloc (Nat.le_refl _) _)
  refine (ofL_c _ 3 [1, 2, 3] _ (sl123 w)).mono ?_
  rintro e w1 ⟨rfl, hb1⟩
  have HB1 := Lib.hid (HB0.out.trans (hb1.mono HB0.out.size))
  clear hb1 HB0
  go_wp2_with fail
  refine (get_c _ HI.out _ _ _ (by omega)).mono ?_
  rintro e w2 ⟨rfl, hb2⟩
  have HB2 := Lib.hid (HB1.out.trans (hb2.mono HB1.out.size))
  clear hb2 HB1
  rw [l513, lfit]
  go_wp2_with fail
  have HB3 := Lib.hid (show Below w.heap.size w (w2.alloc (.cells #[.int .u8 1, .int .u8 2, .int .u8 3] 5)) from HB2.out.alloc HB2.out.size _)
  refine (ofL_c _ 3 [1, 2, 3] _ (sl123 w2)).mono ?_
  rintro e w3 ⟨rfl, hb1⟩
  have HB4 := Lib.hid (HB3.out.trans (hb1.mono HB3.out.size))
  clear hb1 HB3
  go_wp2_with fail
  refine (get_c _ HI.out _ _ _ (by omega)).mono ?_
  rintro e w4 ⟨rfl, hb2⟩
  have HB5 := Lib.hid (HB4.out.trans (hb2.mono HB4.out.size))
  clear hb2 HB4
  rw [lfit2]
  have l2 := l48
  go_wp2_with fail
  refine (lanes_c _ _ _ (by omega) (by omega) (by omega) (by omega)).mono ?_
  rintro e w5 ⟨rfl, rfl⟩
  go_wp2_with fail
  go_ret
  exact ⟨rfl, HB5.out⟩
end Go.Proofs.Yteaooopjfmlcbaa
