/-
  What layer 3's statements ask of the chapter's examples (live): true.
-/
import Derived.Test.YteknlcigfjdmdaaDoorInO
namespace Go.Proofs.YteknlcigfjdmdaaDoor
open Go.ChangeShapes Go.WideShapes Go.ChangeAt Go.RowKit Wd

theorem dec_addi : decV 1049235 = .tuple #[.agg #[.int .i64 22, .int .i64 5, .int .i64 0, .int .i64 0, .int .i64 1, .int .i64 0, .bool false, .bool false], .bool true] := by kernel_rfl
theorem dec_0 : decV 0 = .tuple #[zeroInsn, .bool false] := by kernel_rfl
theorem chk_jal : checkS 3 1 0 0 (-4) 0 false false = 0 := by decide +kernel
theorem enc_jal : encI (fixV 3) (layD (fmtN 3 : Nat) (-4)) 1 0 0 0 false false = 4292866287 := by decide +kernel
set_option maxHeartbeats 2000000 in
theorem live3_c (w : World) (hv : VarsAt w) : Calls Tryd.prog 8 #[] w fun e w' => e = .returned (.bool true) ∧ Below w.heap.size w w' := by
  have HV := Lib.hid hv
  clear hv
  go_enter Tryd.func8, Tryd.ntmps8
  go_wp2_with fail
  refine (decode_c 1049235 (by decide) _ HV.out).mono ?_
  rintro e w1 ⟨rfl, hb⟩
  have HB1 := Lib.hid hb
  clear hb
  rw [dec_addi]
  go_wp2_with fail
  have HI1 := Lib.hid (insAt_new w1 25 22 5 0 0 1 0 false false)
  have HB2 := Lib.hid (HB1.out.alloc HB1.out.size (.cells #[.int .i64 22, .int .i64 5, .int .i64 0, .int .i64 0, .int .i64 1, .int .i64 0, .bool false, .bool false] 25))
  generalize (w1.alloc (.cells #[.int .i64 22, .int .i64 5, .int .i64 0, .int .i64 0, .int .i64 1, .int .i64 0, .bool false, .bool false] 25)) = w2 at *
  refine (encode_yes 3 1 0 0 (-4) 0 false false _ (HV.out.low HB2.out) chk_jal).mono ?_
  rintro e w3 ⟨rfl, hb⟩
  have HI3 := Lib.hid (HI1.out.on hb)
  have HB3 := Lib.hid (HB2.out.trans (hb.mono HB2.out.size))
  clear hb HI1 HB2
  rw [enc_jal]
  go_wp2_with fail
  refine (decode_c 0 (by decide) _ (HV.out.low HB3.out)).mono ?_
  rintro e w4 ⟨rfl, hb⟩
  have HI4 := Lib.hid (HI3.out.on hb)
  have HB4 := Lib.hid (HB3.out.trans (hb.mono HB3.out.size))
  clear hb HI3 HB3
  rw [dec_0]
  unfold zeroInsn
  have HI5 := Lib.hid (HI4.out.on ((Below.refl _ _).alloc (Nat.le_refl _) (.cells #[.int .i64 0, .int .i64 0, .int .i64 0, .int .i64 0, .int .i64 0, .int .i64 0, .bool false, .bool false] 25)))
  obtain ⟨c0, c1, c2, c3, c4, c5, c6, c7⟩ := HI5.out.c
  go_wp2_with fail
  go_ret
  exact ⟨rfl, HB4.out.alloc HB4.out.size _⟩
end Go.Proofs.YteknlcigfjdmdaaDoor
