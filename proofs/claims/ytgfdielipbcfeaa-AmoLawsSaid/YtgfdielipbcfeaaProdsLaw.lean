/-
  The statement WideProducts (P2.1, P2.2): for all words a, b, roebucklaw02.WideProducts returns true and its arguments read afterwards as before. No condition.
-/
import Derived.Test.YtgfdielipbcfeaaTimes
import Derived.Test.YtgfdielipbcfeaaFrame
namespace Go.Proofs.Ytgfdielipbcfeaa
open Go.ChangeShapes Go.WideShapes Go.ChangeAt Go.RowKit Wd

theorem refTimes_c (a b : Int) (w : World) (ha0 : 0 ≤ a) (ha : a < 18446744073709551616) (hb0 : 0 ≤ b) (hb : b < 18446744073709551616) :
    Calls Try.prog 44 #[.int .u64 a, .int .u64 b] w fun e w' => e = .returned (.tuple #[.int .u64 (mulHi a b), .int .u64 (mulLo a b)]) ∧ Below w.heap.size w w' := by
  obtain ⟨x, rfl⟩ := Int.eq_ofNat_of_zero_le ha0
  obtain ⟨y, rfl⟩ := Int.eq_ofNat_of_zero_le hb0
  exact refTimes_nat x y w (by omega) (by omega)
set_option maxHeartbeats 1000000 in
theorem refHigh1_c (a b : Int) (w : World) (ha0 : 0 ≤ a) (ha : a < 18446744073709551616) (hb0 : 0 ≤ b) (hb : b < 18446744073709551616) :
    Calls Try.prog 45 #[.int .u64 a, .int .u64 b, .int .i64 1] w fun e w' => e = .returned (.int .u64 (hMix a b)) ∧ Below w.heap.size w w' := by
  by_cases c : 9223372036854775808 ≤ a
  · have g := negB_true c
    have H := Lib.hid (show IntKind.u64.wrap (mulHi a b - b) = hMix a b from by unfold hMix; rw [if_pos c])
    go_enter Try.func45, Try.ntmps45
    go_wp2_with fail
    refine (refTimes_c _ _ _ ha0 ha hb0 hb).mono ?_
    rintro e w1 ⟨rfl, hB⟩
    go_wp2_with fail
    refine (below_c _ _ ha0 ha).mono ?_
    rintro e w' ⟨rfl, rfl⟩
    go_wp2_with fail
    go_ret
    exact ⟨ret_u H.out, hB⟩
  · have g := negB_false c
    have H := Lib.hid (show mulHi a b = hMix a b from by unfold hMix; rw [if_neg c])
    go_enter Try.func45, Try.ntmps45
    go_wp2_with fail
    refine (refTimes_c _ _ _ ha0 ha hb0 hb).mono ?_
    rintro e w1 ⟨rfl, hB⟩
    go_wp2_with fail
    refine (below_c _ _ ha0 ha).mono ?_
    rintro e w' ⟨rfl, rfl⟩
    go_wp2_with fail
    go_ret
    exact ⟨ret_u H.out, hB⟩
set_option maxHeartbeats 1000000 in
theorem refHigh2_c (a b : Int) (w : World) (ha0 : 0 ≤ a) (ha : a < 18446744073709551616) (hb0 : 0 ≤ b) (hb : b < 18446744073709551616) :
    Calls Try.prog 45 #[.int .u64 a, .int .u64 b, .int .i64 2] w fun e w' => e = .returned (.int .u64 (hSig a b)) ∧ Below w.heap.size w w' := by
  by_cases c : 9223372036854775808 ≤ a
  · have g := negB_true c
    have HM := Lib.hid (show IntKind.u64.wrap (mulHi a b - b) = hMix a b from by unfold hMix; rw [if_pos c])
    by_cases c2 : 9223372036854775808 ≤ b
    · have g2 := negB_true c2
      have H := Lib.hid (show IntKind.u64.wrap (IntKind.u64.wrap (mulHi a b - b) - a) = hSig a b from by rw [HM.out]; unfold hSig; rw [if_pos c2])
      go_enter Try.func45, Try.ntmps45
      go_wp2_with fail
      refine (refTimes_c _ _ _ ha0 ha hb0 hb).mono ?_
      rintro e w1 ⟨rfl, hB⟩
      go_wp2_with fail
      refine (below_c _ _ ha0 ha).mono ?_
      rintro e w' ⟨rfl, rfl⟩
      go_wp2_with fail
      refine (below_c _ _ hb0 hb).mono ?_
      rintro e w' ⟨rfl, rfl⟩
      go_wp2_with fail
      go_ret
      exact ⟨ret_u H.out, hB⟩
    · have g2 := negB_false c2
      have H := Lib.hid (show IntKind.u64.wrap (mulHi a b - b) = hSig a b from by rw [HM.out]; unfold hSig; rw [if_neg c2])
      go_enter Try.func45, Try.ntmps45
      go_wp2_with fail
      refine (refTimes_c _ _ _ ha0 ha hb0 hb).mono ?_
      rintro e w1 ⟨rfl, hB⟩
      go_wp2_with fail
      refine (below_c _ _ ha0 ha).mono ?_
      rintro e w' ⟨rfl, rfl⟩
      go_wp2_with fail
      refine (below_c _ _ hb0 hb).mono ?_
      rintro e w' ⟨rfl, rfl⟩
      go_wp2_with fail
      go_ret
      exact ⟨ret_u H.out, hB⟩
  · have g := negB_false c
    have HM := Lib.hid (show mulHi a b = hMix a b from by unfold hMix; rw [if_neg c])
    by_cases c2 : 9223372036854775808 ≤ b
    · have g2 := negB_true c2
      have H := Lib.hid (show IntKind.u64.wrap (mulHi a b - a) = hSig a b from by rw [HM.out]; unfold hSig; rw [if_pos c2])
      go_enter Try.func45, Try.ntmps45
      go_wp2_with fail
      refine (refTimes_c _ _ _ ha0 ha hb0 hb).mono ?_
      rintro e w1 ⟨rfl, hB⟩
      go_wp2_with fail
      refine (below_c _ _ ha0 ha).mono ?_
      rintro e w' ⟨rfl, rfl⟩
      go_wp2_with fail
      refine (below_c _ _ hb0 hb).mono ?_
      rintro e w' ⟨rfl, rfl⟩
      go_wp2_with fail
      go_ret
      exact ⟨ret_u H.out, hB⟩
    · have g2 := negB_false c2
      have H := Lib.hid (show mulHi a b = hSig a b from by rw [HM.out]; unfold hSig; rw [if_neg c2])
      go_enter Try.func45, Try.ntmps45
      go_wp2_with fail
      refine (refTimes_c _ _ _ ha0 ha hb0 hb).mono ?_
      rintro e w1 ⟨rfl, hB⟩
      go_wp2_with fail
      refine (below_c _ _ ha0 ha).mono ?_
      rintro e w' ⟨rfl, rfl⟩
      go_wp2_with fail
      refine (below_c _ _ hb0 hb).mono ?_
      rintro e w' ⟨rfl, rfl⟩
      go_wp2_with fail
      go_ret
      exact ⟨ret_u H.out, hB⟩

end Go.Proofs.Ytgfdielipbcfeaa
