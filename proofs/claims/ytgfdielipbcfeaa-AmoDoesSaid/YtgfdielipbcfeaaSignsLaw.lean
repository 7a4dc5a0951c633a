/-
  The statement BitsSigns (P1.2): for all words a, b and every int size, roebucklaw01.BitsSigns returns true and its arguments read afterwards as before. No condition.
-/
import Derived.Test.YtgfdielipbcfeaaLive1
import Derived.Test.YtgfdielipbcfeaaFrame
namespace Go.Proofs.Ytgfdielipbcfeaa
open Go.ChangeShapes Go.WideShapes Go.ChangeAt Go.RowKit Wd

theorem bit63 {a : Int} (h0 : 0 ≤ a) (h : a < 18446744073709551616) : bi (tbI a 63) = if 9223372036854775808 ≤ a then 1 else 0 := by
  have e : tbI a 63 = tb a 63 := tbI_nat a 63 (by omega)
  rw [e, tb_63 h0 h]
  unfold bi
  by_cases c : 9223372036854775808 ≤ a
  · simp [c]
  · simp [c]

set_option maxHeartbeats 400000 in
theorem refLess_c (a b : Int) (w : World) (ha0 : 0 ≤ a) (ha : a < 18446744073709551616) (hb0 : 0 ≤ b) (hb : b < 18446744073709551616) :
    Calls Try.prog 21 #[.int .u64 a, .int .u64 b] w fun e w' => e = .returned (.bool (lessS a b)) ∧ w = w' := by
  have ea := bit63 ha0 ha
  have eb := bit63 hb0 hb
  by_cases c1 : 9223372036854775808 ≤ a
  · rw [if_pos c1] at ea
    by_cases c2 : 9223372036854775808 ≤ b
    · rw [if_pos c2] at eb
      have H := Lib.hid (show decide (a < b) = lessS a b from by unfold lessS; apply decide_eq_decide.2; unfold wrap64; omega)
      go_enter Try.func21, Try.ntmps21
      go_wp2_with (go_at_call 36; refine (bit_c _ _ _ (by assumption) (by assumption)).mono ?_; rintro e w' ⟨rfl, rfl⟩)
      go_ret
      exact ⟨ret_b H.out, rfl⟩
    · rw [if_neg c2] at eb
      have H := Lib.hid (show true = lessS a b from by unfold lessS; symm; apply decide_eq_true; unfold wrap64; omega)
      go_enter Try.func21, Try.ntmps21
      go_wp2_with (go_at_call 36; refine (bit_c _ _ _ (by assumption) (by assumption)).mono ?_; rintro e w' ⟨rfl, rfl⟩)
      go_ret
      exact ⟨ret_b H.out, rfl⟩
  · rw [if_neg c1] at ea
    by_cases c2 : 9223372036854775808 ≤ b
    · rw [if_pos c2] at eb
      have H := Lib.hid (show false = lessS a b from by unfold lessS; symm; apply decide_eq_false; unfold wrap64; omega)
      go_enter Try.func21, Try.ntmps21
      go_wp2_with (go_at_call 36; refine (bit_c _ _ _ (by assumption) (by assumption)).mono ?_; rintro e w' ⟨rfl, rfl⟩)
      go_ret
      exact ⟨ret_b H.out, rfl⟩
    · rw [if_neg c2] at eb
      have H := Lib.hid (show decide (a < b) = lessS a b from by unfold lessS; apply decide_eq_decide.2; unfold wrap64; omega)
      go_enter Try.func21, Try.ntmps21
      go_wp2_with (go_at_call 36; refine (bit_c _ _ _ (by assumption) (by assumption)).mono ?_; rintro e w' ⟨rfl, rfl⟩)
      go_ret
      exact ⟨ret_b H.out, rfl⟩

end Go.Proofs.Ytgfdielipbcfeaa
