/-
  The statement BitsSigns (P1.2): for all words a, b and every int size, roebucklaw01.BitsSigns returns true and its arguments read afterwards as before. No condition.
-/
import Derived.Test.YtgkenodiaehnnaaLive1
import Derived.Test.YtgkenodiaehnnaaFrame
namespace Go.Proofs.Ytgkenodiaehnnaa
open Go.ChangeShapes Go.WideShapes Go.ChangeAt Go.RowKit Wd

theorem bit63 {a : Int} (h0 : 0 ≤ a) (h : a < 18446744073709551616) : bi (tbI a 63) = if 9223372036854775808 ≤ a then 1 else 0 := by
  have e : tbI a 63 = tb a 63 := tbI_nat a 63 (by omega)
  rw [e, tb_63 h0 h]
  unfold bi
  by_cases c : 9223372036854775808 ≤ a
  · simp [c]
  · simp [c]

set_option maxHeartbeats 400000 in
theorem refLess_c (a b : Int) (w : World) (ha0 : 0 ≤ a) (ha : a < 18446744073709551616) (hb0 : 0 ≤ b) (hb : b < 18446744073709551616) :
    Calls Try.prog 25 #[.int .u64 a, .int .u64 b] w fun e w' => e = .returned (.bool (lessS a b)) ∧ w = w' := by
  have ea := bit63 ha0 ha
  have eb := bit63 hb0 hb
  by_cases c1 : 9223372036854775808 ≤ a
  · rw [if_pos c1] at ea
    by_cases c2 : 9223372036854775808 ≤ b
    · rw [if_pos c2] at eb
      have H := Lib.hid (show decide (a < b) = lessS a b from by unfold lessS; apply decide_eq_decide.2; unfold wrap64; omega)
      go_enter Try.func25, Try.ntmps25
      go_wp2_with (go_at_call 60; refine (bit_c _ _ _ (by assumption) (by assumption)).mono ?_; rintro e w' ⟨rfl, rfl⟩)
      go_ret
      exact ⟨ret_b H.out, rfl⟩
    · rw [if_neg c2] at eb
      have H := Lib.hid (show true = lessS a b from by unfold lessS; symm; apply decide_eq_true; unfold wrap64; omega)
      go_enter Try.func25, Try.ntmps25
      go_wp2_with (go_at_call 60; refine (bit_c _ _ _ (by assumption) (by assumption)).mono ?_; rintro e w' ⟨rfl, rfl⟩)
      go_ret
      exact ⟨ret_b H.out, rfl⟩
  · rw [if_neg c1] at ea
    by_cases c2 : 9223372036854775808 ≤ b
    · rw [if_pos c2] at eb
      have H := Lib.hid (show false = lessS a b from by unfold lessS; symm; apply decide_eq_false; unfold wrap64; omega)
      go_enter Try.func25, Try.ntmps25
      go_wp2_with (go_at_call 60; refine (bit_c _ _ _ (by assumption) (by assumption)).mono ?_; rintro e w' ⟨rfl, rfl⟩)
      go_ret
      exact ⟨ret_b H.out, rfl⟩
    · rw [if_neg c2] at eb
      have H := Lib.hid (show decide (a < b) = lessS a b from by unfold lessS; apply decide_eq_decide.2; unfold wrap64; omega)
      go_enter Try.func25, Try.ntmps25
      go_wp2_with (go_at_call 60; refine (bit_c _ _ _ (by assumption) (by assumption)).mono ?_; rintro e w' ⟨rfl, rfl⟩)
      go_ret
      exact ⟨ret_b H.out, rfl⟩

set_option maxHeartbeats 400000 in
theorem signs_walk (a0 a1 a2 : Int) (h0 : 0 ≤ a0 ∧ a0 ≤ 18446744073709551615) (h1 : 0 ≤ a1 ∧ a1 ≤ 18446744073709551615) (h2 : -9223372036854775808 ≤ a2 ∧ a2 ≤ 9223372036854775807) (w : World) :
    Calls Try.prog 4 #[.int .u64 a0, .int .u64 a1, .int .i64 a2] w fun e w' => e = .returned (.bool true) ∧ Below w.heap.size w w' := by
  obtain ⟨x0, x1⟩ := h0
  obtain ⟨y0, y1⟩ := h1
  obtain ⟨s0, s1⟩ := h2
  have x2 : a0 < 18446744073709551616 := by omega
  have y2 : a1 < 18446744073709551616 := by omega
  have s2 : a2 < 9223372036854775808 := by omega
  clear x1 y1 s1
  go_enter Try.func4, Try.ntmps4
  go_wp2_with fail
  refine (live1_c _).mono ?_
  rintro e w1 ⟨rfl, hb1⟩
  go_wp2_with fail
  refine (sign_c _ _ _ x0 x2).mono ?_
  rintro e w' ⟨rfl, rfl⟩
  go_wp2_with fail
  refine (refSign_c _ _ _ x0 x2 s2).mono ?_
  rintro e w2 ⟨rfl, hb2⟩
  go_wp2_with fail
  refine (word_c _ _ x0 x2).mono ?_
  rintro e w' ⟨rfl, rfl⟩
  go_wp2_with fail
  refine (refSign_c _ _ _ x0 x2 (by omega)).mono ?_
  rintro e w3 ⟨rfl, hb3⟩
  go_wp2_with fail
  refine (less_c _ _ _).mono ?_
  rintro e w' ⟨rfl, rfl⟩
  go_wp2_with fail
  refine (refLess_c _ _ _ x0 x2 y0 y2).mono ?_
  rintro e w' ⟨rfl, rfl⟩
  go_wp2_with fail
  go_ret
  exact ⟨rfl, (hb1.trans (hb2.mono hb1.size)).trans (hb3.mono (Nat.le_trans hb1.size hb2.size))⟩

set_option maxRecDepth 100000 in
theorem signs_lifted (os : Os) (started : os.Started) (H : Type) (enc : TypeId × Value → H) :
    ReturnsInHanded {} Try.checked os 4 .any (Rows.bitsSignsSpec.pre6 enc Try.prog Try.f4 Rows.bitsSignsRow.domain false) (Rows.bitsSignsSpec.post enc Try.prog Try.f4 false true false false) := by
  refine returnsInHanded_of_change (C := Try.checked) own started (by kernel_rfl) Try.func4
    (ChangeSpec.witness6 (enc := enc) (C := Try.checked) false ⟨#[], #[.int .u64 0, .int .u64 0, .int .i64 0], []⟩ 8 (by kernel_rfl) (by kernel_rfl) (by kernel_rfl) (by kernel_rfl)) ?_
  intro W base args ds gs before hval0 hW hcnd _
  have hval : ∀ (j : Nat) t v, Try.f4.params[j]? = some t → args[j]? = some v → Value.okWide Try.prog W .any base t v := hval0
  have hW' := hW
  obtain ⟨p, q, hA0, hV, rfl, hfz, hnd⟩ := hW
  have hA : DataW.TrodAll enc Try.prog W 0 (fun _ => true) true Try.f4.params.toList args.toList ds p := hA0
  rw [Try.params4] at hA hval
  obtain ⟨v0, vs0, d0, ds0, p0, q0, hargs, rfl, rfl, h0, r0⟩ := trodAll_cons hA
  obtain ⟨v1, vs1, d1, ds1, p1, q1, rfl, rfl, rfl, h1, r1⟩ := trodAll_cons r0
  obtain ⟨v2, vs2, d2, ds2, p2, q2, rfl, rfl, rfl, h2, r2⟩ := trodAll_cons r1
  obtain ⟨rfl, rfl, rfl⟩ := trodAll_nil r2
  obtain rfl : args = #[v0, v1, v2] := by cases args; simp_all
  obtain ⟨rfl, rfl⟩ := trodVars_none hV
  obtain ⟨a0, rfl, rfl, rfl, w0⟩ := open_int Try.underlying22 (hval 0 22 v0 rfl rfl) h0
  obtain ⟨a1, rfl, rfl, rfl, w1⟩ := open_int Try.underlying22 (hval 1 22 v1 rfl rfl) h1
  obtain ⟨a2, rfl, rfl, rfl, w2⟩ := open_int Try.underlying3 (hval 2 3 v2 rfl rfl) h2
  clear hA0 hval0
  refine (signs_walk a0 a1 a2 (bounds_u64 w0) (bounds_u64 w1) (bounds_i64 w2) W).mono fun e W' ⟨he, bel⟩ => ?_
  subst he
  exact ⟨_, rfl, _, _, _, [], _, [], hW', trodAll_mk1 (shut_bool Try.underlying4 _), (trodAll_cons_mk (shut_int Try.underlying22 w0) (trodAll_cons_mk (shut_int Try.underlying22 w1) (trodAll_cons_mk (shut_int Try.underlying3 w2) trodAll_mk0))), rfl, bel.frame _, fun h => by cases h⟩

theorem signs_over : Rows.bitsSignsRow.holds Try.pinned (OpenSpec.ofChange Rows.bitsSignsSpec) :=
  OpenClaim.holds_of_wide 4 Try.f4 rfl rfl rfl rfl rfl rfl rfl ⟨rfl, rfl, rfl, rfl, rfl⟩ rfl rfl rfl rfl rfl (by kernel_rfl) Try.func4 (by kernel_rfl)
    (of_decide_eq_true (by kernel_rfl)) (by unfold Func.isWrapper; first | (rw [if_pos (by decide +kernel)]; kernel_rfl) | (rw [if_neg (by decide +kernel)]; exact ⟨rfl, rfl⟩))
    (fun os started H enc _ => signs_lifted os started H enc)

theorem bits_signs_said : Rows.BitsSignsSaid := signs_over
end Go.Proofs.Ytgkenodiaehnnaa
