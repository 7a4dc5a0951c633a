/-
  The statement LocksNone (P12.1, P12.3): for every two numbers, roebucklaw12.LocksNone returns true and its arguments read afterwards as before. No condition.
-/
import Derived.Test.YtgegahnjhaldeaaLive12
import Derived.Test.YtgegahnjhaldeaaFrameO
namespace Go.Proofs.Ytgegahnjhaldeaa
open Go.ChangeShapes Go.WideShapes Go.ChangeAt Go.RowKit

abbrev R0 : Int → List Int := fun _ => []
theorem lkv_nil (w : World) : LkV w (.pointer none) 0 R0 := .inl ⟨rfl, rfl, rfl⟩
theorem take_nil (who at_ : Int) (w : World) : Calls Try.prog 12 #[.pointer none, .int .i64 who, .int .i64 at_] w fun e w' => e = .returned (.bool false) ∧ w = w' := by
  have HE := Lib.hid (show Lk.has who at_ 0 = false from Lk.has_no (by omega))
  go_enter Try.func12, Try.ntmps12
  go_wp2_with fail
  refine (has_c _ who at_ _ _ _ (lkv_nil w)).mono ?_
  rintro e w' ⟨rfl, rfl⟩
  rw [HE.out]
  go_wp2_with fail
  go_ret
  exact ⟨rfl, rfl⟩
theorem drop_nil (who at_ : Int) (h : InI at_) (w : World) : Calls Try.prog 10 #[.pointer none, .int .i64 who, .int .i64 at_] w fun e w' => e = .returned (.bool false) ∧ w = w' := by
  have HX := Lib.hid (holder_c _ at_ _ _ _ (lkv_nil w) h)
  clear h
  go_enter Try.func10, Try.ntmps10
  go_wp2_with fail
  refine HX.out.mono ?_
  rintro e w' ⟨rfl, rfl⟩
  go_wp2_with fail
  go_ret
  exact ⟨rfl, rfl⟩
theorem cloneL_nil (w : World) : Calls Try.prog 18 #[.pointer none] w fun e w' => e = .returned (.pointer none) ∧ w = w' := by
  go_enter Try.func18, Try.ntmps18
  go_wp2_with fail
  go_ret
  exact ⟨rfl, rfl⟩
theorem stuck_r0 : Lk.stuck R0 0 = [] := by decide +kernel
set_option maxHeartbeats 4000000 in
theorem none_walk (w : World) (who at_ : Int) (_h0 : -9223372036854775808 ≤ who ∧ who ≤ 9223372036854775807) (h1 : -9223372036854775808 ≤ at_ ∧ at_ ≤ 9223372036854775807) :
    Calls Try.prog 4 #[.int .i64 who, .int .i64 at_] w fun e w' => e = .returned (.bool true) ∧ Below w.heap.size w w' := by
  have HI := Lib.hid (show InI at_ from h1)
  have HB0 := Lib.hid (alloc_below w (.cells #[.int .i64 0] 3))
  have HC0 := Lib.hid (CsAt.new w 3 #[.int .i64 0])
  clear _h0 h1
  go_enter Try.func4, Try.ntmps4
  go_upto_region 4 with (fail)
  generalize w.alloc (.cells #[.int .i64 0] 3) = w1 at *
  go_wp2_with fail
  refine (holder_c _ at_ _ _ _ (lkv_nil w1) HI.out).mono ?_
  rintro e w' ⟨rfl, rfl⟩
  go_wp2_with fail
  refine (waits_c _ who _ _ _ (lkv_nil w1)).mono ?_
  rintro e w2 ⟨rfl, hb⟩
  have HB2 := Lib.hid hb
  clear hb
  rw [show Lk.which (Lk.waits who) R0 0 = [] from rfl]
  go_wp2_with fail
  refine (take_nil who at_ _).mono ?_
  rintro e w' ⟨rfl, rfl⟩
  go_wp2_with fail
  refine (drop_nil who at_ HI.out _).mono ?_
  rintro e w' ⟨rfl, rfl⟩
  go_wp2_with fail
  refine (queue_c _ at_ _ _ _ (lkv_nil w2) HI.out).mono ?_
  rintro e w3 ⟨v, rfl, hown, hb⟩
  obtain ⟨p3, cap3, rfl, -, -, -⟩ := own_form2 hown
  have HB3 := Lib.hid (HB2.out.trans (hb.mono HB2.out.size))
  clear hown hb
  rw [show (R0 at_).tail.length = 0 from rfl]
  go_wp2_with fail
  refine (held_c _ who _ _ _ (lkv_nil w3)).mono ?_
  rintro e w4 ⟨v, rfl, hown, hb⟩
  obtain ⟨p4, cap4, rfl, -, -, -⟩ := own_form2 hown
  have HB4 := Lib.hid (HB3.out.trans (hb.mono HB3.out.size))
  clear hown hb
  rw [show (Lk.which (Lk.holds who) R0 0).length = 0 from rfl]
  go_wp2_with fail
  refine (stuck_c _ _ _ _ (lkv_nil w4)).mono ?_
  rintro e w5 ⟨v, rfl, hown, hb⟩
  obtain ⟨p5, cap5, rfl, -, -, -⟩ := own_form2 hown
  have HB5 := Lib.hid (HB4.out.trans (hb.mono HB4.out.size))
  clear hown hb
  rw [stuck_r0]
  go_wp2_with fail
  refine (cloneL_nil _).mono ?_
  rintro e w' ⟨rfl, rfl⟩
  go_wp2_with fail
  refine (needs_nil _).mono ?_
  rintro e w' ⟨rfl, rfl⟩
  go_wp2_with fail
  refine (done_nil _).mono ?_
  rintro e w6 ⟨rfl, hb⟩
  have HB6 := Lib.hid (HB5.out.trans (hb.mono HB5.out.size))
  clear hb
  go_wp2_with fail
  refine (step_nil _ who _ _).mono ?_
  rintro e w7 ⟨rfl, hb⟩
  have HB7 := Lib.hid (HB6.out.trans (hb.mono HB6.out.size))
  clear hb
  have c7 := (HC0.out.low HB7.out).cell 0
  go_wp2_with fail
  refine (live12_c _).mono ?_
  rintro e w8 ⟨rfl, hb⟩
  have HB8 := Lib.hid (HB0.out.trans ((HB7.out.trans (hb.mono HB7.out.size)).mono HB0.out.size))
  clear hb
  go_wp2_with fail
  go_ret
  exact ⟨rfl, HB8.out⟩

set_option maxRecDepth 100000 in
theorem none_lifted (os : Os) (started : os.Started) (H : Type) (enc : TypeId × Value → H) :
    ReturnsInHanded {} Try.checked os 4 .any (Rows.locksNoneSpec.pre6 enc Try.prog Try.f4 Rows.locksNoneRow.domain false) (Rows.locksNoneSpec.post enc Try.prog Try.f4 false true false false) := by
  refine returnsInHanded_of_change (C := Try.checked) own started (by kernel_rfl) Try.func4
    (ChangeSpec.witness6 (enc := enc) (C := Try.checked) false ⟨#[], #[.int .i64 0, .int .i64 0], []⟩ 8 (by kernel_rfl) (by kernel_rfl) (by kernel_rfl) (by kernel_rfl)) ?_
  intro W base args ds gs before hval0 hW hcnd _
  have hval : ∀ (j : Nat) t v, Try.f4.params[j]? = some t → args[j]? = some v → Value.okWide Try.prog W .any base t v := hval0
  have hW' := hW
  obtain ⟨p, q, hA0, hV, rfl, hfz, hnd⟩ := hW
  have hA : DataW.TrodAll enc Try.prog W 0 (fun _ => true) true Try.f4.params.toList args.toList ds p := hA0
  rw [Try.params4] at hA hval
  obtain ⟨v0, vs0, d0, ds0, p0, q0, hargs, rfl, rfl, h0, r0⟩ := trodAll_cons hA
  obtain ⟨v1, vs1, d1, ds1, p1, q1, rfl, rfl, rfl, h1, r1⟩ := trodAll_cons r0
  obtain ⟨rfl, rfl, rfl⟩ := trodAll_nil r1
  obtain rfl : args = #[v0, v1] := by cases args; simp_all
  obtain ⟨rfl, rfl⟩ := trodVars_none hV
  obtain ⟨a0, rfl, rfl, rfl, w0⟩ := open_int Try.underlying3 (hval 0 3 v0 rfl rfl) h0
  obtain ⟨a1, rfl, rfl, rfl, w1⟩ := open_int Try.underlying3 (hval 1 3 v1 rfl rfl) h1
  clear hA0 hval0
  refine (none_walk W a0 a1 (bounds_i64 w0) (bounds_i64 w1)).mono fun e W' ⟨he, bel⟩ => ?_
  subst he
  exact ⟨_, rfl, _, _, _, [], _, [], hW', trodAll_mk1 (shut_bool Try.underlying4 _), (trodAll_cons_mk (shut_int Try.underlying3 w0) (trodAll_cons_mk (shut_int Try.underlying3 w1) trodAll_mk0)), rfl, bel.frame _, fun h => by cases h⟩

theorem none_over : Rows.locksNoneRow.holds Try.pinned (OpenSpec.ofChange Rows.locksNoneSpec) :=
  OpenClaim.holds_of_wide 4 Try.f4 rfl rfl rfl rfl rfl rfl rfl ⟨rfl, rfl, rfl, rfl, rfl⟩ rfl rfl rfl rfl rfl (by kernel_rfl) Try.func4 (by kernel_rfl)
    (of_decide_eq_true (by kernel_rfl)) (by unfold Func.isWrapper; first | (rw [if_pos (by decide +kernel)]; kernel_rfl) | (rw [if_neg (by decide +kernel)]; exact ⟨rfl, rfl⟩))
    (fun os started H enc _ => none_lifted os started H enc)

theorem none_said : Rows.LocksNoneSaid := none_over
end Go.Proofs.Ytgegahnjhaldeaa
