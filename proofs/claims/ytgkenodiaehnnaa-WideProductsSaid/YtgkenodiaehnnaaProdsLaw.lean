/-
  The statement WideProducts (P2.1, P2.2): for all words a, b, roebucklaw02.WideProducts returns true and its arguments read afterwards as before. No condition.
-/
import Derived.Test.YtgkenodiaehnnaaTimes
import Derived.Test.YtgkenodiaehnnaaFrame
namespace Go.Proofs.Ytgkenodiaehnnaa
open Go.ChangeShapes Go.WideShapes Go.ChangeAt Go.RowKit Wd

theorem refTimes_c (a b : Int) (w : World) (ha0 : 0 ≤ a) (ha : a < 18446744073709551616) (hb0 : 0 ≤ b) (hb : b < 18446744073709551616) :
    Calls Try.prog 35 #[.int .u64 a, .int .u64 b] w fun e w' => e = .returned (.tuple #[.int .u64 (mulHi a b), .int .u64 (mulLo a b)]) ∧ Below w.heap.size w w' := by
  obtain ⟨x, rfl⟩ := Int.eq_ofNat_of_zero_le ha0
  obtain ⟨y, rfl⟩ := Int.eq_ofNat_of_zero_le hb0
  exact refTimes_nat x y w (by omega) (by omega)
set_option maxHeartbeats 1000000 in
theorem refHigh1_c (a b : Int) (w : World) (ha0 : 0 ≤ a) (ha : a < 18446744073709551616) (hb0 : 0 ≤ b) (hb : b < 18446744073709551616) :
    Calls Try.prog 41 #[.int .u64 a, .int .u64 b, .int .i64 1] w fun e w' => e = .returned (.int .u64 (hMix a b)) ∧ Below w.heap.size w w' := by
  by_cases c : 9223372036854775808 ≤ a
  · have g := negB_true c
    have H := Lib.hid (show IntKind.u64.wrap (mulHi a b - b) = hMix a b from by unfold hMix; rw [if_pos c])
    go_enter Try.func41, Try.ntmps41
    go_wp2_with fail
    refine (refTimes_c _ _ _ ha0 ha hb0 hb).mono ?_
    rintro e w1 ⟨rfl, hB⟩
    go_wp2_with fail
    refine (below_c _ _ ha0 ha).mono ?_
    rintro e w' ⟨rfl, rfl⟩
    go_wp2_with fail
    go_ret
    exact ⟨ret_u H.out, hB⟩
  · have g := negB_false c
    have H := Lib.hid (show mulHi a b = hMix a b from by unfold hMix; rw [if_neg c])
    go_enter Try.func41, Try.ntmps41
    go_wp2_with fail
    refine (refTimes_c _ _ _ ha0 ha hb0 hb).mono ?_
    rintro e w1 ⟨rfl, hB⟩
    go_wp2_with fail
    refine (below_c _ _ ha0 ha).mono ?_
    rintro e w' ⟨rfl, rfl⟩
    go_wp2_with fail
    go_ret
    exact ⟨ret_u H.out, hB⟩
set_option maxHeartbeats 1000000 in
theorem refHigh2_c (a b : Int) (w : World) (ha0 : 0 ≤ a) (ha : a < 18446744073709551616) (hb0 : 0 ≤ b) (hb : b < 18446744073709551616) :
    Calls Try.prog 41 #[.int .u64 a, .int .u64 b, .int .i64 2] w fun e w' => e = .returned (.int .u64 (hSig a b)) ∧ Below w.heap.size w w' := by
  by_cases c : 9223372036854775808 ≤ a
  · have g := negB_true c
    have HM := Lib.hid (show IntKind.u64.wrap (mulHi a b - b) = hMix a b from by unfold hMix; rw [if_pos c])
    by_cases c2 : 9223372036854775808 ≤ b
    · have g2 := negB_true c2
      have H := Lib.hid (show IntKind.u64.wrap (IntKind.u64.wrap (mulHi a b - b) - a) = hSig a b from by rw [HM.out]; unfold hSig; rw [if_pos c2])
      go_enter Try.func41, Try.ntmps41
      go_wp2_with fail
      refine (refTimes_c _ _ _ ha0 ha hb0 hb).mono ?_
      rintro e w1 ⟨rfl, hB⟩
      go_wp2_with fail
      refine (below_c _ _ ha0 ha).mono ?_
      rintro e w' ⟨rfl, rfl⟩
      go_wp2_with fail
      refine (below_c _ _ hb0 hb).mono ?_
      rintro e w' ⟨rfl, rfl⟩
      go_wp2_with fail
      go_ret
      exact ⟨ret_u H.out, hB⟩
    · have g2 := negB_false c2
      have H := Lib.hid (show IntKind.u64.wrap (mulHi a b - b) = hSig a b from by rw [HM.out]; unfold hSig; rw [if_neg c2])
      go_enter Try.func41, Try.ntmps41
      go_wp2_with fail
      refine (refTimes_c _ _ _ ha0 ha hb0 hb).mono ?_
      rintro e w1 ⟨rfl, hB⟩
      go_wp2_with fail
      refine (below_c _ _ ha0 ha).mono ?_
      rintro e w' ⟨rfl, rfl⟩
      go_wp2_with fail
      refine (below_c _ _ hb0 hb).mono ?_
      rintro e w' ⟨rfl, rfl⟩
      go_wp2_with fail
      go_ret
      exact ⟨ret_u H.out, hB⟩
  · have g := negB_false c
    have HM := Lib.hid (show mulHi a b = hMix a b from by unfold hMix; rw [if_neg c])
    by_cases c2 : 9223372036854775808 ≤ b
    · have g2 := negB_true c2
      have H := Lib.hid (show IntKind.u64.wrap (mulHi a b - a) = hSig a b from by rw [HM.out]; unfold hSig; rw [if_pos c2])
      go_enter Try.func41, Try.ntmps41
      go_wp2_with fail
      refine (refTimes_c _ _ _ ha0 ha hb0 hb).mono ?_
      rintro e w1 ⟨rfl, hB⟩
      go_wp2_with fail
      refine (below_c _ _ ha0 ha).mono ?_
      rintro e w' ⟨rfl, rfl⟩
      go_wp2_with fail
      refine (below_c _ _ hb0 hb).mono ?_
      rintro e w' ⟨rfl, rfl⟩
      go_wp2_with fail
      go_ret
      exact ⟨ret_u H.out, hB⟩
    · have g2 := negB_false c2
      have H := Lib.hid (show mulHi a b = hSig a b from by rw [HM.out]; unfold hSig; rw [if_neg c2])
      go_enter Try.func41, Try.ntmps41
      go_wp2_with fail
      refine (refTimes_c _ _ _ ha0 ha hb0 hb).mono ?_
      rintro e w1 ⟨rfl, hB⟩
      go_wp2_with fail
      refine (below_c _ _ ha0 ha).mono ?_
      rintro e w' ⟨rfl, rfl⟩
      go_wp2_with fail
      refine (below_c _ _ hb0 hb).mono ?_
      rintro e w' ⟨rfl, rfl⟩
      go_wp2_with fail
      go_ret
      exact ⟨ret_u H.out, hB⟩

set_option maxHeartbeats 1000000 in
theorem prods_walk (a b : Int) (h0 : 0 ≤ a ∧ a ≤ 18446744073709551615) (h1 : 0 ≤ b ∧ b ≤ 18446744073709551615) (w : World) :
    Calls Try.prog 8 #[.int .u64 a, .int .u64 b] w fun e w' => e = .returned (.bool true) ∧ Below w.heap.size w w' := by
  obtain ⟨a0, a1⟩ := h0
  obtain ⟨b0, b1⟩ := h1
  have a2 : a < 18446744073709551616 := by omega
  have b2 : b < 18446744073709551616 := by omega
  clear a1 b1
  go_enter Try.func8, Try.ntmps8
  go_wp2_with fail
  refine (refTimes_c _ _ _ a0 a2 b0 b2).mono ?_
  rintro e w1 ⟨rfl, hB⟩
  go_wp2_with fail
  refine (times_c _ _ _ a0 a2 b0 b2).mono ?_
  rintro e w2 ⟨rfl, hb⟩
  replace hB := hB.trans (hb.mono hB.size)
  clear hb
  go_wp2_with fail
  refine (mul_c _ _ _).mono ?_
  rintro e w' ⟨rfl, rfl⟩
  go_wp2_with fail
  refine (live2_c _).mono ?_
  rintro e w3 ⟨rfl, hb⟩
  replace hB := hB.trans (hb.mono hB.size)
  clear hb
  go_wp2_with fail
  refine (highPlain_c _ _ _ a0 a2 b0 b2).mono ?_
  rintro e w4 ⟨rfl, hb⟩
  replace hB := hB.trans (hb.mono hB.size)
  clear hb
  go_wp2_with fail
  refine (highMixed_c _ _ _ a0 a2 b0 b2).mono ?_
  rintro e w5 ⟨rfl, hb⟩
  replace hB := hB.trans (hb.mono hB.size)
  clear hb
  go_wp2_with fail
  refine (refHigh1_c _ _ _ a0 a2 b0 b2).mono ?_
  rintro e w6 ⟨rfl, hb⟩
  replace hB := hB.trans (hb.mono hB.size)
  clear hb
  go_wp2_with fail
  refine (high_c _ _ _ a0 a2 b0 b2).mono ?_
  rintro e w7 ⟨rfl, hb⟩
  replace hB := hB.trans (hb.mono hB.size)
  clear hb
  go_wp2_with fail
  refine (refHigh2_c _ _ _ a0 a2 b0 b2).mono ?_
  rintro e w8 ⟨rfl, hb⟩
  replace hB := hB.trans (hb.mono hB.size)
  clear hb
  go_wp2_with fail
  go_ret
  exact ⟨rfl, hB⟩

set_option maxRecDepth 100000 in
theorem prods_lifted (os : Os) (started : os.Started) (H : Type) (enc : TypeId × Value → H) :
    ReturnsInHanded {} Try.checked os 8 .any (Rows.wideProductsSpec.pre6 enc Try.prog Try.f8 Rows.wideProductsRow.domain false) (Rows.wideProductsSpec.post enc Try.prog Try.f8 false true false false) := by
  refine returnsInHanded_of_change (C := Try.checked) own started (by kernel_rfl) Try.func8
    (ChangeSpec.witness6 (enc := enc) (C := Try.checked) false ⟨#[], #[.int .u64 0, .int .u64 0], []⟩ 8 (by kernel_rfl) (by kernel_rfl) (by kernel_rfl) (by kernel_rfl)) ?_
  intro W base args ds gs before hval0 hW hcnd _
  have hval : ∀ (j : Nat) t v, Try.f8.params[j]? = some t → args[j]? = some v → Value.okWide Try.prog W .any base t v := hval0
  have hW' := hW
  obtain ⟨p, q, hA0, hV, rfl, hfz, hnd⟩ := hW
  have hA : DataW.TrodAll enc Try.prog W 0 (fun _ => true) true Try.f8.params.toList args.toList ds p := hA0
  rw [Try.params8] at hA hval
  obtain ⟨v0, vs0, d0, ds0, p0, q0, hargs, rfl, rfl, h0, r0⟩ := trodAll_cons hA
  obtain ⟨v1, vs1, d1, ds1, p1, q1, rfl, rfl, rfl, h1, r1⟩ := trodAll_cons r0
  obtain ⟨rfl, rfl, rfl⟩ := trodAll_nil r1
  obtain rfl : args = #[v0, v1] := by cases args; simp_all
  obtain ⟨rfl, rfl⟩ := trodVars_none hV
  obtain ⟨a0, rfl, rfl, rfl, w0⟩ := open_int Try.underlying22 (hval 0 22 v0 rfl rfl) h0
  obtain ⟨a1, rfl, rfl, rfl, w1⟩ := open_int Try.underlying22 (hval 1 22 v1 rfl rfl) h1
  clear hA0 hval0
  refine (prods_walk a0 a1 (bounds_u64 w0) (bounds_u64 w1) W).mono fun e W' ⟨he, bel⟩ => ?_
  subst he
  exact ⟨_, rfl, _, _, _, [], _, [], hW', trodAll_mk1 (shut_bool Try.underlying4 _), (trodAll_cons_mk (shut_int Try.underlying22 w0) (trodAll_cons_mk (shut_int Try.underlying22 w1) trodAll_mk0)), rfl, bel.frame _, fun h => by cases h⟩

theorem prods_over : Rows.wideProductsRow.holds Try.pinned (OpenSpec.ofChange Rows.wideProductsSpec) :=
  OpenClaim.holds_of_wide 8 Try.f8 rfl rfl rfl rfl rfl rfl rfl ⟨rfl, rfl, rfl, rfl, rfl⟩ rfl rfl rfl rfl rfl (by kernel_rfl) Try.func8 (by kernel_rfl)
    (of_decide_eq_true (by kernel_rfl)) (by unfold Func.isWrapper; first | (rw [if_pos (by decide +kernel)]; kernel_rfl) | (rw [if_neg (by decide +kernel)]; exact ⟨rfl, rfl⟩))
    (fun os started H enc _ => prods_lifted os started H enc)

theorem prods_said : Rows.WideProductsSaid := prods_over
end Go.Proofs.Ytgkenodiaehnnaa
