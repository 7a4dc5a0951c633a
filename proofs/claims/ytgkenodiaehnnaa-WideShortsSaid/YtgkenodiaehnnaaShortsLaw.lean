/-
  The statement WideShorts (P2.4): for all words a, b, roebucklaw02.WideShorts returns true and its arguments read afterwards as before. No condition.
-/
import Derived.Test.YtgkenodiaehnnaaShort
import Derived.Test.YtgkenodiaehnnaaFrame
namespace Go.Proofs.Ytgkenodiaehnnaa
open Go.ChangeShapes Go.WideShapes Go.ChangeAt Go.RowKit Wd

set_option maxHeartbeats 1000000 in
theorem shorts_walk (a b : Int) (h0 : 0 ≤ a ∧ a ≤ 18446744073709551615) (h1 : 0 ≤ b ∧ b ≤ 18446744073709551615) (w : World) :
    Calls Try.prog 11 #[.int .u64 a, .int .u64 b] w fun e w' => e = .returned (.bool true) ∧ Below w.heap.size w w' := by
  obtain ⟨a0, a1⟩ := h0
  obtain ⟨b0, b1⟩ := h1
  have a2 : a < 18446744073709551616 := by omega
  have b2 : b < 18446744073709551616 := by omega
  clear a1 b1
  obtain ⟨s0, s1⟩ := halfS_range a false
  obtain ⟨t0, t1⟩ := halfS_range b false
  obtain ⟨p0, p1⟩ := halfS_range a true
  obtain ⟨q0, q1⟩ := halfS_range b true
  generalize hs : halfS a false = S at *
  generalize ht : halfS b false = T at *
  generalize hp : halfS a true = Pv at *
  generalize hq : halfS b true = Qv at *
  have HS := Lib.hid (And.intro hs ht)
  have HP := Lib.hid (And.intro hp hq)
  clear hs ht hp hq
  have HM := Lib.hid (show IntKind.u64.wrap (S * T) = mulLo S T from by rw [IntKind.wrap_u64]; rfl)
  obtain ⟨m0, m1⟩ := mulLo_range S T
  obtain ⟨d0, d1⟩ := divS_range (a := S) (b := T)
  obtain ⟨r0, r1⟩ := remS_range (a := S) (b := T)
  obtain ⟨e0, e1⟩ := divP_range (b := Qv) p0 p1 q0
  obtain ⟨f0, f1⟩ := remP_range (a := Pv) (b := Qv)
  go_enter Try.func11, Try.ntmps11
  go_wp2_with fail
  refine (half_c _ _ _ a0 a2).mono ?_
  rintro e w1 ⟨rfl, hB⟩
  rw [HS.out.1]
  go_wp2_with fail
  refine (half_c _ _ _ b0 b2).mono ?_
  rintro e w2 ⟨rfl, hb⟩
  rw [HS.out.2]
  replace hB := hB.trans (hb.mono hB.size)
  clear hb
  go_wp2_with fail
  refine (half_c _ _ _ a0 a2).mono ?_
  rintro e w3 ⟨rfl, hb⟩
  rw [HP.out.1]
  replace hB := hB.trans (hb.mono hB.size)
  clear hb
  go_wp2_with fail
  refine (half_c _ _ _ b0 b2).mono ?_
  rintro e w4 ⟨rfl, hb⟩
  rw [HP.out.2]
  replace hB := hB.trans (hb.mono hB.size)
  clear hb
  go_wp2_with fail
  refine (short_mul _ _ _ _ a0 a2 b0 b2).mono ?_
  rintro e w' ⟨rfl, rfl⟩
  rw [HS.out.1, HS.out.2]
  go_wp2_with fail
  rw [HM.out]
  refine (refSign_c _ _ _ m0 m1 (by omega)).mono ?_
  rintro e w5 ⟨rfl, hb⟩
  replace hB := hB.trans (hb.mono hB.size)
  clear hb
  go_wp2_with fail
  refine (short_div _ _ _ _ a0 a2 b0 b2).mono ?_
  rintro e w' ⟨rfl, rfl⟩
  rw [HS.out.1, HS.out.2]
  go_wp2_with fail
  refine (refDiv_sign _ _ _ s0 s1 t0 t1).mono ?_
  rintro e w6 ⟨rfl, hb⟩
  replace hB := hB.trans (hb.mono hB.size)
  clear hb
  go_wp2_with fail
  refine (refSign_c _ _ _ d0 d1 (by omega)).mono ?_
  rintro e w7 ⟨rfl, hb⟩
  replace hB := hB.trans (hb.mono hB.size)
  clear hb
  go_wp2_with fail
  refine (short_rem _ _ _ _ a0 a2 b0 b2).mono ?_
  rintro e w' ⟨rfl, rfl⟩
  rw [HS.out.1, HS.out.2]
  go_wp2_with fail
  refine (refRem_sign _ _ _ s0 s1 t0 t1).mono ?_
  rintro e w8 ⟨rfl, hb⟩
  replace hB := hB.trans (hb.mono hB.size)
  clear hb
  go_wp2_with fail
  refine (refSign_c _ _ _ r0 r1 (by omega)).mono ?_
  rintro e w9 ⟨rfl, hb⟩
  replace hB := hB.trans (hb.mono hB.size)
  clear hb
  go_wp2_with fail
  refine (live2_c _).mono ?_
  rintro e w10 ⟨rfl, hb⟩
  replace hB := hB.trans (hb.mono hB.size)
  clear hb
  go_wp2_with fail
  refine (short_nil _ _ _ _).mono ?_
  rintro e w' ⟨rfl, rfl⟩
  go_wp2_with fail
  refine (short_divp _ _ _ _ a0 a2 b0 b2).mono ?_
  rintro e w' ⟨rfl, rfl⟩
  rw [HP.out.1, HP.out.2]
  go_wp2_with fail
  refine (refDiv_plain _ _ _ p0 p1 q0 q1).mono ?_
  rintro e w11 ⟨rfl, hb⟩
  replace hB := hB.trans (hb.mono hB.size)
  clear hb
  go_wp2_with fail
  refine (refSign_c _ _ _ e0 e1 (by omega)).mono ?_
  rintro e w12 ⟨rfl, hb⟩
  replace hB := hB.trans (hb.mono hB.size)
  clear hb
  go_wp2_with fail
  refine (short_remp _ _ _ _ a0 a2 b0 b2).mono ?_
  rintro e w' ⟨rfl, rfl⟩
  rw [HP.out.1, HP.out.2]
  go_wp2_with fail
  refine (refRem_plain _ _ _ p0 p1 q0 q1).mono ?_
  rintro e w13 ⟨rfl, hb⟩
  replace hB := hB.trans (hb.mono hB.size)
  clear hb
  go_wp2_with fail
  refine (refSign_c _ _ _ f0 f1 (by omega)).mono ?_
  rintro e w14 ⟨rfl, hb⟩
  replace hB := hB.trans (hb.mono hB.size)
  clear hb
  go_wp2_with fail
  go_ret
  exact ⟨rfl, hB⟩

set_option maxRecDepth 100000 in
theorem shorts_lifted (os : Os) (started : os.Started) (H : Type) (enc : TypeId × Value → H) :
    ReturnsInHanded {} Try.checked os 11 .any (Rows.wideShortsSpec.pre6 enc Try.prog Try.f11 Rows.wideShortsRow.domain false) (Rows.wideShortsSpec.post enc Try.prog Try.f11 false true false false) := by
  refine returnsInHanded_of_change (C := Try.checked) own started (by kernel_rfl) Try.func11
    (ChangeSpec.witness6 (enc := enc) (C := Try.checked) false ⟨#[], #[.int .u64 0, .int .u64 0], []⟩ 8 (by kernel_rfl) (by kernel_rfl) (by kernel_rfl) (by kernel_rfl)) ?_
  intro W base args ds gs before hval0 hW hcnd _
  have hval : ∀ (j : Nat) t v, Try.f11.params[j]? = some t → args[j]? = some v → Value.okWide Try.prog W .any base t v := hval0
  have hW' := hW
  obtain ⟨p, q, hA0, hV, rfl, hfz, hnd⟩ := hW
  have hA : DataW.TrodAll enc Try.prog W 0 (fun _ => true) true Try.f11.params.toList args.toList ds p := hA0
  rw [Try.params11] at hA hval
  obtain ⟨v0, vs0, d0, ds0, p0, q0, hargs, rfl, rfl, h0, r0⟩ := trodAll_cons hA
  obtain ⟨v1, vs1, d1, ds1, p1, q1, rfl, rfl, rfl, h1, r1⟩ := trodAll_cons r0
  obtain ⟨rfl, rfl, rfl⟩ := trodAll_nil r1
  obtain rfl : args = #[v0, v1] := by cases args; simp_all
  obtain ⟨rfl, rfl⟩ := trodVars_none hV
  obtain ⟨a0, rfl, rfl, rfl, w0⟩ := open_int Try.underlying22 (hval 0 22 v0 rfl rfl) h0
  obtain ⟨a1, rfl, rfl, rfl, w1⟩ := open_int Try.underlying22 (hval 1 22 v1 rfl rfl) h1
  clear hA0 hval0
  refine (shorts_walk a0 a1 (bounds_u64 w0) (bounds_u64 w1) W).mono fun e W' ⟨he, bel⟩ => ?_
  subst he
  exact ⟨_, rfl, _, _, _, [], _, [], hW', trodAll_mk1 (shut_bool Try.underlying4 _), (trodAll_cons_mk (shut_int Try.underlying22 w0) (trodAll_cons_mk (shut_int Try.underlying22 w1) trodAll_mk0)), rfl, bel.frame _, fun h => by cases h⟩

theorem shorts_over : Rows.wideShortsRow.holds Try.pinned (OpenSpec.ofChange Rows.wideShortsSpec) :=
  OpenClaim.holds_of_wide 11 Try.f11 rfl rfl rfl rfl rfl rfl rfl ⟨rfl, rfl, rfl, rfl, rfl⟩ rfl rfl rfl rfl rfl (by kernel_rfl) Try.func11 (by kernel_rfl)
    (of_decide_eq_true (by kernel_rfl)) (by unfold Func.isWrapper; first | (rw [if_pos (by decide +kernel)]; kernel_rfl) | (rw [if_neg (by decide +kernel)]; exact ⟨rfl, rfl⟩))
    (fun os started H enc _ => shorts_lifted os started H enc)

theorem shorts_said : Rows.WideShortsSaid := shorts_over
end Go.Proofs.Ytgkenodiaehnnaa
