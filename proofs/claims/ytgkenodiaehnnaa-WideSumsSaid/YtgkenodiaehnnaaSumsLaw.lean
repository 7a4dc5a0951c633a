/-
  The statement WideSums (P2.1): for all wide numbers x, y, roebucklaw02.WideSums returns true and its arguments read afterwards as before. No condition.
-/
import Derived.Test.YtgkenodiaehnnaaSumM
import Derived.Test.YtgkenodiaehnnaaFrame
import Derived.RegionTactic
import Derived.Deep.RegionHeld3
import Derived.Deep.DeepCutAuto
namespace Go.Proofs.Ytgkenodiaehnnaa
open Go.ChangeShapes Go.WideShapes Go.ChangeAt Go.RowKit Wd

theorem keep8 {w0 wp w' : World} {p1 p2 p3 p4 p5 p6 p7 : Addr} {v1 v2 v3 v4 v5 v6 v7 : Value} (hb : Below wp.heap.size wp w')
    (h : Below w0.heap.size w0 wp ∧ wp.cell? p1 = some v1 ∧ wp.cell? p2 = some v2 ∧ wp.cell? p3 = some v3 ∧ wp.cell? p4 = some v4 ∧ wp.cell? p5 = some v5 ∧ wp.cell? p6 = some v6 ∧ wp.cell? p7 = some v7) :
    Below w0.heap.size w0 w' ∧ w'.cell? p1 = some v1 ∧ w'.cell? p2 = some v2 ∧ w'.cell? p3 = some v3 ∧ w'.cell? p4 = some v4 ∧ w'.cell? p5 = some v5 ∧ w'.cell? p6 = some v6 ∧ w'.cell? p7 = some v7 := by
  obtain ⟨h0, h1, h2, h3, h4, h5, h6, h7⟩ := h
  exact ⟨below_on h0 hb, cell_keep hb h1, cell_keep hb h2, cell_keep hb h3, cell_keep hb h4, cell_keep hb h5, cell_keep hb h6, cell_keep hb h7⟩

set_option maxHeartbeats 4000000 in
set_option maxRecDepth 100000 in
theorem sums_walk (xh xl yh yl : Int) (h0 : 0 ≤ xh ∧ xh ≤ 18446744073709551615) (h1 : 0 ≤ xl ∧ xl ≤ 18446744073709551615) (h2 : 0 ≤ yh ∧ yh ≤ 18446744073709551615) (h3 : 0 ≤ yl ∧ yl ≤ 18446744073709551615) (w : World) :
    Calls Try.prog 9 #[.agg #[.int .u64 xh, .int .u64 xl], .agg #[.int .u64 yh, .int .u64 yl]] w fun e w' => e = .returned (.bool true) ∧ Below w.heap.size w w' := by
  obtain ⟨a0, a1⟩ := h0
  obtain ⟨b0, b1⟩ := h1
  obtain ⟨c0, c1⟩ := h2
  obtain ⟨d0, d1⟩ := h3
  have a2 : xh < 18446744073709551616 := by omega
  have b2 : xl < 18446744073709551616 := by omega
  have c2 : yh < 18446744073709551616 := by omega
  have d2 : yl < 18446744073709551616 := by omega
  clear a1 b1 c1 d1
  go_enter Try.func9, Try.ntmps9
  go_upto_region 1 with fail
  go_cut [5, 6] (fun s5 s6 wx => ∃ ga gb : Nat, s5 = .pointer (some ⟨ga, 0, none⟩) ∧ s6 = .pointer (some ⟨gb, 0, none⟩) ∧ SM w ga gb xh xl yh yl wx)
  case first =>
    go_region
    all_goals (go_wp2_with fail; go_meet)
    all_goals (first | exact ⟨_, _, rfl, rfl, sm_one w xh xl yh yl⟩ | exact ⟨_, _, rfl, rfl, sm_two w xh xl yh yl⟩)
  case rest =>
    obtain ⟨ga, gb, rfl, rfl, hm⟩ := hcut
    obtain ⟨SH, hSH⟩ : ∃ SH : Int, SH = (xh + yh + (xl + yl) / 18446744073709551616) % 18446744073709551616 := ⟨_, rfl⟩
    obtain ⟨SL, hSL⟩ : ∃ SL : Int, SL = (xl + yl) % 18446744073709551616 := ⟨_, rfl⟩
    obtain ⟨k1, k2, k3⟩ := sum_carry (xh := xh) (yh := yh) b0 b2 d0 d2
    rw [← hSL] at k1 k2 k3
    rw [← hSH] at k2 k3
    have HSS := Lib.hid (And.intro hSH hSL)
    have K2 := Lib.hid k2
    have K3 := Lib.hid k3
    clear hSH hSL k2 k3
    have HM := Lib.hid hm
    obtain ⟨m0, m1, m2, m3, m4, m5, m6, m7, m8⟩ := hm
    clear m0 m1 m2 m3 m4
    go_wp2_with fail
    refine (plus_c _ _ _ _ _ a0 b0 b2 c0 d0 d2).mono ?_
    rintro e w1 ⟨rfl, hb⟩
    rw [← HSS.out.1, ← HSS.out.2]
    have hm1 := HM.out.on hb
    have HM1 := Lib.hid hm1
    obtain ⟨m0, m1, m2, m3, m4, n5, n6, n7, n8⟩ := hm1
    clear hb m5 m6 m7 m8 m0 n5 n6 n7 n8 HM
    have q1 := cell_lt m1
    have q2 := cell_lt m3
    simp only at q1 q2
    have hm2 := HM1.out.on (show Below w1.heap.size w1 (w1.alloc (.cells #[.int .u64 SH, .int .u64 SL] 42)) from (Below.refl _ _).alloc (Nat.le_refl _) _)
    have s0 : (w1.alloc (.cells #[.int .u64 SH, .int .u64 SL] 42)).cell? ⟨w1.heap.size, 0, none⟩ = some (.int .u64 SH) := by simp
    have s1 : (w1.alloc (.cells #[.int .u64 SH, .int .u64 SL] 42)).cell? ⟨w1.heap.size, 1, none⟩ = some (.int .u64 SL) := by simp
    have hS0 := And.intro hm2.1 (And.intro s0 (And.intro s1 (And.intro hm2.2.1 (And.intro hm2.2.2.1 (And.intro hm2.2.2.2.2.1 (And.intro hm2.2.2.2.2.2.1 hm2.2.2.2.2.2.2.1))))))
    have HS0 := Lib.hid hS0
    obtain ⟨ng0, ng1, ng2, ng3⟩ := neg_range (ah := xh) (al := xl)
    have ns := neg_sum a0 a2 b0 b2
    have nn := neg_neg' a0 a2 b0 b2
    generalize hNH : negH xh xl = NH at *
    generalize hNL : negL xl = NL at *
    have HNN := Lib.hid (And.intro hNH hNL)
    have HN1 := Lib.hid ns
    have HN2 := Lib.hid nn
    clear hm2 s0 s1 hS0 hNH hNL ns nn
    by_cases hc : SL < xl
    case' pos =>
      have hhi := K2.out hc
      have g1 : decide (SL < xl) = true := decide_eq_true hc
    case' neg =>
      have hhi := K3.out (by omega)
      have g1 : decide (SL < xl) = false := decide_eq_false hc
    all_goals
      clear K2 K3
      go_wp2_with fail
      clear hhi g1 hc m1 m2 m3 m4
      go_region_held3 (fun w' => Below w.heap.size w w' ∧ w'.cell? ⟨w1.heap.size, 0, none⟩ = some (.int .u64 SH) ∧ w'.cell? ⟨w1.heap.size, 1, none⟩ = some (.int .u64 SL) ∧ w'.cell? ⟨w.heap.size, 0, none⟩ = some (.int .u64 xh) ∧ w'.cell? ⟨w.heap.size, 1, none⟩ = some (.int .u64 xl) ∧ w'.cell? ⟨w.heap.size + 1, 1, none⟩ = some (.int .u64 yl) ∧ w'.cell? ⟨ga, 0, none⟩ = some (.int .u64 xh) ∧ w'.cell? ⟨ga, 1, none⟩ = some (.int .u64 xl))
        (first | exact ⟨HS0.out.1.drew, HS0.out.2⟩ | exact keep8 (by assumption) (by assumption))
        (first
          | (go_at_call_of 44 (Value.agg #[.int .u64 xh, .int .u64 xl]); refine (neg_c xh xl _ a0 a2 b0 b2).mono ?_; rintro e wn ⟨rfl, hb⟩; rw [HNN.out.1, HNN.out.2])
          | (go_at_call_of 44 (Value.agg #[.int .u64 NH, .int .u64 NL]); refine (neg_c NH NL _ ng0 ng1 ng2 ng3).mono ?_; rintro e wn ⟨rfl, hb⟩; rw [HN2.out.1, HN2.out.2])
          | (go_at_call 43; refine (plus_c xh xl NH NL _ a0 b0 b2 ng0 ng2 ng3).mono ?_; rintro e wn ⟨rfl, hb⟩; rw [HN1.out.1, HN1.out.2]))
      obtain ⟨z0, z1, z2, z3, z4, z5, z6, z7⟩ : Below w.heap.size w wn ∧ wn.cell? ⟨w1.heap.size, 0, none⟩ = some (.int .u64 SH) ∧ wn.cell? ⟨w1.heap.size, 1, none⟩ = some (.int .u64 SL) ∧ wn.cell? ⟨w.heap.size, 0, none⟩ = some (.int .u64 xh) ∧ wn.cell? ⟨w.heap.size, 1, none⟩ = some (.int .u64 xl) ∧ wn.cell? ⟨w.heap.size + 1, 1, none⟩ = some (.int .u64 yl) ∧ wn.cell? ⟨ga, 0, none⟩ = some (.int .u64 xh) ∧ wn.cell? ⟨ga, 1, none⟩ = some (.int .u64 xl) := by assumption
      have HZ0 := Lib.hid z0
      have HZ3 := Lib.hid z3
      have HZ4 := Lib.hid z4
      have HZ5 := Lib.hid z5
      have v5 := cell_lt z5
      simp only at v5
      clear z0 z1 z2 z3 z4 hb HS0 HN1 HN2 HNN HSS HM1 k1
      by_cases hy : yl = 0
      · subst hy
        go_wp2_with fail
        refine (overW_0 _ _ _).mono ?_
        rintro e w2 ⟨rfl, hb2⟩
        have y1 := cell_keep hb2 HZ5.out
        have v2 := cell_lt y1
        simp only at v2
        have HB2 := Lib.hid (below_on HZ0.out hb2)
        clear hb2 z5 z6 z7
        go_wp2_with fail
        refine (live2_c _).mono ?_
        rintro e w3 ⟨rfl, hb3⟩
        have HB3 := Lib.hid hb3
        clear hb3
        go_wp2_with fail
        go_ret
        exact ⟨rfl, below_on (HB2.out.alloc HB2.out.size _) HB3.out⟩
      · have hy0 : 0 < yl := by omega
        have hyb : (yl == 0) = false := by simpa using hy
        have OR := Lib.hid (over_ref a0 a2 b0 b2 hy0)
        clear hy
        go_wp2_with fail
        refine (overW_c _ _ _ _ a0 a2 b0 b2 hy0 d2).mono ?_
        rintro e w2 ⟨rfl, hb2⟩
        have x0 := cell_keep hb2 HZ3.out
        have x1 := cell_keep hb2 HZ4.out
        have y1 := cell_keep hb2 HZ5.out
        have v2 := cell_lt y1
        have v3 := cell_lt x0
        simp only at v2 v3
        have HB2 := Lib.hid (below_on HZ0.out hb2)
        clear hb2 z5 z6 z7
        generalize hQ : overQ (xh % yl) xl yl = Q at *
        generalize hR : overR (xh % yl) xl yl = R at *
        have hq0 : (w2.alloc (.cells #[.int .u64 (xh / yl), .int .u64 Q] 42)).cell? ⟨w2.heap.size, 0, none⟩ = some (.int .u64 (xh / yl)) := by simp
        have hq1 : (w2.alloc (.cells #[.int .u64 (xh / yl), .int .u64 Q] 42)).cell? ⟨w2.heap.size, 1, none⟩ = some (.int .u64 Q) := by simp
        have HQ0 := Lib.hid hq0
        have HQ1 := Lib.hid hq1
        clear hq0 hq1 hQ hR
        go_wp2_with fail
        refine (over_c _ _ _ _ a0 a2 b0 b2 hy0 d2).mono ?_
        rintro e w3 ⟨rfl, hb3⟩
        rw [OR.out.1, OR.out.2.1, OR.out.2.2]
        have r0 := cell_keep hb3 HQ0.out
        have r1 := cell_keep hb3 HQ1.out
        have HB3 := Lib.hid (below_on (HB2.out.alloc HB2.out.size _) hb3)
        clear hb3
        go_wp2_with fail
        refine (live2_c _).mono ?_
        rintro e w4 ⟨rfl, hb4⟩
        have HB4 := Lib.hid (below_on HB3.out hb4)
        clear hb4
        go_wp2_with fail
        go_ret
        exact ⟨rfl, HB4.out⟩

set_option maxRecDepth 100000 in
theorem sums_lifted (os : Os) (started : os.Started) (H : Type) (enc : TypeId × Value → H) :
    ReturnsInHanded {} Try.checked os 9 .any (Rows.wideSumsSpec.pre6 enc Try.prog Try.f9 Rows.wideSumsRow.domain false) (Rows.wideSumsSpec.post enc Try.prog Try.f9 false true false false) := by
  refine returnsInHanded_of_change (C := Try.checked) own started (by kernel_rfl) Try.func9
    (ChangeSpec.witness6 (enc := enc) (C := Try.checked) false ⟨#[], #[.agg #[.int .u64 0, .int .u64 0], .agg #[.int .u64 0, .int .u64 0]], []⟩ 8 (by kernel_rfl) (by kernel_rfl) (by kernel_rfl) (by kernel_rfl)) ?_
  intro W base args ds gs before hval0 hW hcnd _
  have hval : ∀ (j : Nat) t v, Try.f9.params[j]? = some t → args[j]? = some v → Value.okWide Try.prog W .any base t v := hval0
  have hW' := hW
  obtain ⟨p, q, hA0, hV, rfl, hfz, hnd⟩ := hW
  have hA : DataW.TrodAll enc Try.prog W 0 (fun _ => true) true Try.f9.params.toList args.toList ds p := hA0
  rw [Try.params9] at hA hval
  obtain ⟨v0, vs0, d0, ds0, p0, q0, hargs, rfl, rfl, h0, r0⟩ := trodAll_cons hA
  obtain ⟨v1, vs1, d1, ds1, p1, q1, rfl, rfl, rfl, h1, r1⟩ := trodAll_cons r0
  obtain ⟨rfl, rfl, rfl⟩ := trodAll_nil r1
  obtain rfl : args = #[v0, v1] := by cases args; simp_all
  obtain ⟨rfl, rfl⟩ := trodVars_none hV
  have k0 := h0
  have lt0 : ∀ x ∈ p0, x.block < W.heap.size := by obtain ⟨m, hm⟩ := k0; exact DataW.trod_lt m _ _ _ hm
  obtain ⟨a0, b0, rfl, w0, z0⟩ := open_arr2 Try.underlying45 Try.underlying22 (by kernel_rfl) (by kernel_rfl) (hval 0 45 v0 rfl rfl) h0
  have k1 := h1
  have lt1 : ∀ x ∈ p1, x.block < W.heap.size := by obtain ⟨m, hm⟩ := k1; exact DataW.trod_lt m _ _ _ hm
  obtain ⟨a1, b1, rfl, w1, z1⟩ := open_arr2 Try.underlying45 Try.underlying22 (by kernel_rfl) (by kernel_rfl) (hval 1 45 v1 rfl rfl) h1
  clear hA0 hval0
  refine (sums_walk a0 b0 a1 b1 (bounds_u64 w0) (bounds_u64 z0) (bounds_u64 w1) (bounds_u64 z1) W).mono fun e W' ⟨he, bel⟩ => ?_
  subst he
  exact ⟨_, rfl, _, _, _, [], _, [], hW', trodAll_mk1 (shut_bool Try.underlying4 _), (trodAll_cons_mk (Below.trod laidOut (by kernel_rfl) (of_decide_eq_true (by kernel_rfl)) k0 bel lt0) (trodAll_cons_mk (Below.trod laidOut (by kernel_rfl) (of_decide_eq_true (by kernel_rfl)) k1 bel lt1) trodAll_mk0)), rfl, bel.frame _, fun h => by cases h⟩

theorem sums_over : Rows.wideSumsRow.holds Try.pinned (OpenSpec.ofChange Rows.wideSumsSpec) :=
  OpenClaim.holds_of_wide 9 Try.f9 rfl rfl rfl rfl rfl rfl rfl ⟨rfl, rfl, rfl, rfl, rfl⟩ rfl rfl rfl rfl rfl (by kernel_rfl) Try.func9 (by kernel_rfl)
    (of_decide_eq_true (by kernel_rfl)) (by unfold Func.isWrapper; first | (rw [if_pos (by decide +kernel)]; kernel_rfl) | (rw [if_neg (by decide +kernel)]; exact ⟨rfl, rfl⟩))
    (fun os started H enc _ => sums_lifted os started H enc)

theorem sums_said : Rows.WideSumsSaid := sums_over
end Go.Proofs.Ytgkenodiaehnnaa
