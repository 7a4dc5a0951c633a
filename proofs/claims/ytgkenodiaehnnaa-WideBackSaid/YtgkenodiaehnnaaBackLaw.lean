/-
  The statement WideBack (P2.5): for every wide number x and word b, roebucklaw02.WideBack returns true and its arguments read afterwards as before. No condition.
-/
import Derived.Test.YtgkenodiaehnnaaSumM
import Derived.Test.YtgkenodiaehnnaaShort
import Derived.Test.YtgkenodiaehnnaaFrame
import Derived.RegionTactic
import Derived.Deep.RegionHeld3
namespace Go.Proofs.Ytgkenodiaehnnaa
open Go.ChangeShapes Go.WideShapes Go.ChangeAt Go.RowKit Wd
set_option linter.unusedVariables false

/-! ### numbers -/
theorem div_back (a b : Int) (ha0 : 0 ≤ a) (ha : a < 18446744073709551616) : IntKind.u64.wrap (IntKind.u64.wrap (divS a b * b) + remS a b) = a := by
  unfold remS
  rw [Int.mul_comm b]
  rw [IntKind.wrap_u64, IntKind.wrap_u64, IntKind.wrap_u64]
  generalize divS a b * b = q
  omega
theorem divP_back (a b : Int) (ha0 : 0 ≤ a) (ha : a < 18446744073709551616) : IntKind.u64.wrap (IntKind.u64.wrap (divP a b * b) + remP a b) = a := by
  unfold remP
  rw [Int.mul_comm b]
  rw [IntKind.wrap_u64, IntKind.wrap_u64, IntKind.wrap_u64]
  generalize divP a b * b = q
  omega
/-- Quotient times divisor, and what is left, of wide numbers. -/
theorem wide_back {h l b : Int} (h0 : 0 ≤ h) (h1 : h < 18446744073709551616) (l0 : 0 ≤ l) (l1 : l < 18446744073709551616) (b0 : 0 < b) (b1 : b < 18446744073709551616) :
    (IntKind.u64.wrap (mulHi (overQ (h % b) l b) b + IntKind.u64.wrap (h / b * b)) + 0 + (mulLo (overQ (h % b) l b) b + overR (h % b) l b) / 18446744073709551616) % 18446744073709551616 = h ∧
    (mulLo (overQ (h % b) l b) b + overR (h % b) l b) % 18446744073709551616 = l := by
  have r0 := Int.emod_nonneg h (show b ≠ 0 by omega)
  have r1 := Int.emod_lt_of_pos h b0
  have e := Int.mul_ediv_add_emod h b
  rw [Int.mul_comm] at e
  have e2 := Int.mul_ediv_add_emod (h % b * 18446744073709551616 + l) b
  unfold mulHi mulLo overQ overR
  rw [Int.mul_comm b] at e2
  rw [IntKind.wrap_u64, IntKind.wrap_u64]
  have q0 : 0 ≤ (h % b * 18446744073709551616 + l) / b * b := Int.mul_nonneg (Int.ediv_nonneg (by omega) (by omega)) (by omega)
  have s0 := Int.emod_nonneg (h % b * 18446744073709551616 + l) (show b ≠ 0 by omega)
  have s1 := Int.emod_lt_of_pos (h % b * 18446744073709551616 + l) b0
  generalize (h % b * 18446744073709551616 + l) / b * b = P at *
  generalize (h % b * 18446744073709551616 + l) % b = R at *
  generalize h / b * b = M at *
  generalize h % b = r at *
  omega
theorem overR_lt {h l b : Int} (b0 : 0 < b) : 0 ≤ overR (h % b) l b ∧ overR (h % b) l b < b := ⟨Int.emod_nonneg _ (by omega), Int.emod_lt_of_pos _ b0⟩
theorem remP_lt {a b : Int} (ha0 : 0 ≤ a) (ha : a < 18446744073709551616) (b0 : 0 < b) : remP a b < b := by
  rw [← remP_same ha0 ha (by omega) (by omega)]
  exact Int.emod_lt_of_pos _ b0

theorem overW_0' (h l b : Int) (w : World) (hb : b = 0) :
    Calls Try.prog 45 #[.agg #[.int .u64 h, .int .u64 l], .int .u64 b] w fun e w' => e = .returned (.tuple #[.agg #[.int .u64 0, .int .u64 0], .int .u64 0, .bool false]) ∧ Below w.heap.size w w' := by
  subst hb
  exact overW_0 h l w

theorem keep7 {w0 wp w' : World} {p1 p2 p3 p4 p5 p6 : Addr} {v1 v2 v3 v4 v5 v6 : Value} (hb : Below wp.heap.size wp w')
    (h : Below w0.heap.size w0 wp ∧ wp.cell? p1 = some v1 ∧ wp.cell? p2 = some v2 ∧ wp.cell? p3 = some v3 ∧ wp.cell? p4 = some v4 ∧ wp.cell? p5 = some v5 ∧ wp.cell? p6 = some v6) :
    Below w0.heap.size w0 w' ∧ w'.cell? p1 = some v1 ∧ w'.cell? p2 = some v2 ∧ w'.cell? p3 = some v3 ∧ w'.cell? p4 = some v4 ∧ w'.cell? p5 = some v5 ∧ w'.cell? p6 = some v6 := by
  obtain ⟨h0, h1, h2, h3, h4, h5, h6⟩ := h
  exact ⟨below_on h0 hb, cell_keep hb h1, cell_keep hb h2, cell_keep hb h3, cell_keep hb h4, cell_keep hb h5, cell_keep hb h6⟩

/-- The cells that the law keeps. -/
def BM (w0 : World) (xh xl : Int) (w : World) : Prop :=
  Below w0.heap.size w0 w ∧ w.cell? ⟨w0.heap.size, 0, none⟩ = some (.int .u64 xh) ∧ w.cell? ⟨w0.heap.size, 1, none⟩ = some (.int .u64 xl) ∧ w.cell? ⟨w0.heap.size + 1, 0, none⟩ = some (.int .u64 xh) ∧ w.cell? ⟨w0.heap.size + 1, 1, none⟩ = some (.int .u64 xl)
theorem BM.on {w0 w w' : World} {xh xl : Int} (h : BM w0 xh xl w) (hb : Below w.heap.size w w') : BM w0 xh xl w' := by
  obtain ⟨h0, h1, h2, h3, h4⟩ := h
  exact ⟨below_on h0 hb, cell_keep hb h1, cell_keep hb h2, cell_keep hb h3, cell_keep hb h4⟩
theorem bm_start (w : World) (xh xl : Int) : BM w xh xl ((w.alloc (.cells #[.int .u64 xh, .int .u64 xl] 45)).alloc (.cells #[.int .u64 xh, .int .u64 xl] 42)) := by
  refine ⟨((Below.refl _ _).alloc (Nat.le_refl _) _).alloc (by simp) _, ?_, ?_, ?_, ?_⟩ <;> simp [go_sem, World.cell?_alloc_past]
set_option maxHeartbeats 4000000 in
set_option maxRecDepth 100000 in
theorem back_walk (xh xl b : Int) (h0 : 0 ≤ xh ∧ xh ≤ 18446744073709551615) (h1 : 0 ≤ xl ∧ xl ≤ 18446744073709551615) (h2 : 0 ≤ b ∧ b ≤ 18446744073709551615) (w : World) :
    Calls Try.prog 12 #[.agg #[.int .u64 xh, .int .u64 xl], .int .u64 b] w fun e w' => e = .returned (.bool true) ∧ Below w.heap.size w w' := by
  obtain ⟨a0, a1⟩ := h0
  obtain ⟨b0, b1⟩ := h1
  obtain ⟨c0, c1⟩ := h2
  have a2 : xh < 18446744073709551616 := by omega
  have b2 : xl < 18446744073709551616 := by omega
  have c2 : b < 18446744073709551616 := by omega
  clear a1 b1 c1
  have DB := Lib.hid (div_back xl b b0 b2)
  have PB := Lib.hid (divP_back xl b b0 b2)
  obtain ⟨MX, hMX⟩ : ∃ MX : Int, hMix xl b = MX := ⟨_, rfl⟩
  obtain ⟨HXv, hHX⟩ : ∃ HX : Int, hSig xl b = HX := ⟨_, rfl⟩
  have HX := Lib.hid (And.intro hMX hHX)
  have sgn : (decide (9223372036854775808 ≤ xl) = true ∧ IntKind.u64.wrap (mulHi xl b - b) = MX) ∨ (decide (9223372036854775808 ≤ xl) = false ∧ mulHi xl b = MX) := by
    by_cases c : 9223372036854775808 ≤ xl
    · exact .inl ⟨decide_eq_true c, by rw [← hMX]; unfold hMix; rw [if_pos c]⟩
    · exact .inr ⟨decide_eq_false c, by rw [← hMX]; unfold hMix; rw [if_neg c]⟩
  have sgn2 : (decide (9223372036854775808 ≤ b) = true ∧ IntKind.u64.wrap (MX - xl) = HXv) ∨ (decide (9223372036854775808 ≤ b) = false ∧ MX = HXv) := by
    by_cases c : 9223372036854775808 ≤ b
    · exact .inl ⟨decide_eq_true c, by rw [← hHX, ← hMX]; unfold hSig; rw [if_pos c]⟩
    · exact .inr ⟨decide_eq_false c, by rw [← hHX, ← hMX]; unfold hSig; rw [if_neg c]⟩
  clear hMX hHX
  have SG := Lib.hid (And.intro sgn sgn2)
  clear sgn sgn2
  have hm := Lib.hid (bm_start w xh xl)
  by_cases hb0 : b = 0
  · have g1 : (b == 0) = true := by simpa using hb0
    have g2 : (b != 0) = false := by simpa using hb0
    have HB := Lib.hid hb0
    clear hb0
    go_enter Try.func12, Try.ntmps12
    go_wp2_with fail
    refine (overW_0' _ _ _ _ HB.out).mono ?_
    rintro e w1 ⟨rfl, hb⟩
    replace hm := Lib.hid (hm.out.on hb)
    clear hb
    have x1 := hm.out.2.2.1
    have v1 := cell_lt x1
    simp only at v1
    obtain ⟨sgn, sgn2⟩ := SG.out
    have hm1 := hm.out.on (show Below w1.heap.size w1 (w1.alloc (.cells #[.int .u64 0, .int .u64 0] 42)) from (Below.refl _ _).alloc (Nat.le_refl _) _)
    replace hm := Lib.hid hm1
    clear hm1
    have SS := Lib.hid (And.intro sgn sgn2)
    clear sgn sgn2
    have DBo := DB.out
    have PBo := PB.out
    go_wp2_with fail
    refine (div_c _ _ _ c0 c2).mono ?_
    rintro e w' ⟨rfl, rfl⟩
    go_wp2_with fail
    refine (rem_c _ _ _ c0 c2).mono ?_
    rintro e w' ⟨rfl, rfl⟩
    go_wp2_with fail
    refine (divPlain_c _ _ _ b0 b2 c0 c2).mono ?_
    rintro e w' ⟨rfl, rfl⟩
    go_wp2_with fail
    refine (remPlain_c _ _ _ b0 b2 c0 c2).mono ?_
    rintro e w' ⟨rfl, rfl⟩
    go_wp2_with fail
    clear DBo PBo
    refine (highPlain_c _ _ _ b0 b2 c0 c2).mono ?_
    rintro e wh1 ⟨rfl, hb⟩
    replace hm := Lib.hid (hm.out.on hb)
    clear hb
    obtain ⟨sgn, sgn2⟩ := SS.out
    rcases sgn with ⟨ca, hma⟩ | ⟨ca, hma⟩ <;> rcases sgn2 with ⟨cb, hmb⟩ | ⟨cb, hmb⟩
    all_goals
      go_wp2_with fail
      refine (highMixed_c _ _ _ b0 b2 c0 c2).mono ?_
      rintro e wh2 ⟨rfl, hb⟩
      rw [HX.out.1]
      replace hm := Lib.hid (hm.out.on hb)
      clear hb
      go_wp2_with fail
      refine (high_c _ _ _ b0 b2 c0 c2).mono ?_
      rintro e wh3 ⟨rfl, hb⟩
      rw [HX.out.2]
      replace hm := Lib.hid (hm.out.on hb)
      clear hb
      go_wp2_with fail
      refine (live2_c _).mono ?_
      rintro e wh4 ⟨rfl, hb⟩
      replace hm := Lib.hid (hm.out.on hb)
      clear hb
      go_wp2_with fail
      go_ret
      exact ⟨rfl, hm.out.1⟩
  · have hbp : 0 < b := by omega
    have g1 : (b == 0) = false := by simpa using hb0
    have g2 : (b != 0) = true := by simpa using hb0
    have WB := Lib.hid (wide_back a0 a2 b0 b2 hbp c2)
    obtain ⟨r0, r1⟩ := overR_lt (h := xh) (l := xl) hbp
    obtain ⟨_, _, q0, q1⟩ := over_two a0 b0 b2 hbp
    have RP := remP_lt b0 b2 hbp
    clear hb0
    go_enter Try.func12, Try.ntmps12
    go_wp2_with fail
    refine (overW_c _ _ _ _ a0 a2 b0 b2 hbp c2).mono ?_
    rintro e w1 ⟨rfl, hb⟩
    have hm0 := hm.out
    replace hm := Lib.hid (hm0.on hb)
    clear hb hm0
    have x1 := hm.out.2.2.1
    have v1 := cell_lt x1
    simp only at v1
    generalize hQ : overQ (xh % b) xl b = Q at *
    generalize hR : overR (xh % b) xl b = R at *
    clear hQ hR
    have hm1 := hm.out.on (show Below w1.heap.size w1 (w1.alloc (.cells #[.int .u64 (xh / b), .int .u64 Q] 42)) from (Below.refl _ _).alloc (Nat.le_refl _) _)
    have cq0 : (w1.alloc (.cells #[.int .u64 (xh / b), .int .u64 Q] 42)).cell? ⟨w1.heap.size, 0, none⟩ = some (.int .u64 (xh / b)) := by simp
    have HC0 := Lib.hid cq0
    replace hm := Lib.hid hm1
    clear hm1 cq0
    go_wp2_with fail
    refine (times_c _ _ _ q0 q1 c0 c2).mono ?_
    rintro e w2 ⟨rfl, hb⟩
    have cq0 := cell_keep hb HC0.out
    replace hm := Lib.hid (hm.out.on hb)
    have v2 := cell_lt cq0
    simp only at v2
    clear hb x1
    have x1 := hm.out.2.2.1
    go_wp2_with fail
    clear x1 cq0 HC0
    obtain ⟨bh0, bh1⟩ := wrap_range (mulHi Q b + IntKind.u64.wrap (xh / b * b))
    obtain ⟨bl0, bl1⟩ := mulLo_range Q b
    generalize IntKind.u64.wrap (mulHi Q b + IntKind.u64.wrap (xh / b * b)) = BH at *
    generalize mulLo Q b = BL at *
    have hm1 := hm.out.on (show Below w2.heap.size w2 (w2.alloc (.cells #[.int .u64 BH, .int .u64 BL] 42)) from (Below.refl _ _).alloc (Nat.le_refl _) _)
    have s0 : (w2.alloc (.cells #[.int .u64 BH, .int .u64 BL] 42)).cell? ⟨w2.heap.size, 0, none⟩ = some (.int .u64 BH) := by simp
    have s1 : (w2.alloc (.cells #[.int .u64 BH, .int .u64 BL] 42)).cell? ⟨w2.heap.size, 1, none⟩ = some (.int .u64 BL) := by simp
    have HS0 := Lib.hid (And.intro hm1.1 (And.intro s0 (And.intro s1 hm1.2)))
    clear hm1 s0 s1 hm
    have t1 : decide (b ≤ R) = false := decide_eq_false (by omega)
    have t2 : decide (b ≤ remP xl b) = false := decide_eq_false (by omega)
    go_region_held3 (fun w' => Below w.heap.size w w' ∧ w'.cell? ⟨w2.heap.size, 0, none⟩ = some (.int .u64 BH) ∧ w'.cell? ⟨w2.heap.size, 1, none⟩ = some (.int .u64 BL) ∧ w'.cell? ⟨w.heap.size, 0, none⟩ = some (.int .u64 xh) ∧ w'.cell? ⟨w.heap.size, 1, none⟩ = some (.int .u64 xl) ∧ w'.cell? ⟨w.heap.size + 1, 0, none⟩ = some (.int .u64 xh) ∧ w'.cell? ⟨w.heap.size + 1, 1, none⟩ = some (.int .u64 xl))
      (first | exact ⟨HS0.out.1.drew, HS0.out.2⟩ | exact keep7 (by assumption) (by assumption) | assumption)
      (first
        | (go_at_call 43; refine (plus_c BH BL 0 R _ bh0 bl0 bl1 (by omega) r0 (by omega)).mono ?_; rintro e wn ⟨rfl, hb⟩; rw [WB.out.1, WB.out.2])
        | (go_at_call 52; refine (remPlain_c xl b _ b0 b2 c0 c2).mono ?_; rintro e wn' ⟨rfl, rfl⟩))
    obtain ⟨z0, z1, z2, z3, z4, z5, z6⟩ : Below w.heap.size w wn ∧ wn.cell? ⟨w2.heap.size, 0, none⟩ = some (.int .u64 BH) ∧ wn.cell? ⟨w2.heap.size, 1, none⟩ = some (.int .u64 BL) ∧ wn.cell? ⟨w.heap.size, 0, none⟩ = some (.int .u64 xh) ∧ wn.cell? ⟨w.heap.size, 1, none⟩ = some (.int .u64 xl) ∧ wn.cell? ⟨w.heap.size + 1, 0, none⟩ = some (.int .u64 xh) ∧ wn.cell? ⟨w.heap.size + 1, 1, none⟩ = some (.int .u64 xl) := by assumption
    have hm := Lib.hid (show BM w xh xl wn from ⟨z0, z3, z4, z5, z6⟩)
    have v3 := cell_lt z4
    simp only at v3
    clear z0 z1 z2 z3 z5 z6 hb HS0 WB t1 t2
    have SS := Lib.hid SG.out
    have DBo := DB.out
    have PBo := PB.out
    go_wp2_with fail
    refine (div_c _ _ _ c0 c2).mono ?_
    rintro e w' ⟨rfl, rfl⟩
    go_wp2_with fail
    refine (rem_c _ _ _ c0 c2).mono ?_
    rintro e w' ⟨rfl, rfl⟩
    go_wp2_with fail
    refine (divPlain_c _ _ _ b0 b2 c0 c2).mono ?_
    rintro e w' ⟨rfl, rfl⟩
    go_wp2_with fail
    refine (remPlain_c _ _ _ b0 b2 c0 c2).mono ?_
    rintro e w' ⟨rfl, rfl⟩
    go_wp2_with fail
    clear DBo PBo
    refine (highPlain_c _ _ _ b0 b2 c0 c2).mono ?_
    rintro e wh1 ⟨rfl, hb⟩
    replace hm := Lib.hid (hm.out.on hb)
    clear hb
    obtain ⟨sgn, sgn2⟩ := SS.out
    rcases sgn with ⟨ca, hma⟩ | ⟨ca, hma⟩ <;> rcases sgn2 with ⟨cb, hmb⟩ | ⟨cb, hmb⟩
    all_goals
      go_wp2_with fail
      refine (highMixed_c _ _ _ b0 b2 c0 c2).mono ?_
      rintro e wh2 ⟨rfl, hb⟩
      rw [HX.out.1]
      replace hm := Lib.hid (hm.out.on hb)
      clear hb
      go_wp2_with fail
      refine (high_c _ _ _ b0 b2 c0 c2).mono ?_
      rintro e wh3 ⟨rfl, hb⟩
      rw [HX.out.2]
      replace hm := Lib.hid (hm.out.on hb)
      clear hb
      go_wp2_with fail
      refine (live2_c _).mono ?_
      rintro e wh4 ⟨rfl, hb⟩
      replace hm := Lib.hid (hm.out.on hb)
      clear hb
      go_wp2_with fail
      go_ret
      exact ⟨rfl, hm.out.1⟩

set_option maxRecDepth 100000 in
theorem back_lifted (os : Os) (started : os.Started) (H : Type) (enc : TypeId × Value → H) :
    ReturnsInHanded {} Try.checked os 12 .any (Rows.wideBackSpec.pre6 enc Try.prog Try.f12 Rows.wideBackRow.domain false) (Rows.wideBackSpec.post enc Try.prog Try.f12 false true false false) := by
  refine returnsInHanded_of_change (C := Try.checked) own started (by kernel_rfl) Try.func12
    (ChangeSpec.witness6 (enc := enc) (C := Try.checked) false ⟨#[], #[.agg #[.int .u64 0, .int .u64 0], .int .u64 0], []⟩ 8 (by kernel_rfl) (by kernel_rfl) (by kernel_rfl) (by kernel_rfl)) ?_
  intro W base args ds gs before hval0 hW hcnd _
  have hval : ∀ (j : Nat) t v, Try.f12.params[j]? = some t → args[j]? = some v → Value.okWide Try.prog W .any base t v := hval0
  have hW' := hW
  obtain ⟨p, q, hA0, hV, rfl, hfz, hnd⟩ := hW
  have hA : DataW.TrodAll enc Try.prog W 0 (fun _ => true) true Try.f12.params.toList args.toList ds p := hA0
  rw [Try.params12] at hA hval
  obtain ⟨v0, vs0, d0, ds0, p0, q0, hargs, rfl, rfl, h0, r0⟩ := trodAll_cons hA
  obtain ⟨v1, vs1, d1, ds1, p1, q1, rfl, rfl, rfl, h1, r1⟩ := trodAll_cons r0
  obtain ⟨rfl, rfl, rfl⟩ := trodAll_nil r1
  obtain rfl : args = #[v0, v1] := by cases args; simp_all
  obtain ⟨rfl, rfl⟩ := trodVars_none hV
  have k0 := h0
  have lt0 : ∀ x ∈ p0, x.block < W.heap.size := by obtain ⟨m, hm⟩ := k0; exact DataW.trod_lt m _ _ _ hm
  obtain ⟨a0, b0, rfl, w0, z0⟩ := open_arr2 Try.underlying45 Try.underlying22 (by kernel_rfl) (by kernel_rfl) (hval 0 45 v0 rfl rfl) h0
  obtain ⟨a1, rfl, rfl, rfl, w1⟩ := open_int Try.underlying22 (hval 1 22 v1 rfl rfl) h1
  clear hA0 hval0
  refine (back_walk a0 b0 a1 (bounds_u64 w0) (bounds_u64 z0) (bounds_u64 w1) W).mono fun e W' ⟨he, bel⟩ => ?_
  subst he
  exact ⟨_, rfl, _, _, _, [], _, [], hW', trodAll_mk1 (shut_bool Try.underlying4 _), (trodAll_cons_mk (Below.trod laidOut (by kernel_rfl) (of_decide_eq_true (by kernel_rfl)) k0 bel lt0) (trodAll_cons_mk (shut_int Try.underlying22 w1) trodAll_mk0)), rfl, bel.frame _, fun h => by cases h⟩

theorem back_over : Rows.wideBackRow.holds Try.pinned (OpenSpec.ofChange Rows.wideBackSpec) :=
  OpenClaim.holds_of_wide 12 Try.f12 rfl rfl rfl rfl rfl rfl rfl ⟨rfl, rfl, rfl, rfl, rfl⟩ rfl rfl rfl rfl rfl (by kernel_rfl) Try.func12 (by kernel_rfl)
    (of_decide_eq_true (by kernel_rfl)) (by unfold Func.isWrapper; first | (rw [if_pos (by decide +kernel)]; kernel_rfl) | (rw [if_neg (by decide +kernel)]; exact ⟨rfl, rfl⟩))
    (fun os started H enc _ => back_lifted os started H enc)

theorem back_said : Rows.WideBackSaid := back_over
end Go.Proofs.Ytgkenodiaehnnaa
