/-
  The statement SplitPlaces (P11.1): for every access, address, and two numbers, roebucklaw11.SplitPlaces returns true and its arguments read afterwards as before. No condition.
-/
import Derived.Test.YtldpignnahokdaaSpL
import Derived.Test.YtldpignnahokdaaOpenSp
namespace Go.Proofs.Ytldpignnahokdaa
open Go.ChangeShapes Go.WideShapes Go.ChangeAt Go.RowKit Wd

structure S11 (w W : World) (a b c n n0 n1 : Int) : Prop where
  bel : Below w.heap.size w W
  x : CsAt W w.heap.size 24 (axV a b c n)
  l : CsAt W (w.heap.size + 1) 25 #[.int .i64 n0, .int .i64 n1]
theorem S11.low {w W W' : World} {a b c n n0 n1 : Int} (h : S11 w W a b c n n0 n1) (hb : Below W.heap.size W W') : S11 w W' a b c n n0 n1 := ⟨h.bel.trans (hb.mono h.bel.size), h.x.low hb, h.l.low hb⟩
theorem S11.drew {w W : World} {a b c n n0 n1 : Int} (h : S11 w W a b c n n0 n1) : S11 w W.drew a b c n n0 n1 := h.low ((Below.refl _ _).drew)
set_option maxRecDepth 4000 in
set_option maxHeartbeats 4000000 in
theorem places_walk (w : World) (a b c n va n0 n1 : Int) (_ha : 0 ≤ a ∧ a < 18446744073709551616) (_hb : 0 ≤ b ∧ b < 18446744073709551616) (_hc : -9223372036854775808 ≤ c ∧ c ≤ 9223372036854775807) (_hn : -9223372036854775808 ≤ n ∧ n ≤ 9223372036854775807)
    (hv : 0 ≤ va ∧ va ≤ 18446744073709551615) (_h0 : -9223372036854775808 ≤ n0 ∧ n0 ≤ 9223372036854775807) (h1 : -9223372036854775808 ≤ n1 ∧ n1 ≤ 9223372036854775807) :
    Calls Try.prog 3 #[.agg (axV a b c n), .int .u64 va, .agg #[.int .i64 n0, .int .i64 n1]] w fun e w' => e = .returned (.bool true) ∧ Below w.heap.size w w' := by
  have HS := Lib.hid (show S11 w ((w.alloc (.cells (axV a b c n) 24)).alloc (.cells #[.int .i64 n0, .int .i64 n1] 25)) a b c n n0 n1 from
    ⟨((Below.refl w.heap.size w).alloc (Nat.le_refl _) _).alloc (by simp) _, (CsAt.new w _ _).alloc _, by simpa using CsAt.new (w.alloc (.cells (axV a b c n) 24)) 25 #[.int .i64 n0, .int .i64 n1]⟩)
  have HV := Lib.hid (show 0 ≤ va ∧ va < 18446744073709551616 by omega)
  have H1 := Lib.hid h1
  have HQ := Lib.hid (show IntKind.u64.wrap (va.tdiv 64) = va / 64 by rw [Int.tdiv_eq_ediv_of_nonneg hv.1, IntKind.wrap_u64]; omega)
  clear h1 _h0 _ha _hb _hc _hn
  go_enter Try.func3, Try.ntmps3
  go_upto_region 1 with (fail)
  generalize (w.alloc (.cells (axV a b c n) 24)).alloc (.cells #[.int .i64 n0, .int .i64 n1] 25) = w1 at *
  refine wp_region_steady (fun W => S11 w W a b c n n0 n1) (by kernel_rfl) (by kernel_rfl) HS.out.drew ?_
  iterate 3
    refine steady_val ?_ ?_ (by kernel_rfl) (fun W hS => ?_) ?_ ?_
    rotate_left 2
    · have c0 := hS.l.cell 0; have c1 := hS.l.cell 1; go_simp
      exact rfl
    · go_simp
      exact rfl
  refine steady_enter (.int .i64 (Sp.cut va n0)) 7 #[.int .u64 va, .int .i64 n0] ?_ (by kernel_rfl) (fun W hS => ?_) (fun W hS => (scut_c _ _ _ HV.out.1 HV.out.2).mono fun e W' ⟨he, hb⟩ => ⟨he, hb ▸ hS⟩) ?_ ?_
  rotate_left 1
  · go_simp
  · go_simp
    exact rfl
  iterate 3
    refine steady_val ?_ ?_ (by kernel_rfl) (fun W hS => ?_) ?_ ?_
    rotate_left 2
    · have c0 := hS.l.cell 0; have c1 := hS.l.cell 1; go_simp
      exact rfl
    · go_simp
      exact rfl
  refine steady_enter (.int .i64 (Sp.cut va n0)) 8 #[.int .u64 va, .int .i64 n0] ?_ (by kernel_rfl) (fun W hS => ?_) (fun W hS => (rcut_c _ _ _ HV.out.1 HV.out.2).mono fun e W' ⟨he, hb⟩ => ⟨he, hb ▸ hS⟩) ?_ ?_
  rotate_left 1
  · go_simp
  · go_simp
    exact rfl
  iterate 2
    refine steady_val ?_ ?_ (by kernel_rfl) (fun W hS => ?_) ?_ ?_
    rotate_left 2
    · go_simp
      exact rfl
    · go_simp
      exact rfl
  refine steady_val (.agg (axV a b c n)) ?_ (by kernel_rfl) (fun W hS => exec_load_row _ _ rfl _ rfl _ _ _ hS.x Try.underlying24 rfl (by kernel_rfl)) ?_ ?_
  rotate_left 1
  · go_simp
    exact rfl
  refine steady_enter (.bool (Sp.okA c n)) 9 #[.agg (axV a b c n)] ?_ (by kernel_rfl) (fun W hS => ?_) (fun W hS => (may_c _ _ _ _ _).mono fun e W' ⟨he, hb⟩ => ⟨he, hS.low hb⟩) ?_ ?_
  rotate_left 1
  · go_simp
  · go_simp
    exact rfl
  refine steady_val (.agg (axV a b c n)) ?_ (by kernel_rfl) (fun W hS => exec_load_row _ _ rfl _ rfl _ _ _ hS.x Try.underlying24 rfl (by kernel_rfl)) ?_ ?_
  rotate_left 1
  · go_simp
    exact rfl
  refine steady_enter (.bool (Sp.okA c n)) 10 #[.agg (axV a b c n)] ?_ (by kernel_rfl) (fun W hS => ?_) (fun W hS => (rmay_c _ _ _ _ _).mono fun e W' ⟨he, hb⟩ => ⟨he, hS.low hb⟩) ?_ ?_
  rotate_left 1
  · go_simp
  · go_simp
    exact rfl
  iterate 4
    refine steady_val ?_ ?_ (by kernel_rfl) (fun W hS => ?_) ?_ ?_
    rotate_left 2
    · go_simp
      exact rfl
    · go_simp
      exact rfl
  refine steady_enter (.int .u64 (va / 64)) 11 #[.int .u64 va] ?_ (by kernel_rfl) (fun W hS => ?_) (fun W hS => (sline_c _ _ HV.out.1 HV.out.2).mono fun e W' ⟨he, hb⟩ => ⟨he, hb ▸ hS⟩) ?_ ?_
  rotate_left 1
  · go_simp
  · go_simp
    exact rfl
  iterate 5
    refine steady_val ?_ ?_ (by kernel_rfl) (fun W hS => ?_) ?_ ?_
    rotate_left 2
    · have hq : IntKind.u64.wrap (va.tdiv 64) = va / 64 := HQ.out; go_simp
      exact rfl
    · go_simp
      exact rfl
  iterate 3
    refine steady_val ?_ ?_ (by kernel_rfl) (fun W hS => ?_) ?_ ?_
    rotate_left 2
    · have c0 := hS.l.cell 0; have c1 := hS.l.cell 1; go_simp
      exact rfl
    · go_simp
      exact rfl
  refine steady_enter (.int .i64 (Sp.stripe va n1)) 12 #[.int .u64 va, .int .i64 n1] ?_ (by kernel_rfl) (fun W hS => ?_) (fun W hS => (stripe_c _ _ _ HV.out.1 HV.out.2 H1.out.2).mono fun e W' ⟨he, hb⟩ => ⟨he, hb ▸ hS⟩) ?_ ?_
  rotate_left 1
  · go_simp
  · go_simp
    exact rfl
  iterate 3
    refine steady_val ?_ ?_ (by kernel_rfl) (fun W hS => ?_) ?_ ?_
    rotate_left 2
    · have c0 := hS.l.cell 0; have c1 := hS.l.cell 1; go_simp
      exact rfl
    · go_simp
      exact rfl
  refine steady_enter (.int .i64 (Sp.stripe va n1)) 13 #[.int .u64 va, .int .i64 n1] ?_ (by kernel_rfl) (fun W hS => ?_) (fun W hS => (rstripe_c _ _ _ HV.out.1 HV.out.2 H1.out.2).mono fun e W' ⟨he, hb⟩ => ⟨he, hb ▸ hS⟩) ?_ ?_
  rotate_left 1
  · go_simp
  · go_simp
    exact rfl
  iterate 3
    refine steady_val ?_ ?_ (by kernel_rfl) (fun W hS => ?_) ?_ ?_
    rotate_left 2
    · go_simp
      exact rfl
    · go_simp
      exact rfl
  refine steady_enter (.bool true) 14 #[] ?_ (by kernel_rfl) (fun W hS => ?_) (fun W hS => (live11_c _).mono fun e W' ⟨he, hb⟩ => ⟨he, hS.low hb⟩) ?_ ?_
  rotate_left 1
  · go_simp
  · go_simp
    exact rfl
  iterate 2
    refine steady_val ?_ ?_ (by kernel_rfl) (fun W hS => ?_) ?_ ?_
    rotate_left 2
    · go_simp
      exact rfl
    · go_simp
      exact rfl
  refine steady_nil ?_
  intro w8 h8
  have H8 := Lib.hid h8
  clear h8
  go_wp2_with fail
  go_ret
  exact ⟨rfl, H8.out.bel⟩

set_option maxRecDepth 100000 in
theorem places_lifted (os : Os) (started : os.Started) (H : Type) (enc : TypeId × Value → H) :
    ReturnsInHanded {} Try.checked os 3 .any (Rows.splitPlacesSpec.pre6 enc Try.prog Try.f3 Rows.splitPlacesRow.domain false) (Rows.splitPlacesSpec.post enc Try.prog Try.f3 false true false false) := by
  refine returnsInHanded_of_change (C := Try.checked) own started (by kernel_rfl) Try.func3
    (ChangeSpec.witness6 (enc := enc) (C := Try.checked) false ⟨#[], #[.agg #[.int .u64 0, .int .u64 0, .int .i64 0, .int .i64 0], .int .u64 0, .agg #[.int .i64 0, .int .i64 0]], []⟩ 8 (by kernel_rfl) (by kernel_rfl) (by kernel_rfl) (by kernel_rfl)) ?_
  intro W base args ds gs before hval0 hW hcnd _
  have hval : ∀ (j : Nat) t v, Try.f3.params[j]? = some t → args[j]? = some v → Value.okWide Try.prog W .any base t v := hval0
  have hW' := hW
  obtain ⟨p, q, hA0, hV, rfl, hfz, hnd⟩ := hW
  have hA : DataW.TrodAll enc Try.prog W 0 (fun _ => true) true Try.f3.params.toList args.toList ds p := hA0
  rw [Try.params3] at hA hval
  obtain ⟨v0, vs0, d0, ds0, p0, q0, hargs, rfl, rfl, h0, r0⟩ := trodAll_cons hA
  obtain ⟨v1, vs1, d1, ds1, p1, q1, rfl, rfl, rfl, h1, r1⟩ := trodAll_cons r0
  obtain ⟨v2, vs2, d2, ds2, p2, q2, rfl, rfl, rfl, h2, r2⟩ := trodAll_cons r1
  obtain ⟨rfl, rfl, rfl⟩ := trodAll_nil r2
  obtain rfl : args = #[v0, v1, v2] := by cases args; simp_all
  obtain ⟨rfl, rfl⟩ := trodVars_none hV
  have k0 := h0
  have lt0 : ∀ x ∈ p0, x.block < W.heap.size := by obtain ⟨m, hm⟩ := k0; exact DataW.trod_lt m _ _ _ hm
  obtain ⟨x0, y0, c0, n0, rfl, u0, w0, s0, t0⟩ := open_ax (hval 0 24 v0 rfl rfl) h0
  obtain ⟨a1, rfl, rfl, rfl, w1⟩ := open_int Try.underlying22 (hval 1 22 v1 rfl rfl) h1
  have k2 := h2
  have lt2 : ∀ x ∈ p2, x.block < W.heap.size := by obtain ⟨m, hm⟩ := k2; exact DataW.trod_lt m _ _ _ hm
  obtain ⟨a2, b2, rfl, w2, z2⟩ := open_arr2 Try.underlying25 Try.underlying3 (by kernel_rfl) (by kernel_rfl) (hval 2 25 v2 rfl rfl) h2
  clear hA0 hval0
  refine (places_walk W x0 y0 c0 n0 a1 a2 b2 u0 w0 s0 t0 (bounds_u64 w1) (bounds_i64 w2) (bounds_i64 z2)).mono fun e W' ⟨he, bel⟩ => ?_
  subst he
  exact ⟨_, rfl, _, _, _, [], _, [], hW', trodAll_mk1 (shut_bool Try.underlying4 _), (trodAll_cons_mk (Below.trod laidOut (by kernel_rfl) (of_decide_eq_true (by kernel_rfl)) k0 bel lt0) (trodAll_cons_mk (shut_int Try.underlying22 w1) (trodAll_cons_mk (Below.trod laidOut (by kernel_rfl) (of_decide_eq_true (by kernel_rfl)) k2 bel lt2) trodAll_mk0))), rfl, bel.frame _, fun h => by cases h⟩

theorem places_over : Rows.splitPlacesRow.holds Try.pinned (OpenSpec.ofChange Rows.splitPlacesSpec) :=
  OpenClaim.holds_of_wide 3 Try.f3 rfl rfl rfl rfl rfl rfl rfl ⟨rfl, rfl, rfl, rfl, rfl⟩ rfl rfl rfl rfl rfl (by kernel_rfl) Try.func3 (by kernel_rfl)
    (of_decide_eq_true (by kernel_rfl)) (by unfold Func.isWrapper; first | (rw [if_pos (by decide +kernel)]; kernel_rfl) | (rw [if_neg (by decide +kernel)]; exact ⟨rfl, rfl⟩))
    (fun os started H enc _ => places_lifted os started H enc)

theorem places_said : Rows.SplitPlacesSaid := places_over
end Go.Proofs.Ytldpignnahokdaa
