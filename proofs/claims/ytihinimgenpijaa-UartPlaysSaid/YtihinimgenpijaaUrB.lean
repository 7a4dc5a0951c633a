/-
  The reference of layer 17: contracts of Cause, Input, Read.
-/
import Derived.Test.YtihinimgenpijaaUrA
set_option maxRecDepth 20000
namespace Go.Proofs.Ytihinimgenpijaa
open Go.ChangeShapes Go.WideShapes Go.ChangeAt Go.RowKit

set_option maxHeartbeats 8000000 in
theorem rcause_walk (n cap : Nat) (p : Option Addr) (s : Ut.S) (ov : Value) (a2 lo a0 qq a1 em : Bool) (w : World) (i0 : 0 ≤ s.ier) (i1 : s.ier < 16) (e2 : (Ut.bti s.ier 2 == 1) = a2) (e0 : (Ut.bti s.ier 0 == 1) = a0) (e1 : (Ut.bti s.ier 1 == 1) = a1)
    (eq : decide (0 < n) = qq) (hl : s.lost = lo) (he : s.empty = em) :
    Calls Try.prog 41 #[.agg (xuV s (.slice p n cap) ov)] w fun e w' => e = .returned (.int .i64 (whyV a2 lo a0 qq a1 em)) ∧ Below w.heap.size w w' := by
  have HB := Lib.hid ((Below.refl w.heap.size w).alloc (Nat.le_refl _) (.cells (xuV s (.slice p n cap) ov) X17))
  have HR := Lib.hid (CsAt.new w X17 (xuV s (.slice p n cap) ov))
  have H2 := Lib.hid (rbit_c s.ier 2 i0 (by omega) (by omega))
  have H0 := Lib.hid (rbit_c s.ier 0 i0 (by omega) (by omega))
  have H1 := Lib.hid (rbit_c s.ier 1 i0 (by omega) (by omega))
  have c0 : (w.alloc (.cells (xuV s (.slice p n cap) ov) X17)).cell? ⟨w.heap.size, 0, none⟩ = some (.int .i64 s.ier) := HR.out.cell 0
  have c7 : (w.alloc (.cells (xuV s (.slice p n cap) ov) X17)).cell? ⟨w.heap.size, 7, none⟩ = some (.bool s.lost) := HR.out.cell 7
  have c8 : (w.alloc (.cells (xuV s (.slice p n cap) ov) X17)).cell? ⟨w.heap.size, 8, none⟩ = some (.bool s.empty) := HR.out.cell 8
  have c9 : (w.alloc (.cells (xuV s (.slice p n cap) ov) X17)).cell? ⟨w.heap.size, 9, none⟩ = some (.slice p n cap) := HR.out.cell 9
  rw [hl] at c7
  rw [he] at c8
  clear hl he i0 i1
  generalize Ut.bti s.ier 2 = b2 at *
  generalize Ut.bti s.ier 0 = b0 at *
  generalize Ut.bti s.ier 1 = b1 at *
  generalize s.ier = ier at *
  cases a2 with
  | false =>
    cases a0 with
    | false =>
      cases a1 with
      | false =>
        go_enter Try.func41, Try.ntmps41
        go_upto_region 1 with fail
        generalize w.alloc (.cells (xuV s (.slice p n cap) ov) X17) = w1 at *
        go_wp2_with fail
        refine (H2.out _).mono ?_
        rintro e w2 ⟨rfl, rfl⟩
        go_wp2_with fail
        refine (H0.out _).mono ?_
        rintro e w2 ⟨rfl, rfl⟩
        go_wp2_with fail
        refine (H1.out _).mono ?_
        rintro e w2 ⟨rfl, rfl⟩
        go_wp2_with fail
        go_ret
        exact ⟨rfl, HB.out⟩
      | true =>
        cases em with
        | false =>
          go_enter Try.func41, Try.ntmps41
          go_upto_region 1 with fail
          generalize w.alloc (.cells (xuV s (.slice p n cap) ov) X17) = w1 at *
          go_wp2_with fail
          refine (H2.out _).mono ?_
          rintro e w2 ⟨rfl, rfl⟩
          go_wp2_with fail
          refine (H0.out _).mono ?_
          rintro e w2 ⟨rfl, rfl⟩
          go_wp2_with fail
          refine (H1.out _).mono ?_
          rintro e w2 ⟨rfl, rfl⟩
          go_wp2_with fail
          go_ret
          exact ⟨rfl, HB.out⟩
        | true =>
          go_enter Try.func41, Try.ntmps41
          go_upto_region 1 with fail
          generalize w.alloc (.cells (xuV s (.slice p n cap) ov) X17) = w1 at *
          go_wp2_with fail
          refine (H2.out _).mono ?_
          rintro e w2 ⟨rfl, rfl⟩
          go_wp2_with fail
          refine (H0.out _).mono ?_
          rintro e w2 ⟨rfl, rfl⟩
          go_wp2_with fail
          refine (H1.out _).mono ?_
          rintro e w2 ⟨rfl, rfl⟩
          go_wp2_with fail
          go_ret
          exact ⟨rfl, HB.out⟩
    | true =>
      cases qq with
      | false =>
        cases a1 with
        | false =>
          go_enter Try.func41, Try.ntmps41
          go_upto_region 1 with fail
          generalize w.alloc (.cells (xuV s (.slice p n cap) ov) X17) = w1 at *
          go_wp2_with fail
          refine (H2.out _).mono ?_
          rintro e w2 ⟨rfl, rfl⟩
          go_wp2_with fail
          refine (H0.out _).mono ?_
          rintro e w2 ⟨rfl, rfl⟩
          go_wp2_with fail
          refine (H1.out _).mono ?_
          rintro e w2 ⟨rfl, rfl⟩
          go_wp2_with fail
          go_ret
          exact ⟨rfl, HB.out⟩
        | true =>
          cases em with
          | false =>
            go_enter Try.func41, Try.ntmps41
            go_upto_region 1 with fail
            generalize w.alloc (.cells (xuV s (.slice p n cap) ov) X17) = w1 at *
            go_wp2_with fail
            refine (H2.out _).mono ?_
            rintro e w2 ⟨rfl, rfl⟩
            go_wp2_with fail
            refine (H0.out _).mono ?_
            rintro e w2 ⟨rfl, rfl⟩
            go_wp2_with fail
            refine (H1.out _).mono ?_
            rintro e w2 ⟨rfl, rfl⟩
            go_wp2_with fail
            go_ret
            exact ⟨rfl, HB.out⟩
          | true =>
            go_enter Try.func41, Try.ntmps41
            go_upto_region 1 with fail
            generalize w.alloc (.cells (xuV s (.slice p n cap) ov) X17) = w1 at *
            go_wp2_with fail
            refine (H2.out _).mono ?_
            rintro e w2 ⟨rfl, rfl⟩
            go_wp2_with fail
            refine (H0.out _).mono ?_
            rintro e w2 ⟨rfl, rfl⟩
            go_wp2_with fail
            refine (H1.out _).mono ?_
            rintro e w2 ⟨rfl, rfl⟩
            go_wp2_with fail
            go_ret
            exact ⟨rfl, HB.out⟩
      | true =>
        go_enter Try.func41, Try.ntmps41
        go_upto_region 1 with fail
        generalize w.alloc (.cells (xuV s (.slice p n cap) ov) X17) = w1 at *
        go_wp2_with fail
        refine (H2.out _).mono ?_
        rintro e w2 ⟨rfl, rfl⟩
        go_wp2_with fail
        refine (H0.out _).mono ?_
        rintro e w2 ⟨rfl, rfl⟩
        go_wp2_with fail
        go_ret
        exact ⟨rfl, HB.out⟩
  | true =>
    cases lo with
    | false =>
      cases a0 with
      | false =>
        cases a1 with
        | false =>
          go_enter Try.func41, Try.ntmps41
          go_upto_region 1 with fail
          generalize w.alloc (.cells (xuV s (.slice p n cap) ov) X17) = w1 at *
          go_wp2_with fail
          refine (H2.out _).mono ?_
          rintro e w2 ⟨rfl, rfl⟩
          go_wp2_with fail
          refine (H0.out _).mono ?_
          rintro e w2 ⟨rfl, rfl⟩
          go_wp2_with fail
          refine (H1.out _).mono ?_
          rintro e w2 ⟨rfl, rfl⟩
          go_wp2_with fail
          go_ret
          exact ⟨rfl, HB.out⟩
        | true =>
          cases em with
          | false =>
            go_enter Try.func41, Try.ntmps41
            go_upto_region 1 with fail
            generalize w.alloc (.cells (xuV s (.slice p n cap) ov) X17) = w1 at *
            go_wp2_with fail
            refine (H2.out _).mono ?_
            rintro e w2 ⟨rfl, rfl⟩
            go_wp2_with fail
            refine (H0.out _).mono ?_
            rintro e w2 ⟨rfl, rfl⟩
            go_wp2_with fail
            refine (H1.out _).mono ?_
            rintro e w2 ⟨rfl, rfl⟩
            go_wp2_with fail
            go_ret
            exact ⟨rfl, HB.out⟩
          | true =>
            go_enter Try.func41, Try.ntmps41
            go_upto_region 1 with fail
            generalize w.alloc (.cells (xuV s (.slice p n cap) ov) X17) = w1 at *
            go_wp2_with fail
            refine (H2.out _).mono ?_
            rintro e w2 ⟨rfl, rfl⟩
            go_wp2_with fail
            refine (H0.out _).mono ?_
            rintro e w2 ⟨rfl, rfl⟩
            go_wp2_with fail
            refine (H1.out _).mono ?_
            rintro e w2 ⟨rfl, rfl⟩
            go_wp2_with fail
            go_ret
            exact ⟨rfl, HB.out⟩
      | true =>
        cases qq with
        | false =>
          cases a1 with
          | false =>
            go_enter Try.func41, Try.ntmps41
            go_upto_region 1 with fail
            generalize w.alloc (.cells (xuV s (.slice p n cap) ov) X17) = w1 at *
            go_wp2_with fail
            refine (H2.out _).mono ?_
            rintro e w2 ⟨rfl, rfl⟩
            go_wp2_with fail
            refine (H0.out _).mono ?_
            rintro e w2 ⟨rfl, rfl⟩
            go_wp2_with fail
            refine (H1.out _).mono ?_
            rintro e w2 ⟨rfl, rfl⟩
            go_wp2_with fail
            go_ret
            exact ⟨rfl, HB.out⟩
          | true =>
            cases em with
            | false =>
              go_enter Try.func41, Try.ntmps41
              go_upto_region 1 with fail
              generalize w.alloc (.cells (xuV s (.slice p n cap) ov) X17) = w1 at *
              go_wp2_with fail
              refine (H2.out _).mono ?_
              rintro e w2 ⟨rfl, rfl⟩
              go_wp2_with fail
              refine (H0.out _).mono ?_
              rintro e w2 ⟨rfl, rfl⟩
              go_wp2_with fail
              refine (H1.out _).mono ?_
              rintro e w2 ⟨rfl, rfl⟩
              go_wp2_with fail
              go_ret
              exact ⟨rfl, HB.out⟩
            | true =>
              go_enter Try.func41, Try.ntmps41
              go_upto_region 1 with fail
              generalize w.alloc (.cells (xuV s (.slice p n cap) ov) X17) = w1 at *
              go_wp2_with fail
              refine (H2.out _).mono ?_
              rintro e w2 ⟨rfl, rfl⟩
              go_wp2_with fail
              refine (H0.out _).mono ?_
              rintro e w2 ⟨rfl, rfl⟩
              go_wp2_with fail
              refine (H1.out _).mono ?_
              rintro e w2 ⟨rfl, rfl⟩
              go_wp2_with fail
              go_ret
              exact ⟨rfl, HB.out⟩
        | true =>
          go_enter Try.func41, Try.ntmps41
          go_upto_region 1 with fail
          generalize w.alloc (.cells (xuV s (.slice p n cap) ov) X17) = w1 at *
          go_wp2_with fail
          refine (H2.out _).mono ?_
          rintro e w2 ⟨rfl, rfl⟩
          go_wp2_with fail
          refine (H0.out _).mono ?_
          rintro e w2 ⟨rfl, rfl⟩
          go_wp2_with fail
          go_ret
          exact ⟨rfl, HB.out⟩
    | true =>
      go_enter Try.func41, Try.ntmps41
      go_upto_region 1 with fail
      generalize w.alloc (.cells (xuV s (.slice p n cap) ov) X17) = w1 at *
      go_wp2_with fail
      refine (H2.out _).mono ?_
      rintro e w2 ⟨rfl, rfl⟩
      go_wp2_with fail
      go_ret
      exact ⟨rfl, HB.out⟩
theorem rcause_c (G : Nat → Prop) (s : Ut.S) (iv ov : Value) (ok : Ut.Ok s) (w : World) (hi : VwG G w iv s.q) :
    Calls Try.prog 41 #[.agg (xuV s iv ov)] w fun e w' => e = .returned (.int .i64 (Ut.cause s)) ∧ Below w.heap.size w w' := by
  obtain ⟨p, cap, rfl, -⟩ := hi
  have := rcause_walk s.q.length cap p s ov _ _ _ _ _ _ w ok.ier.1 ok.ier.2 (Ut.bti_b _ 2) (Ut.bti_b _ 0) (Ut.bti_b _ 1) rfl rfl rfl
  rw [show whyV (Ut.bt s.ier 2) s.lost (Ut.bt s.ier 0) (decide (0 < s.q.length)) (Ut.bt s.ier 1) s.empty = Ut.cause s by
    unfold whyV Ut.cause
    have e : (decide (0 < s.q.length) = true) = (s.q ≠ []) := by
      cases s.q <;> simp
    simp only [e]] at this
  exact this
/-- With the call's own two blocks. -/
def G2 (G : Nat → Prop) (w : World) : Nat → Prop := fun k => G k ∨ k = w.heap.size ∨ k = w.heap.size + 1
theorem VwG.g2 {G : Nat → Prop} {w W : World} {v : Value} {xs : List Int} (h : VwG G w v xs) (hb : Below w.heap.size w W) : VwG (G2 G w) W v xs :=
  (h.more (H := G2 G w) (fun k hk => by rcases hk with hk | hk | hk; exact .inl hk; exact .inr (by omega); exact .inr (by omega))).low hb
theorem VwG.of2 {G : Nat → Prop} {w W W' : World} {v : Value} {xs : List Int} (h : VwG (G2 G w) W v xs) (hc : Chg (fun k => k = w.heap.size ∨ k = w.heap.size + 1) W W') : VwG G W' v xs :=
  (h.keep (hc.mono (fun _ hk => .inr hk))).more (fun _ hk => .inl (.inl hk))
theorem lt2 {G : Nat → Prop} {w W : World} (hG : ∀ k, G k → k < w.heap.size) (hb : w.heap.size + 2 ≤ W.heap.size) : ∀ k, G2 G w k → k < W.heap.size := fun k hk => by
  rcases hk with hk | hk | hk
  · have := hG k hk; omega
  · omega
  · omega
theorem XuAt.size2 {w W : World} {s t : Ut.S} {iv ov jv qv : Value} (h : XuAt w W s t iv ov jv qv) : w.heap.size + 2 ≤ W.heap.size := by have := h.r.lt; omega
set_option maxHeartbeats 8000000 in
theorem rinput_c (G : Nat → Prop) (s : Ut.S) (iv ov : Value) (x : Int) (hx : Ut.isB x) (w : World) (hG : ∀ k, G k → k < w.heap.size) (hi : VwG G w iv s.q) (ho : VwG G w ov s.out) (ok : Ut.Ok s) :
    Calls Try.prog 40 #[.agg (xuV s iv ov), .int .i64 x] w fun e w' => ∃ iv' ov', e = .returned (.tuple #[.agg (xuV (Ut.inS s x) iv' ov'), .bool (Ut.inB s)]) ∧ XuQ G w w' (Ut.inS s x) iv' ov' := by
  have HX := Lib.hid (XuAt.new w s iv ov)
  have hz := zero_x17
  have HI := Lib.hid hi
  have HO := Lib.hid ho
  have H4 := Lib.hid (rbit_c s.mcr 4 ok.mcr.1 (by have := ok.mcr.2; omega) (by omega))
  have HC := Lib.hid (fun W (hb : w.heap.size + 2 ≤ W.heap.size) (h1 : VwG (G2 G w) W iv s.q) (h2 : VwG (G2 G w) W ov s.out) => rcome_c (G2 G w) s iv ov x hx W (lt2 hG hb) h1 h2 ok)
  have e4 := Ut.bti_b s.mcr 4
  have hlp : Ut.bt s.mcr 4 = Ut.lp s := rfl
  rw [hlp] at e4
  clear hi ho hlp
  generalize Ut.bti s.mcr 4 = b4 at *
  cases hl : Ut.lp s with
  | true =>
    have HS := Lib.hid (show Ut.inB s = false ∧ Ut.inS s x = s by unfold Ut.inB Ut.inS; rw [hl]; exact ⟨rfl, if_pos rfl⟩)
    rw [HS.out.1, HS.out.2]
    rw [hl] at e4
    clear hl HC
    go_enter Try.func40, Try.ntmps40
    go_upto_region 1 with fail
    generalize (w.alloc (Obj.cells (xuV s iv ov) X17)).alloc (Obj.cells (xuV Ut.zero (.slice none 0 0) (.slice none 0 0)) X17) = w1 at *
    obtain ⟨-, -, c2, -⟩ := HX.out.cells
    go_wp2_with fail
    refine (H4.out _).mono ?_
    rintro e w2 ⟨rfl, rfl⟩
    have HX3 := Lib.hid (HX.out.res s iv ov)
    clear c2
    go_wp2_with (first | (refine wpList_load_row rfl X17 _ rfl w.heap.size rfl X17 _ (0, 0) _ HX.out.x Try.underlying32 rfl info_X17 ?_) | (refine wpList_store_row rfl X17 _ _ rfl (w.heap.size + 1) (xuV s iv ov) rfl rfl X17 _ HX.out.r info_X17 rfl (xuV_one _ HI.out.one HO.out.one) ?_))
    exact bodyPost_ret (results_cbU X17 Try.results40 _ _ (w.heap.size + 1) _ _ rfl rfl HX3.out.ret) rfl ⟨_, _, rfl, ⟨HI.out.low HX3.out.bel, HO.out.low HX3.out.bel, HX3.out.bel⟩⟩
  | false =>
    have HS := Lib.hid (show Ut.inB s = Ut.comeB s ∧ Ut.inS s x = Ut.comeS s x by unfold Ut.inB Ut.inS; rw [hl]; exact ⟨rfl, if_neg (by simp)⟩)
    rw [HS.out.1, HS.out.2]
    rw [hl] at e4
    clear hl HS
    generalize Ut.comeS s x = t at *
    generalize Ut.comeB s = tb at *
    go_enter Try.func40, Try.ntmps40
    go_upto_region 1 with fail
    generalize (w.alloc (Obj.cells (xuV s iv ov) X17)).alloc (Obj.cells (xuV Ut.zero (.slice none 0 0) (.slice none 0 0)) X17) = w1 at *
    obtain ⟨-, -, c2, -⟩ := HX.out.cells
    go_wp2_with fail
    refine (H4.out _).mono ?_
    rintro e w2 ⟨rfl, rfl⟩
    clear c2
    go_wp2_with (refine wpList_load_row rfl X17 _ rfl w.heap.size rfl X17 _ (0, 0) _ HX.out.x Try.underlying32 rfl info_X17 ?_)
    refine (HC.out w2 HX.out.size2 (HI.out.g2 HX.out.bel) (HO.out.g2 HX.out.bel)).mono ?_
    rintro e w3 ⟨iv3, ov3, rfl, hq3⟩
    have hX3 := HX.out.low hq3.bel
    have HX3 := Lib.hid hX3
    have HX4 := Lib.hid (hX3.res t iv3 ov3)
    have HQ := Lib.hid (show VwG G (w3.setRow (w.heap.size + 1) (xuV t iv3 ov3)) iv3 t.q ∧ VwG G (w3.setRow (w.heap.size + 1) (xuV t iv3 ov3)) ov3 t.out from ⟨hq3.i.of2 (Chg.of_row (.inr rfl) _), hq3.o.of2 (Chg.of_row (.inr rfl) _)⟩)
    have H1 := Lib.hid (And.intro hq3.i.one hq3.o.one)
    clear hX3 hq3 HX HC H4 e4
    go_wp2_with (refine wpList_store_row rfl X17 _ _ rfl (w.heap.size + 1) (xuV t iv3 ov3) rfl rfl X17 _ HX3.out.r info_X17 rfl (xuV_one _ H1.out.1 H1.out.2) ?_)
    exact bodyPost_ret (results_cbU X17 Try.results40 _ _ (w.heap.size + 1) _ _ rfl rfl HX4.out.ret) rfl ⟨_, _, rfl, ⟨HQ.out.1, HQ.out.2, HX4.out.bel⟩⟩
end Go.Proofs.Ytihinimgenpijaa
