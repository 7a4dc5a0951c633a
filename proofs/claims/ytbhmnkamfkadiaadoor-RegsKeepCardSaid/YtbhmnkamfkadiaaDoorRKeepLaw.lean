/-
  The statement RegsKeep (P5.3), tied card: for every words, word, and two numbers, roebucklaw05.RegsKeep returns true and its arguments read afterwards as before. Condition: regs.names holds what the program's text lays (the card ties it).
-/
import Derived.Test.YtbhmnkamfkadiaaDoorOpen5
import Derived.Test.YtbhmnkamfkadiaaDoorReg5
import Derived.Test.YtbhmnkamfkadiaaDoorTie
import Derived.Test.YtbhmnkamfkadiaaDoorCards
import Derived.SevenTiedAt
namespace Go.Proofs.YtbhmnkamfkadiaaDoor
open Go.ChangeShapes Go.WideShapes Go.ChangeAt Go.RowKit

theorem zeros_size {ws : List Int} (h : ws.length = 32) : (aV .u64 (List.replicate 32 0)).size = (aV .u64 ws).size := by rw [aV_size, aV_size, h]; rfl
/-- The two numbers in their block. -/
structure PairAt (w : World) (b : Nat) (x y : Int) : Prop where
  c0 : w.cell? ⟨b, 0, none⟩ = some (.int .i64 x)
  c1 : w.cell? ⟨b, 1, none⟩ = some (.int .i64 y)
  lt : b < w.heap.size
theorem PairAt.low {w w' : World} {b : Nat} {x y : Int} (h : PairAt w b x y) (hb : Below w.heap.size w w') : PairAt w' b x y :=
  ⟨(hb.cell (p := ⟨b, 0, none⟩) h.lt).trans h.c0, (hb.cell (p := ⟨b, 1, none⟩) h.lt).trans h.c1, Nat.lt_of_lt_of_le h.lt hb.size⟩
theorem PairAt.alloc {w : World} {b : Nat} {x y : Int} (h : PairAt w b x y) (o : Obj) : PairAt (w.alloc o) b x y := h.low ((Below.refl _ _).alloc (Nat.le_refl _) _)
theorem PairAt.row {w : World} {b g : Nat} {x y : Int} (h : PairAt w b x y) (hne : b ≠ g) (cs : Array Value) : PairAt (w.setRow g cs) b x y :=
  ⟨(cell_setRow_other w g cs ⟨b, 0, none⟩ hne).trans h.c0, (cell_setRow_other w g cs ⟨b, 1, none⟩ hne).trans h.c1, by rw [setRow_size]; exact h.lt⟩
theorem eq_self (xs : List Int) : (xs == xs) = true := by simp
set_option maxHeartbeats 4000000 in
theorem rkeep_g (ws : List Int) (x a b : Int) (hl : ws.length = 32) (w : World) (hN : NamesAt w)
    (hg : (decide (0 < a) = true ∧ decide (a < 32) = true ∧ (a == 0) = false ∧ (getR (setR (ofR ws) a x) a != x) = false) ∨ (decide (0 < a) = false ∧ (a == 0) = true) ∨ (decide (0 < a) = false ∧ (a == 0) = false) ∨ (decide (0 < a) = true ∧ decide (a < 32) = false ∧ (a == 0) = false))
    (hq3 : ((b != a) = false) ∨ ((b != a) = true ∧ (getR (setR (ofR ws) a x) b != getR (ofR ws) b) = false)) :
    Calls Tryd.prog 6 #[.agg (aV .u64 ws), .int .u64 x, .agg #[.int .i64 a, .int .i64 b]] w fun e w' => e = .returned (.bool true) ∧ Below w.heap.size w w' := by
  have HN := Lib.hid hN
  have HL := Lib.hid hl
  have HO := Lib.hid ((ofR_len ws).trans hl)
  have HS := Lib.hid ((setR_len (ofR ws) a x).trans HO.out)
  have HSB := Lib.hid (set_back (ofR ws) a x)
  have q2 : (getR (setR (ofR ws) a x) 0 != 0) = false := by rw [getR_zero ws a x hl]; rfl
  clear hN hl
  rcases hg with ⟨g1, g2, g3, q1⟩ | ⟨g1, g3⟩ | ⟨g1, g3⟩ | ⟨g1, g2, g3⟩ <;> rcases hq3 with g4 | ⟨g4, q3⟩
  all_goals
    go_enter Tryd.func6, Tryd.ntmps6
    go_upto_region 1 with (fail)
    have hR0 : RowAt .u64 ((w.alloc (.cells (aV .u64 ws) 31)).alloc (.cells #[.int .i64 a, .int .i64 b] 49)) w.heap.size 31 ws := (RowAt.new _ _ _ _).alloc _
    have hB0 : Below w.heap.size w ((w.alloc (.cells (aV .u64 ws) 31)).alloc (.cells #[.int .i64 a, .int .i64 b] 49)) := ((Below.refl _ _).alloc (Nat.le_refl _) _).alloc (by simp) _
    have hC0 : PairAt ((w.alloc (.cells (aV .u64 ws) 31)).alloc (.cells #[.int .i64 a, .int .i64 b] 49)) (w.heap.size + 1) a b := ⟨by simp [go_sem], by simp [go_sem], by simp⟩
    generalize (w.alloc (.cells (aV .u64 ws) 31)).alloc (.cells #[.int .i64 a, .int .i64 b] 49) = w0 at *
    have HR0 := Lib.hid hR0
    have HB0 := Lib.hid hB0
    have HC0 := Lib.hid hC0
    clear hR0 hB0 hC0
    go_wp2_with (refine wpList_load_row rfl 31 _ rfl w.heap.size rfl 31 _ (0, 0) _ HR0.out Tryd.underlying31 rfl (i31 HL.out) ?_)
    refine (of_c ws HL.out _).mono ?_
    rintro e w1 ⟨rfl, hb⟩
    have HB1 := Lib.hid (HB0.out.trans (hb.mono HB0.out.size))
    have HC1 := Lib.hid (HC0.out.low hb)
    clear hb HR0 HB0 HC0
    go_upto_region 2 with (refine wpList_storeNew rfl 34 _ _ rfl _ _ _ rfl rfl (i34 HO.out) (zeros_size HO.out) (aV_one _ _) ?_)
    have hR2 := RowAt.new .u64 w1 34 (ofR ws)
    have hB2 := HB1.out.alloc HB1.out.size (.cells (aV .u64 (ofR ws)) 34)
    have hC2 := HC1.out.alloc (.cells (aV .u64 (ofR ws)) 34)
    have hz2 : w1.heap.size < (w1.alloc (.cells (aV .u64 (ofR ws)) 34)).heap.size := by simp
    have hf1 : w.heap.size + 1 < w1.heap.size := HC1.out.lt
    generalize w1.alloc (.cells (aV .u64 (ofR ws)) 34) = w2 at *
    have HR2 := Lib.hid hR2
    have HB2 := Lib.hid hB2
    have HC2 := Lib.hid hC2
    clear hR2 hB2 hC2 HB1 HC1
    go_upto_region 3 with (first | (refine wpList_load_row rfl 34 _ rfl w1.heap.size rfl 34 _ (0, 0) _ HR2.out Tryd.underlying34 rfl (i34 HO.out) ?_) | (refine wpList_storeNew rfl 34 _ _ rfl _ _ _ rfl rfl (i34 HO.out) (zeros_size HO.out) (aV_one _ _) ?_))
    have hG3 := RowAt.new .u64 w2 34 (ofR ws)
    have hR3 := HR2.out.alloc (.cells (aV .u64 (ofR ws)) 34)
    have hB3 := HB2.out.alloc HB2.out.size (.cells (aV .u64 (ofR ws)) 34)
    have hC3 := HC2.out.alloc (.cells (aV .u64 (ofR ws)) 34)
    generalize w2.alloc (.cells (aV .u64 (ofR ws)) 34) = w3 at *
    have HC3 := Lib.hid hC3
    have c0 := hC3.c0
    have c1 := hC3.c1
    have HG3 := Lib.hid hG3
    have HR3 := Lib.hid hR3
    have HB3 := Lib.hid hB3
    clear hG3 hR3 hB3 HR2 HB2 HC2 hC3
    go_wp2_with fail
    refine (get_c _ _ _ HO.out _ _ HR3.out).mono ?_
    rintro e w4 ⟨rfl, rfl⟩
    go_wp2_with fail
    refine (get_c _ _ _ HO.out _ _ HR3.out).mono ?_
    rintro e w4 ⟨rfl, rfl⟩
    go_wp2_with fail
    refine (set_c _ _ _ HO.out _ _ _ HR3.out).mono ?_
    rintro e w4 ⟨rfl, rfl⟩
    have hR5 := HR3.out.row (setR (ofR ws) a x)
    have hG5 := HG3.out.rowFar (c := w1.heap.size) (by omega) (aV .u64 (setR (ofR ws) a x))
    have hC5 := HC3.out.row (g := w1.heap.size) (by omega) (aV .u64 (setR (ofR ws) a x))
    have hB5 := below_setRow HB3.out (g := w1.heap.size) (by omega) (aV .u64 (setR (ofR ws) a x))
    clear c0 c1
    generalize w3.setRow w1.heap.size (aV .u64 (setR (ofR ws) a x)) = w5 at *
    have c0 := hC5.c0
    have c1 := hC5.c1
    have HR5 := Lib.hid hR5
    have HG5 := Lib.hid hG5
    have HB5 := Lib.hid hB5
    have HC5 := Lib.hid hC5
    clear hR5 hG5 hB5 hC5 HC3 HG3 HR3 HB3
    go_wp2_with (go_at_call 16; refine (get_c _ _ _ HS.out _ _ HR5.out).mono ?_; rintro e w6 ⟨rfl, rfl⟩)
    refine (set_c _ _ _ HS.out _ _ _ HR5.out).mono ?_
    rintro e w6 ⟨rfl, rfl⟩
    rw [HSB.out]
    have hR7 := HR5.out.row (ofR ws)
    have hG7 := HG5.out.rowFar (c := w1.heap.size) (by omega) (aV .u64 (ofR ws))
    have hB7 := below_setRow HB5.out (g := w1.heap.size) (by omega) (aV .u64 (ofR ws))
    clear c0 c1
    generalize w5.setRow w1.heap.size (aV .u64 (ofR ws)) = w7 at *
    have HR7 := Lib.hid hR7
    have HG7 := Lib.hid hG7
    have HB7 := Lib.hid hB7
    clear hR7 hG7 hB7 HR5 HG5 HB5 HC5
    go_wp2_with (first | (refine wpList_load_row rfl 34 _ rfl w1.heap.size rfl 34 _ (0, 0) _ HR7.out Tryd.underlying34 rfl (i34 HO.out) ?_) | (refine wpList_load_row rfl 34 _ rfl w2.heap.size rfl 34 _ (0, 0) _ HG7.out Tryd.underlying34 rfl (i34 HO.out) ?_) | (refine wpList_cmp rfl .eql 34 _ _ _ rfl _ _ rfl rfl guard_file _ (eq_file _ _ _ HO.out HO.out) ?_))
    refine (live5_c _ (HN.out.low HB7.out)).mono ?_
    rintro e w8 ⟨rfl, rfl⟩
    go_wp2_with fail
    go_ret
    exact ⟨rfl, HB7.out⟩
theorem rkeep_walk (ws : List Int) (x a b : Int) (hl : ws.length = 32) (_hw : ∀ y ∈ ws, (Lit.int .u64 y).wf = true) (_hx : 0 ≤ x ∧ x ≤ 18446744073709551615) (_ha : -9223372036854775808 ≤ a ∧ a ≤ 9223372036854775807) (_hb : -9223372036854775808 ≤ b ∧ b ≤ 9223372036854775807) (w : World) (hN : NamesAt w) :
    Calls Tryd.prog 6 #[.agg (aV .u64 ws), .int .u64 x, .agg #[.int .i64 a, .int .i64 b]] w fun e w' => e = .returned (.bool true) ∧ Below w.heap.size w w' := by
  refine rkeep_g ws x a b hl w hN ?_ ?_
  · by_cases h0 : 0 < a
    · by_cases h1 : a < 32
      · exact .inl ⟨by simpa using h0, by simpa using h1, by simp; omega, by rw [getR_self (ofR ws) a x ((ofR_len ws).trans hl) ⟨h0, h1⟩]; simp⟩
      · exact .inr (.inr (.inr ⟨by simpa using h0, by simpa using h1, by simp; omega⟩))
    · by_cases h2 : a = 0
      · exact .inr (.inl ⟨by simpa using h0, by simpa using h2⟩)
      · exact .inr (.inr (.inl ⟨by simpa using h0, by simpa using h2⟩))
  · by_cases h : b = a
    · exact .inl (by simpa using h)
    · exact .inr ⟨by simpa using h, by rw [getR_other (ofR ws) a b x h]; simp⟩

set_option maxRecDepth 100000 in
theorem rkeep_lifted (os : Os) (started : os.Started) (H : Type) (enc : TypeId × Value → H) :
    ReturnsInHanded {} Tryd.checked os 6 .any (fun w args => (Rows.regsKeepSpec.pre enc Tryd.prog Tryd.f6 [] false w args ∧ laidMetH Tryd.prog laid5 w) ∧ sizedMet enc Tryd.prog Tryd.f6 (OpenSpec.ofChange Rows.regsKeepSpec) false w args)
      (Rows.regsKeepSpec.post enc Tryd.prog Tryd.f6 false true false false) := by
  refine returnsInHanded_of_change_and (C := Tryd.checked) (X := fun w _ => laidMetH Tryd.prog laid5 w) (fun _ _ _ hh h => h.of_heap hh) own started (by kernel_rfl) Tryd.func6
    (ChangeSpec.witness_shaped (enc := enc) (C := Tryd.checked) (os := os) (X := fun w _ => laidMetH Tryd.prog laid5 w) false (World.doorLaid Tryd.prog 400 os) #[.agg #[.int .u64 0, .int .u64 0, .int .u64 0, .int .u64 0, .int .u64 0, .int .u64 0, .int .u64 0, .int .u64 0, .int .u64 0, .int .u64 0, .int .u64 0, .int .u64 0, .int .u64 0, .int .u64 0, .int .u64 0, .int .u64 0, .int .u64 0, .int .u64 0, .int .u64 0, .int .u64 0, .int .u64 0, .int .u64 0, .int .u64 0, .int .u64 0, .int .u64 0, .int .u64 0, .int .u64 0, .int .u64 0, .int .u64 0, .int .u64 0, .int .u64 0, .int .u64 0], .int .u64 0, .agg #[.int .i64 0, .int .i64 0]] 8 rfl (World.shaped_of_RefB (by kernel_rfl) (by kernel_rfl)) (by kernel_rfl) (by kernel_rfl) (by kernel_rfl) (door5_met os _)) ?_
  intro W base args ds gs before hval0 hW _ _ hL _
  have hval : ∀ (j : Nat) t v, Tryd.f6.params[j]? = some t → args[j]? = some v → Value.okWide Tryd.prog W .any base t v := hval0
  have hW' := hW
  obtain ⟨p, q, hA0, hV, rfl, hfz, hnd⟩ := hW
  have hA : DataW.TrodAll enc Tryd.prog W 0 (fun _ => true) true Tryd.f6.params.toList args.toList ds p := hA0
  rw [Tryd.params6] at hA hval
  obtain ⟨v0, vs0, d0, ds0, p0, q0, hargs, rfl, rfl, h0, r0⟩ := trodAll_cons hA
  obtain ⟨v1, vs1, d1, ds1, p1, q1, rfl, rfl, rfl, h1, r1⟩ := trodAll_cons r0
  obtain ⟨v2, vs2, d2, ds2, p2, q2, rfl, rfl, rfl, h2, r2⟩ := trodAll_cons r1
  obtain ⟨rfl, rfl, rfl⟩ := trodAll_nil r2
  obtain rfl : args = #[v0, v1, v2] := by cases args; simp_all
  obtain ⟨rfl, rfl⟩ := trodVars_none hV
  have k0 := h0
  have lt0 : ∀ x ∈ p0, x.block < W.heap.size := by obtain ⟨m, hm⟩ := k0; exact DataW.trod_lt m _ _ _ hm
  obtain ⟨a0, rfl, w0, z0⟩ := open_arr Tryd.underlying31 Tryd.underlying30 (by kernel_rfl) (by kernel_rfl) (hval 0 31 v0 rfl rfl) h0
  obtain ⟨a1, rfl, rfl, rfl, w1⟩ := open_int Tryd.underlying30 (hval 1 30 v1 rfl rfl) h1
  have k2 := h2
  have lt2 : ∀ x ∈ p2, x.block < W.heap.size := by obtain ⟨m, hm⟩ := k2; exact DataW.trod_lt m _ _ _ hm
  obtain ⟨a2, b2, rfl, w2, z2⟩ := open_arr2 Tryd.underlying49 Tryd.underlying3 (by kernel_rfl) (by kernel_rfl) (hval 2 49 v2 rfl rfl) h2
  have hvv := of_laid5 hL
  clear hA0 hval0
  refine (rkeep_walk a0 a1 a2 b2 w0 z0 (bounds_u64 w1) (bounds_i64 w2) (bounds_i64 z2) W hvv).mono fun e W' ⟨he, bel⟩ => ?_
  subst he
  exact ⟨_, rfl, _, _, _, [], _, [], hW', trodAll_mk1 (shut_bool Tryd.underlying4 _), (trodAll_cons_mk (Below.trod laidOut (by kernel_rfl) (of_decide_eq_true (by kernel_rfl)) k0 bel lt0) (trodAll_cons_mk (shut_int Tryd.underlying30 w1) (trodAll_cons_mk (Below.trod laidOut (by kernel_rfl) (of_decide_eq_true (by kernel_rfl)) k2 bel lt2) trodAll_mk0))), rfl, bel.frame _, fun h => by cases h⟩

theorem rkeep_over : Rows.regsKeepRow.holds Tryd.pinned (OpenSpec.ofChange Rows.regsKeepSpec) :=
  OpenClaim.holds_of_wide 6 Tryd.f6 rfl rfl rfl rfl rfl rfl rfl ⟨rfl, rfl, rfl, rfl, rfl⟩ rfl rfl rfl rfl rfl (by kernel_rfl) Tryd.func6 (by kernel_rfl)
    (of_decide_eq_true (by kernel_rfl)) (by unfold Func.isWrapper; first | (rw [if_pos (by decide +kernel)]; kernel_rfl) | (rw [if_neg (by decide +kernel)]; exact ⟨rfl, rfl⟩))
    (fun os started H enc _ => rkeep_lifted os started H enc)

theorem rkeep_said : Rows.RegsKeepCardSaid :=
  Claim7.holds_tied_plain_at .later [] [.data, .data, .data, .data] true Rows.regsKeepCard.stood.harness false
    rkeep_over (fun _ h => by cases h) (by kernel_rfl) (fun _ h => by cases h) regsKeep_row_tie rfl ⟨rfl, rfl⟩ (by kernel_rfl) rfl
    (fun f fn hf hfn => by
      obtain rfl : f = 6 := Option.some.inj ((show Tryd.prog.funcNamed "roebuck/roebucklaw05.RegsKeep" = some 6 by kernel_rfl).symm.trans hf) |>.symm
      obtain rfl : fn = Tryd.f6 := (Option.some.inj (Tryd.func6.symm.trans hfn)).symm
      exact ⟨by kernel_rfl, fun j t ht => by
        rw [Tryd.params6] at ht
        have hm : t ∈ [31, 30, 49] := by simpa using Array.mem_of_getElem? ht
        have hall : ([31, 30, 49].all fun u => !Tryd.prog.wantsStandIn u) = true := by kernel_rfl
        exact (show Tryd.prog.wantsStandIn t = false by simpa using List.all_eq_true.1 hall t hm)⟩)
    (by kernel_rfl)
end Go.Proofs.YtbhmnkamfkadiaaDoor
