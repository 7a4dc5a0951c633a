/-
  The statement RegsSome (P5.1), tied card: for every words and number of how many are wanted, roebucklaw05.RegsSome returns true and its arguments read afterwards as before. Condition: regs.names holds what the program's text lays (the card ties it).
-/
import Derived.Test.YtbhmnkamfkadiaaDoorOpen5
import Derived.Test.YtbhmnkamfkadiaaDoorReg6
import Derived.Test.YtbhmnkamfkadiaaDoorTie
import Derived.Test.YtbhmnkamfkadiaaDoorCards
import Derived.SevenTiedAt
namespace Go.Proofs.YtbhmnkamfkadiaaDoor
open Go.ChangeShapes Go.WideShapes Go.ChangeAt Go.RowKit

theorem zeros_size {ws : List Int} (h : ws.length = 32) : (aV .u64 (List.replicate 32 0)).size = (aV .u64 ws).size := by rw [aV_size, aV_size, h]; rfl
/-- A value in a block of its own, that may be written. -/
structure BoxAt (w : World) (b : Nat) (v : Value) : Prop where
  c : w.cell? ⟨b, 0, none⟩ = some v
  f : w.frozen? ⟨b, 0, none⟩ = false
  lt : b < w.heap.size
theorem BoxAt.low {w w' : World} {b : Nat} {v : Value} (h : BoxAt w b v) (hb : Below w.heap.size w w') : BoxAt w' b v :=
  ⟨(hb.cell (p := ⟨b, 0, none⟩) h.lt).trans h.c, (hb.frozen (p := ⟨b, 0, none⟩) h.lt).trans h.f, Nat.lt_of_lt_of_le h.lt hb.size⟩
theorem BoxAt.alloc {w : World} {b : Nat} {v : Value} (h : BoxAt w b v) (o : Obj) : BoxAt (w.alloc o) b v := h.low ((Below.refl _ _).alloc (Nat.le_refl _) _)
theorem BoxAt.new (w : World) (t : TypeId) (v : Value) : BoxAt (w.alloc (.cells #[v] t)) w.heap.size v := ⟨by simp [go_sem], by simp [go_sem], by simp⟩
set_option maxRecDepth 100000 in
set_option maxHeartbeats 4000000 in
theorem rsome_walk (ws : List Int) (most : Int) (hl : ws.length = 32) (_hw : ∀ y ∈ ws, (Lit.int .u64 y).wf = true) (_hm : -9223372036854775808 ≤ most ∧ most ≤ 9223372036854775807) (w : World) (hN : NamesAt w) :
    Calls Tryd.prog 5 #[.agg (aV .u64 ws), .int .i64 most] w fun e w' => e = .returned (.bool true) ∧ Below w.heap.size w w' := by
  have HN := Lib.hid hN
  have HL := Lib.hid hl
  have HO := Lib.hid ((ofR_len ws).trans hl)
  clear hN hl _hw _hm
  have hnil : ∀ (p : Nat) (W : World), (binOp .eql 45 (.func (.func 23) #[] #[.pointer (some ⟨p, 0, none⟩)]) .nilFunc).run Tryd.prog W = .ok (.bool false) W := fun p W => by kernel_rfl
  have hnil2 : ∀ (p : Nat) (W : World), (binOp .neq 45 (.func (.func 23) #[] #[.pointer (some ⟨p, 0, none⟩)]) .nilFunc).run Tryd.prog W = .ok (.bool true) W := fun p W => by kernel_rfl
  have HZ := Lib.hid (fun W : World => (show (binOp .neq 31 (.agg (aV .u64 (List.replicate 32 0))) (.agg #[.int .u64 0, .int .u64 0, .int .u64 0, .int .u64 0, .int .u64 0, .int .u64 0, .int .u64 0, .int .u64 0, .int .u64 0, .int .u64 0, .int .u64 0, .int .u64 0, .int .u64 0, .int .u64 0, .int .u64 0, .int .u64 0, .int .u64 0, .int .u64 0, .int .u64 0, .int .u64 0, .int .u64 0, .int .u64 0, .int .u64 0, .int .u64 0, .int .u64 0, .int .u64 0, .int .u64 0, .int .u64 0, .int .u64 0, .int .u64 0, .int .u64 0, .int .u64 0])).run Tryd.prog W = .ok (.bool false) W from by
    rw [← zeros32, ne_arr W _ _ (by decide) (by decide)]; rfl))
  go_enter Tryd.func5, Tryd.ntmps5
  go_upto_region 1 with (fail)
  have hR0 : RowAt .u64 ((w.alloc (.cells (aV .u64 ws) 31)).alloc (.cells #[.int .i64 most] 3)) w.heap.size 31 ws := (RowAt.new _ _ _ _).alloc _
  have hB0 : Below w.heap.size w ((w.alloc (.cells (aV .u64 ws) 31)).alloc (.cells #[.int .i64 most] 3)) := ((Below.refl _ _).alloc (Nat.le_refl _) _).alloc (by simp) _
  have hM0 : BoxAt ((w.alloc (.cells (aV .u64 ws) 31)).alloc (.cells #[.int .i64 most] 3)) (w.heap.size + 1) (.int .i64 most) := by
    have := BoxAt.new (w.alloc (.cells (aV .u64 ws) 31)) 3 (.int .i64 most)
    simpa using this
  generalize (w.alloc (.cells (aV .u64 ws) 31)).alloc (.cells #[.int .i64 most] 3) = w0 at *
  have HR0 := Lib.hid hR0
  have HB0 := Lib.hid hB0
  have HM0 := Lib.hid hM0
  clear hR0 hB0 hM0
  go_wp2_with fail
  refine (set_nil _ _ _).mono ?_
  rintro e w1 ⟨rfl, rfl⟩
  go_wp2_with fail
  refine (get_nil _ _).mono ?_
  rintro e w1 ⟨rfl, rfl⟩
  go_wp2_with fail
  refine (words_nil _).mono ?_
  rintro e w1 ⟨rfl, hb⟩
  have HR1 := Lib.hid (HR0.out.low hb)
  have HB1 := Lib.hid (HB0.out.trans (hb.mono HB0.out.size))
  have HM1 := Lib.hid (HM0.out.low hb)
  clear hb HR0 HB0 HM0
  go_wp2_with (refine wpList_cmpW (by rfl) .neq 31 _ _ _ rfl _ _ rfl rfl guard_arr _ (HZ.out _) ?_)
  refine (some_c _ _).mono ?_
  rintro e w2 ⟨rfl, rfl⟩
  have hP2 := BoxAt.new w1 43 (.pointer none)
  have hR2 := HR1.out.alloc (.cells #[.pointer none] 43)
  have hB2 := HB1.out.alloc HB1.out.size (.cells #[.pointer none] 43)
  have hM2 := HM1.out.alloc (.cells #[.pointer none] 43)
  generalize w1.alloc (.cells #[.pointer none] 43) = w2 at *
  have HP2 := Lib.hid hP2
  have HR2 := Lib.hid hR2
  have HB2 := Lib.hid hB2
  have HM2 := Lib.hid hM2
  clear hP2 hR2 hB2 hM2 HR1 HB1 HM1
  go_wp2_with (refine wpList_load_row rfl 31 _ rfl w.heap.size rfl 31 _ (0, 0) _ HR2.out Tryd.underlying31 rfl (i31 HL.out) ?_)
  refine (of_c ws HL.out _).mono ?_
  rintro e w3 ⟨rfl, hb⟩
  have HP3 := Lib.hid (HP2.out.low hb)
  have HR3 := Lib.hid (HR2.out.low hb)
  have HB3 := Lib.hid (HB2.out.trans (hb.mono HB2.out.size))
  have HM3 := Lib.hid (HM2.out.low hb)
  clear hb HP2 HR2 HB2 HM2
  go_upto_region 7 with (refine wpList_storeNew rfl 34 _ _ rfl _ _ _ rfl rfl (i34 HO.out) (zeros_size HO.out) (aV_one _ _) ?_)
  have hF4 := RowAt.new .u64 w3 34 (ofR ws)
  have hP4 := HP3.out.alloc (.cells (aV .u64 (ofR ws)) 34)
  have hR4 := HR3.out.alloc (.cells (aV .u64 (ofR ws)) 34)
  have hB4 := HB3.out.alloc HB3.out.size (.cells (aV .u64 (ofR ws)) 34)
  have hM4 := HM3.out.alloc (.cells (aV .u64 (ofR ws)) 34)
  generalize w3.alloc (.cells (aV .u64 (ofR ws)) 34) = w4 at *
  have HF4 := Lib.hid hF4
  have HP4 := Lib.hid hP4
  have HR4 := Lib.hid hR4
  have HB4 := Lib.hid hB4
  have HM4 := Lib.hid hM4
  clear hF4 hP4 hR4 hB4 hM4 HP3 HR3 HB3 HM3
  go_wp2_with fail
  refine (some_c _ _).mono ?_
  rintro e w5 ⟨rfl, rfl⟩
  have hQ5 := BoxAt.new w4 43 (.pointer (some ⟨w3.heap.size, 0, none⟩))
  have hF5 := HF4.out.alloc (.cells #[.pointer (some ⟨w3.heap.size, 0, none⟩)] 43)
  have hP5 := HP4.out.alloc (.cells #[.pointer (some ⟨w3.heap.size, 0, none⟩)] 43)
  have hR5 := HR4.out.alloc (.cells #[.pointer (some ⟨w3.heap.size, 0, none⟩)] 43)
  have hB5 := HB4.out.alloc HB4.out.size (.cells #[.pointer (some ⟨w3.heap.size, 0, none⟩)] 43)
  have hM5 := HM4.out.alloc (.cells #[.pointer (some ⟨w3.heap.size, 0, none⟩)] 43)
  generalize w4.alloc (.cells #[.pointer (some ⟨w3.heap.size, 0, none⟩)] 43) = w5 at *
  have HQ5 := Lib.hid hQ5
  have HF5 := Lib.hid hF5
  have HP5 := Lib.hid hP5
  have HR5 := Lib.hid hR5
  have HB5 := Lib.hid hB5
  have HM5 := Lib.hid hM5
  clear hQ5 hF5 hP5 hR5 hB5 hM5 HF4 HP4 HR4 HB4 HM4
  go_wp2_with fail
  have hS6 := BoxAt.new w5 4 (.bool false)
  have hQ6 := HQ5.out.alloc (.cells #[.bool false] 4)
  have hF6 := HF5.out.alloc (.cells #[.bool false] 4)
  have hP6 := HP5.out.alloc (.cells #[.bool false] 4)
  have hR6 := HR5.out.alloc (.cells #[.bool false] 4)
  have hB6 := HB5.out.alloc HB5.out.size (.cells #[.bool false] 4)
  have hM6 := HM5.out.alloc (.cells #[.bool false] 4)
  generalize w5.alloc (.cells #[.bool false] 4) = w6 at *
  refine (some1_nil _ _ _ hP6.c).mono ?_
  rintro e w7 ⟨rfl, rfl⟩
  have cS := hS6.c
  have HQ6 := Lib.hid hQ6
  have HF6 := Lib.hid hF6
  have HR6 := Lib.hid hR6
  have HB6 := Lib.hid hB6
  have HM6 := Lib.hid hM6
  clear hS6 hQ6 hF6 hP6 hR6 hB6 hM6 HQ5 HF5 HP5 HR5 HB5 HM5
  go_wp2_with fail
  have x0 := BoxAt.new w6 3 (.int .i64 0)
  have x1 := BoxAt.new (w6.alloc (.cells #[.int .i64 0] 3)) 3 (.int .i64 0)
  have x2 := BoxAt.new ((w6.alloc (.cells #[.int .i64 0] 3)).alloc (.cells #[.int .i64 0] 3)) 4 (.bool true)
  simp only [World.size_alloc] at x1 x2
  have y0 := (x0.alloc (.cells #[.int .i64 0] 3)).alloc (.cells #[.bool true] 4)
  have y1 := x1.alloc (.cells #[.bool true] 4)
  have yW := ((HR6.out.alloc (.cells #[.int .i64 0] 3)).alloc (.cells #[.int .i64 0] 3)).alloc (.cells #[.bool true] 4)
  have yM := ((HM6.out.alloc (.cells #[.int .i64 0] 3)).alloc (.cells #[.int .i64 0] 3)).alloc (.cells #[.bool true] 4)
  have yQ := ((HQ6.out.alloc (.cells #[.int .i64 0] 3)).alloc (.cells #[.int .i64 0] 3)).alloc (.cells #[.bool true] 4)
  have yF := ((HF6.out.alloc (.cells #[.int .i64 0] 3)).alloc (.cells #[.int .i64 0] 3)).alloc (.cells #[.bool true] 4)
  have l1 := HR6.out.lt
  have l2 := HM6.out.lt
  have l3 := HQ6.out.lt
  have l4 := HF6.out.lt
  have l5 := HB6.out.size
  refine (some1_c ws HL.out most w6.heap.size (w6.heap.size + 1 + 1) (w6.heap.size + 1) w.heap.size (w.heap.size + 1) w4.heap.size w3.heap.size w _ ⟨y0.c, y0.f, x2.c, x2.f, y1.c, y1.f, yW, yM.c, yQ.c, yF⟩
    ⟨by omega, by omega, by omega, by omega, by omega, by omega, by omega, by omega, by omega, by omega, by omega, by omega, by omega, by omega, by omega⟩
    (((HB6.out.alloc HB6.out.size _).alloc (by simp; omega) _).alloc (by simp; omega) _) (by omega) (by omega) (by omega)).mono ?_
  rintro e W ⟨rfl, ⟨last, hK⟩, hb⟩
  have KA := Lib.hid hK
  have HB := Lib.hid hb
  have HC := Lib.hid (fun k hk => hK.w.cell k (by rw [HL.out]; exact hk))
  clear hb hK x0 x1 x2 y0 y1 yW yM yQ yF l1 l2 l3 l4 l5 cS HQ6 HF6 HR6 HB6 HM6 HZ hnil hnil2
  generalize w6.heap.size = b6 at *
  generalize w3.heap.size = b3 at *
  generalize w4.heap.size = b4 at *
  generalize w5.heap.size = b5 at *
  generalize w1.heap.size = b1 at *
  go_wp2_with fail
  go_loop [13, 14] (fun c t => ∃ k : Nat, 1 ≤ k ∧ k ≤ 32 ∧ t = .int .i64 k ∧ c = .int .i64 (cntS ws k : Nat)) (fun _ t => 32 - (intOf t).toNat)
  case atStart => exact ⟨1, by decide, by decide, rfl, rfl⟩
  case round =>
    obtain ⟨k, hk1, hk, rfl, rfl⟩ := hrel
    have hle := cntS_le ws k
    by_cases hlt : k < 32
    · have hl2 : (k : Int) < 32 := by omega
      have hc := HC.out k hlt
      have HCN := Lib.hid (show cntS ws (k + 1) = cntS ws k + if 1 ≤ k ∧ ws.getD k 0 ≠ 0 then 1 else 0 from rfl)
      obtain ⟨x, hx⟩ : ∃ x, ws.getD k 0 = x := ⟨_, rfl⟩
      rw [hx] at hc
      by_cases hx0 : x = 0
      · have e0 : (x != 0) = false := by simpa using hx0
        have HC1 := Lib.hid (show cntS ws (k + 1) = cntS ws k by rw [HCN.out, hx, if_neg (fun h => h.2 hx0)]; rfl)
        clear hx hx0 HCN
        go_wp2_with fail
        go_round
        case rel => exact ⟨k + 1, by omega, by omega, by go_num, by rw [HC1.out]⟩
        case measure => simp [intOf]; omega
      · have e0 : (x != 0) = true := by simpa using hx0
        have HC1 := Lib.hid (show cntS ws (k + 1) = cntS ws k + 1 by rw [HCN.out, hx, if_pos ⟨hk1, hx0⟩])
        clear hx hx0 HCN
        go_wp2_with fail
        go_round
        case rel => exact ⟨k + 1, by omega, by omega, by go_num, by rw [HC1.out]; go_num⟩
        case measure => simp [intOf]; omega
    · obtain rfl : k = 32 := by omega
      have HW := Lib.hid (show wantS ws most = if 0 < most ∧ most < (cntS ws 32 : Nat) then most else (cntS ws 32 : Nat) from rfl)
      have cn := KA.out.n
      have cf := KA.out.f
      have cm := KA.out.m
      generalize hcc : ((cntS ws 32 : Nat) : Int) = c at *
      have HCC := Lib.hid hcc
      clear hcc
      by_cases h1 : 0 < most
      · have d1 : decide (0 < most) = true := by simpa using h1
        by_cases h2 : most < c
        · have d2 : decide (most < c) = true := by simpa using h2
          rw [HW.out, if_pos ⟨h1, h2⟩] at cn
          have q1 : (most == most) = true := by simp
          clear h1 h2
          go_wp2_with fail
          refine (live5_c _ (HN.out.low HB.out)).mono ?_
          rintro e w8 ⟨rfl, rfl⟩
          go_wp2_with fail
          go_ret
          exact ⟨rfl, HB.out⟩
        · have d2 : decide (most < c) = false := by simpa using h2
          rw [HW.out, if_neg (fun h => h2 h.2)] at cn
          have q1 : (c == c) = true := by simp
          clear h1 h2
          go_wp2_with fail
          refine (live5_c _ (HN.out.low HB.out)).mono ?_
          rintro e w8 ⟨rfl, rfl⟩
          go_wp2_with fail
          go_ret
          exact ⟨rfl, HB.out⟩
      · have d1 : decide (0 < most) = false := by simpa using h1
        rw [HW.out, if_neg (fun h => h1 h.1)] at cn
        have q1 : (c == c) = true := by simp
        clear h1
        go_wp2_with fail
        refine (live5_c _ (HN.out.low HB.out)).mono ?_
        rintro e w8 ⟨rfl, rfl⟩
        go_wp2_with fail
        go_ret
        exact ⟨rfl, HB.out⟩

set_option maxRecDepth 100000 in
theorem rsome_lifted (os : Os) (started : os.Started) (H : Type) (enc : TypeId × Value → H) :
    ReturnsInHanded {} Tryd.checked os 5 .any (fun w args => (Rows.regsSomeSpec.pre enc Tryd.prog Tryd.f5 [] false w args ∧ laidMetH Tryd.prog laid5 w) ∧ sizedMet enc Tryd.prog Tryd.f5 (OpenSpec.ofChange Rows.regsSomeSpec) false w args)
      (Rows.regsSomeSpec.post enc Tryd.prog Tryd.f5 false true false false) := by
  refine returnsInHanded_of_change_and (C := Tryd.checked) (X := fun w _ => laidMetH Tryd.prog laid5 w) (fun _ _ _ hh h => h.of_heap hh) own started (by kernel_rfl) Tryd.func5
    (ChangeSpec.witness_shaped (enc := enc) (C := Tryd.checked) (os := os) (X := fun w _ => laidMetH Tryd.prog laid5 w) false (World.doorLaid Tryd.prog 400 os) #[.agg #[.int .u64 0, .int .u64 0, .int .u64 0, .int .u64 0, .int .u64 0, .int .u64 0, .int .u64 0, .int .u64 0, .int .u64 0, .int .u64 0, .int .u64 0, .int .u64 0, .int .u64 0, .int .u64 0, .int .u64 0, .int .u64 0, .int .u64 0, .int .u64 0, .int .u64 0, .int .u64 0, .int .u64 0, .int .u64 0, .int .u64 0, .int .u64 0, .int .u64 0, .int .u64 0, .int .u64 0, .int .u64 0, .int .u64 0, .int .u64 0, .int .u64 0, .int .u64 0], .int .i64 0] 8 rfl (World.shaped_of_RefB (by kernel_rfl) (by kernel_rfl)) (by kernel_rfl) (by kernel_rfl) (by kernel_rfl) (door5_met os _)) ?_
  intro W base args ds gs before hval0 hW _ _ hL _
  have hval : ∀ (j : Nat) t v, Tryd.f5.params[j]? = some t → args[j]? = some v → Value.okWide Tryd.prog W .any base t v := hval0
  have hW' := hW
  obtain ⟨p, q, hA0, hV, rfl, hfz, hnd⟩ := hW
  have hA : DataW.TrodAll enc Tryd.prog W 0 (fun _ => true) true Tryd.f5.params.toList args.toList ds p := hA0
  rw [Tryd.params5] at hA hval
  obtain ⟨v0, vs0, d0, ds0, p0, q0, hargs, rfl, rfl, h0, r0⟩ := trodAll_cons hA
  obtain ⟨v1, vs1, d1, ds1, p1, q1, rfl, rfl, rfl, h1, r1⟩ := trodAll_cons r0
  obtain ⟨rfl, rfl, rfl⟩ := trodAll_nil r1
  obtain rfl : args = #[v0, v1] := by cases args; simp_all
  obtain ⟨rfl, rfl⟩ := trodVars_none hV
  have k0 := h0
  have lt0 : ∀ x ∈ p0, x.block < W.heap.size := by obtain ⟨m, hm⟩ := k0; exact DataW.trod_lt m _ _ _ hm
  obtain ⟨a0, rfl, w0, z0⟩ := open_arr Tryd.underlying31 Tryd.underlying30 (by kernel_rfl) (by kernel_rfl) (hval 0 31 v0 rfl rfl) h0
  obtain ⟨a1, rfl, rfl, rfl, w1⟩ := open_int Tryd.underlying3 (hval 1 3 v1 rfl rfl) h1
  have hvv := of_laid5 hL
  clear hA0 hval0
  refine (rsome_walk a0 a1 w0 z0 (bounds_i64 w1) W hvv).mono fun e W' ⟨he, bel⟩ => ?_
  subst he
  exact ⟨_, rfl, _, _, _, [], _, [], hW', trodAll_mk1 (shut_bool Tryd.underlying4 _), (trodAll_cons_mk (Below.trod laidOut (by kernel_rfl) (of_decide_eq_true (by kernel_rfl)) k0 bel lt0) (trodAll_cons_mk (shut_int Tryd.underlying3 w1) trodAll_mk0)), rfl, bel.frame _, fun h => by cases h⟩

theorem rsome_over : Rows.regsSomeRow.holds Tryd.pinned (OpenSpec.ofChange Rows.regsSomeSpec) :=
  OpenClaim.holds_of_wide 5 Tryd.f5 rfl rfl rfl rfl rfl rfl rfl ⟨rfl, rfl, rfl, rfl, rfl⟩ rfl rfl rfl rfl rfl (by kernel_rfl) Tryd.func5 (by kernel_rfl)
    (of_decide_eq_true (by kernel_rfl)) (by unfold Func.isWrapper; first | (rw [if_pos (by decide +kernel)]; kernel_rfl) | (rw [if_neg (by decide +kernel)]; exact ⟨rfl, rfl⟩))
    (fun os started H enc _ => rsome_lifted os started H enc)

theorem rsome_said : Rows.RegsSomeCardSaid :=
  Claim7.holds_tied_plain_at .later [] [.data, .data, .data, .data] true Rows.regsSomeCard.stood.harness false
    rsome_over (fun _ h => by cases h) (by kernel_rfl) (fun _ h => by cases h) regsSome_row_tie rfl ⟨rfl, rfl⟩ (by kernel_rfl) rfl
    (fun f fn hf hfn => by
      obtain rfl : f = 5 := Option.some.inj ((show Tryd.prog.funcNamed "roebuck/roebucklaw05.RegsSome" = some 5 by kernel_rfl).symm.trans hf) |>.symm
      obtain rfl : fn = Tryd.f5 := (Option.some.inj (Tryd.func5.symm.trans hfn)).symm
      exact ⟨by kernel_rfl, fun j t ht => by
        rw [Tryd.params5] at ht
        have hm : t ∈ [31, 3] := by simpa using Array.mem_of_getElem? ht
        have hall : ([31, 3].all fun u => !Tryd.prog.wantsStandIn u) = true := by kernel_rfl
        exact (show Tryd.prog.wantsStandIn t = false by simpa using List.all_eq_true.1 hall t hm)⟩)
    (by kernel_rfl)
end Go.Proofs.YtbhmnkamfkadiaaDoor
