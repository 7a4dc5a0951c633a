/-
  The statement AsmTexts (P6.1), tied card: for every instruction and text, roebucklaw06.AsmTexts returns true and its arguments read afterwards as before. Condition: the listed variables hold what the program's text lays (the card ties them; unicode/utf8.first is pinned).
-/
import Derived.Test.YthehcplogkgkeaaGreatDoorRb
import Derived.Test.YthehcplogkgkeaaGreatDoorRc
import Derived.Test.YthehcplogkgkeaaGreatDoorTie
import Derived.Test.YthehcplogkgkeaaGreatDoorCards
import Derived.SevenTiedAt
import Derived.ChangeMaps5
set_option maxRecDepth 4000
namespace Go.Proofs.YthehcplogkgkeaaGreatDoor
open Go.ChangeShapes Go.WideShapes Go.ChangeAt Go.RowKit Go.ChangeMaps Wd Num

theorem of_laid6 {W : World} (h : laidMetH Tryz.prog laidA W) (hs : W.ShapedOpen Tryz.prog) : Mem6 W := ⟨(of_laidA h).1, (of_laidA h).2, max_of hs⟩
theorem str_self (b : ByteArray) : (b.toList == b.toList) = true := by simp
set_option maxHeartbeats 4000000 in
theorem texts_in (x : Array Value) (i : Fl) (hx : x = flA i) (T : ByteArray) (c : Int) (l : List UInt8) (w : World) (hm : Mem6 w) (hl : ¬ 100 < (bs6 l).size)
    (ht : ∀ W, Mem6 W → Calls Tryz.prog 8 #[.agg x] W fun e w' => e = .returned (.tuple #[.string T, .int .i64 c]) ∧ Below W.heap.size W w')
    (hr : ∀ W, Calls Tryz.prog 9 #[.agg x] W fun e w' => e = .returned (.tuple #[.string T, .int .i64 c]) ∧ Below W.heap.size W w') :
    Calls Tryz.prog 3 #[.agg x, .string (bs6 l)] w fun e w' => e = .returned (.bool true) ∧ Below w.heap.size w w' := by
  have el : decide (100 < ((bs6 l).size : Int)) = false := by simp; omega
  have HM := Lib.hid hm
  have HT := Lib.hid ht
  have HR := Lib.hid hr
  have HN := Lib.hid (fun W (h : Mem6 W) => (show Calls Tryz.prog 10 #[.string (bs6 l)] W fun e w' => e = .returned (numV (numR l)) ∧ Below W.heap.size W w' by
    obtain ⟨⟨tp, p, tq, q, h1, h2⟩, h3⟩ := h.errs
    rw [← num_eq]
    exact asmNumber_c l W tp tq p q h1 h2 h3))
  have HQ := Lib.hid (fun W => refNumber6_c l (by rw [bs6_size] at hl; omega) W)
  have HB0 := Lib.hid ((Below.refl w.heap.size w).alloc (Nat.le_refl _) (.cells x 24))
  have HI0 := Lib.hid (CsAt.new w 24 x)
  subst hx
  obtain ⟨m, b, hv⟩ : ∃ m b, numV (numR l) = .tuple #[.int .i64 m, .bool b] := ⟨_, _, rfl⟩
  rw [hv] at HN HQ
  clear hm ht hr hl hv
  generalize bs6 l = S at *
  have e1 := str_self T
  go_enter Tryz.func3, Tryz.ntmps3
  have i0 : (w.alloc (.cells (flA i) 24)).cell? ⟨w.heap.size, 0, none⟩ = some (.int .i64 i.op) := HI0.out.cell 0
  have i1 : (w.alloc (.cells (flA i) 24)).cell? ⟨w.heap.size, 1, none⟩ = some (.int .i64 i.rd) := HI0.out.cell 1
  have i2 : (w.alloc (.cells (flA i) 24)).cell? ⟨w.heap.size, 2, none⟩ = some (.int .i64 i.rs1) := HI0.out.cell 2
  have i3 : (w.alloc (.cells (flA i) 24)).cell? ⟨w.heap.size, 3, none⟩ = some (.int .i64 i.rs2) := HI0.out.cell 3
  have i4 : (w.alloc (.cells (flA i) 24)).cell? ⟨w.heap.size, 4, none⟩ = some (.int .i64 i.imm) := HI0.out.cell 4
  have i5 : (w.alloc (.cells (flA i) 24)).cell? ⟨w.heap.size, 5, none⟩ = some (.int .i64 i.csr) := HI0.out.cell 5
  have i6 : (w.alloc (.cells (flA i) 24)).cell? ⟨w.heap.size, 6, none⟩ = some (.bool i.aq) := HI0.out.cell 6
  have i7 : (w.alloc (.cells (flA i) 24)).cell? ⟨w.heap.size, 7, none⟩ = some (.bool i.rl) := HI0.out.cell 7
  go_wp2_with fail
  generalize (w.alloc (.cells (flA i) 24)) = W0 at *
  refine (HT.out _ (HM.out.low HB0.out)).mono ?_
  rintro e w1 ⟨rfl, hb⟩
  have HB1 := Lib.hid (HB0.out.trans (hb.mono HB0.out.size))
  have HI1 := Lib.hid (HI0.out.low hb)
  clear hb i0 i1 i2 i3 i4 i5 i6 i7
  have i0 : w1.cell? ⟨w.heap.size, 0, none⟩ = some (.int .i64 i.op) := HI1.out.cell 0
  have i1 : w1.cell? ⟨w.heap.size, 1, none⟩ = some (.int .i64 i.rd) := HI1.out.cell 1
  have i2 : w1.cell? ⟨w.heap.size, 2, none⟩ = some (.int .i64 i.rs1) := HI1.out.cell 2
  have i3 : w1.cell? ⟨w.heap.size, 3, none⟩ = some (.int .i64 i.rs2) := HI1.out.cell 3
  have i4 : w1.cell? ⟨w.heap.size, 4, none⟩ = some (.int .i64 i.imm) := HI1.out.cell 4
  have i5 : w1.cell? ⟨w.heap.size, 5, none⟩ = some (.int .i64 i.csr) := HI1.out.cell 5
  have i6 : w1.cell? ⟨w.heap.size, 6, none⟩ = some (.bool i.aq) := HI1.out.cell 6
  have i7 : w1.cell? ⟨w.heap.size, 7, none⟩ = some (.bool i.rl) := HI1.out.cell 7
  go_wp2_with fail
  refine (HR.out _).mono ?_
  rintro e w2 ⟨rfl, hb⟩
  have HB2 := Lib.hid (HB1.out.trans (hb.mono HB1.out.size))
  clear hb i0 i1 i2 i3 i4 i5 i6 i7
  go_wp2_with fail
  refine (HN.out _ (HM.out.low HB2.out)).mono ?_
  rintro e w3 ⟨rfl, hb⟩
  have HB3 := Lib.hid (HB2.out.trans (hb.mono HB2.out.size))
  clear hb
  go_wp2_with fail
  refine (HQ.out _).mono ?_
  rintro e w4 ⟨rfl, rfl⟩
  go_wp2_with fail
  refine (live6_c _ (HM.out.low HB3.out)).mono ?_
  rintro e w5 ⟨rfl, hb⟩
  have HB5 := Lib.hid (HB3.out.trans (hb.mono HB3.out.size))
  clear hb
  go_wp2_with fail
  go_ret
  exact ⟨rfl, HB5.out⟩
set_option maxHeartbeats 400000 in
theorem asmt_walk (x0 x1 x2 x3 x4 x5 : Int) (x6 x7 : Bool) (s : ByteArray) (hx : (-9223372036854775808 ≤ x1 ∧ x1 ≤ 9223372036854775807) ∧ (-9223372036854775808 ≤ x2 ∧ x2 ≤ 9223372036854775807) ∧ (-9223372036854775808 ≤ x3 ∧ x3 ≤ 9223372036854775807) ∧ (-9223372036854775808 ≤ x4 ∧ x4 ≤ 9223372036854775807) ∧ (-9223372036854775808 ≤ x5 ∧ x5 ≤ 9223372036854775807)) (_hs : s.size ≤ maxLen) (w : World) (hm : Mem6 w) :
    Calls Tryz.prog 3 #[.agg #[.int .i64 x0, .int .i64 x1, .int .i64 x2, .int .i64 x3, .int .i64 x4, .int .i64 x5, .bool x6, .bool x7], .string s] w fun e w' => e = .returned (.bool true) ∧ Below w.heap.size w w' := by
  by_cases hl : 100 < s.size
  · have el : decide (100 < (s.size : Int)) = true := by simp; omega
    have HM := Lib.hid hm
    have HB0 := Lib.hid ((Below.refl w.heap.size w).alloc (Nat.le_refl _) (.cells #[.int .i64 x0, .int .i64 x1, .int .i64 x2, .int .i64 x3, .int .i64 x4, .int .i64 x5, .bool x6, .bool x7] 24))
    clear hm hx
    unfold maxLen at _hs
    go_enter Tryz.func3, Tryz.ntmps3
    go_wp2_with fail
    refine (live6_c _ (HM.out.low HB0.out)).mono ?_
    rintro e w2 ⟨rfl, hb⟩
    have HB5 := Lib.hid (HB0.out.trans (hb.mono HB0.out.size))
    clear hb
    go_wp2_with fail
    go_ret
    exact ⟨rfl, HB5.out⟩
  · obtain ⟨h1, h2, h3, h4, h5⟩ := hx
    have hf : FitI x1 x2 x3 x4 x5 := ⟨h1, h2, h3, h4, h5⟩
    have e6 := bs6_self s
    by_cases hc : checkS x0 x1 x2 x3 x4 x5 x6 x7 = 0
    · exact e6 ▸ texts_in _ ⟨x0, x1, x2, x3, x4, x5, x6, x7⟩ rfl (textS x0 x1 x2 x3 x4 x5 x6 x7) 0 s.data.toList w hm (by rw [e6]; exact hl) (fun W h => text_yes x0 x1 x2 x3 x4 x5 x6 x7 W h.ok hf hc) (fun W => refText_yes x0 x1 x2 x3 x4 x5 x6 x7 W hf hc)
    · exact e6 ▸ texts_in _ ⟨x0, x1, x2, x3, x4, x5, x6, x7⟩ rfl ⟨#[]⟩ (checkS x0 x1 x2 x3 x4 x5 x6 x7) s.data.toList w hm (by rw [e6]; exact hl) (fun W h => text_no x0 x1 x2 x3 x4 x5 x6 x7 W h.ok hc) (fun W => refText_no x0 x1 x2 x3 x4 x5 x6 x7 W hc)

set_option maxRecDepth 100000 in
theorem asmt_lifted (os : Os) (started : os.Started) (H : Type) (enc : TypeId × Value → H) :
    ReturnsInHanded {} Tryz.checked os 3 .any (fun w args => (Rows.asmTextsSpec.pre enc Tryz.prog Tryz.f3 [] false w args ∧ laidMetH Tryz.prog laidA w) ∧ sizedMet enc Tryz.prog Tryz.f3 (OpenSpec.ofChange Rows.asmTextsSpec) false w args)
      (Rows.asmTextsSpec.post enc Tryz.prog Tryz.f3 false true false false) := by
  refine returns_and_shaped (C := Tryz.checked) (X := fun w _ => laidMetH Tryz.prog laidA w) (fun _ _ _ hh h => h.of_heap hh) own started (by kernel_rfl) Tryz.func3
    (ChangeSpec.witness_shaped (enc := enc) (C := Tryz.checked) (os := os) (X := fun w _ => laidMetH Tryz.prog laidA w) false ((World.doorLaid Tryz.prog 400 os).setRow 10 firstC) #[.agg #[.int .i64 0, .int .i64 0, .int .i64 0, .int .i64 0, .int .i64 0, .int .i64 0, .bool false, .bool false], .string ⟨#[]⟩] 8 rfl (World.shaped_of_RefB (by kernel_rfl) (by kernel_rfl)) (by kernel_rfl) (by kernel_rfl) (by kernel_rfl) (doorA_met os _)) ?_
  intro W base args ds gs before hval0 hW _ hL hsh
  have hval : ∀ (j : Nat) t v, Tryz.f3.params[j]? = some t → args[j]? = some v → Value.okWide Tryz.prog W .any base t v := hval0
  have hW' := hW
  obtain ⟨p, q, hA0, hV, rfl, hfz, hnd⟩ := hW
  have hA : DataW.TrodAll enc Tryz.prog W 0 (fun _ => true) true Tryz.f3.params.toList args.toList ds p := hA0
  rw [Tryz.params3] at hA hval
  obtain ⟨v0, vs0, d0, ds0, p0, q0, hargs, rfl, rfl, h0, r0⟩ := trodAll_cons hA
  obtain ⟨v1, vs1, d1, ds1, p1, q1, rfl, rfl, rfl, h1, r1⟩ := trodAll_cons r0
  obtain ⟨rfl, rfl, rfl⟩ := trodAll_nil r1
  obtain rfl : args = #[v0, v1] := by cases args; simp_all
  obtain ⟨rfl, rfl⟩ := trodVars_none hV
  have k0 := h0
  have lt0 : ∀ x ∈ p0, x.block < W.heap.size := by obtain ⟨m, hm⟩ := k0; exact DataW.trod_lt m _ _ _ hm
  obtain ⟨x0, x1, x2, x3, x4, x5, x6, x7, rfl, wx⟩ := open_insnB (hval 0 24 v0 rfl rfl) h0
  obtain ⟨a1, rfl, rfl, rfl, w1⟩ := open_string Tryz.underlying9 (hval 1 9 v1 rfl rfl) h1
  have hvv := of_laid6 hL hsh
  clear hA0 hval0
  refine (asmt_walk x0 x1 x2 x3 x4 x5 x6 x7 a1 wx w1 W hvv).mono fun e W' ⟨he, bel⟩ => ?_
  subst he
  exact ⟨_, rfl, _, _, _, [], _, [], hW', trodAll_mk1 (shut_bool Tryz.underlying4 _), (trodAll_cons_mk (Below.trod laidOut (by kernel_rfl) (of_decide_eq_true (by kernel_rfl)) k0 bel lt0) (trodAll_cons_mk (shut_string Tryz.underlying9 w1) trodAll_mk0)), rfl, bel.frame _, fun h => by cases h⟩

theorem asmt_over : Rows.asmTextsRow.holds Tryz.pinned (OpenSpec.ofChange Rows.asmTextsSpec) :=
  OpenClaim.holds_of_wide 3 Tryz.f3 rfl rfl rfl rfl rfl rfl rfl ⟨rfl, rfl, rfl, rfl, rfl⟩ rfl rfl rfl rfl rfl (by kernel_rfl) Tryz.func3 (by kernel_rfl)
    (of_decide_eq_true (by kernel_rfl)) (by unfold Func.isWrapper; first | (rw [if_pos (by decide +kernel)]; kernel_rfl) | (rw [if_neg (by decide +kernel)]; exact ⟨rfl, rfl⟩))
    (fun os started H enc _ => asmt_lifted os started H enc)

theorem asmt_said : Rows.AsmTextsCardSaid :=
  Claim7.holds_tied_plain_at .later [] [.data, .data, .data, .data, .data, .sentinel, .sentinel, .data, .data, .pinned] true Rows.asmTextsCard.stood.harness Rows.asmTextsCard.stood.looks
    asmt_over (fun _ h => by cases h) (by kernel_rfl) (fun _ h => by cases h) asmTexts_row_tie rfl ⟨rfl, rfl⟩ (by kernel_rfl) rfl
    (fun f fn hf hfn => by
      obtain rfl : f = 3 := Option.some.inj ((show Tryz.prog.funcNamed "roebuck/roebucklaw06.AsmTexts" = some 3 by kernel_rfl).symm.trans hf) |>.symm
      obtain rfl : fn = Tryz.f3 := (Option.some.inj (Tryz.func3.symm.trans hfn)).symm
      exact ⟨by kernel_rfl, fun j t ht => by
        rw [Tryz.params3] at ht
        have hm : t ∈ [24, 9] := by simpa using Array.mem_of_getElem? ht
        have hall : ([24, 9].all fun u => !Tryz.prog.wantsStandIn u) = true := by kernel_rfl
        exact (show Tryz.prog.wantsStandIn t = false by simpa using List.all_eq_true.1 hall t hm)⟩)
    (by kernel_rfl)
end Go.Proofs.YthehcplogkgkeaaGreatDoor
