/-
  The statement InsnEncodes (P3.3), tied card: for every instruction, roebucklaw03.InsnEncodes returns true and its argument reads afterwards as before. Condition: insn.values and insn.fields hold what the program's text lays (the card ties it).
-/
import Derived.Test.YteknlcigfjdmdaaDoorRefEnc
import Derived.Test.YteknlcigfjdmdaaDoorBkB
import Derived.Test.YteknlcigfjdmdaaDoorTie
import Derived.Test.YteknlcigfjdmdaaDoorCards
import Derived.SevenTiedAt
namespace Go.Proofs.YteknlcigfjdmdaaDoor
open Go.ChangeShapes Go.WideShapes Go.ChangeAt Go.RowKit Wd

/-- What both Encodes, and both Checks, tell of an instruction. -/
theorem enc_both (op rd rs1 rs2 imm csr : Int) (aq rl : Bool) : ∃ E c : Int, (0 ≤ E ∧ E < 4294967296) ∧ checkS op rd rs1 rs2 imm csr aq rl = c ∧ EncIs (insV op rd rs1 rs2 imm csr aq rl) E c ∧
    ∀ w', Calls Tryd.prog 10 #[.agg (insV op rd rs1 rs2 imm csr aq rl)] w' fun e w'' => e = .returned (.tuple #[.int .u64 E, .int .i64 c]) ∧ Below w'.heap.size w' w'' := by
  by_cases hc : checkS op rd rs1 rs2 imm csr aq rl = 0
  · obtain ⟨⟨o1, o2⟩, -, ⟨⟨a0, a1⟩, ⟨b0, b1⟩, ⟨c0, c1⟩, d0, d1⟩, -⟩ := check_ok hc
    obtain ⟨l0, l1⟩ := layD_lt (fmtN op : Nat) imm
    have v0 : 0 ≤ fixV op ∧ fixV op < 4294967296 := by
      obtain ⟨k, rfl⟩ : ∃ k : Nat, op = (k : Int) := ⟨op.toNat, by omega⟩
      have := (tabs_ok ⟨k, by omega⟩ (by simp only; omega)).2.2
      simp only at this
      have hv : fixV (k : Nat) = ((valN k : Nat) : Int) := rfl
      rw [hv]; omega
    exact ⟨_, 0, (enc_bits v0.1 v0.2 l0 l1 a0 a1 b0 b1 c0 c1 d0 d1).1, hc, fun w' hw => encode_yes op rd rs1 rs2 imm csr aq rl w' hw hc, fun w' => refEncode_yes op rd rs1 rs2 imm csr aq rl w' hc⟩
  · exact ⟨0, _, ⟨by decide, by decide⟩, rfl, fun w' hw => encode_no op rd rs1 rs2 imm csr aq rl w' hw hc, fun w' => refEncode_no op rd rs1 rs2 imm csr aq rl w' hc⟩
set_option maxHeartbeats 4000000 in
theorem enc3_walk (op rd rs1 rs2 imm csr : Int) (aq rl : Bool) (_h : True) (w : World) (hv : VarsAt w) :
    Calls Tryd.prog 4 #[.agg #[.int .i64 op, .int .i64 rd, .int .i64 rs1, .int .i64 rs2, .int .i64 imm, .int .i64 csr, .bool aq, .bool rl]] w fun e w' => e = .returned (.bool true) ∧ Below w.heap.size w w' := by
  obtain ⟨E, c, ⟨x0, x1⟩, hc, he, hr⟩ := enc_both op rd rs1 rs2 imm csr aq rl
  have HV := Lib.hid hv
  have HE := Lib.hid he
  have HR := Lib.hid hr
  have HK := Lib.hid (fun w' (hw : VarsAt w') => (show Calls Tryd.prog 11 #[.agg (insV op rd rs1 rs2 imm csr aq rl)] w' fun e w'' => e = .returned (.int .i64 c) ∧ Below w'.heap.size w' w'' from hc ▸ check_c op rd rs1 rs2 imm csr aq rl w' hw))
  have HKR := Lib.hid (fun w' => (show Calls Tryd.prog 12 #[.agg (insV op rd rs1 rs2 imm csr aq rl)] w' fun e w'' => e = .returned (.int .i64 c) ∧ Below w'.heap.size w' w'' from hc ▸ refCheck_c op rd rs1 rs2 imm csr aq rl w'))
  have H1 := Lib.hid (insV_one op rd rs1 rs2 imm csr aq rl)
  have HI := Lib.hid (insI op rd rs1 rs2 imm csr aq rl)
  change Calls Tryd.prog 4 #[.agg (insV op rd rs1 rs2 imm csr aq rl)] w _
  clear hv he hr hc
  generalize insV op rd rs1 rs2 imm csr aq rl = x at *
  have hwE : IntKind.u64.wrap E = E := IntWalk.u64_in _ (by omega)
  go_enter Tryd.func4, Tryd.ntmps4
  go_upto_region 1 with (fail)
  have hX0 := CsAt.new w 25 x
  have hB0 : Below w.heap.size w (w.alloc (.cells x 25)) := (Below.refl _ _).alloc (Nat.le_refl _) _
  generalize w.alloc (.cells x 25) = w0 at *
  have HX0 := Lib.hid hX0
  have HB0 := Lib.hid hB0
  clear hX0 hB0
  go_wp2_with (refine wpList_load_row rfl 25 _ rfl w.heap.size rfl 25 _ (0, 0) _ HX0.out Tryd.underlying25 rfl HI.out ?_)
  refine (HE.out _ (HV.out.low HB0.out)).mono ?_
  rintro e w1 ⟨rfl, hb⟩
  have HX1 := Lib.hid (HX0.out.low hb)
  have HB1 := Lib.hid (HB0.out.trans (hb.mono HB0.out.size))
  clear hb HX0 HB0
  go_wp2_with (refine wpList_load_row rfl 25 _ rfl w.heap.size rfl 25 _ (0, 0) _ HX1.out Tryd.underlying25 rfl HI.out ?_)
  refine (HR.out _).mono ?_
  rintro e w2 ⟨rfl, hb⟩
  have HX2 := Lib.hid (HX1.out.low hb)
  have HB2 := Lib.hid (HB1.out.trans (hb.mono HB1.out.size))
  clear hb HX1 HB1
  go_upto_region 3 with (fail)
  refine wp_region_steady (fun W => CsAt W w.heap.size 25 x ∧ Below w.heap.size w W) (by kernel_rfl) (by kernel_rfl) ⟨HX2.out, HB2.out.drew⟩ ?_
  iterate 10
    refine steady_val ?_ ?_ (by kernel_rfl) (fun W hS => ?_) ?_ ?_
    rotate_left 2
    · go_simp
      exact rfl
    · go_simp
      exact rfl
  refine steady_val (.agg x) ?_ (by kernel_rfl) (fun W hS => exec_load_row _ _ rfl _ rfl _ _ _ hS.1 Tryd.underlying25 rfl HI.out) ?_ ?_
  rotate_left 1
  · go_simp
    exact rfl
  refine steady_enter (.int .i64 c) 11 #[.agg x] ?_ (by kernel_rfl) (fun W hS => ?_) (fun W hS => (HK.out W (HV.out.low hS.2)).mono fun e W' ⟨he, hb⟩ => ⟨he, hS.1.low hb, hS.2.trans (hb.mono hS.2.size)⟩) ?_ ?_
  rotate_left 1
  · go_simp
  · go_simp
    exact rfl
  refine steady_val (.agg x) ?_ (by kernel_rfl) (fun W hS => exec_load_row _ _ rfl _ rfl _ _ _ hS.1 Tryd.underlying25 rfl HI.out) ?_ ?_
  rotate_left 1
  · go_simp
    exact rfl
  refine steady_enter (.int .i64 c) 12 #[.agg x] ?_ (by kernel_rfl) (fun W hS => ?_) (fun W hS => (HKR.out W).mono fun e W' ⟨he, hb⟩ => ⟨he, hS.1.low hb, hS.2.trans (hb.mono hS.2.size)⟩) ?_ ?_
  rotate_left 1
  · go_simp
  · go_simp
    exact rfl
  iterate 3
    refine steady_val ?_ ?_ (by kernel_rfl) (fun W hS => ?_) ?_ ?_
    rotate_left 2
    · go_simp
      exact rfl
    · go_simp
      exact rfl
  refine steady_enter (.bool true) 8 #[] ?_ (by kernel_rfl) (fun W hS => ?_) (fun W hS => (live3_c W (HV.out.low hS.2)).mono fun e W' ⟨he, hb⟩ => ⟨he, hS.1.low hb, hS.2.trans (hb.mono hS.2.size)⟩) ?_ ?_
  rotate_left 1
  · go_simp
  · go_simp
    exact rfl
  iterate 2
    refine steady_val ?_ ?_ (by kernel_rfl) (fun W hS => ?_) ?_ ?_
    rotate_left 2
    · go_simp
      exact rfl
    · go_simp
      exact rfl
  refine steady_nil ?_
  rintro W ⟨-, qB⟩
  have HB := Lib.hid qB
  clear qB
  go_wp2_with fail
  go_ret
  exact ⟨rfl, HB.out⟩

set_option maxRecDepth 100000 in
theorem enc3_lifted (os : Os) (started : os.Started) (H : Type) (enc : TypeId × Value → H) :
    ReturnsInHanded {} Tryd.checked os 4 .any (fun w args => (Rows.insnEncodesSpec.pre enc Tryd.prog Tryd.f4 [] false w args ∧ laidMetH Tryd.prog laid2 w) ∧ sizedMet enc Tryd.prog Tryd.f4 (OpenSpec.ofChange Rows.insnEncodesSpec) false w args)
      (Rows.insnEncodesSpec.post enc Tryd.prog Tryd.f4 false true false false) := by
  refine returnsInHanded_of_change_and (C := Tryd.checked) (X := fun w _ => laidMetH Tryd.prog laid2 w) (fun _ _ _ hh h => h.of_heap hh) own started (by kernel_rfl) Tryd.func4
    (ChangeSpec.witness_shaped (enc := enc) (C := Tryd.checked) (os := os) (X := fun w _ => laidMetH Tryd.prog laid2 w) false (World.doorLaid Tryd.prog 400 os) #[.agg #[.int .i64 0, .int .i64 0, .int .i64 0, .int .i64 0, .int .i64 0, .int .i64 0, .bool false, .bool false]] 8 rfl (World.shaped_of_RefB (by kernel_rfl) (by kernel_rfl)) (by kernel_rfl) (by kernel_rfl) (by kernel_rfl) (door_met os _)) ?_
  intro W base args ds gs before hval0 hW _ _ hL _
  have hval : ∀ (j : Nat) t v, Tryd.f4.params[j]? = some t → args[j]? = some v → Value.okWide Tryd.prog W .any base t v := hval0
  have hW' := hW
  obtain ⟨p, q, hA0, hV, rfl, hfz, hnd⟩ := hW
  have hA : DataW.TrodAll enc Tryd.prog W 0 (fun _ => true) true Tryd.f4.params.toList args.toList ds p := hA0
  rw [Tryd.params4] at hA hval
  obtain ⟨v0, vs0, d0, ds0, p0, q0, hargs, rfl, rfl, h0, r0⟩ := trodAll_cons hA
  obtain ⟨rfl, rfl, rfl⟩ := trodAll_nil r0
  obtain rfl : args = #[v0] := by cases args; simp_all
  obtain ⟨rfl, rfl⟩ := trodVars_none hV
  have k0 := h0
  have lt0 : ∀ x ∈ p0, x.block < W.heap.size := by obtain ⟨m, hm⟩ := k0; exact DataW.trod_lt m _ _ _ hm
  obtain ⟨x0, x1, x2, x3, x4, x5, x6, x7, rfl, wx⟩ := open_insn (hval 0 25 v0 rfl rfl) h0
  have hvv := of_laid hL
  clear hA0 hval0
  refine (enc3_walk x0 x1 x2 x3 x4 x5 x6 x7 wx W hvv).mono fun e W' ⟨he, bel⟩ => ?_
  subst he
  exact ⟨_, rfl, _, _, _, [], _, [], hW', trodAll_mk1 (shut_bool Tryd.underlying4 _), (trodAll_cons_mk (Below.trod laidOut (by kernel_rfl) (of_decide_eq_true (by kernel_rfl)) k0 bel lt0) trodAll_mk0), rfl, bel.frame _, fun h => by cases h⟩

theorem enc3_over : Rows.insnEncodesRow.holds Tryd.pinned (OpenSpec.ofChange Rows.insnEncodesSpec) :=
  OpenClaim.holds_of_wide 4 Tryd.f4 rfl rfl rfl rfl rfl rfl rfl ⟨rfl, rfl, rfl, rfl, rfl⟩ rfl rfl rfl rfl rfl (by kernel_rfl) Tryd.func4 (by kernel_rfl)
    (of_decide_eq_true (by kernel_rfl)) (by unfold Func.isWrapper; first | (rw [if_pos (by decide +kernel)]; kernel_rfl) | (rw [if_neg (by decide +kernel)]; exact ⟨rfl, rfl⟩))
    (fun os started H enc _ => enc3_lifted os started H enc)

theorem enc3_said : Rows.InsnEncodesCardSaid :=
  Claim7.holds_tied_plain_at .later [] [.data, .data] true Rows.insnEncodesCard.stood.harness false
    enc3_over (fun _ h => by cases h) (by kernel_rfl) (fun _ h => by cases h) insnEncodes_row_tie rfl ⟨rfl, rfl⟩ (by kernel_rfl) rfl
    (fun f fn hf hfn => by
      obtain rfl : f = 4 := Option.some.inj ((show Tryd.prog.funcNamed "roebuck/roebucklaw03.InsnEncodes" = some 4 by kernel_rfl).symm.trans hf) |>.symm
      obtain rfl : fn = Tryd.f4 := (Option.some.inj (Tryd.func4.symm.trans hfn)).symm
      exact ⟨by kernel_rfl, fun j t ht => by
        rw [Tryd.params4] at ht
        have hm : t ∈ [25] := by simpa using Array.mem_of_getElem? ht
        have hall : ([25].all fun u => !Tryd.prog.wantsStandIn u) = true := by kernel_rfl
        exact (show Tryd.prog.wantsStandIn t = false by simpa using List.all_eq_true.1 hall t hm)⟩)
    (by kernel_rfl)
end Go.Proofs.YteknlcigfjdmdaaDoor
