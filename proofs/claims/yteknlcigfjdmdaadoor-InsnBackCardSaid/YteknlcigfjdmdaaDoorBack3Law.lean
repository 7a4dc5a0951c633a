/-
  The statement InsnBack (P3.4), tied card: for every word and instruction, roebucklaw03.InsnBack returns true and its arguments read afterwards as before. Condition: insn.values and insn.fields hold what the program's text lays (the card ties it).
-/
import Derived.Test.YteknlcigfjdmdaaDoorBkC
import Derived.Test.YteknlcigfjdmdaaDoorTie
import Derived.Test.YteknlcigfjdmdaaDoorCards
import Derived.SevenTiedAt
namespace Go.Proofs.YteknlcigfjdmdaaDoor
open Go.ChangeShapes Go.WideShapes Go.ChangeAt Go.RowKit Wd

theorem eight_ins (op rd rs1 rs2 imm csr : Int) (aq rl : Bool) : Eight (insV op rd rs1 rs2 imm csr aq rl) := ⟨insV_one _ _ _ _ _ _ _ _, rfl⟩
/-- How Decode answers, and that what it answers is encoded as it was. -/
theorem dec_is (X : Nat) (hX : X < 4294967296) : ∃ (y : Array Value) (b : Bool), Eight y ∧ DecIs X y b ∧ (b = true → EncIs y X 0) := by
  rcases dec_shape X hX with hd | ⟨e0, e1, e2, e3, e4, e5, e6, e7, hd, hk, he⟩
  · exact ⟨insV 0 0 0 0 0 0 false false, false, eight_ins _ _ _ _ _ _ _ _, hd, fun h => by cases h⟩
  · exact ⟨insV e0 e1 e2 e3 e4 e5 e6 e7, true, eight_ins _ _ _ _ _ _ _ _, hd, fun _ w' hw => by rw [← he]; exact encode_yes e0 e1 e2 e3 e4 e5 e6 e7 w' hw hk⟩
theorem back3_walk (x : Int) (op rd rs1 rs2 imm csr : Int) (aq rl : Bool) (hx : 0 ≤ x ∧ x ≤ 4294967295) (_h : True) (w : World) (hv : VarsAt w) :
    Calls Tryd.prog 5 #[.int .u32 x, .agg #[.int .i64 op, .int .i64 rd, .int .i64 rs1, .int .i64 rs2, .int .i64 imm, .int .i64 csr, .bool aq, .bool rl]] w fun e w' => e = .returned (.bool true) ∧ Below w.heap.size w w' := by
  obtain ⟨X, rfl⟩ := Int.eq_ofNat_of_zero_le hx.1
  have hX : X < 4294967296 := by omega
  obtain ⟨y, b, h8, hd, he⟩ := dec_is X hX
  by_cases hc : checkS op rd rs1 rs2 imm csr aq rl = 0
  · obtain ⟨⟨o1, o2⟩, -, -, -⟩ := check_ok hc
    obtain ⟨k, rfl⟩ : ∃ k : Nat, op = (k : Int) := ⟨op.toNat, by omega⟩
    obtain ⟨V, hVl, hVe, hVd⟩ := dec_of_enc k (by omega) (by omega) rd rs1 rs2 imm csr aq rl hc
    exact back_y X V hX hVl (k : Int) rd rs1 rs2 imm csr aq rl _ y rfl b w hv (eight_ins _ _ _ _ _ _ _ _) h8 hd he (fun w' hw => by rw [← hVe]; exact encode_yes (k : Int) rd rs1 rs2 imm csr aq rl w' hw hc) hVd
  · exact back_n X hX _ y b (checkS op rd rs1 rs2 imm csr aq rl) w hv (eight_ins op rd rs1 rs2 imm csr aq rl) h8 hd he (fun w' hw => encode_no op rd rs1 rs2 imm csr aq rl w' hw hc) (by simpa using hc)

set_option maxRecDepth 100000 in
theorem back3_lifted (os : Os) (started : os.Started) (H : Type) (enc : TypeId × Value → H) :
    ReturnsInHanded {} Tryd.checked os 5 .any (fun w args => (Rows.insnBackSpec.pre enc Tryd.prog Tryd.f5 [] false w args ∧ laidMetH Tryd.prog laid2 w) ∧ sizedMet enc Tryd.prog Tryd.f5 (OpenSpec.ofChange Rows.insnBackSpec) false w args)
      (Rows.insnBackSpec.post enc Tryd.prog Tryd.f5 false true false false) := by
  refine returnsInHanded_of_change_and (C := Tryd.checked) (X := fun w _ => laidMetH Tryd.prog laid2 w) (fun _ _ _ hh h => h.of_heap hh) own started (by kernel_rfl) Tryd.func5
    (ChangeSpec.witness_shaped (enc := enc) (C := Tryd.checked) (os := os) (X := fun w _ => laidMetH Tryd.prog laid2 w) false (World.doorLaid Tryd.prog 400 os) #[.int .u32 0, .agg #[.int .i64 0, .int .i64 0, .int .i64 0, .int .i64 0, .int .i64 0, .int .i64 0, .bool false, .bool false]] 8 rfl (World.shaped_of_RefB (by kernel_rfl) (by kernel_rfl)) (by kernel_rfl) (by kernel_rfl) (by kernel_rfl) (door_met os _)) ?_
  intro W base args ds gs before hval0 hW _ _ hL _
  have hval : ∀ (j : Nat) t v, Tryd.f5.params[j]? = some t → args[j]? = some v → Value.okWide Tryd.prog W .any base t v := hval0
  have hW' := hW
  obtain ⟨p, q, hA0, hV, rfl, hfz, hnd⟩ := hW
  have hA : DataW.TrodAll enc Tryd.prog W 0 (fun _ => true) true Tryd.f5.params.toList args.toList ds p := hA0
  rw [Tryd.params5] at hA hval
  obtain ⟨v0, vs0, d0, ds0, p0, q0, hargs, rfl, rfl, h0, r0⟩ := trodAll_cons hA
  obtain ⟨v1, vs1, d1, ds1, p1, q1, rfl, rfl, rfl, h1, r1⟩ := trodAll_cons r0
  obtain ⟨rfl, rfl, rfl⟩ := trodAll_nil r1
  obtain rfl : args = #[v0, v1] := by cases args; simp_all
  obtain ⟨rfl, rfl⟩ := trodVars_none hV
  obtain ⟨a0, rfl, rfl, rfl, w0⟩ := open_int Tryd.underlying22 (hval 0 22 v0 rfl rfl) h0
  have k1 := h1
  have lt1 : ∀ x ∈ p1, x.block < W.heap.size := by obtain ⟨m, hm⟩ := k1; exact DataW.trod_lt m _ _ _ hm
  obtain ⟨x0, x1, x2, x3, x4, x5, x6, x7, rfl, wx⟩ := open_insn (hval 1 25 v1 rfl rfl) h1
  have hvv := of_laid hL
  clear hA0 hval0
  refine (back3_walk a0 x0 x1 x2 x3 x4 x5 x6 x7 (bounds_u32 w0) wx W hvv).mono fun e W' ⟨he, bel⟩ => ?_
  subst he
  exact ⟨_, rfl, _, _, _, [], _, [], hW', trodAll_mk1 (shut_bool Tryd.underlying4 _), (trodAll_cons_mk (shut_int Tryd.underlying22 w0) (trodAll_cons_mk (Below.trod laidOut (by kernel_rfl) (of_decide_eq_true (by kernel_rfl)) k1 bel lt1) trodAll_mk0)), rfl, bel.frame _, fun h => by cases h⟩

theorem back3_over : Rows.insnBackRow.holds Tryd.pinned (OpenSpec.ofChange Rows.insnBackSpec) :=
  OpenClaim.holds_of_wide 5 Tryd.f5 rfl rfl rfl rfl rfl rfl rfl ⟨rfl, rfl, rfl, rfl, rfl⟩ rfl rfl rfl rfl rfl (by kernel_rfl) Tryd.func5 (by kernel_rfl)
    (of_decide_eq_true (by kernel_rfl)) (by unfold Func.isWrapper; first | (rw [if_pos (by decide +kernel)]; kernel_rfl) | (rw [if_neg (by decide +kernel)]; exact ⟨rfl, rfl⟩))
    (fun os started H enc _ => back3_lifted os started H enc)

theorem back3_said : Rows.InsnBackCardSaid :=
  Claim7.holds_tied_plain_at .later [] [.data, .data] true Rows.insnBackCard.stood.harness false
    back3_over (fun _ h => by cases h) (by kernel_rfl) (fun _ h => by cases h) insnBack_row_tie rfl ⟨rfl, rfl⟩ (by kernel_rfl) rfl
    (fun f fn hf hfn => by
      obtain rfl : f = 5 := Option.some.inj ((show Tryd.prog.funcNamed "roebuck/roebucklaw03.InsnBack" = some 5 by kernel_rfl).symm.trans hf) |>.symm
      obtain rfl : fn = Tryd.f5 := (Option.some.inj (Tryd.func5.symm.trans hfn)).symm
      exact ⟨by kernel_rfl, fun j t ht => by
        rw [Tryd.params5] at ht
        have hm : t ∈ [22, 25] := by simpa using Array.mem_of_getElem? ht
        have hall : ([22, 25].all fun u => !Tryd.prog.wantsStandIn u) = true := by kernel_rfl
        exact (show Tryd.prog.wantsStandIn t = false by simpa using List.all_eq_true.1 hall t hm)⟩)
    (by kernel_rfl)
end Go.Proofs.YteknlcigfjdmdaaDoor
