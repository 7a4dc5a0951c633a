/-
  The statement AsmParses (P6.2), tied card: for every line, roebucklaw06.AsmParses returns true and its argument reads afterwards as before. Condition: the listed variables hold what the program's text lays (the card ties them; unicode/utf8.first is pinned).
-/
import Derived.Test.YthehcplogkgkeaaGreatDoorQz
import Derived.Test.YthehcplogkgkeaaGreatDoorRb
import Derived.Test.YthehcplogkgkeaaGreatDoorTie
import Derived.Test.YthehcplogkgkeaaGreatDoorCards
import Derived.SevenTiedAt
import Derived.ChangeMaps5
set_option maxRecDepth 4000
namespace Go.Proofs.YthehcplogkgkeaaGreatDoor
open Go.ChangeShapes Go.WideShapes Go.ChangeAt Go.RowKit Go.ChangeMaps Wd Num Wds

theorem of_laidP {W : World} (h : laidMetH Tryz.prog laidA W) (hs : W.ShapedOpen Tryz.prog) : Mem6 W := ⟨(of_laidA h).1, (of_laidA h).2, max_of hs⟩
theorem retV_is (r : Except Int Fl) : ∃ (y : Fl) (n : Int), retV r = .tuple #[.agg (flA y), .int .i64 n] := by
  cases r with
  | ok x => exact ⟨x, 0, rfl⟩
  | error e => exact ⟨zeroX, e, rfl⟩
set_option maxHeartbeats 4000000 in
theorem parses_in (l : List UInt8) (y : Fl) (n : Int) (w : World) (hm : Mem6 w) (hl : ¬ 300 < (bs6 l).size) (hv : retV (refE l) = .tuple #[.agg (flA y), .int .i64 n]) :
    Calls Tryz.prog 4 #[.string (bs6 l)] w fun e w' => e = .returned (.bool true) ∧ Below w.heap.size w w' := by
  have el : decide (300 < ((bs6 l).size : Int)) = false := by simp; omega
  have HM := Lib.hid hm
  have HP := Lib.hid (show Calls Tryz.prog 12 #[.string (bs6 l)] w fun e w' => e = .returned (.tuple #[.agg (flA y), .int .i64 n]) ∧ Below w.heap.size w w' by
    rw [← hv, ← show parseV (bs6 l) = retV (refE l) from parse_ref (bs6 l)]
    exact parse_c _ w (by omega) hm.max hm.ok hm.errs)
  have HR := Lib.hid (fun W => (show Calls Tryz.prog 13 #[.string (bs6 l)] W fun e w' => e = .returned (.tuple #[.agg (flA y), .int .i64 n]) ∧ Below W.heap.size W w' by
    rw [← hv]
    exact refParse_c l (by rw [bs6_size] at hl; omega) W))
  clear hm hl hv
  generalize bs6 l = S at *
  go_enter Tryz.func4, Tryz.ntmps4
  go_wp2_with fail
  refine HP.out.mono ?_
  rintro e w1 ⟨rfl, hb⟩
  have HB1 := Lib.hid hb
  have HI2 := Lib.hid (CsAt.row (CsAt.new w1 24 zeroI) (flA y))
  have HB2 := Lib.hid (below_setRow (HB1.out.alloc HB1.out.size (.cells zeroI 24)) HB1.out.size (flA y))
  clear hb HP
  go_upto_region 4 with (refine wpList_store_row rfl 24 _ _ rfl w1.heap.size (flA y) rfl rfl 24 zeroI (CsAt.new w1 24 zeroI) info_ins rfl (by kernel_rfl) ?_)
  generalize (w1.alloc (.cells zeroI 24)).setRow w1.heap.size (flA y) = w2 at *
  generalize w1.heap.size = b1 at *
  clear HB1
  go_wp2_with fail
  refine (HR.out _).mono ?_
  rintro e w3 ⟨rfl, hb⟩
  have HB3 := Lib.hid (HB2.out.trans (hb.mono HB2.out.size))
  have HI3 := Lib.hid (HI2.out.low hb)
  clear hb HR HB2 HI2
  have HI4 := Lib.hid (CsAt.rowFar (HI3.out.alloc (.cells zeroI 24)) (show b1 ≠ w3.heap.size by have := lt_cell (HI3.out.cell 0); omega) (flA y))
  have HI5 := Lib.hid (CsAt.row (CsAt.new w3 24 zeroI) (flA y))
  have HB5 := Lib.hid (below_setRow (HB3.out.alloc HB3.out.size (.cells zeroI 24)) HB3.out.size (flA y))
  go_upto_region 5 with (refine wpList_store_row rfl 24 _ _ rfl w3.heap.size (flA y) rfl rfl 24 zeroI (CsAt.new w3 24 zeroI) info_ins rfl (by kernel_rfl) ?_)
  generalize (w3.alloc (.cells zeroI 24)).setRow w3.heap.size (flA y) = w4 at *
  generalize w3.heap.size = b3 at *
  have c0 : w4.cell? ⟨b1, 0, none⟩ = some (.int .i64 y.op) := HI4.out.cell 0
  have c1 : w4.cell? ⟨b1, 1, none⟩ = some (.int .i64 y.rd) := HI4.out.cell 1
  have c2 : w4.cell? ⟨b1, 2, none⟩ = some (.int .i64 y.rs1) := HI4.out.cell 2
  have c3 : w4.cell? ⟨b1, 3, none⟩ = some (.int .i64 y.rs2) := HI4.out.cell 3
  have c4 : w4.cell? ⟨b1, 4, none⟩ = some (.int .i64 y.imm) := HI4.out.cell 4
  have c5 : w4.cell? ⟨b1, 5, none⟩ = some (.int .i64 y.csr) := HI4.out.cell 5
  have c6 : w4.cell? ⟨b1, 6, none⟩ = some (.bool y.aq) := HI4.out.cell 6
  have c7 : w4.cell? ⟨b1, 7, none⟩ = some (.bool y.rl) := HI4.out.cell 7
  have d0 : w4.cell? ⟨b3, 0, none⟩ = some (.int .i64 y.op) := HI5.out.cell 0
  have d1 : w4.cell? ⟨b3, 1, none⟩ = some (.int .i64 y.rd) := HI5.out.cell 1
  have d2 : w4.cell? ⟨b3, 2, none⟩ = some (.int .i64 y.rs1) := HI5.out.cell 2
  have d3 : w4.cell? ⟨b3, 3, none⟩ = some (.int .i64 y.rs2) := HI5.out.cell 3
  have d4 : w4.cell? ⟨b3, 4, none⟩ = some (.int .i64 y.imm) := HI5.out.cell 4
  have d5 : w4.cell? ⟨b3, 5, none⟩ = some (.int .i64 y.csr) := HI5.out.cell 5
  have d6 : w4.cell? ⟨b3, 6, none⟩ = some (.bool y.aq) := HI5.out.cell 6
  have d7 : w4.cell? ⟨b3, 7, none⟩ = some (.bool y.rl) := HI5.out.cell 7
  go_wp2_with fail
  refine (live6_c _ (HM.out.low HB5.out)).mono ?_
  rintro e w5 ⟨rfl, hb⟩
  have HB6 := Lib.hid (HB5.out.trans (hb.mono HB5.out.size))
  clear hb
  go_wp2_with fail
  go_ret
  exact ⟨rfl, HB6.out⟩
set_option maxHeartbeats 400000 in
theorem asmp_walk (s : ByteArray) (_hs : s.size ≤ maxLen) (w : World) (hm : Mem6 w) : Calls Tryz.prog 4 #[.string s] w fun e w' => e = .returned (.bool true) ∧ Below w.heap.size w w' := by
  by_cases hl : 300 < s.size
  · have el : decide (300 < (s.size : Int)) = true := by simp; omega
    have HM := Lib.hid hm
    clear hm
    unfold maxLen at _hs
    go_enter Tryz.func4, Tryz.ntmps4
    go_wp2_with fail
    refine (live6_c _ HM.out).mono ?_
    rintro e w2 ⟨rfl, hb⟩
    have HB5 := Lib.hid hb
    clear hb
    go_wp2_with fail
    go_ret
    exact ⟨rfl, HB5.out⟩
  · have e6 := bs6_self s
    obtain ⟨y, n, hv⟩ := retV_is (refE s.data.toList)
    exact e6 ▸ parses_in s.data.toList y n w hm (by rw [e6]; exact hl) hv

set_option maxRecDepth 100000 in
theorem asmp_lifted (os : Os) (started : os.Started) (H : Type) (enc : TypeId × Value → H) :
    ReturnsInHanded {} Tryz.checked os 4 .any (fun w args => (Rows.asmParsesSpec.pre enc Tryz.prog Tryz.f4 [] false w args ∧ laidMetH Tryz.prog laidA w) ∧ sizedMet enc Tryz.prog Tryz.f4 (OpenSpec.ofChange Rows.asmParsesSpec) false w args)
      (Rows.asmParsesSpec.post enc Tryz.prog Tryz.f4 false true false false) := by
  refine returns_and_shaped (C := Tryz.checked) (X := fun w _ => laidMetH Tryz.prog laidA w) (fun _ _ _ hh h => h.of_heap hh) own started (by kernel_rfl) Tryz.func4
    (ChangeSpec.witness_shaped (enc := enc) (C := Tryz.checked) (os := os) (X := fun w _ => laidMetH Tryz.prog laidA w) false ((World.doorLaid Tryz.prog 400 os).setRow 10 firstC) #[.string ⟨#[]⟩] 8 rfl (World.shaped_of_RefB (by kernel_rfl) (by kernel_rfl)) (by kernel_rfl) (by kernel_rfl) (by kernel_rfl) (doorA_met os _)) ?_
  intro W base args ds gs before hval0 hW _ hL hsh
  have hval : ∀ (j : Nat) t v, Tryz.f4.params[j]? = some t → args[j]? = some v → Value.okWide Tryz.prog W .any base t v := hval0
  have hW' := hW
  obtain ⟨p, q, hA0, hV, rfl, hfz, hnd⟩ := hW
  have hA : DataW.TrodAll enc Tryz.prog W 0 (fun _ => true) true Tryz.f4.params.toList args.toList ds p := hA0
  rw [Tryz.params4] at hA hval
  obtain ⟨v0, vs0, d0, ds0, p0, q0, hargs, rfl, rfl, h0, r0⟩ := trodAll_cons hA
  obtain ⟨rfl, rfl, rfl⟩ := trodAll_nil r0
  obtain rfl : args = #[v0] := by cases args; simp_all
  obtain ⟨rfl, rfl⟩ := trodVars_none hV
  obtain ⟨a0, rfl, rfl, rfl, w0⟩ := open_string Tryz.underlying9 (hval 0 9 v0 rfl rfl) h0
  have hvv := of_laidP hL hsh
  clear hA0 hval0
  refine (asmp_walk a0 w0 W hvv).mono fun e W' ⟨he, bel⟩ => ?_
  subst he
  exact ⟨_, rfl, _, _, _, [], _, [], hW', trodAll_mk1 (shut_bool Tryz.underlying4 _), (trodAll_cons_mk (shut_string Tryz.underlying9 w0) trodAll_mk0), rfl, bel.frame _, fun h => by cases h⟩

theorem asmp_over : Rows.asmParsesRow.holds Tryz.pinned (OpenSpec.ofChange Rows.asmParsesSpec) :=
  OpenClaim.holds_of_wide 4 Tryz.f4 rfl rfl rfl rfl rfl rfl rfl ⟨rfl, rfl, rfl, rfl, rfl⟩ rfl rfl rfl rfl rfl (by kernel_rfl) Tryz.func4 (by kernel_rfl)
    (of_decide_eq_true (by kernel_rfl)) (by unfold Func.isWrapper; first | (rw [if_pos (by decide +kernel)]; kernel_rfl) | (rw [if_neg (by decide +kernel)]; exact ⟨rfl, rfl⟩))
    (fun os started H enc _ => asmp_lifted os started H enc)

theorem asmp_said : Rows.AsmParsesCardSaid :=
  Claim7.holds_tied_plain_at .later [] [.data, .data, .data, .data, .data, .sentinel, .sentinel, .data, .data, .pinned] true Rows.asmParsesCard.stood.harness Rows.asmParsesCard.stood.looks
    asmp_over (fun _ h => by cases h) (by kernel_rfl) (fun _ h => by cases h) asmParses_row_tie rfl ⟨rfl, rfl⟩ (by kernel_rfl) rfl
    (fun f fn hf hfn => by
      obtain rfl : f = 4 := Option.some.inj ((show Tryz.prog.funcNamed "roebuck/roebucklaw06.AsmParses" = some 4 by kernel_rfl).symm.trans hf) |>.symm
      obtain rfl : fn = Tryz.f4 := (Option.some.inj (Tryz.func4.symm.trans hfn)).symm
      exact ⟨by kernel_rfl, fun j t ht => by
        rw [Tryz.params4] at ht
        have hm : t ∈ [9] := by simpa using Array.mem_of_getElem? ht
        have hall : ([9].all fun u => !Tryz.prog.wantsStandIn u) = true := by kernel_rfl
        exact (show Tryz.prog.wantsStandIn t = false by simpa using List.all_eq_true.1 hall t hm)⟩)
    (by kernel_rfl)
end Go.Proofs.YthehcplogkgkeaaGreatDoor
