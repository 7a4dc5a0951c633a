/-
  The statement InsnDecodes (P3.2), tied card: for every word, roebucklaw03.InsnDecodes returns true and its argument reads afterwards as before. Condition: insn.values and insn.fields hold what the program's text lays (the card ties it).
-/
import Derived.Test.YteknlcigfjdmdaaDoorRefDec
import Derived.Test.YteknlcigfjdmdaaDoorTie
import Derived.Test.YteknlcigfjdmdaaDoorCards
import Derived.SevenTiedAt
namespace Go.Proofs.YteknlcigfjdmdaaDoor
open Go.ChangeShapes Go.WideShapes Go.ChangeAt Go.RowKit Wd

theorem dec_any (X : Nat) (hX : X < 4294967296) : ∃ (e0 e1 e2 e3 e4 e5 : Int) (e6 e7 b : Bool), decV X = .tuple #[.agg (insV e0 e1 e2 e3 e4 e5 e6 e7), .bool b] := by
  rcases dec_shape X hX with hd | ⟨e0, e1, e2, e3, e4, e5, e6, e7, hd, -, -⟩
  · exact ⟨0, 0, 0, 0, 0, 0, false, false, false, hd⟩
  · exact ⟨e0, e1, e2, e3, e4, e5, e6, e7, true, hd⟩
theorem zero8 : (#[.int .i64 0, .int .i64 0, .int .i64 0, .int .i64 0, .int .i64 0, .int .i64 0, .bool false, .bool false] : Array Value).size = 8 := rfl
set_option maxHeartbeats 4000000 in
theorem dec3_walk (x : Int) (hx : 0 ≤ x ∧ x ≤ 4294967295) (w : World) (hv : VarsAt w) :
    Calls Tryd.prog 3 #[.int .u32 x] w fun e w' => e = .returned (.bool true) ∧ Below w.heap.size w w' := by
  obtain ⟨X, rfl⟩ := Int.eq_ofNat_of_zero_le hx.1
  have hX : X < 4294967296 := by omega
  obtain ⟨e0, e1, e2, e3, e4, e5, e6, e7, b, hd⟩ := dec_any X hX
  have HD := Lib.hid hd
  have HV := Lib.hid hv
  have HX := Lib.hid hX
  have HRD := Lib.hid (fun w' => refDecode_c X hX w')
  have HDC := Lib.hid (fun w' (h : VarsAt w') => decode_c X hX w' h)
  have hz1 : (X : Int) ≤ 4294967295 := by omega
  clear hd hv hx hX
  go_enter Tryd.func3, Tryd.ntmps3
  go_wp2_with fail
  refine (HDC.out _ HV.out).mono ?_
  rintro e w1 ⟨rfl, hb⟩
  have HB1 := Lib.hid hb
  clear hb
  rw [HD.out]
  go_upto_region 2 with (refine wpList_storeNew rfl 25 _ _ rfl _ _ _ rfl rfl (insI e0 e1 e2 e3 e4 e5 e6 e7) rfl (insV_one e0 e1 e2 e3 e4 e5 e6 e7) ?_)
  have hx2 := CsAt.new w1 25 (insV e0 e1 e2 e3 e4 e5 e6 e7)
  have hb2 := HB1.out.alloc HB1.out.size (.cells (insV e0 e1 e2 e3 e4 e5 e6 e7) 25)
  generalize w1.alloc (.cells (insV e0 e1 e2 e3 e4 e5 e6 e7) 25) = w2 at *
  have HX2 := Lib.hid hx2
  have HB2 := Lib.hid hb2
  clear hx2 hb2 HB1
  go_wp2_with fail
  refine (HRD.out _).mono ?_
  rintro e w3 ⟨rfl, hb⟩
  have HX3 := Lib.hid (HX2.out.low hb)
  have HB3 := Lib.hid (HB2.out.trans (hb.mono HB2.out.size))
  clear hb HX2 HB2
  rw [HD.out]
  go_upto_region 3 with (refine wpList_storeNew rfl 25 _ _ rfl _ _ _ rfl rfl (insI e0 e1 e2 e3 e4 e5 e6 e7) rfl (insV_one e0 e1 e2 e3 e4 e5 e6 e7) ?_)
  have hx4 := HX3.out.alloc (.cells (insV e0 e1 e2 e3 e4 e5 e6 e7) 25)
  have hy4 := CsAt.new w3 25 (insV e0 e1 e2 e3 e4 e5 e6 e7)
  have hb4 := HB3.out.alloc HB3.out.size (.cells (insV e0 e1 e2 e3 e4 e5 e6 e7) 25)
  generalize w3.alloc (.cells (insV e0 e1 e2 e3 e4 e5 e6 e7) 25) = w4 at *
  have HB4 := Lib.hid hb4
  obtain ⟨y0, y1, y2, y3, y4, y5, y6, y7⟩ := ins_cells hx4
  obtain ⟨c0, c1, c2, c3, c4, c5, c6, c7⟩ := ins_cells hy4
  clear hx4 hy4 hb4 HX3 HB3
  go_wp2_with fail
  refine (live3_c _ (HV.out.low HB4.out)).mono ?_
  rintro e w5 ⟨rfl, hb⟩
  have HB5 := Lib.hid (HB4.out.trans (hb.mono HB4.out.size))
  clear hb
  go_wp2_with fail
  go_ret
  exact ⟨rfl, HB5.out⟩

set_option maxRecDepth 100000 in
theorem dec3_lifted (os : Os) (started : os.Started) (H : Type) (enc : TypeId × Value → H) :
    ReturnsInHanded {} Tryd.checked os 3 .any (fun w args => (Rows.insnDecodesSpec.pre enc Tryd.prog Tryd.f3 [] false w args ∧ laidMetH Tryd.prog laid2 w) ∧ sizedMet enc Tryd.prog Tryd.f3 (OpenSpec.ofChange Rows.insnDecodesSpec) false w args)
      (Rows.insnDecodesSpec.post enc Tryd.prog Tryd.f3 false true false false) := by
  refine returnsInHanded_of_change_and (C := Tryd.checked) (X := fun w _ => laidMetH Tryd.prog laid2 w) (fun _ _ _ hh h => h.of_heap hh) own started (by kernel_rfl) Tryd.func3
    (ChangeSpec.witness_shaped (enc := enc) (C := Tryd.checked) (os := os) (X := fun w _ => laidMetH Tryd.prog laid2 w) false (World.doorLaid Tryd.prog 400 os) #[.int .u32 0] 8 rfl (World.shaped_of_RefB (by kernel_rfl) (by kernel_rfl)) (by kernel_rfl) (by kernel_rfl) (by kernel_rfl) (door_met os _)) ?_
  intro W base args ds gs before hval0 hW _ _ hL _
  have hval : ∀ (j : Nat) t v, Tryd.f3.params[j]? = some t → args[j]? = some v → Value.okWide Tryd.prog W .any base t v := hval0
  have hW' := hW
  obtain ⟨p, q, hA0, hV, rfl, hfz, hnd⟩ := hW
  have hA : DataW.TrodAll enc Tryd.prog W 0 (fun _ => true) true Tryd.f3.params.toList args.toList ds p := hA0
  rw [Tryd.params3] at hA hval
  obtain ⟨v0, vs0, d0, ds0, p0, q0, hargs, rfl, rfl, h0, r0⟩ := trodAll_cons hA
  obtain ⟨rfl, rfl, rfl⟩ := trodAll_nil r0
  obtain rfl : args = #[v0] := by cases args; simp_all
  obtain ⟨rfl, rfl⟩ := trodVars_none hV
  obtain ⟨a0, rfl, rfl, rfl, w0⟩ := open_int Tryd.underlying22 (hval 0 22 v0 rfl rfl) h0
  have hvv := of_laid hL
  clear hA0 hval0
  refine (dec3_walk a0 (bounds_u32 w0) W hvv).mono fun e W' ⟨he, bel⟩ => ?_
  subst he
  exact ⟨_, rfl, _, _, _, [], _, [], hW', trodAll_mk1 (shut_bool Tryd.underlying4 _), (trodAll_cons_mk (shut_int Tryd.underlying22 w0) trodAll_mk0), rfl, bel.frame _, fun h => by cases h⟩

theorem dec3_over : Rows.insnDecodesRow.holds Tryd.pinned (OpenSpec.ofChange Rows.insnDecodesSpec) :=
  OpenClaim.holds_of_wide 3 Tryd.f3 rfl rfl rfl rfl rfl rfl rfl ⟨rfl, rfl, rfl, rfl, rfl⟩ rfl rfl rfl rfl rfl (by kernel_rfl) Tryd.func3 (by kernel_rfl)
    (of_decide_eq_true (by kernel_rfl)) (by unfold Func.isWrapper; first | (rw [if_pos (by decide +kernel)]; kernel_rfl) | (rw [if_neg (by decide +kernel)]; exact ⟨rfl, rfl⟩))
    (fun os started H enc _ => dec3_lifted os started H enc)

theorem dec3_said : Rows.InsnDecodesCardSaid :=
  Claim7.holds_tied_plain_at .later [] [.data, .data] true Rows.insnDecodesCard.stood.harness false
    dec3_over (fun _ h => by cases h) (by kernel_rfl) (fun _ h => by cases h) insnDecodes_row_tie rfl ⟨rfl, rfl⟩ (by kernel_rfl) rfl
    (fun f fn hf hfn => by
      obtain rfl : f = 3 := Option.some.inj ((show Tryd.prog.funcNamed "roebuck/roebucklaw03.InsnDecodes" = some 3 by kernel_rfl).symm.trans hf) |>.symm
      obtain rfl : fn = Tryd.f3 := (Option.some.inj (Tryd.func3.symm.trans hfn)).symm
      exact ⟨by kernel_rfl, fun j t ht => by
        rw [Tryd.params3] at ht
        have hm : t ∈ [22] := by simpa using Array.mem_of_getElem? ht
        have hall : ([22].all fun u => !Tryd.prog.wantsStandIn u) = true := by kernel_rfl
        exact (show Tryd.prog.wantsStandIn t = false by simpa using List.all_eq_true.1 hall t hm)⟩)
    (by kernel_rfl)
end Go.Proofs.YteknlcigfjdmdaaDoor
