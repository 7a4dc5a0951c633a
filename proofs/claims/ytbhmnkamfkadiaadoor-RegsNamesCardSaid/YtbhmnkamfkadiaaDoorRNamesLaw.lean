/-
  The statement RegsNames (P5.2), tied card: for every number and text, roebucklaw05.RegsNames returns true and its arguments read afterwards as before. Condition: regs.names holds what the program's text lays (the card ties it).
-/
import Derived.Test.YtbhmnkamfkadiaaDoorOpen5
import Derived.Test.YtbhmnkamfkadiaaDoorTie
import Derived.Test.YtbhmnkamfkadiaaDoorCards
import Derived.SevenTiedAt
import Derived.ChangeMaps5
namespace Go.Proofs.YtbhmnkamfkadiaaDoor
open Go.ChangeShapes Go.WideShapes Go.ChangeAt Go.RowKit Go.ChangeMaps

theorem nm_self (k : Nat) : ((bsR (nmR k)).toList == (bsR (nmR k)).toList) = true := by simp
set_option maxHeartbeats 1000000 in
theorem rnames_in (i : Int) (s : ByteArray) (w : World) (hN : NamesAt w) (hl : ¬ 50 < s.size) : Calls Tryd.prog 3 #[.int .i64 i, .string s] w fun e w' => e = .returned (.bool true) ∧ Below w.heap.size w w' := by
  have el : decide (50 < (s.size : Int)) = false := by simp; omega
  have HN := Lib.hid hN
  clear hN
  have key : (∃ k : Nat, k < 32 ∧ findV s = .tuple #[.int .i64 k, .bool true] ∧ findI s = k) ∨ (findV s = .tuple #[.int .i64 0, .bool false] ∧ findI s = -1) := by
    cases hf : findR s with
    | none => exact .inr ⟨by simp only [findV, hf], by simp only [findI, hf]⟩
    | some k => exact .inl ⟨k, by simpa using List.mem_of_find?_eq_some hf, by simp only [findV, hf], by simp only [findI, hf]⟩
  by_cases hi : 0 ≤ i ∧ i < 32
  · have HM := Lib.hid (show nameR i = nmR i.toNat by unfold nameR; rw [if_pos hi])
    obtain ⟨j, rfl⟩ := Int.eq_ofNat_of_zero_le hi.1
    have hj : j < 32 := by omega
    have d1 : decide ((0 : Int) ≤ (j : Int)) = true := by simp
    have d2 : decide ((j : Int) < 32) = true := by simp; omega
    have hj2 : (j : Int) < 32 := by omega
    have hc := names_cell w j hj
    have HB0 := Lib.hid (show Below w.heap.size w (w.alloc (.cells (namesR.map strR).toArray 9)) from (Below.refl _ _).alloc (Nat.le_refl _) _)
    have es := nm_self j
    clear hi
    rcases key with ⟨k, hk, hV, hI⟩ | ⟨hV, hI⟩
    · have HV := Lib.hid hV
      have HI := Lib.hid hI
      have z1 : decide ((0 : Int) ≤ (k : Int)) = true := by simp
      clear hV hI
      go_enter Tryd.func3, Tryd.ntmps3
      go_wp2_with fail
      refine (refNames5_c _).mono ?_
      rintro e w1 ⟨rfl, rfl⟩
      generalize (w.alloc (.cells (namesR.map strR).toArray 9)) = w0 at *
      go_wp2_with fail
      refine (refFind_c _ _).mono ?_
      rintro e w1 ⟨rfl, hb⟩
      have HB1 := Lib.hid (HB0.out.trans (hb.mono HB0.out.size))
      clear hb
      rw [HI.out]
      go_wp2_with fail
      refine (rfind_c _ _ (HN.out.low HB1.out)).mono ?_
      rintro e w2 ⟨rfl, rfl⟩
      rw [HV.out]
      go_wp2_with fail
      refine (name_c _ _ (HN.out.low HB1.out)).mono ?_
      rintro e w2 ⟨rfl, rfl⟩
      rw [HM.out, Int.toNat_natCast]
      go_wp2_with fail
      refine (live5_c _ (HN.out.low HB1.out)).mono ?_
      rintro e w2 ⟨rfl, rfl⟩
      go_wp2_with fail
      go_ret
      exact ⟨rfl, HB1.out⟩
    · have HV := Lib.hid hV
      have HI := Lib.hid hI
      clear hV hI
      go_enter Tryd.func3, Tryd.ntmps3
      go_wp2_with fail
      refine (refNames5_c _).mono ?_
      rintro e w1 ⟨rfl, rfl⟩
      generalize (w.alloc (.cells (namesR.map strR).toArray 9)) = w0 at *
      go_wp2_with fail
      refine (refFind_c _ _).mono ?_
      rintro e w1 ⟨rfl, hb⟩
      have HB1 := Lib.hid (HB0.out.trans (hb.mono HB0.out.size))
      clear hb
      rw [HI.out]
      go_wp2_with fail
      refine (rfind_c _ _ (HN.out.low HB1.out)).mono ?_
      rintro e w2 ⟨rfl, rfl⟩
      rw [HV.out]
      go_wp2_with fail
      refine (name_c _ _ (HN.out.low HB1.out)).mono ?_
      rintro e w2 ⟨rfl, rfl⟩
      rw [HM.out, Int.toNat_natCast]
      go_wp2_with fail
      refine (live5_c _ (HN.out.low HB1.out)).mono ?_
      rintro e w2 ⟨rfl, rfl⟩
      go_wp2_with fail
      go_ret
      exact ⟨rfl, HB1.out⟩
  · have HM := Lib.hid (show nameR i = [] by unfold nameR; rw [if_neg hi])
    have es : (bsR []).toList.isEmpty = true := by decide +kernel
    have es2 : (bsR []).toList = [] := by decide +kernel
    have HB0 := Lib.hid (Below.refl w.heap.size w)
    have hd : (decide ((0 : Int) ≤ i) = false) ∨ (decide ((0 : Int) ≤ i) = true ∧ decide (i < 32) = false) := by
      by_cases h0 : 0 ≤ i
      · exact .inr ⟨by simpa using h0, by simp; omega⟩
      · exact .inl (by simpa using h0)
    clear hi
    rcases key with ⟨k, hk, hV, hI⟩ | ⟨hV, hI⟩ <;> rcases hd with d1 | ⟨d1, d2⟩
    all_goals
      have HV := Lib.hid hV
      have HI := Lib.hid hI
      clear hV hI
      go_enter Tryd.func3, Tryd.ntmps3
      go_wp2_with fail
      refine (refFind_c _ _).mono ?_
      rintro e w1 ⟨rfl, hb⟩
      have HB1 := Lib.hid (HB0.out.trans (hb.mono HB0.out.size))
      clear hb
      rw [HI.out]
      go_wp2_with fail
      refine (rfind_c _ _ (HN.out.low HB1.out)).mono ?_
      rintro e w2 ⟨rfl, rfl⟩
      rw [HV.out]
      go_wp2_with fail
      refine (name_c _ _ (HN.out.low HB1.out)).mono ?_
      rintro e w2 ⟨rfl, rfl⟩
      rw [HM.out]
      go_wp2_with fail
      refine (live5_c _ (HN.out.low HB1.out)).mono ?_
      rintro e w2 ⟨rfl, rfl⟩
      go_wp2_with fail
      go_ret
      exact ⟨rfl, HB1.out⟩
set_option maxHeartbeats 400000 in
theorem rnames_walk (i : Int) (s : ByteArray) (_hi : -9223372036854775808 ≤ i ∧ i ≤ 9223372036854775807) (_hs : s.size ≤ maxLen) (w : World) (hN : NamesAt w) : Calls Tryd.prog 3 #[.int .i64 i, .string s] w fun e w' => e = .returned (.bool true) ∧ Below w.heap.size w w' := by
  by_cases hl : 50 < s.size
  · have el : decide (50 < (s.size : Int)) = true := by simp; omega
    have HN := Lib.hid hN
    clear hN _hi
    unfold maxLen at _hs
    go_enter Tryd.func3, Tryd.ntmps3
    go_wp2_with fail
    refine (live5_c _ HN.out).mono ?_
    rintro e w2 ⟨rfl, rfl⟩
    go_wp2_with fail
    go_ret
    exact ⟨rfl, Below.refl _ _⟩
  · exact rnames_in i s w hN hl

set_option maxRecDepth 100000 in
theorem rnames_lifted (os : Os) (started : os.Started) (H : Type) (enc : TypeId × Value → H) :
    ReturnsInHanded {} Tryd.checked os 3 .any (fun w args => (Rows.regsNamesSpec.pre enc Tryd.prog Tryd.f3 [] false w args ∧ laidMetH Tryd.prog laid5 w) ∧ sizedMet enc Tryd.prog Tryd.f3 (OpenSpec.ofChange Rows.regsNamesSpec) false w args)
      (Rows.regsNamesSpec.post enc Tryd.prog Tryd.f3 false true false false) := by
  refine returnsInHanded_of_change_and (C := Tryd.checked) (X := fun w _ => laidMetH Tryd.prog laid5 w) (fun _ _ _ hh h => h.of_heap hh) own started (by kernel_rfl) Tryd.func3
    (ChangeSpec.witness_shaped (enc := enc) (C := Tryd.checked) (os := os) (X := fun w _ => laidMetH Tryd.prog laid5 w) false (World.doorLaid Tryd.prog 400 os) #[.int .i64 0, .string ⟨#[]⟩] 8 rfl (World.shaped_of_RefB (by kernel_rfl) (by kernel_rfl)) (by kernel_rfl) (by kernel_rfl) (by kernel_rfl) (door5_met os _)) ?_
  intro W base args ds gs before hval0 hW _ _ hL _
  have hval : ∀ (j : Nat) t v, Tryd.f3.params[j]? = some t → args[j]? = some v → Value.okWide Tryd.prog W .any base t v := hval0
  have hW' := hW
  obtain ⟨p, q, hA0, hV, rfl, hfz, hnd⟩ := hW
  have hA : DataW.TrodAll enc Tryd.prog W 0 (fun _ => true) true Tryd.f3.params.toList args.toList ds p := hA0
  rw [Tryd.params3] at hA hval
  obtain ⟨v0, vs0, d0, ds0, p0, q0, hargs, rfl, rfl, h0, r0⟩ := trodAll_cons hA
  obtain ⟨v1, vs1, d1, ds1, p1, q1, rfl, rfl, rfl, h1, r1⟩ := trodAll_cons r0
  obtain ⟨rfl, rfl, rfl⟩ := trodAll_nil r1
  obtain rfl : args = #[v0, v1] := by cases args; simp_all
  obtain ⟨rfl, rfl⟩ := trodVars_none hV
  obtain ⟨a0, rfl, rfl, rfl, w0⟩ := open_int Tryd.underlying3 (hval 0 3 v0 rfl rfl) h0
  obtain ⟨a1, rfl, rfl, rfl, w1⟩ := open_string Tryd.underlying9 (hval 1 9 v1 rfl rfl) h1
  have hvv := of_laid5 hL
  clear hA0 hval0
  refine (rnames_walk a0 a1 (bounds_i64 w0) w1 W hvv).mono fun e W' ⟨he, bel⟩ => ?_
  subst he
  exact ⟨_, rfl, _, _, _, [], _, [], hW', trodAll_mk1 (shut_bool Tryd.underlying4 _), (trodAll_cons_mk (shut_int Tryd.underlying3 w0) (trodAll_cons_mk (shut_string Tryd.underlying9 w1) trodAll_mk0)), rfl, bel.frame _, fun h => by cases h⟩

theorem rnames_over : Rows.regsNamesRow.holds Tryd.pinned (OpenSpec.ofChange Rows.regsNamesSpec) :=
  OpenClaim.holds_of_wide 3 Tryd.f3 rfl rfl rfl rfl rfl rfl rfl ⟨rfl, rfl, rfl, rfl, rfl⟩ rfl rfl rfl rfl rfl (by kernel_rfl) Tryd.func3 (by kernel_rfl)
    (of_decide_eq_true (by kernel_rfl)) (by unfold Func.isWrapper; first | (rw [if_pos (by decide +kernel)]; kernel_rfl) | (rw [if_neg (by decide +kernel)]; exact ⟨rfl, rfl⟩))
    (fun os started H enc _ => rnames_lifted os started H enc)

theorem rnames_said : Rows.RegsNamesCardSaid :=
  Claim7.holds_tied_plain_at .later [] [.data, .data, .data, .data] true Rows.regsNamesCard.stood.harness false
    rnames_over (fun _ h => by cases h) (by kernel_rfl) (fun _ h => by cases h) regsNames_row_tie rfl ⟨rfl, rfl⟩ (by kernel_rfl) rfl
    (fun f fn hf hfn => by
      obtain rfl : f = 3 := Option.some.inj ((show Tryd.prog.funcNamed "roebuck/roebucklaw05.RegsNames" = some 3 by kernel_rfl).symm.trans hf) |>.symm
      obtain rfl : fn = Tryd.f3 := (Option.some.inj (Tryd.func3.symm.trans hfn)).symm
      exact ⟨by kernel_rfl, fun j t ht => by
        rw [Tryd.params3] at ht
        have hm : t ∈ [3, 9] := by simpa using Array.mem_of_getElem? ht
        have hall : ([3, 9].all fun u => !Tryd.prog.wantsStandIn u) = true := by kernel_rfl
        exact (show Tryd.prog.wantsStandIn t = false by simpa using List.all_eq_true.1 hall t hm)⟩)
    (by kernel_rfl)
end Go.Proofs.YtbhmnkamfkadiaaDoor
