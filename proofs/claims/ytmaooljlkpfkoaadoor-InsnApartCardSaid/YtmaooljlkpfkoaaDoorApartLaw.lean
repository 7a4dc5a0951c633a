/-
  The statement InsnApart (P3.4), tied card: for every two numbers of ops, roebucklaw03.InsnApart returns true and its arguments read afterwards as before. Condition: insn.values and insn.fields hold what the program's text lays (the card ties it).
-/
import Derived.Test.YtmaooljlkpfkoaaDoorDoor3
import Derived.Test.YtmaooljlkpfkoaaDoorTie
import Derived.Test.YtmaooljlkpfkoaaDoorCards
import Derived.SevenTiedAt
namespace Go.Proofs.YtmaooljlkpfkoaaDoor
open Go.ChangeShapes Go.WideShapes Go.ChangeAt Go.RowKit Wd

theorem apart_tab : ∀ i j : Fin 99, 1 ≤ i.val → 1 ≤ j.val → i ≠ j → (bits .and .u32 (bits .and .u32 (bits .xor .u32 ((valN i.val : Nat) : Int) ((valN j.val : Nat) : Int)) ((maskN i.val : Nat) : Int)) ((maskN j.val : Nat) : Int) != 0) = true := by decide +kernel
theorem within_tab : ∀ i : Fin 99, (bits .andNot .u32 ((valN i.val : Nat) : Int) ((maskN i.val : Nat) : Int) == 0) = true := by decide +kernel
set_option maxHeartbeats 2000000 in
theorem apart_out (a b : Int) (w : World) (hv : VarsAt w) (h : ¬ (1 ≤ a ∧ a ≤ 98)) : Calls Tryd.prog 7 #[.int .i64 a, .int .i64 b] w fun e w' => e = .returned (.bool true) ∧ Below w.heap.size w w' := by
  have HM := Lib.hid (show fixM a = 0 ∧ fixV a = 0 by unfold fixM fixV findRow; rw [if_neg h]; exact ⟨rfl, rfl⟩)
  have HV := Lib.hid hv
  clear hv
  have key : (decide (a < 1) = true ∧ decide (1 ≤ a) = false) ∨ (decide (a < 1) = false ∧ decide (98 < a) = true ∧ decide (1 ≤ a) = true ∧ decide (a ≤ 98) = false) := by
    by_cases h1 : a < 1
    · exact .inl ⟨by simpa using h1, by simp; omega⟩
    · exact .inr ⟨by simpa using h1, by simp; omega, by simp; omega, by simp; omega⟩
  clear h
  rcases key with ⟨k1, k2⟩ | ⟨k1, k2, k3, k4⟩
  all_goals
    go_enter Tryd.func7, Tryd.ntmps7
    go_wp2_with fail
    refine (fixed_c _ _ HV.out).mono ?_
    rintro e w1 ⟨rfl, hb⟩
    have HB1 := Lib.hid hb
    clear hb
    rw [HM.out.1, HM.out.2]
    go_wp2_with fail
    refine (fixed_c _ _ (HV.out.low HB1.out)).mono ?_
    rintro e w2 ⟨rfl, hb⟩
    have HB2 := Lib.hid (HB1.out.trans (hb.mono HB1.out.size))
    clear hb
    generalize fixM b = fm at *
    generalize fixV b = fv at *
    go_wp2_with fail
    refine (live3_c _ (HV.out.low HB2.out)).mono ?_
    rintro e w3 ⟨rfl, hb⟩
    have HB3 := Lib.hid (HB2.out.trans (hb.mono HB2.out.size))
    clear hb
    go_wp2_with fail
    go_ret
    exact ⟨rfl, HB3.out⟩
set_option maxHeartbeats 2000000 in
theorem apart_same (a b : Int) (w : World) (hv : VarsAt w) (h : 1 ≤ a ∧ a ≤ 98) (h2 : ¬ (1 ≤ b ∧ b ≤ 98) ∨ a = b) : Calls Tryd.prog 7 #[.int .i64 a, .int .i64 b] w fun e w' => e = .returned (.bool true) ∧ Below w.heap.size w w' := by
  have HV := Lib.hid hv
  clear hv
  have k1 : decide (a < 1) = false := by simp; omega
  have k2 : decide (98 < a) = false := by simp; omega
  have k3 : decide (1 ≤ a) = true := by simp; omega
  have k4 : decide (a ≤ 98) = true := by simp; omega
  have key : decide (b < 1) = true ∨ (decide (b < 1) = false ∧ decide (98 < b) = true) ∨ (decide (b < 1) = false ∧ decide (98 < b) = false ∧ (a == b) = true) := by
    by_cases h1 : b < 1
    · exact .inl (by simpa using h1)
    · by_cases h3 : 98 < b
      · exact .inr (.inl ⟨by simpa using h1, by simpa using h3⟩)
      · exact .inr (.inr ⟨by simpa using h1, by simpa using h3, by simp; omega⟩)
  clear h h2
  rcases key with j1 | ⟨j1, j2⟩ | ⟨j1, j2, j3⟩
  all_goals
    go_enter Tryd.func7, Tryd.ntmps7
    go_wp2_with fail
    refine (fixed_c _ _ HV.out).mono ?_
    rintro e w1 ⟨rfl, hb⟩
    have HB1 := Lib.hid hb
    clear hb
    generalize fixM a = em at *
    generalize fixV a = ev at *
    go_wp2_with fail
    refine (fixed_c _ _ (HV.out.low HB1.out)).mono ?_
    rintro e w2 ⟨rfl, hb⟩
    have HB2 := Lib.hid (HB1.out.trans (hb.mono HB1.out.size))
    clear hb
    generalize fixM b = fm at *
    generalize fixV b = fv at *
    go_wp2_with fail
    refine (live3_c _ (HV.out.low HB2.out)).mono ?_
    rintro e w3 ⟨rfl, hb⟩
    have HB3 := Lib.hid (HB2.out.trans (hb.mono HB2.out.size))
    clear hb
    go_wp2_with fail
    go_ret
    exact ⟨rfl, HB3.out⟩
set_option maxHeartbeats 2000000 in
theorem apart_two (a b : Int) (w : World) (hv : VarsAt w) (h : 1 ≤ a ∧ a ≤ 98) (h2 : 1 ≤ b ∧ b ≤ 98) (hne : a ≠ b) : Calls Tryd.prog 7 #[.int .i64 a, .int .i64 b] w fun e w' => e = .returned (.bool true) ∧ Below w.heap.size w w' := by
  have HV := Lib.hid hv
  clear hv
  have k1 : decide (a < 1) = false := by simp; omega
  have k2 : decide (98 < a) = false := by simp; omega
  have j1 : decide (b < 1) = false := by simp; omega
  have j2 : decide (98 < b) = false := by simp; omega
  have j3 : (a == b) = false := by simpa using hne
  have fx : ∀ c : Int, 1 ≤ c → fixM c = ((maskN c.toNat : Nat) : Int) ∧ fixV c = ((valN c.toNat : Nat) : Int) := fun c hc => by
    unfold fixM fixV maskN valN
    rw [show ((c.toNat : Nat) : Int) = c by omega]
    exact ⟨rfl, rfl⟩
  have e1 := apart_tab ⟨a.toNat, by omega⟩ ⟨b.toNat, by omega⟩ (by simp only; omega) (by simp only; omega) (fun e => hne (by have := Fin.mk.inj e; omega))
  have e2 := within_tab ⟨a.toNat, by omega⟩
  have e3 := within_tab ⟨b.toNat, by omega⟩
  simp only [← (fx a h.1).1, ← (fx a h.1).2, ← (fx b h2.1).1, ← (fx b h2.1).2] at e1 e2 e3
  clear h h2 hne fx
  go_enter Tryd.func7, Tryd.ntmps7
  go_wp2_with fail
  refine (fixed_c _ _ HV.out).mono ?_
  rintro e w1 ⟨rfl, hb⟩
  have HB1 := Lib.hid hb
  clear hb
  generalize fixM a = em at *
  generalize fixV a = ev at *
  go_wp2_with fail
  refine (fixed_c _ _ (HV.out.low HB1.out)).mono ?_
  rintro e w2 ⟨rfl, hb⟩
  have HB2 := Lib.hid (HB1.out.trans (hb.mono HB1.out.size))
  clear hb
  generalize fixM b = fm at *
  generalize fixV b = fv at *
  go_wp2_with fail
  refine (live3_c _ (HV.out.low HB2.out)).mono ?_
  rintro e w3 ⟨rfl, hb⟩
  have HB3 := Lib.hid (HB2.out.trans (hb.mono HB2.out.size))
  clear hb
  go_wp2_with fail
  go_ret
  exact ⟨rfl, HB3.out⟩
theorem apart_walk (a b : Int) (_h0 : -9223372036854775808 ≤ a ∧ a ≤ 9223372036854775807) (_h1 : -9223372036854775808 ≤ b ∧ b ≤ 9223372036854775807) (w : World) (hv : VarsAt w) :
    Calls Tryd.prog 7 #[.int .i64 a, .int .i64 b] w fun e w' => e = .returned (.bool true) ∧ Below w.heap.size w w' := by
  by_cases h : 1 ≤ a ∧ a ≤ 98
  · by_cases h2 : ¬ (1 ≤ b ∧ b ≤ 98) ∨ a = b
    · exact apart_same a b w hv h h2
    · exact apart_two a b w hv h (Classical.byContradiction fun q => h2 (.inl q)) (fun q => h2 (.inr q))
  · exact apart_out a b w hv h

set_option maxRecDepth 100000 in
theorem apart_lifted (os : Os) (started : os.Started) (H : Type) (enc : TypeId × Value → H) :
    ReturnsInHanded {} Tryd.checked os 7 .any (fun w args => (Rows.insnApartSpec.pre enc Tryd.prog Tryd.f7 [] false w args ∧ laidMetH Tryd.prog laid2 w) ∧ sizedMet enc Tryd.prog Tryd.f7 (OpenSpec.ofChange Rows.insnApartSpec) false w args)
      (Rows.insnApartSpec.post enc Tryd.prog Tryd.f7 false true false false) := by
  refine returnsInHanded_of_change_and (C := Tryd.checked) (X := fun w _ => laidMetH Tryd.prog laid2 w) (fun _ _ _ hh h => h.of_heap hh) own started (by kernel_rfl) Tryd.func7
    (ChangeSpec.witness_shaped (enc := enc) (C := Tryd.checked) (os := os) (X := fun w _ => laidMetH Tryd.prog laid2 w) false (World.doorLaid Tryd.prog 400 os) #[.int .i64 0, .int .i64 0] 8 rfl (World.shaped_of_RefB (by kernel_rfl) (by kernel_rfl)) (by kernel_rfl) (by kernel_rfl) (by kernel_rfl) (door_met os _)) ?_
  intro W base args ds gs before hval0 hW _ _ hL _
  have hval : ∀ (j : Nat) t v, Tryd.f7.params[j]? = some t → args[j]? = some v → Value.okWide Tryd.prog W .any base t v := hval0
  have hW' := hW
  obtain ⟨p, q, hA0, hV, rfl, hfz, hnd⟩ := hW
  have hA : DataW.TrodAll enc Tryd.prog W 0 (fun _ => true) true Tryd.f7.params.toList args.toList ds p := hA0
  rw [Tryd.params7] at hA hval
  obtain ⟨v0, vs0, d0, ds0, p0, q0, hargs, rfl, rfl, h0, r0⟩ := trodAll_cons hA
  obtain ⟨v1, vs1, d1, ds1, p1, q1, rfl, rfl, rfl, h1, r1⟩ := trodAll_cons r0
  obtain ⟨rfl, rfl, rfl⟩ := trodAll_nil r1
  obtain rfl : args = #[v0, v1] := by cases args; simp_all
  obtain ⟨rfl, rfl⟩ := trodVars_none hV
  obtain ⟨a0, rfl, rfl, rfl, w0⟩ := open_int Tryd.underlying3 (hval 0 3 v0 rfl rfl) h0
  obtain ⟨a1, rfl, rfl, rfl, w1⟩ := open_int Tryd.underlying3 (hval 1 3 v1 rfl rfl) h1
  have hvv := of_laid hL
  clear hA0 hval0
  refine (apart_walk a0 a1 (bounds_i64 w0) (bounds_i64 w1) W hvv).mono fun e W' ⟨he, bel⟩ => ?_
  subst he
  exact ⟨_, rfl, _, _, _, [], _, [], hW', trodAll_mk1 (shut_bool Tryd.underlying4 _), (trodAll_cons_mk (shut_int Tryd.underlying3 w0) (trodAll_cons_mk (shut_int Tryd.underlying3 w1) trodAll_mk0)), rfl, bel.frame _, fun h => by cases h⟩

theorem apart_over : Rows.insnApartRow.holds Tryd.pinned (OpenSpec.ofChange Rows.insnApartSpec) :=
  OpenClaim.holds_of_wide 7 Tryd.f7 rfl rfl rfl rfl rfl rfl rfl ⟨rfl, rfl, rfl, rfl, rfl⟩ rfl rfl rfl rfl rfl (by kernel_rfl) Tryd.func7 (by kernel_rfl)
    (of_decide_eq_true (by kernel_rfl)) (by unfold Func.isWrapper; first | (rw [if_pos (by decide +kernel)]; kernel_rfl) | (rw [if_neg (by decide +kernel)]; exact ⟨rfl, rfl⟩))
    (fun os started H enc _ => apart_lifted os started H enc)

theorem apart_said : Rows.InsnApartCardSaid :=
  Claim7.holds_tied_plain_at .later [] [.data, .data] true Rows.insnApartCard.stood.harness false
    apart_over (fun _ h => by cases h) (by kernel_rfl) (fun _ h => by cases h) insnApart_row_tie rfl ⟨rfl, rfl⟩ (by kernel_rfl) rfl
    (fun f fn hf hfn => by
      obtain rfl : f = 7 := Option.some.inj ((show Tryd.prog.funcNamed "roebuck/roebucklaw03.InsnApart" = some 7 by kernel_rfl).symm.trans hf) |>.symm
      obtain rfl : fn = Tryd.f7 := (Option.some.inj (Tryd.func7.symm.trans hfn)).symm
      exact ⟨by kernel_rfl, fun j t ht => by
        rw [Tryd.params7] at ht
        have hm : t ∈ [3, 3] := by simpa using Array.mem_of_getElem? ht
        have hall : ([3, 3].all fun u => !Tryd.prog.wantsStandIn u) = true := by kernel_rfl
        exact (show Tryd.prog.wantsStandIn t = false by simpa using List.all_eq_true.1 hall t hm)⟩)
    (by kernel_rfl)
end Go.Proofs.YtmaooljlkpfkoaaDoor
