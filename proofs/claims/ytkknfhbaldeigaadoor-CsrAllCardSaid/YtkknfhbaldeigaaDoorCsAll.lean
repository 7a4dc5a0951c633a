/-
  The statement CsrAll (P19.1), tied card: for every number of how many are wanted, roebucklaw19.CsrAll returns true and its argument reads afterwards as before. Condition: csr.rows holds what the program's text lays (the card ties it).
-/
import Derived.Test.YtkknfhbaldeigaaDoorCsrJ
import Derived.Test.YtkknfhbaldeigaaDoorCsrK
import Derived.Test.YtkknfhbaldeigaaDoorTie
import Derived.Test.YtkknfhbaldeigaaDoorCards
import Derived.SevenTiedAt
namespace Go.Proofs.YtkknfhbaldeigaaDoor
open Go.ChangeShapes Go.WideShapes Go.ChangeAt Go.RowKit Wd Csr

theorem cbox_new (W : World) (v : Value) (t : TypeId) : (W.alloc (.cells #[v] t)).cell? ⟨W.heap.size, 0, none⟩ = some v ∧ (W.alloc (.cells #[v] t)).frozen? ⟨W.heap.size, 0, none⟩ = false := by
  constructor <;> simp
theorem cbox_low {W W' : World} {b : Nat} {v : Value} (h : W.cell? ⟨b, 0, none⟩ = some v ∧ W.frozen? ⟨b, 0, none⟩ = false) (hb : Below W.heap.size W W') : W'.cell? ⟨b, 0, none⟩ = some v ∧ W'.frozen? ⟨b, 0, none⟩ = false :=
  ⟨(hb.cell (p := ⟨b, 0, none⟩) (cell_ltC h.1)).trans h.1, (hb.frozen (p := ⟨b, 0, none⟩) (cell_ltC h.1)).trans h.2⟩
theorem bel1 (W : World) (o : Obj) : Below W.heap.size W (W.alloc o) := (Below.refl _ _).alloc (Nat.le_refl _) _
set_option maxHeartbeats 4000000 in
theorem csall_walk (most : Int) (_h0 : -9223372036854775808 ≤ most ∧ most ≤ 9223372036854775807) (w : World) (hN : RowsIn w) :
    Calls Tryd.prog 4 #[.int .i64 most] w fun e w' => e = .returned (.bool true) ∧ Below w.heap.size w w' := by
  have HN := Lib.hid hN
  clear _h0 hN
  have HL := Lib.hid (fun W h => live19_c W h)
  have hnil : ∀ W : World, (binOp .eql 40 (.func (.func 43) #[] #[]) .nilFunc).run Tryd.prog W = .ok (.bool false) W := fun W => by kernel_rfl
  go_enter Tryd.func4, Tryd.ntmps4
  go_wp2_with fail
  refine (allc_c _).mono ?_
  rintro e w1 ⟨rfl, rfl⟩
  go_wp2_with fail
  have c0 := cbox_new w (.int .i64 most) 3
  have hB0 := bel1 w (.cells #[.int .i64 most] 3)
  have hz0 : (w.alloc (.cells #[.int .i64 most] 3)).heap.size = w.heap.size + 1 := by simp
  generalize (w.alloc (.cells #[.int .i64 most] 3)) = w1 at *
  have HZ0 := Lib.hid hz0
  have HB0 := Lib.hid hB0
  have C0 := Lib.hid c0
  clear c0 hB0 hz0
  refine (rrows_c _).mono ?_
  rintro e w2 ⟨rfl, rfl⟩
  have hr := rrAt_new w1
  have hB1 := bel1 w1 (.cells rrCells RrT)
  have hz1 : (w1.alloc (.cells rrCells RrT)).heap.size = w1.heap.size + 1 := by simp
  generalize (w1.alloc (.cells rrCells RrT)) = w2 at *
  have HR := Lib.hid hr
  have HB1 := Lib.hid hB1
  have HZ1 := Lib.hid hz1
  clear hr hB1 hz1
  go_wp2_with fail
  have s0 := cbox_new w2 (.slice (some ⟨w1.heap.size, 0, none⟩) 34 34) 42
  have hb2 := bel1 w2 (.cells #[.slice (some ⟨w1.heap.size, 0, none⟩) 34 34] 42)
  have s1 := cbox_new (w2.alloc (.cells #[.slice (some ⟨w1.heap.size, 0, none⟩) 34 34] 42)) (.int .i64 0) 3
  have hb3 := bel1 (w2.alloc (.cells #[.slice (some ⟨w1.heap.size, 0, none⟩) 34 34] 42)) (.cells #[.int .i64 0] 3)
  have s2 := cbox_new ((w2.alloc (.cells #[.slice (some ⟨w1.heap.size, 0, none⟩) 34 34] 42)).alloc (.cells #[.int .i64 0] 3)) (.bool true) 4
  have hb4 := bel1 ((w2.alloc (.cells #[.slice (some ⟨w1.heap.size, 0, none⟩) 34 34] 42)).alloc (.cells #[.int .i64 0] 3)) (.cells #[.bool true] 4)
  simp only [World.size_alloc] at s1 s2 hb3 hb4
  have hB5 := (hb2.trans (hb3.mono (by omega))).trans (hb4.mono (by omega))
  have k1 := HZ0.out
  have k2 := HZ1.out
  have hB6 := ((HB0.out.trans (HB1.out.mono (by omega))).trans (hB5.mono (by omega)))
  have hq : CqAt (((w2.alloc (.cells #[.slice (some ⟨w1.heap.size, 0, none⟩) 34 34] 42)).alloc (.cells #[.int .i64 0] 3)).alloc (.cells #[.bool true] 4)) most (w2.heap.size + 1) (w2.heap.size + 1 + 1) w2.heap.size w.heap.size w1.heap.size 0 := by
    refine ⟨?_, ?_, s2.1, s2.2, ?_, ?_, HR.out.low hB5⟩
    · exact (hb4.cell (p := ⟨w2.heap.size + 1, 0, none⟩) (by show w2.heap.size + 1 < _; omega)).trans s1.1
    · exact (hb4.frozen (p := ⟨w2.heap.size + 1, 0, none⟩) (by show w2.heap.size + 1 < _; omega)).trans s1.2
    · exact ((hb4.cell (p := ⟨w2.heap.size, 0, none⟩) (by show w2.heap.size < _; omega)).trans (hb3.cell (p := ⟨w2.heap.size, 0, none⟩) (by show w2.heap.size < _; omega))).trans s0.1
    · exact (cbox_low C0.out (HB1.out.trans (hB5.mono (by omega)))).1
  refine (all1_c most (w2.heap.size + 1) (w2.heap.size + 1 + 1) w2.heap.size w.heap.size w1.heap.size w _ HN.out (by omega) (by omega) (by omega) (by omega) (by omega) (by omega) (by omega) (by omega) (by omega) hq hB6).mono ?_
  rintro e w3 ⟨rfl, hK, hb⟩
  have KA := Lib.hid hK
  have HB2 := Lib.hid hb
  clear hK hb s0 s1 s2 hb2 hb3 hb4 hB5 hB6 k1 k2 hq HZ0 HZ1 HB0 HB1 HR C0
  generalize w2.heap.size = b2 at *
  generalize w1.heap.size = b1 at *
  have cl := KA.out.l
  by_cases h1 : 0 < most
  · have d1 : decide (0 < most) = true := by simpa using h1
    by_cases h2 : most < 34
    · have d2 : decide (most < 34) = true := by simpa using h2
      have HW := Lib.hid (show ((wantC most : Nat) : Int) = most by unfold wantC; rw [if_pos (by omega)]; omega)
      have q1 : (most == most) = true := by simp
      have cn := KA.out.n
      have cf := KA.out.f
      have cm := KA.out.mo
      rw [HW.out] at cn
      go_wp2_with fail
      refine (HL.out _ (HN.out.low HB2.out)).mono ?_
      rintro e w4 ⟨rfl, hb⟩
      have HB3 := Lib.hid (HB2.out.trans (hb.mono HB2.out.size))
      clear hb
      go_wp2_with fail
      go_ret
      exact ⟨rfl, HB3.out⟩
    · have d2 : decide (most < 34) = false := by simpa using h2
      have HW := Lib.hid (show ((wantC most : Nat) : Int) = 34 by unfold wantC; rw [if_neg (by omega)]; rfl)
      have cn := KA.out.n
      have cf := KA.out.f
      have cm := KA.out.mo
      rw [HW.out] at cn
      go_wp2_with fail
      refine (HL.out _ (HN.out.low HB2.out)).mono ?_
      rintro e w4 ⟨rfl, hb⟩
      have HB3 := Lib.hid (HB2.out.trans (hb.mono HB2.out.size))
      clear hb
      go_wp2_with fail
      go_ret
      exact ⟨rfl, HB3.out⟩
  · have d1 : decide (0 < most) = false := by simpa using h1
    have HW := Lib.hid (show ((wantC most : Nat) : Int) = 34 by unfold wantC; rw [if_neg (by omega)]; rfl)
    have cn := KA.out.n
    have cf := KA.out.f
    have cm := KA.out.mo
    rw [HW.out] at cn
    go_wp2_with fail
    refine (HL.out _ (HN.out.low HB2.out)).mono ?_
    rintro e w4 ⟨rfl, hb⟩
    have HB3 := Lib.hid (HB2.out.trans (hb.mono HB2.out.size))
    clear hb
    go_wp2_with fail
    go_ret
    exact ⟨rfl, HB3.out⟩

set_option maxRecDepth 100000 in
theorem csall_lifted (os : Os) (started : os.Started) (H : Type) (enc : TypeId × Value → H) :
    ReturnsInHanded {} Tryd.checked os 4 .any (fun w args => (Rows.csrAllSpec.pre enc Tryd.prog Tryd.f4 [] false w args ∧ laidMetH Tryd.prog laidC w) ∧ sizedMet enc Tryd.prog Tryd.f4 (OpenSpec.ofChange Rows.csrAllSpec) false w args)
      (Rows.csrAllSpec.post enc Tryd.prog Tryd.f4 false true false false) := by
  refine returnsInHanded_of_change_and (C := Tryd.checked) (X := fun w _ => laidMetH Tryd.prog laidC w) (fun _ _ _ hh h => h.of_heap hh) own started (by kernel_rfl) Tryd.func4
    (ChangeSpec.witness_shaped (enc := enc) (C := Tryd.checked) (os := os) (X := fun w _ => laidMetH Tryd.prog laidC w) false (World.doorLaid Tryd.prog 400 os) #[.int .i64 0] 8 rfl (World.shaped_of_RefB (by kernel_rfl) (by kernel_rfl)) (by kernel_rfl) (by kernel_rfl) (by kernel_rfl) (doorC_met os _)) ?_
  intro W base args ds gs before hval0 hW _ _ hL _
  have hval : ∀ (j : Nat) t v, Tryd.f4.params[j]? = some t → args[j]? = some v → Value.okWide Tryd.prog W .any base t v := hval0
  have hW' := hW
  obtain ⟨p, q, hA0, hV, rfl, hfz, hnd⟩ := hW
  have hA : DataW.TrodAll enc Tryd.prog W 0 (fun _ => true) true Tryd.f4.params.toList args.toList ds p := hA0
  rw [Tryd.params4] at hA hval
  obtain ⟨v0, vs0, d0, ds0, p0, q0, hargs, rfl, rfl, h0, r0⟩ := trodAll_cons hA
  obtain ⟨rfl, rfl, rfl⟩ := trodAll_nil r0
  obtain rfl : args = #[v0] := by cases args; simp_all
  obtain ⟨rfl, rfl⟩ := trodVars_none hV
  obtain ⟨a0, rfl, rfl, rfl, w0⟩ := open_int Tryd.underlying3 (hval 0 3 v0 rfl rfl) h0
  have hvv := of_laidC hL
  clear hA0 hval0
  refine (csall_walk a0 (bounds_i64 w0) W hvv).mono fun e W' ⟨he, bel⟩ => ?_
  subst he
  exact ⟨_, rfl, _, _, _, [], _, [], hW', trodAll_mk1 (shut_bool Tryd.underlying4 _), (trodAll_cons_mk (shut_int Tryd.underlying3 w0) trodAll_mk0), rfl, bel.frame _, fun h => by cases h⟩

theorem csall_over : Rows.csrAllRow.holds Tryd.pinned (OpenSpec.ofChange Rows.csrAllSpec) :=
  OpenClaim.holds_of_wide 4 Tryd.f4 rfl rfl rfl rfl rfl rfl rfl ⟨rfl, rfl, rfl, rfl, rfl⟩ rfl rfl rfl rfl rfl (by kernel_rfl) Tryd.func4 (by kernel_rfl)
    (of_decide_eq_true (by kernel_rfl)) (by unfold Func.isWrapper; first | (rw [if_pos (by decide +kernel)]; kernel_rfl) | (rw [if_neg (by decide +kernel)]; exact ⟨rfl, rfl⟩))
    (fun os started H enc _ => csall_lifted os started H enc)

theorem csall_said : Rows.CsrAllCardSaid :=
  Claim7.holds_tied_plain_at .later [] [.data] true Rows.csrAllCard.stood.harness false
    csall_over (fun _ h => by cases h) (by kernel_rfl) (fun _ h => by cases h) csrAll_row_tie rfl ⟨rfl, rfl⟩ (by kernel_rfl) rfl
    (fun f fn hf hfn => by
      obtain rfl : f = 4 := Option.some.inj ((show Tryd.prog.funcNamed "roebuck/roebucklaw19.CsrAll" = some 4 by kernel_rfl).symm.trans hf) |>.symm
      obtain rfl : fn = Tryd.f4 := (Option.some.inj (Tryd.func4.symm.trans hfn)).symm
      exact ⟨by kernel_rfl, fun j t ht => by
        rw [Tryd.params4] at ht
        have hm : t ∈ [3] := by simpa using Array.mem_of_getElem? ht
        have hall : ([3].all fun u => !Tryd.prog.wantsStandIn u) = true := by kernel_rfl
        exact (show Tryd.prog.wantsStandIn t = false by simpa using List.all_eq_true.1 hall t hm)⟩)
    (by kernel_rfl)
end Go.Proofs.YtkknfhbaldeigaaDoor
