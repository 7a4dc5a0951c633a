/-
  The reference of layer 22: Writes, Do, Turn.
-/
import Derived.Test.YtfjdalepaacmgaaDoorCfH
set_option maxRecDepth 20000
namespace Go.Proofs.YtfjdalepaacmgaaDoor
open Go.ChangeShapes Go.WideShapes Go.ChangeAt Go.RowKit Wd Csr Sta Cf

theorem results_cbF {F : Func} {x y : Tmp} (ty : TypeId) (hF : F.results = #[.cell x ty, .tmp y]) (tmps : Array Value) (w : World) (b : Nat) (cs : Array Value) (r : Value) (h2 : tmps.getD x undef = .pointer (some ⟨b, 0, none⟩)) (h3 : tmps.getD y undef = r)
    (hl : (loadVar ty ⟨b, 0, none⟩).run Tryd.prog w = .ok (.agg cs) w) : (results F tmps).run Tryd.prog w = .ok (.tuple #[.agg cs, r]) w := by
  have h2' : tmps[x]?.getD undef = .pointer (some ⟨b, 0, none⟩) := by simpa using h2
  have h3' : tmps[y]?.getD undef = r := by simpa using h3
  simp [results, hF, h2', h3', asAddr, hl]
theorem class8 {op : Int} (h : classS op = 8) : op = 89 ∨ op = 90 ∨ op = 91 ∨ op = 92 ∨ op = 93 ∨ op = 94 := by
  unfold classS at h
  split at h
  · rename_i hr
    have l : ∀ k : Fin 99, classL.getD k.val 0 = 8 → 89 ≤ k.val ∧ k.val ≤ 94 := by decide +kernel
    have := l ⟨op.toNat, by omega⟩ (by simp only; exact_mod_cast h)
    simp only at this
    omega
  · cases h
set_option maxHeartbeats 4000000 in
theorem rwrites22_c (op rs1 : Int) (w : World) : Calls Tryd.prog 35 #[.int .i64 op, .int .i64 rs1] w fun e w' => e = .returned (.bool (wrS op rs1)) ∧ Below w.heap.size w w' := by
  have HC := Lib.hid (fun W => refClass_c op W)
  by_cases hc : classS op = 8
  · rw [hc] at HC
    cases hr : (rs1 != 0)
    all_goals
      have HR := Lib.hid hr
      rcases class8 hc with rfl | rfl | rfl | rfl | rfl | rfl
      all_goals clear hc
    · skip
      have HV := Lib.hid (show wrS 89 rs1 = true by show ((classS 89 == 8) && (((89 : Int) == 89) || ((89 : Int) == 92) || (rs1 != 0))) = _; rw [HR.out]; decide +kernel)
      go_enter Tryd.func35, Tryd.ntmps35
      go_wp2_with fail
      refine (HC.out _).mono ?_
      rintro e w1 ⟨rfl, hb⟩
      have HB := Lib.hid hb
      clear hb
      go_wp2_with fail
      refine (refNames4_c _).mono ?_
      rintro e w2 ⟨rfl, rfl⟩
      have c : _ = some (Value.string ⟨#[99, 115, 114, 114, 119]⟩) := names4_cell w1 89 (by omega)
      have HB2 := Lib.hid (HB.out.trans (((Below.refl w1.heap.size w1).alloc (Nat.le_refl _) (.cells (Tab.names4.map strV).toArray 9)).mono HB.out.size))
      generalize (w1.alloc (.cells (Tab.names4.map strV).toArray 9)) = W at *
      go_wp2_with fail
      go_ret
      exact ⟨by rw [HV.out]; rfl, HB2.out⟩
    · skip
      have HV := Lib.hid (show wrS 90 rs1 = false by show ((classS 90 == 8) && (((90 : Int) == 89) || ((90 : Int) == 92) || (rs1 != 0))) = _; rw [HR.out]; decide +kernel)
      go_enter Tryd.func35, Tryd.ntmps35
      go_wp2_with fail
      refine (HC.out _).mono ?_
      rintro e w1 ⟨rfl, hb⟩
      have HB := Lib.hid hb
      clear hb
      go_wp2_with fail
      refine (refNames4_c _).mono ?_
      rintro e w2 ⟨rfl, rfl⟩
      have c : _ = some (Value.string ⟨#[99, 115, 114, 114, 115]⟩) := names4_cell w1 90 (by omega)
      have HB2 := Lib.hid (HB.out.trans (((Below.refl w1.heap.size w1).alloc (Nat.le_refl _) (.cells (Tab.names4.map strV).toArray 9)).mono HB.out.size))
      generalize (w1.alloc (.cells (Tab.names4.map strV).toArray 9)) = W at *
      go_wp2_with fail
      go_ret
      exact ⟨by rw [HV.out]; rfl, HB2.out⟩
    · skip
      have HV := Lib.hid (show wrS 91 rs1 = false by show ((classS 91 == 8) && (((91 : Int) == 89) || ((91 : Int) == 92) || (rs1 != 0))) = _; rw [HR.out]; decide +kernel)
      go_enter Tryd.func35, Tryd.ntmps35
      go_wp2_with fail
      refine (HC.out _).mono ?_
      rintro e w1 ⟨rfl, hb⟩
      have HB := Lib.hid hb
      clear hb
      go_wp2_with fail
      refine (refNames4_c _).mono ?_
      rintro e w2 ⟨rfl, rfl⟩
      have c : _ = some (Value.string ⟨#[99, 115, 114, 114, 99]⟩) := names4_cell w1 91 (by omega)
      have HB2 := Lib.hid (HB.out.trans (((Below.refl w1.heap.size w1).alloc (Nat.le_refl _) (.cells (Tab.names4.map strV).toArray 9)).mono HB.out.size))
      generalize (w1.alloc (.cells (Tab.names4.map strV).toArray 9)) = W at *
      go_wp2_with fail
      go_ret
      exact ⟨by rw [HV.out]; rfl, HB2.out⟩
    · skip
      have HV := Lib.hid (show wrS 92 rs1 = true by show ((classS 92 == 8) && (((92 : Int) == 89) || ((92 : Int) == 92) || (rs1 != 0))) = _; rw [HR.out]; decide +kernel)
      go_enter Tryd.func35, Tryd.ntmps35
      go_wp2_with fail
      refine (HC.out _).mono ?_
      rintro e w1 ⟨rfl, hb⟩
      have HB := Lib.hid hb
      clear hb
      go_wp2_with fail
      refine (refNames4_c _).mono ?_
      rintro e w2 ⟨rfl, rfl⟩
      have c : _ = some (Value.string ⟨#[99, 115, 114, 114, 119, 105]⟩) := names4_cell w1 92 (by omega)
      have HB2 := Lib.hid (HB.out.trans (((Below.refl w1.heap.size w1).alloc (Nat.le_refl _) (.cells (Tab.names4.map strV).toArray 9)).mono HB.out.size))
      generalize (w1.alloc (.cells (Tab.names4.map strV).toArray 9)) = W at *
      go_wp2_with fail
      go_ret
      exact ⟨by rw [HV.out]; rfl, HB2.out⟩
    · skip
      have HV := Lib.hid (show wrS 93 rs1 = false by show ((classS 93 == 8) && (((93 : Int) == 89) || ((93 : Int) == 92) || (rs1 != 0))) = _; rw [HR.out]; decide +kernel)
      go_enter Tryd.func35, Tryd.ntmps35
      go_wp2_with fail
      refine (HC.out _).mono ?_
      rintro e w1 ⟨rfl, hb⟩
      have HB := Lib.hid hb
      clear hb
      go_wp2_with fail
      refine (refNames4_c _).mono ?_
      rintro e w2 ⟨rfl, rfl⟩
      have c : _ = some (Value.string ⟨#[99, 115, 114, 114, 115, 105]⟩) := names4_cell w1 93 (by omega)
      have HB2 := Lib.hid (HB.out.trans (((Below.refl w1.heap.size w1).alloc (Nat.le_refl _) (.cells (Tab.names4.map strV).toArray 9)).mono HB.out.size))
      generalize (w1.alloc (.cells (Tab.names4.map strV).toArray 9)) = W at *
      go_wp2_with fail
      go_ret
      exact ⟨by rw [HV.out]; rfl, HB2.out⟩
    · skip
      have HV := Lib.hid (show wrS 94 rs1 = false by show ((classS 94 == 8) && (((94 : Int) == 89) || ((94 : Int) == 92) || (rs1 != 0))) = _; rw [HR.out]; decide +kernel)
      go_enter Tryd.func35, Tryd.ntmps35
      go_wp2_with fail
      refine (HC.out _).mono ?_
      rintro e w1 ⟨rfl, hb⟩
      have HB := Lib.hid hb
      clear hb
      go_wp2_with fail
      refine (refNames4_c _).mono ?_
      rintro e w2 ⟨rfl, rfl⟩
      have c : _ = some (Value.string ⟨#[99, 115, 114, 114, 99, 105]⟩) := names4_cell w1 94 (by omega)
      have HB2 := Lib.hid (HB.out.trans (((Below.refl w1.heap.size w1).alloc (Nat.le_refl _) (.cells (Tab.names4.map strV).toArray 9)).mono HB.out.size))
      generalize (w1.alloc (.cells (Tab.names4.map strV).toArray 9)) = W at *
      go_wp2_with fail
      go_ret
      exact ⟨by rw [HV.out]; rfl, HB2.out⟩
    · skip
      have HV := Lib.hid (show wrS 89 rs1 = true by show ((classS 89 == 8) && (((89 : Int) == 89) || ((89 : Int) == 92) || (rs1 != 0))) = _; rw [HR.out]; decide +kernel)
      go_enter Tryd.func35, Tryd.ntmps35
      go_wp2_with fail
      refine (HC.out _).mono ?_
      rintro e w1 ⟨rfl, hb⟩
      have HB := Lib.hid hb
      clear hb
      go_wp2_with fail
      refine (refNames4_c _).mono ?_
      rintro e w2 ⟨rfl, rfl⟩
      have c : _ = some (Value.string ⟨#[99, 115, 114, 114, 119]⟩) := names4_cell w1 89 (by omega)
      have HB2 := Lib.hid (HB.out.trans (((Below.refl w1.heap.size w1).alloc (Nat.le_refl _) (.cells (Tab.names4.map strV).toArray 9)).mono HB.out.size))
      generalize (w1.alloc (.cells (Tab.names4.map strV).toArray 9)) = W at *
      go_wp2_with fail
      go_ret
      exact ⟨by rw [HV.out]; rfl, HB2.out⟩
    · skip
      have HV := Lib.hid (show wrS 90 rs1 = true by show ((classS 90 == 8) && (((90 : Int) == 89) || ((90 : Int) == 92) || (rs1 != 0))) = _; rw [HR.out]; decide +kernel)
      go_enter Tryd.func35, Tryd.ntmps35
      go_wp2_with fail
      refine (HC.out _).mono ?_
      rintro e w1 ⟨rfl, hb⟩
      have HB := Lib.hid hb
      clear hb
      go_wp2_with fail
      refine (refNames4_c _).mono ?_
      rintro e w2 ⟨rfl, rfl⟩
      have c : _ = some (Value.string ⟨#[99, 115, 114, 114, 115]⟩) := names4_cell w1 90 (by omega)
      have HB2 := Lib.hid (HB.out.trans (((Below.refl w1.heap.size w1).alloc (Nat.le_refl _) (.cells (Tab.names4.map strV).toArray 9)).mono HB.out.size))
      generalize (w1.alloc (.cells (Tab.names4.map strV).toArray 9)) = W at *
      go_wp2_with fail
      go_ret
      exact ⟨by rw [HV.out]; rfl, HB2.out⟩
    · skip
      have HV := Lib.hid (show wrS 91 rs1 = true by show ((classS 91 == 8) && (((91 : Int) == 89) || ((91 : Int) == 92) || (rs1 != 0))) = _; rw [HR.out]; decide +kernel)
      go_enter Tryd.func35, Tryd.ntmps35
      go_wp2_with fail
      refine (HC.out _).mono ?_
      rintro e w1 ⟨rfl, hb⟩
      have HB := Lib.hid hb
      clear hb
      go_wp2_with fail
      refine (refNames4_c _).mono ?_
      rintro e w2 ⟨rfl, rfl⟩
      have c : _ = some (Value.string ⟨#[99, 115, 114, 114, 99]⟩) := names4_cell w1 91 (by omega)
      have HB2 := Lib.hid (HB.out.trans (((Below.refl w1.heap.size w1).alloc (Nat.le_refl _) (.cells (Tab.names4.map strV).toArray 9)).mono HB.out.size))
      generalize (w1.alloc (.cells (Tab.names4.map strV).toArray 9)) = W at *
      go_wp2_with fail
      go_ret
      exact ⟨by rw [HV.out]; rfl, HB2.out⟩
    · skip
      have HV := Lib.hid (show wrS 92 rs1 = true by show ((classS 92 == 8) && (((92 : Int) == 89) || ((92 : Int) == 92) || (rs1 != 0))) = _; rw [HR.out]; decide +kernel)
      go_enter Tryd.func35, Tryd.ntmps35
      go_wp2_with fail
      refine (HC.out _).mono ?_
      rintro e w1 ⟨rfl, hb⟩
      have HB := Lib.hid hb
      clear hb
      go_wp2_with fail
      refine (refNames4_c _).mono ?_
      rintro e w2 ⟨rfl, rfl⟩
      have c : _ = some (Value.string ⟨#[99, 115, 114, 114, 119, 105]⟩) := names4_cell w1 92 (by omega)
      have HB2 := Lib.hid (HB.out.trans (((Below.refl w1.heap.size w1).alloc (Nat.le_refl _) (.cells (Tab.names4.map strV).toArray 9)).mono HB.out.size))
      generalize (w1.alloc (.cells (Tab.names4.map strV).toArray 9)) = W at *
      go_wp2_with fail
      go_ret
      exact ⟨by rw [HV.out]; rfl, HB2.out⟩
    · skip
      have HV := Lib.hid (show wrS 93 rs1 = true by show ((classS 93 == 8) && (((93 : Int) == 89) || ((93 : Int) == 92) || (rs1 != 0))) = _; rw [HR.out]; decide +kernel)
      go_enter Tryd.func35, Tryd.ntmps35
      go_wp2_with fail
      refine (HC.out _).mono ?_
      rintro e w1 ⟨rfl, hb⟩
      have HB := Lib.hid hb
      clear hb
      go_wp2_with fail
      refine (refNames4_c _).mono ?_
      rintro e w2 ⟨rfl, rfl⟩
      have c : _ = some (Value.string ⟨#[99, 115, 114, 114, 115, 105]⟩) := names4_cell w1 93 (by omega)
      have HB2 := Lib.hid (HB.out.trans (((Below.refl w1.heap.size w1).alloc (Nat.le_refl _) (.cells (Tab.names4.map strV).toArray 9)).mono HB.out.size))
      generalize (w1.alloc (.cells (Tab.names4.map strV).toArray 9)) = W at *
      go_wp2_with fail
      go_ret
      exact ⟨by rw [HV.out]; rfl, HB2.out⟩
    · skip
      have HV := Lib.hid (show wrS 94 rs1 = true by show ((classS 94 == 8) && (((94 : Int) == 89) || ((94 : Int) == 92) || (rs1 != 0))) = _; rw [HR.out]; decide +kernel)
      go_enter Tryd.func35, Tryd.ntmps35
      go_wp2_with fail
      refine (HC.out _).mono ?_
      rintro e w1 ⟨rfl, hb⟩
      have HB := Lib.hid hb
      clear hb
      go_wp2_with fail
      refine (refNames4_c _).mono ?_
      rintro e w2 ⟨rfl, rfl⟩
      have c : _ = some (Value.string ⟨#[99, 115, 114, 114, 99, 105]⟩) := names4_cell w1 94 (by omega)
      have HB2 := Lib.hid (HB.out.trans (((Below.refl w1.heap.size w1).alloc (Nat.le_refl _) (.cells (Tab.names4.map strV).toArray 9)).mono HB.out.size))
      generalize (w1.alloc (.cells (Tab.names4.map strV).toArray 9)) = W at *
      go_wp2_with fail
      go_ret
      exact ⟨by rw [HV.out]; rfl, HB2.out⟩
  · have hc' : (classS op != 8) = true := by simpa using hc
    have HV := Lib.hid (show wrS op rs1 = false by unfold wrS; rw [show (classS op == 8) = false by simpa using hc]; rfl)
    generalize classS op = c at *
    clear hc
    go_enter Tryd.func35, Tryd.ntmps35
    go_wp2_with fail
    refine (HC.out _).mono ?_
    rintro e w1 ⟨rfl, hb⟩
    have HB := Lib.hid hb
    clear hb
    go_wp2_with fail
    go_ret
    exact ⟨by rw [HV.out]; rfl, HB.out⟩
theorem RtS.put {w W : World} {s t : S} (h : RtS w W s t) (s' : S) : RtS w (W.setRow w.heap.size (refV s')) s' t := ⟨h.r.row _, h.z.rowFar (by omega) _, below_setRow h.bel (Nat.le_refl _) _⟩
theorem RtS.cw {w W : World} {s t : S} (h : RtS w W s t) (x : Bool) : RtS w (W.setCell ⟨w.heap.size, 35, none⟩ (.bool x)) { s with cw := x } t :=
  ⟨ref_cw h.r x, (Chg.of_cell (S := one w.heap.size) rfl _ _).cs h.z (fun (e : w.heap.size + 1 = w.heap.size) => by omega), h.bel.setCell (by exact Nat.le_refl _) _⟩
theorem RtS.iw {w W : World} {s t : S} (h : RtS w W s t) (x : Bool) : RtS w (W.setCell ⟨w.heap.size, 36, none⟩ (.bool x)) { s with iw := x } t :=
  ⟨ref_iw h.r x, (Chg.of_cell (S := one w.heap.size) rfl _ _).cs h.z (fun (e : w.heap.size + 1 = w.heap.size) => by omega), h.bel.setCell (by exact Nat.le_refl _) _⟩
theorem RtS.c35 {w W : World} {s t : S} (h : RtS w W s t) : W.cell? ⟨w.heap.size, 35, none⟩ = some (.bool s.cw) := by rw [h.r.cell, refV_cw]
theorem RtS.c36 {w W : World} {s t : S} (h : RtS w W s t) : W.cell? ⟨w.heap.size, 36, none⟩ = some (.bool s.iw) := by rw [h.r.cell, refV_iw]
set_option maxHeartbeats 8000000 in
theorem rturn22_c (s : S) (r : Bool) (w : World) : Calls Tryd.prog 37 #[.agg (refV s), .bool r] w fun e w' => e = .returned (.agg (refV (turnS s r))) ∧ Below w.heap.size w w' := by
  have HS1 := Lib.hid (RtS.new w s)
  have HWD := Lib.hid (fun t nm k hk hn W => rword_c t nm k hk hn W)
  have HWT := Lib.hid (fun t nm x k hk hn W => rwith_c t nm x k hk hn W)
  obtain ⟨hh, f, a, b⟩ := s
  cases a <;> cases b <;> cases r
  · skip
    go_enter Tryd.func37, Tryd.ntmps37
    go_upto_region 1 with (refine wpList_allocY rfl _ rfl RfT rfl (refV (zero 0)) (zero_rf _) ?_)
    generalize ((w.alloc (.cells (refV (⟨hh, f, false, false⟩ : S)) RfT)).alloc (.cells (refV (zero 0)) RfT)) = w1 at *
    have c35 : w1.cell? ⟨w.heap.size, 35, none⟩ = some (.bool false) := HS1.out.c35
    have c36 : w1.cell? ⟨w.heap.size, 36, none⟩ = some (.bool false) := HS1.out.c36
    have y35 := HS1.out.r.frozen 35
    have y36 := HS1.out.r.frozen 36
    go_upto_region 2 with fail
    clear c35 c36 y35 y36
    refine wp_region_steady_tail (fun W => RtS w W (⟨hh, f, false, false⟩ : S) (zero 0)) 5 (by kernel_rfl) (by kernel_rfl) HS1.out.drew ?_
    refine steady_val (.agg (refV (⟨hh, f, false, false⟩ : S))) ?_ (by kernel_rfl) (fun W hS => exec_load_row RfT _ rfl w.heap.size rfl RfT _ _ hS.r Tryd.underlying58 rfl (iRf _)) ?_ ?_
    rotate_left 1
    · go_simp
      exact rfl
    refine steady_val (.agg (refV (⟨hh, f, false, false⟩ : S))) ?_ (by kernel_rfl) (fun W hS => exec_load_row RfT _ rfl w.heap.size rfl RfT _ _ hS.r Tryd.underlying58 rfl (iRf _)) ?_ ?_
    rotate_left 1
    · go_simp
      exact rfl
    refine steady_enter (.int .u64 ((⟨hh, f, false, false⟩ : S).f 2816)) 65 #[.agg (refV (⟨hh, f, false, false⟩ : S)), .string ⟨#[109, 99, 121, 99, 108, 101]⟩] ?_ (by kernel_rfl) (fun W hS => ?_) (fun W hS => (HWD.out (⟨hh, f, false, false⟩ : S) ⟨#[109, 99, 121, 99, 108, 101]⟩ 25 (by decide) nc_mcycle W).mono (by rintro e w' ⟨rfl, hb⟩; exact ⟨rfl, hS.low hb⟩)) ?_ ?_
    rotate_left 1
    · go_simp
    · go_simp
      exact rfl
    refine steady_val ?_ ?_ (by kernel_rfl) (fun W hS => ?_) ?_ ?_
    rotate_left 2
    · go_simp
      exact rfl
    · go_simp
      exact rfl
    refine steady_enter (.agg (refV (S.put (⟨hh, f, false, false⟩ : S) 2816 (incr ((⟨hh, f, false, false⟩ : S).f 2816))))) 57 #[.agg (refV (⟨hh, f, false, false⟩ : S)), .string ⟨#[109, 99, 121, 99, 108, 101]⟩, .int .u64 (IntKind.u64.wrap ((⟨hh, f, false, false⟩ : S).f 2816 + 1))] ?_ (by kernel_rfl) (fun W hS => ?_) (fun W hS => (HWT.out (⟨hh, f, false, false⟩ : S) ⟨#[109, 99, 121, 99, 108, 101]⟩ (IntKind.u64.wrap ((⟨hh, f, false, false⟩ : S).f 2816 + 1)) 25 (by decide) nc_mcycle W).mono (by rintro e w' ⟨rfl, hb⟩; exact ⟨rfl, hS.low hb⟩)) ?_ ?_
    rotate_left 1
    · go_simp
    · go_simp
      exact rfl
    refine steady_nil ?_
    intro W2 hS
    have HSZ2 := Lib.hid hS
    clear hS
    simp only [List.drop_succ_cons, List.drop_zero]
    have HS2 := Lib.hid (HSZ2.out.put (S.put (⟨hh, f, false, false⟩ : S) 2816 (incr ((⟨hh, f, false, false⟩ : S).f 2816))))
    go_upto_region 3 with (refine wpList_store_row rfl RfT _ _ rfl w.heap.size (refV ((S.put (⟨hh, f, false, false⟩ : S) 2816 (incr ((⟨hh, f, false, false⟩ : S).f 2816))))) rfl rfl RfT _ HSZ2.out.r (iRf _) (by rw [refV_size, refV_size]) (rfV_one _) ?_)
    generalize W2.setRow w.heap.size (refV (S.put (⟨hh, f, false, false⟩ : S) 2816 (incr ((⟨hh, f, false, false⟩ : S).f 2816)))) = w2 at *
    have c35 : w2.cell? ⟨w.heap.size, 35, none⟩ = some (.bool false) := HS2.out.c35
    have c36 : w2.cell? ⟨w.heap.size, 36, none⟩ = some (.bool false) := HS2.out.c36
    have y35 := HS2.out.r.frozen 35
    have y36 := HS2.out.r.frozen 36
    have HF := Lib.hid ((HS2.out.cw false).iw false)
    go_upto_region 7 with fail
    generalize (w2.setCell ⟨w.heap.size, 35, none⟩ (.bool false)).setCell ⟨w.heap.size, 36, none⟩ (.bool false) = wz at *
    clear c35 c36 y35 y36
    go_wp2_with (first | (refine wpList_load_row rfl RfT _ rfl w.heap.size rfl RfT _ (0, 0) _ HF.out.r Tryd.underlying58 rfl (iRf _) ?_) | (refine wpList_store_row rfl RfT _ _ rfl (w.heap.size + 1) (refV (({ (S.put (⟨hh, f, false, false⟩ : S) 2816 (incr ((⟨hh, f, false, false⟩ : S).f 2816))) with cw := false, iw := false } : S))) rfl rfl RfT _ HF.out.z (iRf _) (by rw [refV_size, refV_size]) (rfV_one _) ?_))
    exact bodyPost_ret (results_cell_row Tryd.results37 _ _ _ _ _ _ _ rfl (HF.out.z.row _) Tryd.underlying58 rfl (iRf _)) rfl ⟨rfl, below_setRow HF.out.bel (by omega) _⟩
  · skip
    go_enter Tryd.func37, Tryd.ntmps37
    go_upto_region 1 with (refine wpList_allocY rfl _ rfl RfT rfl (refV (zero 0)) (zero_rf _) ?_)
    generalize ((w.alloc (.cells (refV (⟨hh, f, false, false⟩ : S)) RfT)).alloc (.cells (refV (zero 0)) RfT)) = w1 at *
    have c35 : w1.cell? ⟨w.heap.size, 35, none⟩ = some (.bool false) := HS1.out.c35
    have c36 : w1.cell? ⟨w.heap.size, 36, none⟩ = some (.bool false) := HS1.out.c36
    have y35 := HS1.out.r.frozen 35
    have y36 := HS1.out.r.frozen 36
    go_upto_region 2 with fail
    clear c35 c36 y35 y36
    refine wp_region_steady_tail (fun W => RtS w W (⟨hh, f, false, false⟩ : S) (zero 0)) 5 (by kernel_rfl) (by kernel_rfl) HS1.out.drew ?_
    refine steady_val (.agg (refV (⟨hh, f, false, false⟩ : S))) ?_ (by kernel_rfl) (fun W hS => exec_load_row RfT _ rfl w.heap.size rfl RfT _ _ hS.r Tryd.underlying58 rfl (iRf _)) ?_ ?_
    rotate_left 1
    · go_simp
      exact rfl
    refine steady_val (.agg (refV (⟨hh, f, false, false⟩ : S))) ?_ (by kernel_rfl) (fun W hS => exec_load_row RfT _ rfl w.heap.size rfl RfT _ _ hS.r Tryd.underlying58 rfl (iRf _)) ?_ ?_
    rotate_left 1
    · go_simp
      exact rfl
    refine steady_enter (.int .u64 ((⟨hh, f, false, false⟩ : S).f 2816)) 65 #[.agg (refV (⟨hh, f, false, false⟩ : S)), .string ⟨#[109, 99, 121, 99, 108, 101]⟩] ?_ (by kernel_rfl) (fun W hS => ?_) (fun W hS => (HWD.out (⟨hh, f, false, false⟩ : S) ⟨#[109, 99, 121, 99, 108, 101]⟩ 25 (by decide) nc_mcycle W).mono (by rintro e w' ⟨rfl, hb⟩; exact ⟨rfl, hS.low hb⟩)) ?_ ?_
    rotate_left 1
    · go_simp
    · go_simp
      exact rfl
    refine steady_val ?_ ?_ (by kernel_rfl) (fun W hS => ?_) ?_ ?_
    rotate_left 2
    · go_simp
      exact rfl
    · go_simp
      exact rfl
    refine steady_enter (.agg (refV (S.put (⟨hh, f, false, false⟩ : S) 2816 (incr ((⟨hh, f, false, false⟩ : S).f 2816))))) 57 #[.agg (refV (⟨hh, f, false, false⟩ : S)), .string ⟨#[109, 99, 121, 99, 108, 101]⟩, .int .u64 (IntKind.u64.wrap ((⟨hh, f, false, false⟩ : S).f 2816 + 1))] ?_ (by kernel_rfl) (fun W hS => ?_) (fun W hS => (HWT.out (⟨hh, f, false, false⟩ : S) ⟨#[109, 99, 121, 99, 108, 101]⟩ (IntKind.u64.wrap ((⟨hh, f, false, false⟩ : S).f 2816 + 1)) 25 (by decide) nc_mcycle W).mono (by rintro e w' ⟨rfl, hb⟩; exact ⟨rfl, hS.low hb⟩)) ?_ ?_
    rotate_left 1
    · go_simp
    · go_simp
      exact rfl
    refine steady_nil ?_
    intro W2 hS
    have HSZ2 := Lib.hid hS
    clear hS
    simp only [List.drop_succ_cons, List.drop_zero]
    have HS2 := Lib.hid (HSZ2.out.put (S.put (⟨hh, f, false, false⟩ : S) 2816 (incr ((⟨hh, f, false, false⟩ : S).f 2816))))
    go_upto_region 3 with (refine wpList_store_row rfl RfT _ _ rfl w.heap.size (refV ((S.put (⟨hh, f, false, false⟩ : S) 2816 (incr ((⟨hh, f, false, false⟩ : S).f 2816))))) rfl rfl RfT _ HSZ2.out.r (iRf _) (by rw [refV_size, refV_size]) (rfV_one _) ?_)
    generalize W2.setRow w.heap.size (refV (S.put (⟨hh, f, false, false⟩ : S) 2816 (incr ((⟨hh, f, false, false⟩ : S).f 2816)))) = w2 at *
    have c35 : w2.cell? ⟨w.heap.size, 35, none⟩ = some (.bool false) := HS2.out.c35
    have c36 : w2.cell? ⟨w.heap.size, 36, none⟩ = some (.bool false) := HS2.out.c36
    have y35 := HS2.out.r.frozen 35
    have y36 := HS2.out.r.frozen 36
    go_upto_region 4 with fail
    clear c35 c36 y35 y36
    refine wp_region_steady_tail (fun W => RtS w W (S.put (⟨hh, f, false, false⟩ : S) 2816 (incr ((⟨hh, f, false, false⟩ : S).f 2816))) (zero 0)) 5 (by kernel_rfl) (by kernel_rfl) HS2.out.drew ?_
    refine steady_val (.agg (refV (S.put (⟨hh, f, false, false⟩ : S) 2816 (incr ((⟨hh, f, false, false⟩ : S).f 2816))))) ?_ (by kernel_rfl) (fun W hS => exec_load_row RfT _ rfl w.heap.size rfl RfT _ _ hS.r Tryd.underlying58 rfl (iRf _)) ?_ ?_
    rotate_left 1
    · go_simp
      exact rfl
    refine steady_val (.agg (refV (S.put (⟨hh, f, false, false⟩ : S) 2816 (incr ((⟨hh, f, false, false⟩ : S).f 2816))))) ?_ (by kernel_rfl) (fun W hS => exec_load_row RfT _ rfl w.heap.size rfl RfT _ _ hS.r Tryd.underlying58 rfl (iRf _)) ?_ ?_
    rotate_left 1
    · go_simp
      exact rfl
    refine steady_enter (.int .u64 ((S.put (⟨hh, f, false, false⟩ : S) 2816 (incr ((⟨hh, f, false, false⟩ : S).f 2816))).f 2818)) 65 #[.agg (refV (S.put (⟨hh, f, false, false⟩ : S) 2816 (incr ((⟨hh, f, false, false⟩ : S).f 2816)))), .string ⟨#[109, 105, 110, 115, 116, 114, 101, 116]⟩] ?_ (by kernel_rfl) (fun W hS => ?_) (fun W hS => (HWD.out (S.put (⟨hh, f, false, false⟩ : S) 2816 (incr ((⟨hh, f, false, false⟩ : S).f 2816))) ⟨#[109, 105, 110, 115, 116, 114, 101, 116]⟩ 26 (by decide) nc_minstret W).mono (by rintro e w' ⟨rfl, hb⟩; exact ⟨rfl, hS.low hb⟩)) ?_ ?_
    rotate_left 1
    · go_simp
    · go_simp
      exact rfl
    refine steady_val ?_ ?_ (by kernel_rfl) (fun W hS => ?_) ?_ ?_
    rotate_left 2
    · go_simp
      exact rfl
    · go_simp
      exact rfl
    refine steady_enter (.agg (refV (S.put (S.put (⟨hh, f, false, false⟩ : S) 2816 (incr ((⟨hh, f, false, false⟩ : S).f 2816))) 2818 (incr ((S.put (⟨hh, f, false, false⟩ : S) 2816 (incr ((⟨hh, f, false, false⟩ : S).f 2816))).f 2818))))) 57 #[.agg (refV (S.put (⟨hh, f, false, false⟩ : S) 2816 (incr ((⟨hh, f, false, false⟩ : S).f 2816)))), .string ⟨#[109, 105, 110, 115, 116, 114, 101, 116]⟩, .int .u64 (IntKind.u64.wrap ((S.put (⟨hh, f, false, false⟩ : S) 2816 (incr ((⟨hh, f, false, false⟩ : S).f 2816))).f 2818 + 1))] ?_ (by kernel_rfl) (fun W hS => ?_) (fun W hS => (HWT.out (S.put (⟨hh, f, false, false⟩ : S) 2816 (incr ((⟨hh, f, false, false⟩ : S).f 2816))) ⟨#[109, 105, 110, 115, 116, 114, 101, 116]⟩ (IntKind.u64.wrap ((S.put (⟨hh, f, false, false⟩ : S) 2816 (incr ((⟨hh, f, false, false⟩ : S).f 2816))).f 2818 + 1)) 26 (by decide) nc_minstret W).mono (by rintro e w' ⟨rfl, hb⟩; exact ⟨rfl, hS.low hb⟩)) ?_ ?_
    rotate_left 1
    · go_simp
    · go_simp
      exact rfl
    refine steady_nil ?_
    intro W3 hS
    have HSZ3 := Lib.hid hS
    clear hS
    simp only [List.drop_succ_cons, List.drop_zero]
    have HS3 := Lib.hid (HSZ3.out.put (S.put (S.put (⟨hh, f, false, false⟩ : S) 2816 (incr ((⟨hh, f, false, false⟩ : S).f 2816))) 2818 (incr ((S.put (⟨hh, f, false, false⟩ : S) 2816 (incr ((⟨hh, f, false, false⟩ : S).f 2816))).f 2818))))
    go_upto_region 5 with (refine wpList_store_row rfl RfT _ _ rfl w.heap.size (refV ((S.put (S.put (⟨hh, f, false, false⟩ : S) 2816 (incr ((⟨hh, f, false, false⟩ : S).f 2816))) 2818 (incr ((S.put (⟨hh, f, false, false⟩ : S) 2816 (incr ((⟨hh, f, false, false⟩ : S).f 2816))).f 2818))))) rfl rfl RfT _ HSZ3.out.r (iRf _) (by rw [refV_size, refV_size]) (rfV_one _) ?_)
    generalize W3.setRow w.heap.size (refV (S.put (S.put (⟨hh, f, false, false⟩ : S) 2816 (incr ((⟨hh, f, false, false⟩ : S).f 2816))) 2818 (incr ((S.put (⟨hh, f, false, false⟩ : S) 2816 (incr ((⟨hh, f, false, false⟩ : S).f 2816))).f 2818)))) = w3 at *
    have c35 : w3.cell? ⟨w.heap.size, 35, none⟩ = some (.bool false) := HS3.out.c35
    have c36 : w3.cell? ⟨w.heap.size, 36, none⟩ = some (.bool false) := HS3.out.c36
    have y35 := HS3.out.r.frozen 35
    have y36 := HS3.out.r.frozen 36
    have HF := Lib.hid ((HS3.out.cw false).iw false)
    go_upto_region 7 with fail
    generalize (w3.setCell ⟨w.heap.size, 35, none⟩ (.bool false)).setCell ⟨w.heap.size, 36, none⟩ (.bool false) = wz at *
    clear c35 c36 y35 y36
    go_wp2_with (first | (refine wpList_load_row rfl RfT _ rfl w.heap.size rfl RfT _ (0, 0) _ HF.out.r Tryd.underlying58 rfl (iRf _) ?_) | (refine wpList_store_row rfl RfT _ _ rfl (w.heap.size + 1) (refV (({ (S.put (S.put (⟨hh, f, false, false⟩ : S) 2816 (incr ((⟨hh, f, false, false⟩ : S).f 2816))) 2818 (incr ((S.put (⟨hh, f, false, false⟩ : S) 2816 (incr ((⟨hh, f, false, false⟩ : S).f 2816))).f 2818))) with cw := false, iw := false } : S))) rfl rfl RfT _ HF.out.z (iRf _) (by rw [refV_size, refV_size]) (rfV_one _) ?_))
    exact bodyPost_ret (results_cell_row Tryd.results37 _ _ _ _ _ _ _ rfl (HF.out.z.row _) Tryd.underlying58 rfl (iRf _)) rfl ⟨rfl, below_setRow HF.out.bel (by omega) _⟩
  · skip
    go_enter Tryd.func37, Tryd.ntmps37
    go_upto_region 1 with (refine wpList_allocY rfl _ rfl RfT rfl (refV (zero 0)) (zero_rf _) ?_)
    generalize ((w.alloc (.cells (refV (⟨hh, f, false, true⟩ : S)) RfT)).alloc (.cells (refV (zero 0)) RfT)) = w1 at *
    have c35 : w1.cell? ⟨w.heap.size, 35, none⟩ = some (.bool false) := HS1.out.c35
    have c36 : w1.cell? ⟨w.heap.size, 36, none⟩ = some (.bool true) := HS1.out.c36
    have y35 := HS1.out.r.frozen 35
    have y36 := HS1.out.r.frozen 36
    go_upto_region 2 with fail
    clear c35 c36 y35 y36
    refine wp_region_steady_tail (fun W => RtS w W (⟨hh, f, false, true⟩ : S) (zero 0)) 5 (by kernel_rfl) (by kernel_rfl) HS1.out.drew ?_
    refine steady_val (.agg (refV (⟨hh, f, false, true⟩ : S))) ?_ (by kernel_rfl) (fun W hS => exec_load_row RfT _ rfl w.heap.size rfl RfT _ _ hS.r Tryd.underlying58 rfl (iRf _)) ?_ ?_
    rotate_left 1
    · go_simp
      exact rfl
    refine steady_val (.agg (refV (⟨hh, f, false, true⟩ : S))) ?_ (by kernel_rfl) (fun W hS => exec_load_row RfT _ rfl w.heap.size rfl RfT _ _ hS.r Tryd.underlying58 rfl (iRf _)) ?_ ?_
    rotate_left 1
    · go_simp
      exact rfl
    refine steady_enter (.int .u64 ((⟨hh, f, false, true⟩ : S).f 2816)) 65 #[.agg (refV (⟨hh, f, false, true⟩ : S)), .string ⟨#[109, 99, 121, 99, 108, 101]⟩] ?_ (by kernel_rfl) (fun W hS => ?_) (fun W hS => (HWD.out (⟨hh, f, false, true⟩ : S) ⟨#[109, 99, 121, 99, 108, 101]⟩ 25 (by decide) nc_mcycle W).mono (by rintro e w' ⟨rfl, hb⟩; exact ⟨rfl, hS.low hb⟩)) ?_ ?_
    rotate_left 1
    · go_simp
    · go_simp
      exact rfl
    refine steady_val ?_ ?_ (by kernel_rfl) (fun W hS => ?_) ?_ ?_
    rotate_left 2
    · go_simp
      exact rfl
    · go_simp
      exact rfl
    refine steady_enter (.agg (refV (S.put (⟨hh, f, false, true⟩ : S) 2816 (incr ((⟨hh, f, false, true⟩ : S).f 2816))))) 57 #[.agg (refV (⟨hh, f, false, true⟩ : S)), .string ⟨#[109, 99, 121, 99, 108, 101]⟩, .int .u64 (IntKind.u64.wrap ((⟨hh, f, false, true⟩ : S).f 2816 + 1))] ?_ (by kernel_rfl) (fun W hS => ?_) (fun W hS => (HWT.out (⟨hh, f, false, true⟩ : S) ⟨#[109, 99, 121, 99, 108, 101]⟩ (IntKind.u64.wrap ((⟨hh, f, false, true⟩ : S).f 2816 + 1)) 25 (by decide) nc_mcycle W).mono (by rintro e w' ⟨rfl, hb⟩; exact ⟨rfl, hS.low hb⟩)) ?_ ?_
    rotate_left 1
    · go_simp
    · go_simp
      exact rfl
    refine steady_nil ?_
    intro W2 hS
    have HSZ2 := Lib.hid hS
    clear hS
    simp only [List.drop_succ_cons, List.drop_zero]
    have HS2 := Lib.hid (HSZ2.out.put (S.put (⟨hh, f, false, true⟩ : S) 2816 (incr ((⟨hh, f, false, true⟩ : S).f 2816))))
    go_upto_region 3 with (refine wpList_store_row rfl RfT _ _ rfl w.heap.size (refV ((S.put (⟨hh, f, false, true⟩ : S) 2816 (incr ((⟨hh, f, false, true⟩ : S).f 2816))))) rfl rfl RfT _ HSZ2.out.r (iRf _) (by rw [refV_size, refV_size]) (rfV_one _) ?_)
    generalize W2.setRow w.heap.size (refV (S.put (⟨hh, f, false, true⟩ : S) 2816 (incr ((⟨hh, f, false, true⟩ : S).f 2816)))) = w2 at *
    have c35 : w2.cell? ⟨w.heap.size, 35, none⟩ = some (.bool false) := HS2.out.c35
    have c36 : w2.cell? ⟨w.heap.size, 36, none⟩ = some (.bool true) := HS2.out.c36
    have y35 := HS2.out.r.frozen 35
    have y36 := HS2.out.r.frozen 36
    have HF := Lib.hid ((HS2.out.cw false).iw false)
    go_upto_region 7 with fail
    generalize (w2.setCell ⟨w.heap.size, 35, none⟩ (.bool false)).setCell ⟨w.heap.size, 36, none⟩ (.bool false) = wz at *
    clear c35 c36 y35 y36
    go_wp2_with (first | (refine wpList_load_row rfl RfT _ rfl w.heap.size rfl RfT _ (0, 0) _ HF.out.r Tryd.underlying58 rfl (iRf _) ?_) | (refine wpList_store_row rfl RfT _ _ rfl (w.heap.size + 1) (refV (({ (S.put (⟨hh, f, false, true⟩ : S) 2816 (incr ((⟨hh, f, false, true⟩ : S).f 2816))) with cw := false, iw := false } : S))) rfl rfl RfT _ HF.out.z (iRf _) (by rw [refV_size, refV_size]) (rfV_one _) ?_))
    exact bodyPost_ret (results_cell_row Tryd.results37 _ _ _ _ _ _ _ rfl (HF.out.z.row _) Tryd.underlying58 rfl (iRf _)) rfl ⟨rfl, below_setRow HF.out.bel (by omega) _⟩
  · skip
    go_enter Tryd.func37, Tryd.ntmps37
    go_upto_region 1 with (refine wpList_allocY rfl _ rfl RfT rfl (refV (zero 0)) (zero_rf _) ?_)
    generalize ((w.alloc (.cells (refV (⟨hh, f, false, true⟩ : S)) RfT)).alloc (.cells (refV (zero 0)) RfT)) = w1 at *
    have c35 : w1.cell? ⟨w.heap.size, 35, none⟩ = some (.bool false) := HS1.out.c35
    have c36 : w1.cell? ⟨w.heap.size, 36, none⟩ = some (.bool true) := HS1.out.c36
    have y35 := HS1.out.r.frozen 35
    have y36 := HS1.out.r.frozen 36
    go_upto_region 2 with fail
    clear c35 c36 y35 y36
    refine wp_region_steady_tail (fun W => RtS w W (⟨hh, f, false, true⟩ : S) (zero 0)) 5 (by kernel_rfl) (by kernel_rfl) HS1.out.drew ?_
    refine steady_val (.agg (refV (⟨hh, f, false, true⟩ : S))) ?_ (by kernel_rfl) (fun W hS => exec_load_row RfT _ rfl w.heap.size rfl RfT _ _ hS.r Tryd.underlying58 rfl (iRf _)) ?_ ?_
    rotate_left 1
    · go_simp
      exact rfl
    refine steady_val (.agg (refV (⟨hh, f, false, true⟩ : S))) ?_ (by kernel_rfl) (fun W hS => exec_load_row RfT _ rfl w.heap.size rfl RfT _ _ hS.r Tryd.underlying58 rfl (iRf _)) ?_ ?_
    rotate_left 1
    · go_simp
      exact rfl
    refine steady_enter (.int .u64 ((⟨hh, f, false, true⟩ : S).f 2816)) 65 #[.agg (refV (⟨hh, f, false, true⟩ : S)), .string ⟨#[109, 99, 121, 99, 108, 101]⟩] ?_ (by kernel_rfl) (fun W hS => ?_) (fun W hS => (HWD.out (⟨hh, f, false, true⟩ : S) ⟨#[109, 99, 121, 99, 108, 101]⟩ 25 (by decide) nc_mcycle W).mono (by rintro e w' ⟨rfl, hb⟩; exact ⟨rfl, hS.low hb⟩)) ?_ ?_
    rotate_left 1
    · go_simp
    · go_simp
      exact rfl
    refine steady_val ?_ ?_ (by kernel_rfl) (fun W hS => ?_) ?_ ?_
    rotate_left 2
    · go_simp
      exact rfl
    · go_simp
      exact rfl
    refine steady_enter (.agg (refV (S.put (⟨hh, f, false, true⟩ : S) 2816 (incr ((⟨hh, f, false, true⟩ : S).f 2816))))) 57 #[.agg (refV (⟨hh, f, false, true⟩ : S)), .string ⟨#[109, 99, 121, 99, 108, 101]⟩, .int .u64 (IntKind.u64.wrap ((⟨hh, f, false, true⟩ : S).f 2816 + 1))] ?_ (by kernel_rfl) (fun W hS => ?_) (fun W hS => (HWT.out (⟨hh, f, false, true⟩ : S) ⟨#[109, 99, 121, 99, 108, 101]⟩ (IntKind.u64.wrap ((⟨hh, f, false, true⟩ : S).f 2816 + 1)) 25 (by decide) nc_mcycle W).mono (by rintro e w' ⟨rfl, hb⟩; exact ⟨rfl, hS.low hb⟩)) ?_ ?_
    rotate_left 1
    · go_simp
    · go_simp
      exact rfl
    refine steady_nil ?_
    intro W2 hS
    have HSZ2 := Lib.hid hS
    clear hS
    simp only [List.drop_succ_cons, List.drop_zero]
    have HS2 := Lib.hid (HSZ2.out.put (S.put (⟨hh, f, false, true⟩ : S) 2816 (incr ((⟨hh, f, false, true⟩ : S).f 2816))))
    go_upto_region 3 with (refine wpList_store_row rfl RfT _ _ rfl w.heap.size (refV ((S.put (⟨hh, f, false, true⟩ : S) 2816 (incr ((⟨hh, f, false, true⟩ : S).f 2816))))) rfl rfl RfT _ HSZ2.out.r (iRf _) (by rw [refV_size, refV_size]) (rfV_one _) ?_)
    generalize W2.setRow w.heap.size (refV (S.put (⟨hh, f, false, true⟩ : S) 2816 (incr ((⟨hh, f, false, true⟩ : S).f 2816)))) = w2 at *
    have c35 : w2.cell? ⟨w.heap.size, 35, none⟩ = some (.bool false) := HS2.out.c35
    have c36 : w2.cell? ⟨w.heap.size, 36, none⟩ = some (.bool true) := HS2.out.c36
    have y35 := HS2.out.r.frozen 35
    have y36 := HS2.out.r.frozen 36
    have HF := Lib.hid ((HS2.out.cw false).iw false)
    go_upto_region 7 with fail
    generalize (w2.setCell ⟨w.heap.size, 35, none⟩ (.bool false)).setCell ⟨w.heap.size, 36, none⟩ (.bool false) = wz at *
    clear c35 c36 y35 y36
    go_wp2_with (first | (refine wpList_load_row rfl RfT _ rfl w.heap.size rfl RfT _ (0, 0) _ HF.out.r Tryd.underlying58 rfl (iRf _) ?_) | (refine wpList_store_row rfl RfT _ _ rfl (w.heap.size + 1) (refV (({ (S.put (⟨hh, f, false, true⟩ : S) 2816 (incr ((⟨hh, f, false, true⟩ : S).f 2816))) with cw := false, iw := false } : S))) rfl rfl RfT _ HF.out.z (iRf _) (by rw [refV_size, refV_size]) (rfV_one _) ?_))
    exact bodyPost_ret (results_cell_row Tryd.results37 _ _ _ _ _ _ _ rfl (HF.out.z.row _) Tryd.underlying58 rfl (iRf _)) rfl ⟨rfl, below_setRow HF.out.bel (by omega) _⟩
  · skip
    go_enter Tryd.func37, Tryd.ntmps37
    go_upto_region 1 with (refine wpList_allocY rfl _ rfl RfT rfl (refV (zero 0)) (zero_rf _) ?_)
    generalize ((w.alloc (.cells (refV (⟨hh, f, true, false⟩ : S)) RfT)).alloc (.cells (refV (zero 0)) RfT)) = w1 at *
    have c35 : w1.cell? ⟨w.heap.size, 35, none⟩ = some (.bool true) := HS1.out.c35
    have c36 : w1.cell? ⟨w.heap.size, 36, none⟩ = some (.bool false) := HS1.out.c36
    have y35 := HS1.out.r.frozen 35
    have y36 := HS1.out.r.frozen 36
    have HF := Lib.hid ((HS1.out.cw false).iw false)
    go_upto_region 7 with fail
    generalize (w1.setCell ⟨w.heap.size, 35, none⟩ (.bool false)).setCell ⟨w.heap.size, 36, none⟩ (.bool false) = wz at *
    clear c35 c36 y35 y36
    go_wp2_with (first | (refine wpList_load_row rfl RfT _ rfl w.heap.size rfl RfT _ (0, 0) _ HF.out.r Tryd.underlying58 rfl (iRf _) ?_) | (refine wpList_store_row rfl RfT _ _ rfl (w.heap.size + 1) (refV (({ (⟨hh, f, true, false⟩ : S) with cw := false, iw := false } : S))) rfl rfl RfT _ HF.out.z (iRf _) (by rw [refV_size, refV_size]) (rfV_one _) ?_))
    exact bodyPost_ret (results_cell_row Tryd.results37 _ _ _ _ _ _ _ rfl (HF.out.z.row _) Tryd.underlying58 rfl (iRf _)) rfl ⟨rfl, below_setRow HF.out.bel (by omega) _⟩
  · skip
    go_enter Tryd.func37, Tryd.ntmps37
    go_upto_region 1 with (refine wpList_allocY rfl _ rfl RfT rfl (refV (zero 0)) (zero_rf _) ?_)
    generalize ((w.alloc (.cells (refV (⟨hh, f, true, false⟩ : S)) RfT)).alloc (.cells (refV (zero 0)) RfT)) = w1 at *
    have c35 : w1.cell? ⟨w.heap.size, 35, none⟩ = some (.bool true) := HS1.out.c35
    have c36 : w1.cell? ⟨w.heap.size, 36, none⟩ = some (.bool false) := HS1.out.c36
    have y35 := HS1.out.r.frozen 35
    have y36 := HS1.out.r.frozen 36
    go_upto_region 4 with fail
    clear c35 c36 y35 y36
    refine wp_region_steady_tail (fun W => RtS w W (⟨hh, f, true, false⟩ : S) (zero 0)) 5 (by kernel_rfl) (by kernel_rfl) HS1.out.drew ?_
    refine steady_val (.agg (refV (⟨hh, f, true, false⟩ : S))) ?_ (by kernel_rfl) (fun W hS => exec_load_row RfT _ rfl w.heap.size rfl RfT _ _ hS.r Tryd.underlying58 rfl (iRf _)) ?_ ?_
    rotate_left 1
    · go_simp
      exact rfl
    refine steady_val (.agg (refV (⟨hh, f, true, false⟩ : S))) ?_ (by kernel_rfl) (fun W hS => exec_load_row RfT _ rfl w.heap.size rfl RfT _ _ hS.r Tryd.underlying58 rfl (iRf _)) ?_ ?_
    rotate_left 1
    · go_simp
      exact rfl
    refine steady_enter (.int .u64 ((⟨hh, f, true, false⟩ : S).f 2818)) 65 #[.agg (refV (⟨hh, f, true, false⟩ : S)), .string ⟨#[109, 105, 110, 115, 116, 114, 101, 116]⟩] ?_ (by kernel_rfl) (fun W hS => ?_) (fun W hS => (HWD.out (⟨hh, f, true, false⟩ : S) ⟨#[109, 105, 110, 115, 116, 114, 101, 116]⟩ 26 (by decide) nc_minstret W).mono (by rintro e w' ⟨rfl, hb⟩; exact ⟨rfl, hS.low hb⟩)) ?_ ?_
    rotate_left 1
    · go_simp
    · go_simp
      exact rfl
    refine steady_val ?_ ?_ (by kernel_rfl) (fun W hS => ?_) ?_ ?_
    rotate_left 2
    · go_simp
      exact rfl
    · go_simp
      exact rfl
    refine steady_enter (.agg (refV (S.put (⟨hh, f, true, false⟩ : S) 2818 (incr ((⟨hh, f, true, false⟩ : S).f 2818))))) 57 #[.agg (refV (⟨hh, f, true, false⟩ : S)), .string ⟨#[109, 105, 110, 115, 116, 114, 101, 116]⟩, .int .u64 (IntKind.u64.wrap ((⟨hh, f, true, false⟩ : S).f 2818 + 1))] ?_ (by kernel_rfl) (fun W hS => ?_) (fun W hS => (HWT.out (⟨hh, f, true, false⟩ : S) ⟨#[109, 105, 110, 115, 116, 114, 101, 116]⟩ (IntKind.u64.wrap ((⟨hh, f, true, false⟩ : S).f 2818 + 1)) 26 (by decide) nc_minstret W).mono (by rintro e w' ⟨rfl, hb⟩; exact ⟨rfl, hS.low hb⟩)) ?_ ?_
    rotate_left 1
    · go_simp
    · go_simp
      exact rfl
    refine steady_nil ?_
    intro W2 hS
    have HSZ2 := Lib.hid hS
    clear hS
    simp only [List.drop_succ_cons, List.drop_zero]
    have HS2 := Lib.hid (HSZ2.out.put (S.put (⟨hh, f, true, false⟩ : S) 2818 (incr ((⟨hh, f, true, false⟩ : S).f 2818))))
    go_upto_region 5 with (refine wpList_store_row rfl RfT _ _ rfl w.heap.size (refV ((S.put (⟨hh, f, true, false⟩ : S) 2818 (incr ((⟨hh, f, true, false⟩ : S).f 2818))))) rfl rfl RfT _ HSZ2.out.r (iRf _) (by rw [refV_size, refV_size]) (rfV_one _) ?_)
    generalize W2.setRow w.heap.size (refV (S.put (⟨hh, f, true, false⟩ : S) 2818 (incr ((⟨hh, f, true, false⟩ : S).f 2818)))) = w2 at *
    have c35 : w2.cell? ⟨w.heap.size, 35, none⟩ = some (.bool true) := HS2.out.c35
    have c36 : w2.cell? ⟨w.heap.size, 36, none⟩ = some (.bool false) := HS2.out.c36
    have y35 := HS2.out.r.frozen 35
    have y36 := HS2.out.r.frozen 36
    have HF := Lib.hid ((HS2.out.cw false).iw false)
    go_upto_region 7 with fail
    generalize (w2.setCell ⟨w.heap.size, 35, none⟩ (.bool false)).setCell ⟨w.heap.size, 36, none⟩ (.bool false) = wz at *
    clear c35 c36 y35 y36
    go_wp2_with (first | (refine wpList_load_row rfl RfT _ rfl w.heap.size rfl RfT _ (0, 0) _ HF.out.r Tryd.underlying58 rfl (iRf _) ?_) | (refine wpList_store_row rfl RfT _ _ rfl (w.heap.size + 1) (refV (({ (S.put (⟨hh, f, true, false⟩ : S) 2818 (incr ((⟨hh, f, true, false⟩ : S).f 2818))) with cw := false, iw := false } : S))) rfl rfl RfT _ HF.out.z (iRf _) (by rw [refV_size, refV_size]) (rfV_one _) ?_))
    exact bodyPost_ret (results_cell_row Tryd.results37 _ _ _ _ _ _ _ rfl (HF.out.z.row _) Tryd.underlying58 rfl (iRf _)) rfl ⟨rfl, below_setRow HF.out.bel (by omega) _⟩
  · skip
    go_enter Tryd.func37, Tryd.ntmps37
    go_upto_region 1 with (refine wpList_allocY rfl _ rfl RfT rfl (refV (zero 0)) (zero_rf _) ?_)
    generalize ((w.alloc (.cells (refV (⟨hh, f, true, true⟩ : S)) RfT)).alloc (.cells (refV (zero 0)) RfT)) = w1 at *
    have c35 : w1.cell? ⟨w.heap.size, 35, none⟩ = some (.bool true) := HS1.out.c35
    have c36 : w1.cell? ⟨w.heap.size, 36, none⟩ = some (.bool true) := HS1.out.c36
    have y35 := HS1.out.r.frozen 35
    have y36 := HS1.out.r.frozen 36
    have HF := Lib.hid ((HS1.out.cw false).iw false)
    go_upto_region 7 with fail
    generalize (w1.setCell ⟨w.heap.size, 35, none⟩ (.bool false)).setCell ⟨w.heap.size, 36, none⟩ (.bool false) = wz at *
    clear c35 c36 y35 y36
    go_wp2_with (first | (refine wpList_load_row rfl RfT _ rfl w.heap.size rfl RfT _ (0, 0) _ HF.out.r Tryd.underlying58 rfl (iRf _) ?_) | (refine wpList_store_row rfl RfT _ _ rfl (w.heap.size + 1) (refV (({ (⟨hh, f, true, true⟩ : S) with cw := false, iw := false } : S))) rfl rfl RfT _ HF.out.z (iRf _) (by rw [refV_size, refV_size]) (rfV_one _) ?_))
    exact bodyPost_ret (results_cell_row Tryd.results37 _ _ _ _ _ _ _ rfl (HF.out.z.row _) Tryd.underlying58 rfl (iRf _)) rfl ⟨rfl, below_setRow HF.out.bel (by omega) _⟩
  · skip
    go_enter Tryd.func37, Tryd.ntmps37
    go_upto_region 1 with (refine wpList_allocY rfl _ rfl RfT rfl (refV (zero 0)) (zero_rf _) ?_)
    generalize ((w.alloc (.cells (refV (⟨hh, f, true, true⟩ : S)) RfT)).alloc (.cells (refV (zero 0)) RfT)) = w1 at *
    have c35 : w1.cell? ⟨w.heap.size, 35, none⟩ = some (.bool true) := HS1.out.c35
    have c36 : w1.cell? ⟨w.heap.size, 36, none⟩ = some (.bool true) := HS1.out.c36
    have y35 := HS1.out.r.frozen 35
    have y36 := HS1.out.r.frozen 36
    have HF := Lib.hid ((HS1.out.cw false).iw false)
    go_upto_region 7 with fail
    generalize (w1.setCell ⟨w.heap.size, 35, none⟩ (.bool false)).setCell ⟨w.heap.size, 36, none⟩ (.bool false) = wz at *
    clear c35 c36 y35 y36
    go_wp2_with (first | (refine wpList_load_row rfl RfT _ rfl w.heap.size rfl RfT _ (0, 0) _ HF.out.r Tryd.underlying58 rfl (iRf _) ?_) | (refine wpList_store_row rfl RfT _ _ rfl (w.heap.size + 1) (refV (({ (⟨hh, f, true, true⟩ : S) with cw := false, iw := false } : S))) rfl rfl RfT _ HF.out.z (iRf _) (by rw [refV_size, refV_size]) (rfV_one _) ?_))
    exact bodyPost_ret (results_cell_row Tryd.results37 _ _ _ _ _ _ _ rfl (HF.out.z.row _) Tryd.underlying58 rfl (iRf _)) rfl ⟨rfl, below_setRow HF.out.bel (by omega) _⟩
set_option maxHeartbeats 8000000 in
theorem rdo22_c (s : S) (ok : Ok s) (op n rs1 v l : Int) (hv : W64 v) (hl : W64 l) (w : World) :
    Calls Tryd.prog 59 #[.agg (refV s), .int .i64 op, .int .i64 n, .int .i64 rs1, .int .u64 v, .int .u64 l] w fun e w' => e = .returned (.tuple #[.agg (refV (doS s op n rs1 v)), .int .u64 (doV s op n l)]) ∧ Below w.heap.size w w' := by
  have HS1 := Lib.hid (RtS.new w s)
  have HC := Lib.hid (fun W => refClass_c op W)
  have HG := Lib.hid (fun W => rget22_c s ok n l hl W)
  have HG0 := Lib.hid (fun W => rget22_c s ok n 0 ⟨by omega, by omega⟩ W)
  have HST := Lib.hid (fun x hx W => rset22_c s ok n x hx W)
  have HW := Lib.hid (fun W => rwrites22_c op rs1 W)
  have HBX := Lib.hid (get_64 ok n (l := 0) ⟨by omega, by omega⟩)
  have HVV := Lib.hid hv
  by_cases hc : classS op = 8
  · have HU := Lib.hid (show doS s op n rs1 v = if wrS op rs1 then setS s n (wtS op (getS s n 0) v) else s by unfold doS; rw [show (classS op == 8) = true by rw [hc]; rfl]; rfl)
    have HV := Lib.hid (show doV s op n l = getS s n l by unfold doV; rw [show (classS op == 8) = true by rw [hc]; rfl]; rfl)
    rw [hc] at HC
    generalize hxl : getS s n l = xl at *
    generalize hx0 : getS s n 0 = x0 at *
    clear hl hxl hx0 ok hv
    cases hw : wrS op rs1
    · rw [hw] at HU HW
      clear hw
      go_enter Tryd.func59, Tryd.ntmps59
      go_upto_region 1 with (refine wpList_allocY rfl _ rfl RfT rfl (refV (zero 0)) (zero_rf _) ?_)
      generalize ((w.alloc (.cells (refV s) RfT)).alloc (.cells (refV (zero 0)) RfT)) = w1 at *
      go_wp2_with fail
      refine (HC.out _).mono ?_
      rintro e w2 ⟨rfl, hb⟩
      have HS2 := Lib.hid (HS1.out.low hb)
      clear hb
      go_wp2_with (refine wpList_load_row rfl RfT _ rfl w.heap.size rfl RfT _ (0, 0) _ HS2.out.r Tryd.underlying58 rfl (iRf _) ?_)
      refine (HG.out _).mono ?_
      rintro e w3 ⟨rfl, hb⟩
      have HS3 := Lib.hid (HS2.out.low hb)
      clear hb
      go_wp2_with (refine wpList_load_row rfl RfT _ rfl w.heap.size rfl RfT _ (0, 0) _ HS3.out.r Tryd.underlying58 rfl (iRf _) ?_)
      refine (HW.out _).mono ?_
      rintro e w4 ⟨rfl, hb⟩
      have HS4 := Lib.hid (HS3.out.low hb)
      clear hb
      go_wp2_with (first | (refine wpList_load_row rfl RfT _ rfl w.heap.size rfl RfT _ (0, 0) _ HS4.out.r Tryd.underlying58 rfl (iRf _) ?_) | (refine wpList_store_row rfl RfT _ _ rfl (w.heap.size + 1) (refV (s)) rfl rfl RfT _ HS4.out.z (iRf _) (by rw [refV_size, refV_size]) (rfV_one _) ?_))
      exact bodyPost_ret (results_cbF RfT Tryd.results59 _ _ (w.heap.size + 1) _ _ rfl rfl (run_loadVar_row _ _ RfT RfT _ (0, 0) _ (HS4.out.z.row _) Tryd.underlying58 rfl (iRf _))) rfl ⟨by rw [HU.out, HV.out]; rfl, below_setRow HS4.out.bel (by omega) _⟩
    · rw [hw] at HU HW
      clear hw
      rcases class8 hc with rfl | rfl | rfl | rfl | rfl | rfl
      · skip
        have hwt : wtS 89 x0 v = v := by unfold wtS; simp
        rw [hwt] at HU
        have HSET := Lib.hid (fun W => HST.out (v) HVV.out W)
        clear hc hwt
        go_enter Tryd.func59, Tryd.ntmps59
        go_upto_region 1 with (refine wpList_allocY rfl _ rfl RfT rfl (refV (zero 0)) (zero_rf _) ?_)
        generalize ((w.alloc (.cells (refV s) RfT)).alloc (.cells (refV (zero 0)) RfT)) = w1 at *
        go_wp2_with fail
        refine (HC.out _).mono ?_
        rintro e w2 ⟨rfl, hb⟩
        have HS2 := Lib.hid (HS1.out.low hb)
        clear hb
        go_wp2_with (refine wpList_load_row rfl RfT _ rfl w.heap.size rfl RfT _ (0, 0) _ HS2.out.r Tryd.underlying58 rfl (iRf _) ?_)
        refine (HG.out _).mono ?_
        rintro e w3 ⟨rfl, hb⟩
        have HS3 := Lib.hid (HS2.out.low hb)
        clear hb
        go_wp2_with (refine wpList_load_row rfl RfT _ rfl w.heap.size rfl RfT _ (0, 0) _ HS3.out.r Tryd.underlying58 rfl (iRf _) ?_)
        refine (HW.out _).mono ?_
        rintro e w4 ⟨rfl, hb⟩
        have HS4 := Lib.hid (HS3.out.low hb)
        clear hb
        go_wp2_with (refine wpList_load_row rfl RfT _ rfl w.heap.size rfl RfT _ (0, 0) _ HS4.out.r Tryd.underlying58 rfl (iRf _) ?_)
        refine (HG0.out _).mono ?_
        rintro e w5 ⟨rfl, hb⟩
        have HS5 := Lib.hid (HS4.out.low hb)
        clear hb
        go_wp2_with fail
        refine (refNames4_c _).mono ?_
        rintro e w6 ⟨rfl, rfl⟩
        have c : _ = some (Value.string ⟨#[99, 115, 114, 114, 119]⟩) := names4_cell w5 89 (by omega)
        have HS6 := Lib.hid (HS5.out.low ((Below.refl w5.heap.size w5).alloc (Nat.le_refl _) (.cells (Tab.names4.map strV).toArray 9)))
        generalize (w5.alloc (.cells (Tab.names4.map strV).toArray 9)) = w6 at *
        go_wp2_with (refine wpList_load_row rfl RfT _ rfl w.heap.size rfl RfT _ (0, 0) _ HS6.out.r Tryd.underlying58 rfl (iRf _) ?_)
        refine (HSET.out _).mono ?_
        rintro e w7 ⟨rfl, hb⟩
        have HS7 := Lib.hid (HS6.out.low hb)
        clear hb
        go_wp2_with (refine wpList_store_row rfl RfT _ _ rfl (w.heap.size + 1) (refV (setS s n (v))) rfl rfl RfT _ HS7.out.z (iRf _) (by rw [refV_size, refV_size]) (rfV_one _) ?_)
        exact bodyPost_ret (results_cbF RfT Tryd.results59 _ _ (w.heap.size + 1) _ _ rfl rfl (run_loadVar_row _ _ RfT RfT _ (0, 0) _ (HS7.out.z.row _) Tryd.underlying58 rfl (iRf _))) rfl ⟨by rw [HU.out, HV.out]; rfl, below_setRow HS7.out.bel (by omega) _⟩
      · skip
        have hwt : wtS 90 x0 v = bits .or .u64 x0 v := by unfold wtS; simp
        rw [hwt] at HU
        have HSET := Lib.hid (fun W => HST.out (bits .or .u64 x0 v) (or_range HBX.out.1 HBX.out.2 HVV.out.1 HVV.out.2) W)
        clear hc hwt
        go_enter Tryd.func59, Tryd.ntmps59
        go_upto_region 1 with (refine wpList_allocY rfl _ rfl RfT rfl (refV (zero 0)) (zero_rf _) ?_)
        generalize ((w.alloc (.cells (refV s) RfT)).alloc (.cells (refV (zero 0)) RfT)) = w1 at *
        go_wp2_with fail
        refine (HC.out _).mono ?_
        rintro e w2 ⟨rfl, hb⟩
        have HS2 := Lib.hid (HS1.out.low hb)
        clear hb
        go_wp2_with (refine wpList_load_row rfl RfT _ rfl w.heap.size rfl RfT _ (0, 0) _ HS2.out.r Tryd.underlying58 rfl (iRf _) ?_)
        refine (HG.out _).mono ?_
        rintro e w3 ⟨rfl, hb⟩
        have HS3 := Lib.hid (HS2.out.low hb)
        clear hb
        go_wp2_with (refine wpList_load_row rfl RfT _ rfl w.heap.size rfl RfT _ (0, 0) _ HS3.out.r Tryd.underlying58 rfl (iRf _) ?_)
        refine (HW.out _).mono ?_
        rintro e w4 ⟨rfl, hb⟩
        have HS4 := Lib.hid (HS3.out.low hb)
        clear hb
        go_wp2_with (refine wpList_load_row rfl RfT _ rfl w.heap.size rfl RfT _ (0, 0) _ HS4.out.r Tryd.underlying58 rfl (iRf _) ?_)
        refine (HG0.out _).mono ?_
        rintro e w5 ⟨rfl, hb⟩
        have HS5 := Lib.hid (HS4.out.low hb)
        clear hb
        go_wp2_with fail
        refine (refNames4_c _).mono ?_
        rintro e w6 ⟨rfl, rfl⟩
        have c : _ = some (Value.string ⟨#[99, 115, 114, 114, 115]⟩) := names4_cell w5 90 (by omega)
        have HS6 := Lib.hid (HS5.out.low ((Below.refl w5.heap.size w5).alloc (Nat.le_refl _) (.cells (Tab.names4.map strV).toArray 9)))
        generalize (w5.alloc (.cells (Tab.names4.map strV).toArray 9)) = w6 at *
        go_upto_region 10 with fail
        have hs0 := HS6.out.drew
        refine wp_region_noPanic ?_
        refine wp_region_held (S := fun V => CsAt V w.heap.size RfT (refV s)) (by kernel_rfl) ?_
        refine takeH (fuel := 8) (i := 0) (.agg (refV s)) ?_ rfl (by kernel_rfl) (by kernel_rfl) (by kernel_rfl) (fun _ _ _ h => h) (by kernel_rfl) (fun W hS => exec_load_row RfT _ rfl w.heap.size rfl RfT _ _ hS Tryd.underlying58 rfl (iRf _)) hs0.r ?_ ?_
        rotate_left 1
        · go_simp
          exact rfl
        refine takeH (fuel := 7) (i := 1) (.int .i64 n) ?_ rfl (by kernel_rfl) (by kernel_rfl) (by kernel_rfl) (fun _ _ _ h => h) (by kernel_rfl) (fun W hS => by go_simp) hs0.r ?_ ?_
        rotate_left 1
        · go_simp
          exact rfl
        refine takeH (fuel := 6) (i := 2) (.int .u64 x0) ?_ rfl (by kernel_rfl) (by kernel_rfl) (by kernel_rfl) (fun _ _ _ h => h) (by kernel_rfl) (fun W hS => by go_simp) hs0.r ?_ ?_
        rotate_left 1
        · go_simp
          exact rfl
        refine takeH (fuel := 5) (i := 3) (.int .u64 v) ?_ rfl (by kernel_rfl) (by kernel_rfl) (by kernel_rfl) (fun _ _ _ h => h) (by kernel_rfl) (fun W hS => by go_simp) hs0.r ?_ ?_
        rotate_left 1
        · go_simp
          exact rfl
        refine takeH (fuel := 4) (i := 6) (.int .u64 xl) ?_ rfl (by kernel_rfl) (by kernel_rfl) (by kernel_rfl) (fun _ _ _ h => h) (by kernel_rfl) (fun W hS => by go_simp) hs0.r ?_ ?_
        rotate_left 1
        · go_simp
          exact rfl
        refine wpAnyH_all (fuel := 3) (rs := [4]) (by kernel_rfl) (by decide) ?_
        intro i hi
        obtain rfl : i = 4 := by simpa using hi
        refine wpOp_callX 88 #[.int .u64 x0, .int .u64 v] rfl (by kernel_rfl) (by go_simp) ?_
        refine (ror_c x0 v HBX.out HVV.out _).mono ?_
        rintro e w7 ⟨rfl, hb⟩
        have hs1 := hs0.low hb
        clear hb
        refine ⟨_, rfl, hs1.r, ?_⟩
        refine wpAnyH_all (fuel := 2) (rs := [5]) (by kernel_rfl) (by decide) ?_
        intro i hi
        obtain rfl : i = 5 := by simpa using hi
        refine wpOp_callX 58 #[.agg (refV s), .int .i64 n, .int .u64 (bits .or .u64 x0 v)] rfl (by kernel_rfl) (by go_simp) ?_
        refine (HSET.out _).mono ?_
        rintro e w8 ⟨rfl, hb⟩
        have hs2 := hs1.low hb
        clear hb
        refine ⟨_, rfl, hs2.r, ?_⟩
        refine wpAnyH_all (fuel := 1) (rs := [7]) (by kernel_rfl) (by decide) ?_
        intro i hi
        obtain rfl : i = 7 := by simpa using hi
        refine wpOp_unitB (w8.setRow (w.heap.size + 1) (refV (setS s n (bits .or .u64 x0 v)))) _ rfl (by kernel_rfl) (exec_store_row RfT _ _ rfl (w.heap.size + 1) (refV (setS s n (bits .or .u64 x0 v))) rfl rfl RfT _ hs2.z (iRf _) (by rw [refV_size, refV_size]) (rfV_one _)) rfl ?_
        have hs3 : CsAt (w8.setRow (w.heap.size + 1) (refV (setS s n (bits .or .u64 x0 v)))) w.heap.size RfT (refV s) := hs2.r.rowFar (by omega) _
        refine ⟨hs3, ?_⟩
        refine takeH (fuel := 0) (i := 8) (.int .u64 xl) ?_ rfl (by kernel_rfl) (by kernel_rfl) (by kernel_rfl) (fun _ _ _ h => h) (by kernel_rfl) (fun W hS => by go_simp) hs3 ?_ ?_
        rotate_left 1
        · go_simp
          exact rfl
        refine wpAnyH_done (by kernel_rfl) ?_ _
        refine NoPanic.normal ?_
        have HSZ := Lib.hid hs2
        clear hs0 hs1 hs2 hs3
        go_wp2_with fail
        exact bodyPost_ret (results_cbF RfT Tryd.results59 _ _ (w.heap.size + 1) _ _ rfl rfl (run_loadVar_row _ _ RfT RfT _ (0, 0) _ (HSZ.out.z.row _) Tryd.underlying58 rfl (iRf _))) rfl ⟨by rw [HU.out, HV.out]; rfl, below_setRow HSZ.out.bel (by omega) _⟩
      · skip
        have hwt : wtS 91 x0 v = bits .andNot .u64 x0 v := by unfold wtS; simp
        rw [hwt] at HU
        have HSET := Lib.hid (fun W => HST.out (bits .andNot .u64 x0 v) (andNot_range HBX.out.1 HBX.out.2 HVV.out.1 HVV.out.2) W)
        have hsub : IntKind.u64.wrap (x0 - bits .and .u64 x0 v) = bits .andNot .u64 x0 v := by
          have h1 := not_and HBX.out HVV.out
          have h2 := andNot_range HBX.out.1 HBX.out.2 HVV.out.1 HVV.out.2
          rw [IntKind.wrap_u64]
          omega
        clear hc hwt
        go_enter Tryd.func59, Tryd.ntmps59
        go_upto_region 1 with (refine wpList_allocY rfl _ rfl RfT rfl (refV (zero 0)) (zero_rf _) ?_)
        generalize ((w.alloc (.cells (refV s) RfT)).alloc (.cells (refV (zero 0)) RfT)) = w1 at *
        go_wp2_with fail
        refine (HC.out _).mono ?_
        rintro e w2 ⟨rfl, hb⟩
        have HS2 := Lib.hid (HS1.out.low hb)
        clear hb
        go_wp2_with (refine wpList_load_row rfl RfT _ rfl w.heap.size rfl RfT _ (0, 0) _ HS2.out.r Tryd.underlying58 rfl (iRf _) ?_)
        refine (HG.out _).mono ?_
        rintro e w3 ⟨rfl, hb⟩
        have HS3 := Lib.hid (HS2.out.low hb)
        clear hb
        go_wp2_with (refine wpList_load_row rfl RfT _ rfl w.heap.size rfl RfT _ (0, 0) _ HS3.out.r Tryd.underlying58 rfl (iRf _) ?_)
        refine (HW.out _).mono ?_
        rintro e w4 ⟨rfl, hb⟩
        have HS4 := Lib.hid (HS3.out.low hb)
        clear hb
        go_wp2_with (refine wpList_load_row rfl RfT _ rfl w.heap.size rfl RfT _ (0, 0) _ HS4.out.r Tryd.underlying58 rfl (iRf _) ?_)
        refine (HG0.out _).mono ?_
        rintro e w5 ⟨rfl, hb⟩
        have HS5 := Lib.hid (HS4.out.low hb)
        clear hb
        go_wp2_with fail
        refine (refNames4_c _).mono ?_
        rintro e w6 ⟨rfl, rfl⟩
        have c : _ = some (Value.string ⟨#[99, 115, 114, 114, 99]⟩) := names4_cell w5 91 (by omega)
        have HS6 := Lib.hid (HS5.out.low ((Below.refl w5.heap.size w5).alloc (Nat.le_refl _) (.cells (Tab.names4.map strV).toArray 9)))
        generalize (w5.alloc (.cells (Tab.names4.map strV).toArray 9)) = w6 at *
        go_upto_region 13 with fail
        have hs0 := HS6.out.drew
        refine wp_region_noPanic ?_
        refine wp_region_held (S := fun V => CsAt V w.heap.size RfT (refV s)) (by kernel_rfl) ?_
        refine takeH (fuel := 10) (i := 0) (.agg (refV s)) ?_ rfl (by kernel_rfl) (by kernel_rfl) (by kernel_rfl) (fun _ _ _ h => h) (by kernel_rfl) (fun W hS => exec_load_row RfT _ rfl w.heap.size rfl RfT _ _ hS Tryd.underlying58 rfl (iRf _)) hs0.r ?_ ?_
        rotate_left 1
        · go_simp
          exact rfl
        refine takeH (fuel := 9) (i := 1) (.int .i64 n) ?_ rfl (by kernel_rfl) (by kernel_rfl) (by kernel_rfl) (fun _ _ _ h => h) (by kernel_rfl) (fun W hS => by go_simp) hs0.r ?_ ?_
        rotate_left 1
        · go_simp
          exact rfl
        refine takeH (fuel := 8) (i := 2) (.int .u64 x0) ?_ rfl (by kernel_rfl) (by kernel_rfl) (by kernel_rfl) (fun _ _ _ h => h) (by kernel_rfl) (fun W hS => by go_simp) hs0.r ?_ ?_
        rotate_left 1
        · go_simp
          exact rfl
        refine takeH (fuel := 7) (i := 3) (.int .u64 x0) ?_ rfl (by kernel_rfl) (by kernel_rfl) (by kernel_rfl) (fun _ _ _ h => h) (by kernel_rfl) (fun W hS => by go_simp) hs0.r ?_ ?_
        rotate_left 1
        · go_simp
          exact rfl
        refine takeH (fuel := 6) (i := 4) (.int .u64 v) ?_ rfl (by kernel_rfl) (by kernel_rfl) (by kernel_rfl) (fun _ _ _ h => h) (by kernel_rfl) (fun W hS => by go_simp) hs0.r ?_ ?_
        rotate_left 1
        · go_simp
          exact rfl
        refine takeH (fuel := 5) (i := 8) (.int .u64 xl) ?_ rfl (by kernel_rfl) (by kernel_rfl) (by kernel_rfl) (fun _ _ _ h => h) (by kernel_rfl) (fun W hS => by go_simp) hs0.r ?_ ?_
        rotate_left 1
        · go_simp
          exact rfl
        refine wpAnyH_all (fuel := 4) (rs := [5]) (by kernel_rfl) (by decide) ?_
        intro i hi
        obtain rfl : i = 5 := by simpa using hi
        refine wpOp_callX 86 #[.int .u64 x0, .int .u64 v] rfl (by kernel_rfl) (by go_simp) ?_
        refine (rand_c x0 v HBX.out HVV.out _).mono ?_
        rintro e w7 ⟨rfl, hb⟩
        have hs1 := hs0.low hb
        clear hb
        refine ⟨_, rfl, hs1.r, ?_⟩
        refine takeH (fuel := 3) (i := 6) (.int .u64 (bits .andNot .u64 x0 v)) ?_ rfl (by kernel_rfl) (by kernel_rfl) (by kernel_rfl) (fun _ _ _ h => h) (by kernel_rfl) (fun W hS => by go_simp) hs1.r ?_ ?_
        rotate_left 1
        · go_simp
          exact rfl
        refine wpAnyH_all (fuel := 2) (rs := [7]) (by kernel_rfl) (by decide) ?_
        intro i hi
        obtain rfl : i = 7 := by simpa using hi
        refine wpOp_callX 58 #[.agg (refV s), .int .i64 n, .int .u64 (bits .andNot .u64 x0 v)] rfl (by kernel_rfl) (by go_simp) ?_
        refine (HSET.out _).mono ?_
        rintro e w8 ⟨rfl, hb⟩
        have hs2 := hs1.low hb
        clear hb
        refine ⟨_, rfl, hs2.r, ?_⟩
        refine wpAnyH_all (fuel := 1) (rs := [9]) (by kernel_rfl) (by decide) ?_
        intro i hi
        obtain rfl : i = 9 := by simpa using hi
        refine wpOp_unitB (w8.setRow (w.heap.size + 1) (refV (setS s n (bits .andNot .u64 x0 v)))) _ rfl (by kernel_rfl) (exec_store_row RfT _ _ rfl (w.heap.size + 1) (refV (setS s n (bits .andNot .u64 x0 v))) rfl rfl RfT _ hs2.z (iRf _) (by rw [refV_size, refV_size]) (rfV_one _)) rfl ?_
        have hs3 : CsAt (w8.setRow (w.heap.size + 1) (refV (setS s n (bits .andNot .u64 x0 v)))) w.heap.size RfT (refV s) := hs2.r.rowFar (by omega) _
        refine ⟨hs3, ?_⟩
        refine takeH (fuel := 0) (i := 10) (.int .u64 xl) ?_ rfl (by kernel_rfl) (by kernel_rfl) (by kernel_rfl) (fun _ _ _ h => h) (by kernel_rfl) (fun W hS => by go_simp) hs3 ?_ ?_
        rotate_left 1
        · go_simp
          exact rfl
        refine wpAnyH_done (by kernel_rfl) ?_ _
        refine NoPanic.normal ?_
        have HSZ := Lib.hid hs2
        clear hs0 hs1 hs2 hs3
        go_wp2_with fail
        exact bodyPost_ret (results_cbF RfT Tryd.results59 _ _ (w.heap.size + 1) _ _ rfl rfl (run_loadVar_row _ _ RfT RfT _ (0, 0) _ (HSZ.out.z.row _) Tryd.underlying58 rfl (iRf _))) rfl ⟨by rw [HU.out, HV.out]; rfl, below_setRow HSZ.out.bel (by omega) _⟩
      · skip
        have hwt : wtS 92 x0 v = v := by unfold wtS; simp
        rw [hwt] at HU
        have HSET := Lib.hid (fun W => HST.out (v) HVV.out W)
        clear hc hwt
        go_enter Tryd.func59, Tryd.ntmps59
        go_upto_region 1 with (refine wpList_allocY rfl _ rfl RfT rfl (refV (zero 0)) (zero_rf _) ?_)
        generalize ((w.alloc (.cells (refV s) RfT)).alloc (.cells (refV (zero 0)) RfT)) = w1 at *
        go_wp2_with fail
        refine (HC.out _).mono ?_
        rintro e w2 ⟨rfl, hb⟩
        have HS2 := Lib.hid (HS1.out.low hb)
        clear hb
        go_wp2_with (refine wpList_load_row rfl RfT _ rfl w.heap.size rfl RfT _ (0, 0) _ HS2.out.r Tryd.underlying58 rfl (iRf _) ?_)
        refine (HG.out _).mono ?_
        rintro e w3 ⟨rfl, hb⟩
        have HS3 := Lib.hid (HS2.out.low hb)
        clear hb
        go_wp2_with (refine wpList_load_row rfl RfT _ rfl w.heap.size rfl RfT _ (0, 0) _ HS3.out.r Tryd.underlying58 rfl (iRf _) ?_)
        refine (HW.out _).mono ?_
        rintro e w4 ⟨rfl, hb⟩
        have HS4 := Lib.hid (HS3.out.low hb)
        clear hb
        go_wp2_with (refine wpList_load_row rfl RfT _ rfl w.heap.size rfl RfT _ (0, 0) _ HS4.out.r Tryd.underlying58 rfl (iRf _) ?_)
        refine (HG0.out _).mono ?_
        rintro e w5 ⟨rfl, hb⟩
        have HS5 := Lib.hid (HS4.out.low hb)
        clear hb
        go_wp2_with fail
        refine (refNames4_c _).mono ?_
        rintro e w6 ⟨rfl, rfl⟩
        have c : _ = some (Value.string ⟨#[99, 115, 114, 114, 119, 105]⟩) := names4_cell w5 92 (by omega)
        have HS6 := Lib.hid (HS5.out.low ((Below.refl w5.heap.size w5).alloc (Nat.le_refl _) (.cells (Tab.names4.map strV).toArray 9)))
        generalize (w5.alloc (.cells (Tab.names4.map strV).toArray 9)) = w6 at *
        go_wp2_with (refine wpList_load_row rfl RfT _ rfl w.heap.size rfl RfT _ (0, 0) _ HS6.out.r Tryd.underlying58 rfl (iRf _) ?_)
        refine (HSET.out _).mono ?_
        rintro e w7 ⟨rfl, hb⟩
        have HS7 := Lib.hid (HS6.out.low hb)
        clear hb
        go_wp2_with (refine wpList_store_row rfl RfT _ _ rfl (w.heap.size + 1) (refV (setS s n (v))) rfl rfl RfT _ HS7.out.z (iRf _) (by rw [refV_size, refV_size]) (rfV_one _) ?_)
        exact bodyPost_ret (results_cbF RfT Tryd.results59 _ _ (w.heap.size + 1) _ _ rfl rfl (run_loadVar_row _ _ RfT RfT _ (0, 0) _ (HS7.out.z.row _) Tryd.underlying58 rfl (iRf _))) rfl ⟨by rw [HU.out, HV.out]; rfl, below_setRow HS7.out.bel (by omega) _⟩
      · skip
        have hwt : wtS 93 x0 v = bits .or .u64 x0 v := by unfold wtS; simp
        rw [hwt] at HU
        have HSET := Lib.hid (fun W => HST.out (bits .or .u64 x0 v) (or_range HBX.out.1 HBX.out.2 HVV.out.1 HVV.out.2) W)
        clear hc hwt
        go_enter Tryd.func59, Tryd.ntmps59
        go_upto_region 1 with (refine wpList_allocY rfl _ rfl RfT rfl (refV (zero 0)) (zero_rf _) ?_)
        generalize ((w.alloc (.cells (refV s) RfT)).alloc (.cells (refV (zero 0)) RfT)) = w1 at *
        go_wp2_with fail
        refine (HC.out _).mono ?_
        rintro e w2 ⟨rfl, hb⟩
        have HS2 := Lib.hid (HS1.out.low hb)
        clear hb
        go_wp2_with (refine wpList_load_row rfl RfT _ rfl w.heap.size rfl RfT _ (0, 0) _ HS2.out.r Tryd.underlying58 rfl (iRf _) ?_)
        refine (HG.out _).mono ?_
        rintro e w3 ⟨rfl, hb⟩
        have HS3 := Lib.hid (HS2.out.low hb)
        clear hb
        go_wp2_with (refine wpList_load_row rfl RfT _ rfl w.heap.size rfl RfT _ (0, 0) _ HS3.out.r Tryd.underlying58 rfl (iRf _) ?_)
        refine (HW.out _).mono ?_
        rintro e w4 ⟨rfl, hb⟩
        have HS4 := Lib.hid (HS3.out.low hb)
        clear hb
        go_wp2_with (refine wpList_load_row rfl RfT _ rfl w.heap.size rfl RfT _ (0, 0) _ HS4.out.r Tryd.underlying58 rfl (iRf _) ?_)
        refine (HG0.out _).mono ?_
        rintro e w5 ⟨rfl, hb⟩
        have HS5 := Lib.hid (HS4.out.low hb)
        clear hb
        go_wp2_with fail
        refine (refNames4_c _).mono ?_
        rintro e w6 ⟨rfl, rfl⟩
        have c : _ = some (Value.string ⟨#[99, 115, 114, 114, 115, 105]⟩) := names4_cell w5 93 (by omega)
        have HS6 := Lib.hid (HS5.out.low ((Below.refl w5.heap.size w5).alloc (Nat.le_refl _) (.cells (Tab.names4.map strV).toArray 9)))
        generalize (w5.alloc (.cells (Tab.names4.map strV).toArray 9)) = w6 at *
        go_upto_region 10 with fail
        have hs0 := HS6.out.drew
        refine wp_region_noPanic ?_
        refine wp_region_held (S := fun V => CsAt V w.heap.size RfT (refV s)) (by kernel_rfl) ?_
        refine takeH (fuel := 8) (i := 0) (.agg (refV s)) ?_ rfl (by kernel_rfl) (by kernel_rfl) (by kernel_rfl) (fun _ _ _ h => h) (by kernel_rfl) (fun W hS => exec_load_row RfT _ rfl w.heap.size rfl RfT _ _ hS Tryd.underlying58 rfl (iRf _)) hs0.r ?_ ?_
        rotate_left 1
        · go_simp
          exact rfl
        refine takeH (fuel := 7) (i := 1) (.int .i64 n) ?_ rfl (by kernel_rfl) (by kernel_rfl) (by kernel_rfl) (fun _ _ _ h => h) (by kernel_rfl) (fun W hS => by go_simp) hs0.r ?_ ?_
        rotate_left 1
        · go_simp
          exact rfl
        refine takeH (fuel := 6) (i := 2) (.int .u64 x0) ?_ rfl (by kernel_rfl) (by kernel_rfl) (by kernel_rfl) (fun _ _ _ h => h) (by kernel_rfl) (fun W hS => by go_simp) hs0.r ?_ ?_
        rotate_left 1
        · go_simp
          exact rfl
        refine takeH (fuel := 5) (i := 3) (.int .u64 v) ?_ rfl (by kernel_rfl) (by kernel_rfl) (by kernel_rfl) (fun _ _ _ h => h) (by kernel_rfl) (fun W hS => by go_simp) hs0.r ?_ ?_
        rotate_left 1
        · go_simp
          exact rfl
        refine takeH (fuel := 4) (i := 6) (.int .u64 xl) ?_ rfl (by kernel_rfl) (by kernel_rfl) (by kernel_rfl) (fun _ _ _ h => h) (by kernel_rfl) (fun W hS => by go_simp) hs0.r ?_ ?_
        rotate_left 1
        · go_simp
          exact rfl
        refine wpAnyH_all (fuel := 3) (rs := [4]) (by kernel_rfl) (by decide) ?_
        intro i hi
        obtain rfl : i = 4 := by simpa using hi
        refine wpOp_callX 88 #[.int .u64 x0, .int .u64 v] rfl (by kernel_rfl) (by go_simp) ?_
        refine (ror_c x0 v HBX.out HVV.out _).mono ?_
        rintro e w7 ⟨rfl, hb⟩
        have hs1 := hs0.low hb
        clear hb
        refine ⟨_, rfl, hs1.r, ?_⟩
        refine wpAnyH_all (fuel := 2) (rs := [5]) (by kernel_rfl) (by decide) ?_
        intro i hi
        obtain rfl : i = 5 := by simpa using hi
        refine wpOp_callX 58 #[.agg (refV s), .int .i64 n, .int .u64 (bits .or .u64 x0 v)] rfl (by kernel_rfl) (by go_simp) ?_
        refine (HSET.out _).mono ?_
        rintro e w8 ⟨rfl, hb⟩
        have hs2 := hs1.low hb
        clear hb
        refine ⟨_, rfl, hs2.r, ?_⟩
        refine wpAnyH_all (fuel := 1) (rs := [7]) (by kernel_rfl) (by decide) ?_
        intro i hi
        obtain rfl : i = 7 := by simpa using hi
        refine wpOp_unitB (w8.setRow (w.heap.size + 1) (refV (setS s n (bits .or .u64 x0 v)))) _ rfl (by kernel_rfl) (exec_store_row RfT _ _ rfl (w.heap.size + 1) (refV (setS s n (bits .or .u64 x0 v))) rfl rfl RfT _ hs2.z (iRf _) (by rw [refV_size, refV_size]) (rfV_one _)) rfl ?_
        have hs3 : CsAt (w8.setRow (w.heap.size + 1) (refV (setS s n (bits .or .u64 x0 v)))) w.heap.size RfT (refV s) := hs2.r.rowFar (by omega) _
        refine ⟨hs3, ?_⟩
        refine takeH (fuel := 0) (i := 8) (.int .u64 xl) ?_ rfl (by kernel_rfl) (by kernel_rfl) (by kernel_rfl) (fun _ _ _ h => h) (by kernel_rfl) (fun W hS => by go_simp) hs3 ?_ ?_
        rotate_left 1
        · go_simp
          exact rfl
        refine wpAnyH_done (by kernel_rfl) ?_ _
        refine NoPanic.normal ?_
        have HSZ := Lib.hid hs2
        clear hs0 hs1 hs2 hs3
        go_wp2_with fail
        exact bodyPost_ret (results_cbF RfT Tryd.results59 _ _ (w.heap.size + 1) _ _ rfl rfl (run_loadVar_row _ _ RfT RfT _ (0, 0) _ (HSZ.out.z.row _) Tryd.underlying58 rfl (iRf _))) rfl ⟨by rw [HU.out, HV.out]; rfl, below_setRow HSZ.out.bel (by omega) _⟩
      · skip
        have hwt : wtS 94 x0 v = bits .andNot .u64 x0 v := by unfold wtS; simp
        rw [hwt] at HU
        have HSET := Lib.hid (fun W => HST.out (bits .andNot .u64 x0 v) (andNot_range HBX.out.1 HBX.out.2 HVV.out.1 HVV.out.2) W)
        have hsub : IntKind.u64.wrap (x0 - bits .and .u64 x0 v) = bits .andNot .u64 x0 v := by
          have h1 := not_and HBX.out HVV.out
          have h2 := andNot_range HBX.out.1 HBX.out.2 HVV.out.1 HVV.out.2
          rw [IntKind.wrap_u64]
          omega
        clear hc hwt
        go_enter Tryd.func59, Tryd.ntmps59
        go_upto_region 1 with (refine wpList_allocY rfl _ rfl RfT rfl (refV (zero 0)) (zero_rf _) ?_)
        generalize ((w.alloc (.cells (refV s) RfT)).alloc (.cells (refV (zero 0)) RfT)) = w1 at *
        go_wp2_with fail
        refine (HC.out _).mono ?_
        rintro e w2 ⟨rfl, hb⟩
        have HS2 := Lib.hid (HS1.out.low hb)
        clear hb
        go_wp2_with (refine wpList_load_row rfl RfT _ rfl w.heap.size rfl RfT _ (0, 0) _ HS2.out.r Tryd.underlying58 rfl (iRf _) ?_)
        refine (HG.out _).mono ?_
        rintro e w3 ⟨rfl, hb⟩
        have HS3 := Lib.hid (HS2.out.low hb)
        clear hb
        go_wp2_with (refine wpList_load_row rfl RfT _ rfl w.heap.size rfl RfT _ (0, 0) _ HS3.out.r Tryd.underlying58 rfl (iRf _) ?_)
        refine (HW.out _).mono ?_
        rintro e w4 ⟨rfl, hb⟩
        have HS4 := Lib.hid (HS3.out.low hb)
        clear hb
        go_wp2_with (refine wpList_load_row rfl RfT _ rfl w.heap.size rfl RfT _ (0, 0) _ HS4.out.r Tryd.underlying58 rfl (iRf _) ?_)
        refine (HG0.out _).mono ?_
        rintro e w5 ⟨rfl, hb⟩
        have HS5 := Lib.hid (HS4.out.low hb)
        clear hb
        go_wp2_with fail
        refine (refNames4_c _).mono ?_
        rintro e w6 ⟨rfl, rfl⟩
        have c : _ = some (Value.string ⟨#[99, 115, 114, 114, 99, 105]⟩) := names4_cell w5 94 (by omega)
        have HS6 := Lib.hid (HS5.out.low ((Below.refl w5.heap.size w5).alloc (Nat.le_refl _) (.cells (Tab.names4.map strV).toArray 9)))
        generalize (w5.alloc (.cells (Tab.names4.map strV).toArray 9)) = w6 at *
        go_upto_region 13 with fail
        have hs0 := HS6.out.drew
        refine wp_region_noPanic ?_
        refine wp_region_held (S := fun V => CsAt V w.heap.size RfT (refV s)) (by kernel_rfl) ?_
        refine takeH (fuel := 10) (i := 0) (.agg (refV s)) ?_ rfl (by kernel_rfl) (by kernel_rfl) (by kernel_rfl) (fun _ _ _ h => h) (by kernel_rfl) (fun W hS => exec_load_row RfT _ rfl w.heap.size rfl RfT _ _ hS Tryd.underlying58 rfl (iRf _)) hs0.r ?_ ?_
        rotate_left 1
        · go_simp
          exact rfl
        refine takeH (fuel := 9) (i := 1) (.int .i64 n) ?_ rfl (by kernel_rfl) (by kernel_rfl) (by kernel_rfl) (fun _ _ _ h => h) (by kernel_rfl) (fun W hS => by go_simp) hs0.r ?_ ?_
        rotate_left 1
        · go_simp
          exact rfl
        refine takeH (fuel := 8) (i := 2) (.int .u64 x0) ?_ rfl (by kernel_rfl) (by kernel_rfl) (by kernel_rfl) (fun _ _ _ h => h) (by kernel_rfl) (fun W hS => by go_simp) hs0.r ?_ ?_
        rotate_left 1
        · go_simp
          exact rfl
        refine takeH (fuel := 7) (i := 3) (.int .u64 x0) ?_ rfl (by kernel_rfl) (by kernel_rfl) (by kernel_rfl) (fun _ _ _ h => h) (by kernel_rfl) (fun W hS => by go_simp) hs0.r ?_ ?_
        rotate_left 1
        · go_simp
          exact rfl
        refine takeH (fuel := 6) (i := 4) (.int .u64 v) ?_ rfl (by kernel_rfl) (by kernel_rfl) (by kernel_rfl) (fun _ _ _ h => h) (by kernel_rfl) (fun W hS => by go_simp) hs0.r ?_ ?_
        rotate_left 1
        · go_simp
          exact rfl
        refine takeH (fuel := 5) (i := 8) (.int .u64 xl) ?_ rfl (by kernel_rfl) (by kernel_rfl) (by kernel_rfl) (fun _ _ _ h => h) (by kernel_rfl) (fun W hS => by go_simp) hs0.r ?_ ?_
        rotate_left 1
        · go_simp
          exact rfl
        refine wpAnyH_all (fuel := 4) (rs := [5]) (by kernel_rfl) (by decide) ?_
        intro i hi
        obtain rfl : i = 5 := by simpa using hi
        refine wpOp_callX 86 #[.int .u64 x0, .int .u64 v] rfl (by kernel_rfl) (by go_simp) ?_
        refine (rand_c x0 v HBX.out HVV.out _).mono ?_
        rintro e w7 ⟨rfl, hb⟩
        have hs1 := hs0.low hb
        clear hb
        refine ⟨_, rfl, hs1.r, ?_⟩
        refine takeH (fuel := 3) (i := 6) (.int .u64 (bits .andNot .u64 x0 v)) ?_ rfl (by kernel_rfl) (by kernel_rfl) (by kernel_rfl) (fun _ _ _ h => h) (by kernel_rfl) (fun W hS => by go_simp) hs1.r ?_ ?_
        rotate_left 1
        · go_simp
          exact rfl
        refine wpAnyH_all (fuel := 2) (rs := [7]) (by kernel_rfl) (by decide) ?_
        intro i hi
        obtain rfl : i = 7 := by simpa using hi
        refine wpOp_callX 58 #[.agg (refV s), .int .i64 n, .int .u64 (bits .andNot .u64 x0 v)] rfl (by kernel_rfl) (by go_simp) ?_
        refine (HSET.out _).mono ?_
        rintro e w8 ⟨rfl, hb⟩
        have hs2 := hs1.low hb
        clear hb
        refine ⟨_, rfl, hs2.r, ?_⟩
        refine wpAnyH_all (fuel := 1) (rs := [9]) (by kernel_rfl) (by decide) ?_
        intro i hi
        obtain rfl : i = 9 := by simpa using hi
        refine wpOp_unitB (w8.setRow (w.heap.size + 1) (refV (setS s n (bits .andNot .u64 x0 v)))) _ rfl (by kernel_rfl) (exec_store_row RfT _ _ rfl (w.heap.size + 1) (refV (setS s n (bits .andNot .u64 x0 v))) rfl rfl RfT _ hs2.z (iRf _) (by rw [refV_size, refV_size]) (rfV_one _)) rfl ?_
        have hs3 : CsAt (w8.setRow (w.heap.size + 1) (refV (setS s n (bits .andNot .u64 x0 v)))) w.heap.size RfT (refV s) := hs2.r.rowFar (by omega) _
        refine ⟨hs3, ?_⟩
        refine takeH (fuel := 0) (i := 10) (.int .u64 xl) ?_ rfl (by kernel_rfl) (by kernel_rfl) (by kernel_rfl) (fun _ _ _ h => h) (by kernel_rfl) (fun W hS => by go_simp) hs3 ?_ ?_
        rotate_left 1
        · go_simp
          exact rfl
        refine wpAnyH_done (by kernel_rfl) ?_ _
        refine NoPanic.normal ?_
        have HSZ := Lib.hid hs2
        clear hs0 hs1 hs2 hs3
        go_wp2_with fail
        exact bodyPost_ret (results_cbF RfT Tryd.results59 _ _ (w.heap.size + 1) _ _ rfl rfl (run_loadVar_row _ _ RfT RfT _ (0, 0) _ (HSZ.out.z.row _) Tryd.underlying58 rfl (iRf _))) rfl ⟨by rw [HU.out, HV.out]; rfl, below_setRow HSZ.out.bel (by omega) _⟩
  · have hc' : (classS op != 8) = true := by simpa using hc
    have HU := Lib.hid (show doS s op n rs1 v = s by unfold doS; rw [show (classS op == 8) = false by simpa using hc]; rfl)
    have HV := Lib.hid (show doV s op n l = 0 by unfold doV; rw [show (classS op == 8) = false by simpa using hc]; rfl)
    generalize classS op = c at *
    clear hc hl hv ok
    go_enter Tryd.func59, Tryd.ntmps59
    go_upto_region 1 with (refine wpList_allocY rfl _ rfl RfT rfl (refV (zero 0)) (zero_rf _) ?_)
    generalize ((w.alloc (.cells (refV s) RfT)).alloc (.cells (refV (zero 0)) RfT)) = w1 at *
    go_wp2_with fail
    refine (HC.out _).mono ?_
    rintro e w2 ⟨rfl, hb⟩
    have HS2 := Lib.hid (HS1.out.low hb)
    clear hb
    go_wp2_with (first | (refine wpList_load_row rfl RfT _ rfl w.heap.size rfl RfT _ (0, 0) _ HS2.out.r Tryd.underlying58 rfl (iRf _) ?_) | (refine wpList_store_row rfl RfT _ _ rfl (w.heap.size + 1) (refV (s)) rfl rfl RfT _ HS2.out.z (iRf _) (by rw [refV_size, refV_size]) (rfV_one _) ?_))
    exact bodyPost_ret (results_cbF RfT Tryd.results59 _ _ (w.heap.size + 1) _ _ rfl rfl (run_loadVar_row _ _ RfT RfT _ (0, 0) _ (HS2.out.z.row _) Tryd.underlying58 rfl (iRf _))) rfl ⟨by rw [HU.out, HV.out]; rfl, below_setRow HS2.out.bel (by omega) _⟩
end Go.Proofs.YtfjdalepaacmgaaDoor
