/-
  A controller within a bus: contracts of claim, complete, Wire, Line. A controller within a bus: contracts of Read, Write. A clint within a bus: contracts of count, wide, locate.
-/
import Derived.Test.YtfjdalepaacmgaaGreatYaf
import Derived.BigQuiet
import Derived.BigRegion
import Derived.Test.YtfjdalepaacmgaaGreatYae
set_option maxRecDepth 20000
namespace Go.Proofs.YtfjdalepaacmgaaGreat
open Go.ChangeShapes Go.WideShapes Go.ChangeAt Go.RowKit
namespace Pc
theorem set0 {ws : List Int} (h : 0 < ws.length) : ws.set 0 (ws.getD 0 0) = ws := by
  cases ws with
  | nil => simp at h
  | cons a l => rfl
theorem tri_claim {ws : List Int} (h : 0 < ws.length) (x y : Int) : (ws.set 1 x).set 2 y = tri ws (ws.getD 0 0) x y := by unfold tri; rw [set0 h]
theorem tri_end {ws : List Int} (h : 0 < ws.length) (x y : Int) : (ws.set 2 y).set 1 x = tri ws (ws.getD 0 0) x y := by unfold tri; rw [set0 h, List.set_comm _ _ (by omega)]
theorem set1 {ws : List Int} (h : 1 < ws.length) : ws.set 1 (ws.getD 1 0) = ws := by
  cases ws with
  | nil => simp at h
  | cons a l => cases l with
    | nil => simp at h
    | cons b l => rfl
theorem set2 {ws : List Int} (h : 2 < ws.length) : ws.set 2 (ws.getD 2 0) = ws := by
  cases ws with
  | nil => simp at h
  | cons a l => cases l with
    | nil => simp at h
    | cons b l => cases l with
      | nil => simp at h
      | cons c l => rfl
theorem tri_off {ws : List Int} (h : ws.length = 67) (a : Int) : ws.set 0 a = tri ws a (ws.getD 1 0) (ws.getD 2 0) := by
  unfold tri
  rw [List.set_comm a (ws.getD 1 0) (by omega), set1 (by omega), List.set_comm a (ws.getD 2 0) (by omega), set2 (by omega)]
theorem tri_on {ws : List Int} (h : ws.length = 67) (a b c : Int) : ((ws.set 0 a).set 0 b).set 1 c = tri ws b c (ws.getD 2 0) := by
  unfold tri
  rw [List.set_set, List.set_comm c (ws.getD 2 0) (by omega), List.set_comm b (ws.getD 2 0) (by omega), set2 (by omega)]
end Pc
namespace Pc
theorem one_wrap {s : Int} (h0 : -9223372036854775808 ≤ s) (h1 : s ≤ 9223372036854775807) : one (IntKind.u64.wrap s) = one s := by
  rw [IntKind.wrap_u64]
  unfold one
  by_cases h : 0 ≤ s
  · rw [show s % 18446744073709551616 = s by omega]
  · rw [if_neg (by omega), if_neg (by omega)]
theorem one_ne {s : Int} (h : 1 ≤ s ∧ s < 32) : one s ≠ 0 := fun e => by
  have := tb_one s s.toNat
  rw [e, Wd.tb_zero] at this
  simp at this
  omega
end Pc
theorem Och.low {u v w : World} {b : Nat} (h : Och (some b) u v) (hb : Below v.heap.size v w) : Och (some b) u w := h.trans (Och.of_below hb)
theorem och_set {b : Nat} (w : World) (i : Nat) (v : Value) : Och (some b) w (w.setCell ⟨b, i, none⟩ v) := Och.set i v
theorem step_och {o w : World} {b : Nat} (h : Och (some b) o w) (i : Nat) (v : Value) : Och (some b) o ((w.setCell ⟨b, i, none⟩ v).drew) :=
  h.trans ((Och.set i v).trans (Och.of_below (below_dnC (Below.refl _ _) 1)))
namespace Bp
section
variable {S : SurP}
theorem step_row {w : World} {b n : Nat} {ws : List Int} {t : TypeId} (h : CsAt w b t (rowP S n ws)) (i : Nat) (v : Int) : CsAt ((w.setCell ⟨b, i + 21, none⟩ (.int .u64 v)).drew) b t (rowP S n (ws.set i v)) :=
  (row_set h i v).low (below_dnC (Below.refl _ _) 1)
set_option maxHeartbeats 8000000 in
theorem pclaim_c (b n : Nat) (ws : List Int) (c : Nat) (hc : c < 16) (w : World) (h : BpAt S w b n ws) :
    Calls Tryz.prog 83 #[.pointer (some ⟨b, 20, none⟩), .int .u64 c] w fun e w' => e = .returned (.int .u64 (Pc.bst ws c 0)) ∧ BpAt S w' b n (Pc.claimP ws c) ∧ Och (some b) w w' := by
  have HC := Lib.hid (pbest_c b n ws c hc 0 (by omega) (by omega) w h)
  have HOK := Lib.hid (Pc.claim_ok h.ok hc)
  have HL := Lib.hid h.ok.len
  have HRow := Lib.hid h.row
  have hbs : (Pc.bst ws c 0 : Int) ≤ 18446744073709551615 := by rcases Pc.bst_of h.ok hc 0 with h | h <;> omega
  have hb : b < w.heap.size := h.lt
  have HE := Lib.hid (show Pc.claimP ws c = (ws.set 1 (bits .andNot .u64 (ws.getD 1 0) (Pc.one (Pc.bst ws c 0)))).set 2 (bits .or .u64 (ws.getD 2 0) (Pc.one (Pc.bst ws c 0))) by rw [Pc.tri_claim (by rw [h.ok.len]; omega)]; rfl)
  rw [HE.out] at HOK ⊢
  have HC1 := Lib.hid (fun (w' : World) (h : CsAt w' b BuT (rowP S n ws)) => show w'.cell? ⟨b, 22, none⟩ = some (.int .u64 (ws.getD 1 0)) by rw [h.cell]; exact bpV_at (by rw [HL.out]; omega))
  have HC2 := Lib.hid (fun (w' : World) (v : Int) (h : CsAt w' b BuT (rowP S n (ws.set 1 v))) => show w'.cell? ⟨b, 23, none⟩ = some (.int .u64 (ws.getD 2 0)) by
    rw [h.cell, bpV_at (by rw [List.length_set, HL.out]; omega), Pc.get_set (by rw [HL.out]; omega), if_neg (by omega)])
  clear h HE
  generalize Pc.bst ws c 0 = m at *
  generalize ws.getD 1 0 = wa at *
  generalize ws.getD 2 0 = sv at *
  go_enter Tryz.func83, Tryz.ntmps83
  go_wp2_with fail
  refine HC.out.mono ?_
  rintro e w1 ⟨rfl, hb1⟩
  have HR1 := Lib.hid (HRow.out.low hb1)
  have HO1 := Lib.hid (Och.of_below (o := some b) hb1)
  have hc1 := HC1.out _ HR1.out
  have hf1 := HR1.out.frozen 22
  clear hb1 HC HRow
  go_upto_region 2 with fail
  have hWd : w1.drew = w1.drew := rfl
  refine wp_region_steady_tail (fun W => W = w1.drew) 9 (by kernel_rfl) (by kernel_rfl) hWd ?_
  iterate 5
    refine steady_val ?_ ?_ (by rfl) (fun W hS => ?_) ?_ ?_
    rotate_left 2
    · subst hS
      go_simp
      exact rfl
    · go_simp
      exact rfl
  refine steady_enter (.int .u64 (Pc.one (m : Int))) 63 #[.int .u64 (m : Int)] ?_ (by rfl) (fun W hS => ?_) (fun W hS => (pone_c m (by omega) hbs W).mono (by rintro e w' ⟨rfl, rfl⟩; exact ⟨rfl, hS⟩)) ?_ ?_
  rotate_left 1
  · subst hS
    go_simp
  · go_simp
    exact rfl
  iterate 3
    refine steady_val ?_ ?_ (by rfl) (fun W hS => ?_) ?_ ?_
    rotate_left 2
    · subst hS
      go_simp
      exact rfl
    · go_simp
      exact rfl
  refine steady_nil ?_
  rintro W rfl
  simp only [List.drop_succ_cons, List.drop_zero]
  have HR2 := Lib.hid (step_row HR1.out 1 (bits .andNot .u64 wa (Pc.one (m : Int))))
  have HO2 := Lib.hid (step_och HO1.out 22 (.int .u64 (bits .andNot .u64 wa (Pc.one (m : Int)))))
  have hc2 := HC2.out _ _ HR2.out
  have hf2 := HR2.out.frozen 23
  clear HR1 HO1 HC1
  go_upto_region 3 with fail
  generalize (w1.setCell ⟨b, 22, none⟩ (.int .u64 (bits .andNot .u64 wa (Pc.one (m : Int))))).drew = w2 at *
  clear hc1 hf1
  have hWd : w2.drew = w2.drew := rfl
  refine wp_region_steady_tail (fun W => W = w2.drew) 9 (by kernel_rfl) (by kernel_rfl) hWd ?_
  iterate 5
    refine steady_val ?_ ?_ (by rfl) (fun W hS => ?_) ?_ ?_
    rotate_left 2
    · subst hS
      go_simp
      exact rfl
    · go_simp
      exact rfl
  refine steady_enter (.int .u64 (Pc.one (m : Int))) 63 #[.int .u64 (m : Int)] ?_ (by rfl) (fun W hS => ?_) (fun W hS => (pone_c m (by omega) hbs W).mono (by rintro e w' ⟨rfl, rfl⟩; exact ⟨rfl, hS⟩)) ?_ ?_
  rotate_left 1
  · subst hS
    go_simp
  · go_simp
    exact rfl
  iterate 3
    refine steady_val ?_ ?_ (by rfl) (fun W hS => ?_) ?_ ?_
    rotate_left 2
    · subst hS
      go_simp
      exact rfl
    · go_simp
      exact rfl
  refine steady_nil ?_
  rintro W rfl
  simp only [List.drop_succ_cons, List.drop_zero]
  have HR3 := Lib.hid (step_row HR2.out 2 (bits .or .u64 sv (Pc.one (m : Int))))
  have HO3 := Lib.hid (step_och HO2.out 23 (.int .u64 (bits .or .u64 sv (Pc.one (m : Int)))))
  clear HR2 HO2 HC2
  go_wp2_with fail
  go_ret
  exact ⟨rfl, ⟨HR3.out, HOK.out⟩, HO3.out⟩
set_option maxHeartbeats 8000000 in
theorem pcomplete_c (b n : Nat) (ws : List Int) (c : Nat) (hc : c < 16) (s : Int) (s0 : 0 ≤ s) (s1 : s ≤ 18446744073709551615) (w : World) (h : BpAt S w b n ws) :
    Calls Tryz.prog 94 #[.pointer (some ⟨b, 20, none⟩), .int .u64 c, .int .u64 s] w fun e w' => e = .returned (.tuple #[]) ∧ BpAt S w' b n (Pc.endP ws c s) ∧ Och (some b) w w' := by
  have HOK := Lib.hid (Pc.end_ok h.ok hc s)
  have HL := Lib.hid h.ok.len
  have HRow := Lib.hid h.row
  have hb : b < w.heap.size := h.lt
  have gc : (c : Int) < 16 := by omega
  have HE := Lib.hid (show Pc.endP ws c s = (ws.set 2 (bits .andNot .u64 (ws.getD 2 0) (bits .and .u64 (bits .and .u64 (Pc.one s) (ws.getD (35 + c) 0)) (ws.getD 2 0)))).set 1 (bits .or .u64 (ws.getD 1 0) (bits .and .u64 (bits .and .u64 (bits .and .u64 (Pc.one s) (ws.getD (35 + c) 0)) (ws.getD 2 0)) (ws.getD 0 0))) by rw [Pc.tri_end (by rw [h.ok.len]; omega)]; rfl)
  rw [HE.out] at HOK ⊢
  have HC0 := Lib.hid (fun (w' : World) (h : CsAt w' b BuT (rowP S n ws)) => show w'.cell? ⟨b, 56 + c, none⟩ = some (.int .u64 (ws.getD (35 + c) 0)) ∧ w'.cell? ⟨b, 23, none⟩ = some (.int .u64 (ws.getD 2 0)) by
    rw [h.cell, h.cell, show 56 + c = 35 + c + 21 by omega]; exact ⟨bpV_at (by rw [HL.out]; omega), bpV_at (by rw [HL.out]; omega)⟩)
  have HC2 := Lib.hid (fun (w' : World) (v : Int) (h : CsAt w' b BuT (rowP S n (ws.set 2 v))) => show w'.cell? ⟨b, 22, none⟩ = some (.int .u64 (ws.getD 1 0)) ∧ w'.cell? ⟨b, 21, none⟩ = some (.int .u64 (ws.getD 0 0)) by
    rw [h.cell, h.cell, bpV_at (i := 1) (by rw [List.length_set, HL.out]; omega), Pc.get_set (by rw [HL.out]; omega), if_neg (by omega), bpV_at (i := 0) (by rw [List.length_set, HL.out]; omega), Pc.get_set (by rw [HL.out]; omega), if_neg (by omega)]
    exact ⟨rfl, rfl⟩)
  clear h HE
  generalize ws.getD (35 + c) 0 = en at *
  generalize ws.getD 0 0 = wi at *
  generalize ws.getD 1 0 = wa at *
  generalize ws.getD 2 0 = sv at *
  obtain ⟨E, hEd⟩ : ∃ E, bits .and .u64 (bits .and .u64 (Pc.one s) en) sv = E := ⟨_, rfl⟩
  rw [hEd] at HOK ⊢
  have HO := Lib.hid (pone_c s s0 s1)
  obtain ⟨q0, q3⟩ := HC0.out _ HRow.out
  have hf3 := HRow.out.frozen 23
  clear HC0
  go_enter Tryz.func94, Tryz.ntmps94
  go_upto_region 0 with fail
  refine wp_region_steady (fun W => W = w.drew) (by kernel_rfl) (by kernel_rfl) rfl ?_
  refine steady_val ?_ ?_ (by rfl) (fun W hS => ?_) ?_ ?_
  rotate_left 2
  · subst hS
    go_simp
    exact rfl
  · go_simp
    exact rfl
  refine steady_enter (.int .u64 (Pc.one s)) 63 #[.int .u64 s] ?_ (by rfl) (fun W hS => ?_) (fun W hS => (HO.out W).mono (by rintro e w' ⟨rfl, rfl⟩; exact ⟨rfl, hS⟩)) ?_ ?_
  rotate_left 1
  · subst hS
    go_simp
  · go_simp
    exact rfl
  iterate 13
    refine steady_val ?_ ?_ (by rfl) (fun W hS => ?_) ?_ ?_
    rotate_left 2
    · subst hS
      go_simp
      exact rfl
    · go_simp
      exact rfl
  refine steady_nil ?_
  rintro W rfl
  have HR2 := Lib.hid (step_row HRow.out 2 (bits .andNot .u64 sv E))
  have HO2 := Lib.hid (step_och (Och.refl (some b) w) 23 (.int .u64 (bits .andNot .u64 sv E)))
  obtain ⟨q2, q1⟩ := HC2.out _ _ HR2.out
  have hf2 := HR2.out.frozen 22
  clear HRow HC2 hEd
  go_upto_region 2 with fail
  generalize (w.setCell ⟨b, 23, none⟩ (.int .u64 (bits .andNot .u64 sv E))).drew = w2 at *
  clear q0 q3 hf3
  have hWd : w2.drew = w2.drew := rfl
  refine wp_region_steady_tail (fun W => W = w2.drew) 13 (by kernel_rfl) (by kernel_rfl) hWd ?_
  iterate 13
    refine steady_val ?_ ?_ (by rfl) (fun W hS => ?_) ?_ ?_
    rotate_left 2
    · subst hS
      go_simp
      exact rfl
    · go_simp
      exact rfl
  refine steady_nil ?_
  rintro W rfl
  simp only [List.drop_succ_cons, List.drop_zero]
  have HR3 := Lib.hid (step_row HR2.out 1 (bits .or .u64 wa (bits .and .u64 E wi)))
  have HO3 := Lib.hid (step_och HO2.out 22 (.int .u64 (bits .or .u64 wa (bits .and .u64 E wi))))
  clear HR2 HO2
  go_wp2_with fail
  exact bodyPost_end (v := .tuple #[]) (by simp [results, Tryz.results94, go_sem]) rfl ⟨rfl, ⟨HR3.out, HOK.out⟩, HO3.out⟩
set_option maxHeartbeats 8000000 in
theorem pwire_c (p : Option Addr) (n : Nat) (ws : List Int) (s : Int) (s0 : -9223372036854775808 ≤ s) (s1 : s ≤ 9223372036854775807) (on : Bool) (w : World) (h : PcP S w p n ws) :
    Calls Tryz.prog 28 #[.pointer p, .int .i64 s, .bool on] w fun e w' => e = .returned (.bool (Pc.wires n s)) ∧ PcP S w' p n (Pc.wireW n ws s on) ∧ Och (pb p) w w' := by
  have HO := Lib.hid (fun W => pone_c (IntKind.u64.wrap s) (Wd.wrap_range s).1 (by have := (Wd.wrap_range s).2; omega) W)
  rw [Pc.one_wrap s0 s1] at HO
  by_cases hs : 1 ≤ s ∧ s < 32
  · have e0 : (Pc.one s == 0) = false := by simpa using Pc.one_ne hs
    by_cases hn : n = 0
    · have HE := Lib.hid (show Pc.wires n s = false by unfold Pc.wires; simp [hn])
      have HW := Lib.hid (show Pc.wireW n ws s on = ws by unfold Pc.wireW; rw [HE.out, if_neg (by simp)])
      have HC := Lib.hid (pcount_c p n w h.cw)
      rw [HE.out, HW.out]
      have HP := Lib.hid h
      subst hn
      clear h hs HE HW
      generalize Pc.one s = o at *
      go_enter Tryz.func28, Tryz.ntmps28
      go_wp2_with fail
      refine (HO.out w).mono ?_
      rintro e w1 ⟨rfl, rfl⟩
      go_wp2_with fail
      refine HC.out.mono ?_
      rintro e w1 ⟨rfl, rfl⟩
      go_wp2_with fail
      go_ret
      exact ⟨rfl, HP.out, Och.refl _ _⟩
    · obtain ⟨b, rfl, hA⟩ := h.pos (by omega)
      have HE := Lib.hid (show Pc.wires n s = true by unfold Pc.wires; simp; omega)
      have HW := Lib.hid (show Pc.wireW n ws s on = Pc.wireP ws s on by unfold Pc.wireW; rw [HE.out, if_pos rfl])
      have HC := Lib.hid (pcount_c (some ⟨b, 20, none⟩) n w h.cw)
      have HOK := Lib.hid (Pc.wire_ok hA.ok s on)
      have e1 : ((n : Int) == 0) = false := by simpa using hn
      have HL := Lib.hid hA.ok.len
      have HRow := Lib.hid hA.row
      have hb := hA.lt
      have q1 := hA.cell (show 0 < 67 by omega)
      have f1 := hA.row.frozen 21
      have HC1 := Lib.hid (fun (w' : World) (v : Int) (h : CsAt w' b BuT (rowP S n (ws.set 0 v))) => show w'.cell? ⟨b, 21, none⟩ = some (.int .u64 v) by rw [h.cell, bpV_at (i := 0) (by rw [List.length_set, HL.out]; omega), Pc.get_set (by rw [HL.out]; omega), if_pos rfl])
      have HC2 := Lib.hid (fun (w' : World) (u v : Int) (h : CsAt w' b BuT (rowP S n ((ws.set 0 u).set 0 v))) => show w'.cell? ⟨b, 22, none⟩ = some (.int .u64 (ws.getD 1 0)) ∧ w'.cell? ⟨b, 23, none⟩ = some (.int .u64 (ws.getD 2 0)) by
        rw [h.cell, h.cell, bpV_at (i := 1) (by rw [List.length_set, List.length_set, HL.out]; omega), Pc.get_set (by rw [List.length_set, HL.out]; omega), if_neg (by omega), Pc.get_set (by rw [HL.out]; omega), if_neg (by omega), bpV_at (i := 2) (by rw [List.length_set, List.length_set, HL.out]; omega), Pc.get_set (by rw [List.length_set, HL.out]; omega), if_neg (by omega), Pc.get_set (by rw [HL.out]; omega), if_neg (by omega)]
        exact ⟨rfl, rfl⟩)
      rw [HE.out, HW.out]
      have HT := Lib.hid (Pc.tri_off hA.ok.len)
      have HTn := Lib.hid (Pc.tri_on hA.ok.len)
      clear h hs HE HW hn hA
      rw [Pc.wireP] at HOK ⊢
      generalize ws.getD 0 0 = wi at *
      generalize ws.getD 1 0 = wa at *
      generalize ws.getD 2 0 = sv at *
      generalize Pc.one s = o at *
      have hblk : pb (some ⟨b, 20, none⟩) = some b := rfl
      rw [hblk]
      cases on with
      | false =>
        rw [if_neg (by simp), ← HT.out] at HOK ⊢
        go_enter Tryz.func28, Tryz.ntmps28
        go_wp2_with fail
        refine (HO.out w).mono ?_
        rintro e w1 ⟨rfl, rfl⟩
        go_wp2_with fail
        refine HC.out.mono ?_
        rintro e w1 ⟨rfl, rfl⟩
        go_wp2_with fail
        go_ret
        exact ⟨rfl, .inr ⟨b, rfl, ⟨row_set HRow.out 0 _, HOK.out⟩⟩, Och.set 21 _⟩
      | true =>
        rw [if_pos rfl, ← HTn.out (bits .andNot .u64 wi o)] at HOK ⊢
        go_enter Tryz.func28, Tryz.ntmps28
        go_wp2_with fail
        refine (HO.out w).mono ?_
        rintro e w1 ⟨rfl, rfl⟩
        go_wp2_with fail
        refine HC.out.mono ?_
        rintro e w1 ⟨rfl, rfl⟩
        have HR2 := Lib.hid (row_set HRow.out 0 (bits .andNot .u64 wi o))
        have HO2 := Lib.hid (Och.set (w := w1) (b := b) 21 (.int .u64 (bits .andNot .u64 wi o)))
        go_upto_region 6 with fail
        generalize w1.setCell ⟨b, 21, none⟩ (.int .u64 (bits .andNot .u64 wi o)) = w2 at *
        clear q1 f1 HRow HT HTn HO HC
        have q2 := HC1.out _ _ HR2.out
        have f2 := HR2.out.frozen 21
        have HR3 := Lib.hid (row_set HR2.out 0 (bits .or .u64 (bits .andNot .u64 wi o) o))
        have HO3 := Lib.hid (HO2.out.trans (Och.set (w := w2) (b := b) 21 (.int .u64 (bits .or .u64 (bits .andNot .u64 wi o) o))))
        go_upto_region 7 with fail
        generalize w2.setCell ⟨b, 21, none⟩ (.int .u64 (bits .or .u64 (bits .andNot .u64 wi o) o)) = w3 at *
        clear q2 f2 HR2 HO2 HC1
        obtain ⟨q3, q4⟩ := HC2.out _ _ _ HR3.out
        have f3 := HR3.out.frozen 22
        have hWd : w3.drew = w3.drew := rfl
        refine wp_region_steady_tail (fun W => W = w3.drew) 13 (by kernel_rfl) (by kernel_rfl) hWd ?_
        iterate 13
          refine steady_val ?_ ?_ (by rfl) (fun W hS => ?_) ?_ ?_
          rotate_left 2
          · subst hS
            go_simp
            exact rfl
          · go_simp
            exact rfl
        refine steady_nil ?_
        rintro W rfl
        simp only [List.drop_succ_cons, List.drop_zero]
        have HR4 := Lib.hid (step_row HR3.out 1 (bits .or .u64 wa (bits .andNot .u64 o sv)))
        have HO4 := Lib.hid (step_och HO3.out 22 (.int .u64 (bits .or .u64 wa (bits .andNot .u64 o sv))))
        clear HR3 HO3 HC2
        go_wp2_with fail
        go_ret
        exact ⟨rfl, .inr ⟨b, rfl, ⟨by have := HR4.out; rw [List.set_set] at this; exact this, by have := HOK.out; rw [List.set_set] at this; exact this⟩⟩, HO4.out⟩
  · have HE := Lib.hid (show Pc.wires n s = false by unfold Pc.wires; simp; omega)
    have HW := Lib.hid (show Pc.wireW n ws s on = ws by unfold Pc.wireW; rw [HE.out, if_neg (by simp)])
    have e0 : Pc.one s = 0 := by unfold Pc.one; rw [if_neg hs]
    rw [HE.out, HW.out]
    rw [e0] at HO
    have HP := Lib.hid h
    clear h hs HE HW
    go_enter Tryz.func28, Tryz.ntmps28
    go_wp2_with fail
    refine (HO.out w).mono ?_
    rintro e w1 ⟨rfl, rfl⟩
    go_wp2_with fail
    go_ret
    exact ⟨rfl, HP.out, Och.refl _ _⟩
set_option maxHeartbeats 8000000 in
theorem pline_c (p : Option Addr) (n : Nat) (ws : List Int) (c : Int) (c0 : -9223372036854775808 ≤ c) (c1 : c ≤ 9223372036854775807) (w : World) (h : PcP S w p n ws) :
    Calls Tryz.prog 51 #[.pointer p, .int .i64 c] w fun e w' => e = .returned (.bool (Pc.lineP n ws c)) ∧ Below w.heap.size w w' := by
  have HC := Lib.hid (pcount_c p n w h.cw)
  have hn8 := h.n8
  by_cases hneg : c < 0
  · have HE := Lib.hid (show Pc.lineP n ws c = false by unfold Pc.lineP; simp; omega)
    rw [HE.out]
    have e0 : decide (c < 0) = true := by simpa using hneg
    clear h HE
    go_enter Tryz.func51, Tryz.ntmps51
    go_wp2_with fail
    go_ret
    exact ⟨rfl, Below.refl _ _⟩
  · have e0 : decide (c < 0) = false := by simpa using hneg
    obtain ⟨k, rfl⟩ := Int.eq_ofNat_of_zero_le (by omega : 0 ≤ c)
    by_cases hk : k < 2 * n
    · obtain ⟨b, rfl, hA⟩ := h.pos (by omega)
      have hk16 : k < 16 := by omega
      have gk : (k : Int) < 16 := by omega
      have e1 : decide ((k : Int) ≥ 2 * (n : Int)) = false := by simp; omega
      have q := hA.cell (show 51 + k < 67 by omega)
      rw [show 51 + k + 21 = 72 + k by omega] at q
      have ht := hA.ok.thr k hk16
      have HBst := Lib.hid (pbest_c b n ws k hk16 (ws.getD (51 + k) 0) (by omega) (by omega) w hA)
      have HE := Lib.hid (show Pc.lineP n ws (k : Int) = (((Pc.bst ws k (ws.getD (51 + k) 0) : Nat) : Int) != 0) by
        unfold Pc.lineP
        rw [Int.toNat_natCast, Bool.eq_iff_iff]
        simp
        omega)
      rw [HE.out]
      clear h hA HE hneg
      generalize Pc.bst ws k (ws.getD (51 + k) 0) = m at *
      generalize ws.getD (51 + k) 0 = t at *
      go_enter Tryz.func51, Tryz.ntmps51
      go_wp2_with fail
      refine HC.out.mono ?_
      rintro e w1 ⟨rfl, rfl⟩
      go_wp2_with fail
      refine HBst.out.mono ?_
      rintro e w2 ⟨rfl, hb2⟩
      have HB := Lib.hid hb2
      clear hb2
      go_wp2_with fail
      go_ret
      exact ⟨rfl, HB.out⟩
    · have HE := Lib.hid (show Pc.lineP n ws (k : Int) = false by unfold Pc.lineP; simp; omega)
      rw [HE.out]
      have e1 : decide ((k : Int) ≥ 2 * (n : Int)) = true := by simp; omega
      clear h HE hneg
      go_enter Tryz.func51, Tryz.ntmps51
      go_wp2_with fail
      refine HC.out.mono ?_
      rintro e w1 ⟨rfl, rfl⟩
      go_wp2_with fail
      go_ret
      exact ⟨rfl, Below.refl _ _⟩
end
end Bp
end Go.Proofs.YtfjdalepaacmgaaGreat
set_option maxRecDepth 20000
namespace Go.Proofs.YtfjdalepaacmgaaGreat
open Go.ChangeShapes Go.WideShapes Go.ChangeAt Go.RowKit
theorem is_no {n : Nat} {off size : Int} (h : (Pc.at_ n off size).1 = 0) : Pc.is n off size = false := by unfold Pc.is; rw [h]; rfl
theorem is_yes {n : Nat} {off size : Int} (h : (Pc.at_ n off size).1 ≠ 0) : Pc.is n off size = true := by unfold Pc.is; simpa using h
theorem prV_eq (j k : Nat) : prV (j + 1, k) = #[.int .i64 j, .int .u64 k] := by
  unfold prV
  rw [if_neg (by simp)]
  simp
namespace Bp
section
variable {S : SurP}
set_option maxHeartbeats 16000000 in
theorem pread_c (p : Option Addr) (n : Nat) (ws : List Int) (off size : Int) (o0 : 0 ≤ off) (o1 : off ≤ 18446744073709551615) (w : World) (h : PcP S w p n ws) :
    Calls Tryz.prog 54 #[.pointer p, .int .u64 off, .int .i64 size] w fun e w' => e = .returned (.tuple #[.int .u64 (Pc.readV n ws off size), .bool (Pc.is n off size)]) ∧ PcP S w' p n (Pc.readW n ws off size) ∧ Och (pb p) w w' := by
  have HC := Lib.hid (pcount_c p n w h.cw)
  have HL := Lib.hid (plocate_c n off size o0 o1 w)
  have hof := Pc.at_of (n := n) (off := off) (size := size)
  have hn8 := h.n8
  have HV := Lib.hid (show Pc.readV n ws off size = if (Pc.at_ n off size).1 = 1 then ws.getD (3 + (Pc.at_ n off size).2) 0 else if (Pc.at_ n off size).1 = 2 then ws.getD 1 0 else if (Pc.at_ n off size).1 = 3 then ws.getD (35 + (Pc.at_ n off size).2) 0
    else if (Pc.at_ n off size).1 = 4 then ws.getD (51 + (Pc.at_ n off size).2) 0 else if (Pc.at_ n off size).1 = 5 then Pc.bst ws (Pc.at_ n off size).2 0 else 0 from rfl)
  have HW := Lib.hid (show Pc.readW n ws off size = if (Pc.at_ n off size).1 = 5 then Pc.claimP ws (Pc.at_ n off size).2 else ws from rfl)
  have HOK := Lib.hid (show (1 : Nat) = 1 from rfl)
  obtain ⟨t, ht⟩ : ∃ t, Pc.at_ n off size = t := ⟨_, rfl⟩
  rw [ht] at HL hof HW
  try rw [ht] at HV
  obtain ⟨t1, k⟩ := t
  simp only at hof HW
  try simp only at HV
  by_cases hz : t1 = 0
  · have HI := Lib.hid (is_no (by rw [ht]; exact hz))
    obtain rfl : k = 0 := by omega
    subst hz
    rw [show prV (0, 0) = pr0 from rfl, HI.out] at HL
    rw [HI.out]
    have HP := Lib.hid h
    clear h hof ht HI HOK
    rw [HV.out, HW.out]
    clear HV HW
    go_enter Tryz.func54, Tryz.ntmps54
    go_wp2_with fail
    refine HC.out.mono ?_
    rintro e w1 ⟨rfl, rfl⟩
    go_wp2_with fail
    refine HL.out.mono ?_
    rintro e w2 ⟨rfl, hb2⟩
    have HB3 := Lib.hid (hb2.alloc hb2.size (Obj.cells pr0 RgP))
    simp only [pr0] at HB3 ⊢
    go_wp2_with fail
    go_ret2
    exact ⟨rfl, HP.out.low HB3.out, Och.of_below HB3.out⟩
  · have HI := Lib.hid (is_yes (by rw [ht]; exact hz))
    rw [HI.out] at HL
    rw [HI.out]
    obtain ⟨b, rfl, hA⟩ := h.pos (by rcases hof with h | h | h | h; omega; (have := ht; unfold Pc.at_ at this; split at this; omega; (exact absurd (congrArg Prod.fst this).symm hz)); (have := ht; unfold Pc.at_ at this; split at this; omega; (exact absurd (congrArg Prod.fst this).symm hz)); omega)
    have HA := Lib.hid hA
    have hbl := hA.lt
    have hblk : pb (some ⟨b, 20, none⟩) = some b := rfl
    rw [hblk]
    clear h HI ht
    have h5 : (t1 = 1 ∧ k < 32) ∨ t1 = 2 ∨ (t1 = 3 ∧ k < 16) ∨ (t1 = 4 ∧ k < 16) ∨ (t1 = 5 ∧ k < 16) := by omega
    clear hof hz
    rcases h5 with ⟨rfl, hk⟩ | rfl | ⟨rfl, hk⟩ | ⟨rfl, hk⟩ | ⟨rfl, hk⟩
    · rw [prV_eq 0 k] at HL
      rw [HW.out, HV.out]
      simp only [Nat.reduceEqDiff, if_false, if_true]
      clear HV HW HOK
      obtain ⟨v, hv⟩ : ∃ v, ws.getD (3 + k) 0 = v := ⟨_, rfl⟩
      rw [hv]
      go_enter Tryz.func54, Tryz.ntmps54
      go_wp2_with fail
      refine HC.out.mono ?_
      rintro e w1 ⟨rfl, rfl⟩
      go_wp2_with fail
      refine HL.out.mono ?_
      rintro e w2 ⟨rfl, hb2⟩
      have hR := CsAt.new w2 RgP #[.int .i64 0, .int .u64 (k : Int)]
      have hb3 := hb2.alloc hb2.size (Obj.cells #[.int .i64 0, .int .u64 (k : Int)] RgP)
      go_upto_region 2 with fail
      generalize w2.alloc (Obj.cells #[.int .i64 0, .int .u64 (k : Int)] RgP) = w3 at *
      have r0 := hR.cell 0
      have r1 := hR.cell 1
      simp only [List.getElem?_toArray, List.getElem?_cons_zero, List.getElem?_cons_succ] at r0 r1
      have HA3 := Lib.hid (HA.out.low hb3)
      have HB3 := Lib.hid hb3
      have hrb : w2.heap.size ≠ b := by have := hb2.size; omega
      clear hR hb2 hb3 HC HL HA
      have q := HA3.out.cell (show 3 + k < 67 by omega)
      rw [show 3 + k + 21 = 24 + k by omega] at q
      have gk : (k : Int) < 32 := by omega
      rw [hv] at q
      clear hv
      go_upto_region 6 with fail
      go_quiet (fail)
      have HB4 := Lib.hid (below_dnC HB3.out nq)
      go_wp2_with fail
      go_ret2
      exact ⟨rfl, .inr ⟨b, rfl, HA3.out.low (below_dnC (Below.refl _ _) nq)⟩, Och.of_below HB4.out⟩
    · rw [prV_eq 1 k] at HL
      rw [HW.out, HV.out]
      simp only [Nat.reduceEqDiff, if_false, if_true]
      clear HV HW HOK
      obtain ⟨v, hv⟩ : ∃ v, ws.getD (1) 0 = v := ⟨_, rfl⟩
      rw [hv]
      go_enter Tryz.func54, Tryz.ntmps54
      go_wp2_with fail
      refine HC.out.mono ?_
      rintro e w1 ⟨rfl, rfl⟩
      go_wp2_with fail
      refine HL.out.mono ?_
      rintro e w2 ⟨rfl, hb2⟩
      have hR := CsAt.new w2 RgP #[.int .i64 1, .int .u64 (k : Int)]
      have hb3 := hb2.alloc hb2.size (Obj.cells #[.int .i64 1, .int .u64 (k : Int)] RgP)
      go_upto_region 2 with fail
      generalize w2.alloc (Obj.cells #[.int .i64 1, .int .u64 (k : Int)] RgP) = w3 at *
      have r0 := hR.cell 0
      have r1 := hR.cell 1
      simp only [List.getElem?_toArray, List.getElem?_cons_zero, List.getElem?_cons_succ] at r0 r1
      have HA3 := Lib.hid (HA.out.low hb3)
      have HB3 := Lib.hid hb3
      have hrb : w2.heap.size ≠ b := by have := hb2.size; omega
      clear hR hb2 hb3 HC HL HA
      have q := HA3.out.cell (show 1 < 67 by omega)
      rw [hv] at q
      clear hv
      go_wp2_with fail
      go_ret2
      exact ⟨rfl, .inr ⟨b, rfl, HA3.out⟩, Och.of_below HB3.out⟩
    · rw [prV_eq 2 k] at HL
      rw [HW.out, HV.out]
      simp only [Nat.reduceEqDiff, if_false, if_true]
      clear HV HW HOK
      obtain ⟨v, hv⟩ : ∃ v, ws.getD (35 + k) 0 = v := ⟨_, rfl⟩
      rw [hv]
      go_enter Tryz.func54, Tryz.ntmps54
      go_wp2_with fail
      refine HC.out.mono ?_
      rintro e w1 ⟨rfl, rfl⟩
      go_wp2_with fail
      refine HL.out.mono ?_
      rintro e w2 ⟨rfl, hb2⟩
      have hR := CsAt.new w2 RgP #[.int .i64 2, .int .u64 (k : Int)]
      have hb3 := hb2.alloc hb2.size (Obj.cells #[.int .i64 2, .int .u64 (k : Int)] RgP)
      go_upto_region 2 with fail
      generalize w2.alloc (Obj.cells #[.int .i64 2, .int .u64 (k : Int)] RgP) = w3 at *
      have r0 := hR.cell 0
      have r1 := hR.cell 1
      simp only [List.getElem?_toArray, List.getElem?_cons_zero, List.getElem?_cons_succ] at r0 r1
      have HA3 := Lib.hid (HA.out.low hb3)
      have HB3 := Lib.hid hb3
      have hrb : w2.heap.size ≠ b := by have := hb2.size; omega
      clear hR hb2 hb3 HC HL HA
      have q := HA3.out.cell (show 35 + k < 67 by omega)
      rw [show 35 + k + 21 = 56 + k by omega] at q
      have gk : (k : Int) < 16 := by omega
      rw [hv] at q
      clear hv
      go_upto_region 10 with fail
      go_quiet (fail)
      have HB4 := Lib.hid (below_dnC HB3.out nq)
      go_wp2_with fail
      go_ret2
      exact ⟨rfl, .inr ⟨b, rfl, HA3.out.low (below_dnC (Below.refl _ _) nq)⟩, Och.of_below HB4.out⟩
    · rw [prV_eq 3 k] at HL
      rw [HW.out, HV.out]
      simp only [Nat.reduceEqDiff, if_false, if_true]
      clear HV HW HOK
      obtain ⟨v, hv⟩ : ∃ v, ws.getD (51 + k) 0 = v := ⟨_, rfl⟩
      rw [hv]
      go_enter Tryz.func54, Tryz.ntmps54
      go_wp2_with fail
      refine HC.out.mono ?_
      rintro e w1 ⟨rfl, rfl⟩
      go_wp2_with fail
      refine HL.out.mono ?_
      rintro e w2 ⟨rfl, hb2⟩
      have hR := CsAt.new w2 RgP #[.int .i64 3, .int .u64 (k : Int)]
      have hb3 := hb2.alloc hb2.size (Obj.cells #[.int .i64 3, .int .u64 (k : Int)] RgP)
      go_upto_region 2 with fail
      generalize w2.alloc (Obj.cells #[.int .i64 3, .int .u64 (k : Int)] RgP) = w3 at *
      have r0 := hR.cell 0
      have r1 := hR.cell 1
      simp only [List.getElem?_toArray, List.getElem?_cons_zero, List.getElem?_cons_succ] at r0 r1
      have HA3 := Lib.hid (HA.out.low hb3)
      have HB3 := Lib.hid hb3
      have hrb : w2.heap.size ≠ b := by have := hb2.size; omega
      clear hR hb2 hb3 HC HL HA
      have q := HA3.out.cell (show 51 + k < 67 by omega)
      rw [show 51 + k + 21 = 72 + k by omega] at q
      have gk : (k : Int) < 16 := by omega
      rw [hv] at q
      clear hv
      go_upto_region 12 with fail
      go_quiet (fail)
      have HB4 := Lib.hid (below_dnC HB3.out nq)
      go_wp2_with fail
      go_ret2
      exact ⟨rfl, .inr ⟨b, rfl, HA3.out.low (below_dnC (Below.refl _ _) nq)⟩, Och.of_below HB4.out⟩
    · rw [prV_eq 4 k] at HL
      rw [HW.out, HV.out]
      simp only [Nat.reduceEqDiff, if_false, if_true]
      clear HV HW HOK
      go_enter Tryz.func54, Tryz.ntmps54
      go_wp2_with fail
      refine HC.out.mono ?_
      rintro e w1 ⟨rfl, rfl⟩
      go_wp2_with fail
      refine HL.out.mono ?_
      rintro e w2 ⟨rfl, hb2⟩
      have hR := CsAt.new w2 RgP #[.int .i64 4, .int .u64 (k : Int)]
      have hb3 := hb2.alloc hb2.size (Obj.cells #[.int .i64 4, .int .u64 (k : Int)] RgP)
      go_upto_region 2 with fail
      generalize w2.alloc (Obj.cells #[.int .i64 4, .int .u64 (k : Int)] RgP) = w3 at *
      have r0 := hR.cell 0
      have r1 := hR.cell 1
      simp only [List.getElem?_toArray, List.getElem?_cons_zero, List.getElem?_cons_succ] at r0 r1
      have HA3 := Lib.hid (HA.out.low hb3)
      have HB3 := Lib.hid hb3
      have hrb : w2.heap.size ≠ b := by have := hb2.size; omega
      clear hR hb2 hb3 HC HL HA
      go_wp2_with fail
      refine (pclaim_c b n ws k hk w3 HA3.out).mono ?_
      rintro e w4 ⟨rfl, hA4, ho4⟩
      have HA4 := Lib.hid hA4
      have HO4 := Lib.hid ho4
      clear hA4 ho4
      go_wp2_with fail
      go_ret2
      exact ⟨rfl, .inr ⟨b, rfl, HA4.out⟩, (Och.of_below HB3.out).trans HO4.out⟩
set_option maxHeartbeats 16000000 in
theorem pwrite_c (p : Option Addr) (n : Nat) (ws : List Int) (off size : Int) (o0 : 0 ≤ off) (o1 : off ≤ 18446744073709551615) (v : Int) (v0 : 0 ≤ v) (v1 : v < 18446744073709551616) (w : World) (h : PcP S w p n ws) :
    Calls Tryz.prog 58 #[.pointer p, .int .u64 off, .int .i64 size, .int .u64 v] w fun e w' => e = .returned (.bool (Pc.is n off size)) ∧ PcP S w' p n (Pc.writeW n ws off size v) ∧ Och (pb p) w w' := by
  have HC := Lib.hid (pcount_c p n w h.cw)
  have HL := Lib.hid (plocate_c n off size o0 o1 w)
  have hof := Pc.at_of (n := n) (off := off) (size := size)
  have hn8 := h.n8
  have HW := Lib.hid (show Pc.writeW n ws off size v = if (Pc.at_ n off size).1 = 1 then ws.set (3 + (Pc.at_ n off size).2) (Wd.cutS v 0 3) else if (Pc.at_ n off size).1 = 3 then ws.set (35 + (Pc.at_ n off size).2) (bits .and .u64 v (Wd.onesS 1 31))
    else if (Pc.at_ n off size).1 = 4 then ws.set (51 + (Pc.at_ n off size).2) (Wd.cutS v 0 3) else if (Pc.at_ n off size).1 = 5 then Pc.endP ws (Pc.at_ n off size).2 (Wd.cutS v 0 32) else ws from rfl)
  have HV := Lib.hid (show (1 : Nat) = 1 from rfl)
  have HOK := Lib.hid (show Pc.Ok n ws → Pc.Ok n (Pc.writeW n ws off size v) from fun h => Pc.write_ok h off size v0 v1)
  obtain ⟨t, ht⟩ : ∃ t, Pc.at_ n off size = t := ⟨_, rfl⟩
  rw [ht] at HL hof HW
  try rw [ht] at HV
  obtain ⟨t1, k⟩ := t
  simp only at hof HW
  try simp only at HV
  by_cases hz : t1 = 0
  · have HI := Lib.hid (is_no (by rw [ht]; exact hz))
    obtain rfl : k = 0 := by omega
    subst hz
    rw [show prV (0, 0) = pr0 from rfl, HI.out] at HL
    rw [HI.out]
    have HP := Lib.hid h
    clear h hof ht HI HOK
    rw [HW.out]
    clear HV HW
    go_enter Tryz.func58, Tryz.ntmps58
    go_wp2_with fail
    refine HC.out.mono ?_
    rintro e w1 ⟨rfl, rfl⟩
    go_wp2_with fail
    refine HL.out.mono ?_
    rintro e w2 ⟨rfl, hb2⟩
    have HB3 := Lib.hid (hb2.alloc hb2.size (Obj.cells pr0 RgP))
    simp only [pr0] at HB3 ⊢
    go_wp2_with fail
    go_ret
    exact ⟨rfl, HP.out.low HB3.out, Och.of_below HB3.out⟩
  · have HI := Lib.hid (is_yes (by rw [ht]; exact hz))
    rw [HI.out] at HL
    rw [HI.out]
    obtain ⟨b, rfl, hA⟩ := h.pos (by rcases hof with h | h | h | h; omega; (have := ht; unfold Pc.at_ at this; split at this; omega; (exact absurd (congrArg Prod.fst this).symm hz)); (have := ht; unfold Pc.at_ at this; split at this; omega; (exact absurd (congrArg Prod.fst this).symm hz)); omega)
    have HA := Lib.hid hA
    have hbl := hA.lt
    have hblk : pb (some ⟨b, 20, none⟩) = some b := rfl
    rw [hblk]
    clear h HI ht
    have h5 : (t1 = 1 ∧ k < 32) ∨ t1 = 2 ∨ (t1 = 3 ∧ k < 16) ∨ (t1 = 4 ∧ k < 16) ∨ (t1 = 5 ∧ k < 16) := by omega
    clear hof hz
    rcases h5 with ⟨rfl, hk⟩ | rfl | ⟨rfl, hk⟩ | ⟨rfl, hk⟩ | ⟨rfl, hk⟩
    · rw [prV_eq 0 k] at HL
      rw [HW.out] at HOK ⊢
      simp only [Nat.reduceEqDiff, if_false, if_true] at HOK ⊢
      clear HV HW
      go_enter Tryz.func58, Tryz.ntmps58
      go_wp2_with fail
      refine HC.out.mono ?_
      rintro e w1 ⟨rfl, rfl⟩
      go_wp2_with fail
      refine HL.out.mono ?_
      rintro e w2 ⟨rfl, hb2⟩
      have hR := CsAt.new w2 RgP #[.int .i64 0, .int .u64 (k : Int)]
      have hb3 := hb2.alloc hb2.size (Obj.cells #[.int .i64 0, .int .u64 (k : Int)] RgP)
      go_upto_region 2 with fail
      generalize w2.alloc (Obj.cells #[.int .i64 0, .int .u64 (k : Int)] RgP) = w3 at *
      have r0 := hR.cell 0
      have r1 := hR.cell 1
      simp only [List.getElem?_toArray, List.getElem?_cons_zero, List.getElem?_cons_succ] at r0 r1
      have HA3 := Lib.hid (HA.out.low hb3)
      have HB3 := Lib.hid hb3
      have hrb : w2.heap.size ≠ b := by have := hb2.size; omega
      clear hR hb2 hb3 HC HL HA
      have gk : (k : Int) < 32 := by omega
      have hf := HA3.out.row.frozen (24 + k)
      have q := HA3.out.cell (show 3 + k < 67 by omega)
      rw [show 3 + k + 21 = 24 + k by omega] at q
      have HR4 := Lib.hid (step_row HA3.out.row (3 + k) (Wd.cutS v 0 3))
      have HO4 := Lib.hid (step_och (Och.of_below (o := some b) HB3.out) (24 + k) (.int .u64 (Wd.cutS v 0 3)))
      rw [show 3 + k + 21 = 24 + k by omega] at HR4
      generalize ws.getD (3 + k) 0 = old at *
      go_upto_region 6 with fail
      have hWd : w3.drew = w3.drew := rfl
      refine wp_region_steady_tail (fun W => W = w3.drew) 8 (by kernel_rfl) (by kernel_rfl) hWd ?_
      iterate 4
        refine steady_val ?_ ?_ (by rfl) (fun W hS => ?_) ?_ ?_
        rotate_left 2
        · subst hS
          go_simp
          exact rfl
        · go_simp
          exact rfl
      refine steady_enter (.int .u64 (Wd.cutS v 0 3)) 92 #[.int .u64 v, .int .i64 3] ?_ (by rfl) (fun W hS => ?_) (fun W hS => (low_c v 3 W v0 v1).mono (by rintro e w' ⟨rfl, rfl⟩; exact ⟨rfl, hS⟩)) ?_ ?_
      rotate_left 1
      · subst hS
        go_simp
      · go_simp
        exact rfl
      iterate 3
        refine steady_val ?_ ?_ (by rfl) (fun W hS => ?_) ?_ ?_
        rotate_left 2
        · subst hS
          go_simp
          exact rfl
        · go_simp
          exact rfl
      refine steady_nil ?_
      rintro W rfl
      simp only [List.drop_succ_cons, List.drop_zero]
      go_wp2_with fail
      go_ret
      exact ⟨rfl, .inr ⟨b, rfl, ⟨HR4.out, HOK.out HA3.out.ok⟩⟩, HO4.out⟩
    · rw [prV_eq 1 k] at HL
      rw [HW.out] at HOK ⊢
      simp only [Nat.reduceEqDiff, if_false] at HOK ⊢
      clear HV HW
      go_enter Tryz.func58, Tryz.ntmps58
      go_wp2_with fail
      refine HC.out.mono ?_
      rintro e w1 ⟨rfl, rfl⟩
      go_wp2_with fail
      refine HL.out.mono ?_
      rintro e w2 ⟨rfl, hb2⟩
      have hR := CsAt.new w2 RgP #[.int .i64 1, .int .u64 (k : Int)]
      have hb3 := hb2.alloc hb2.size (Obj.cells #[.int .i64 1, .int .u64 (k : Int)] RgP)
      go_upto_region 2 with fail
      generalize w2.alloc (Obj.cells #[.int .i64 1, .int .u64 (k : Int)] RgP) = w3 at *
      have r0 := hR.cell 0
      have r1 := hR.cell 1
      simp only [List.getElem?_toArray, List.getElem?_cons_zero, List.getElem?_cons_succ] at r0 r1
      have HA3 := Lib.hid (HA.out.low hb3)
      have HB3 := Lib.hid hb3
      have hrb : w2.heap.size ≠ b := by have := hb2.size; omega
      clear hR hb2 hb3 HC HL HA
      go_wp2_with fail
      go_ret
      exact ⟨rfl, .inr ⟨b, rfl, HA3.out⟩, Och.of_below HB3.out⟩
    · rw [prV_eq 2 k] at HL
      rw [HW.out] at HOK ⊢
      simp only [Nat.reduceEqDiff, if_false, if_true] at HOK ⊢
      clear HV HW
      go_enter Tryz.func58, Tryz.ntmps58
      go_wp2_with fail
      refine HC.out.mono ?_
      rintro e w1 ⟨rfl, rfl⟩
      go_wp2_with fail
      refine HL.out.mono ?_
      rintro e w2 ⟨rfl, hb2⟩
      have hR := CsAt.new w2 RgP #[.int .i64 2, .int .u64 (k : Int)]
      have hb3 := hb2.alloc hb2.size (Obj.cells #[.int .i64 2, .int .u64 (k : Int)] RgP)
      go_upto_region 2 with fail
      generalize w2.alloc (Obj.cells #[.int .i64 2, .int .u64 (k : Int)] RgP) = w3 at *
      have r0 := hR.cell 0
      have r1 := hR.cell 1
      simp only [List.getElem?_toArray, List.getElem?_cons_zero, List.getElem?_cons_succ] at r0 r1
      have HA3 := Lib.hid (HA.out.low hb3)
      have HB3 := Lib.hid hb3
      have hrb : w2.heap.size ≠ b := by have := hb2.size; omega
      clear hR hb2 hb3 HC HL HA
      have gk : (k : Int) < 16 := by omega
      have hf := HA3.out.row.frozen (56 + k)
      have q := HA3.out.cell (show 35 + k < 67 by omega)
      rw [show 35 + k + 21 = 56 + k by omega] at q
      have HR4 := Lib.hid (step_row HA3.out.row (35 + k) (bits .and .u64 v (Wd.onesS 1 31)))
      have HO4 := Lib.hid (step_och (Och.of_below (o := some b) HB3.out) (56 + k) (.int .u64 (bits .and .u64 v (Wd.onesS 1 31))))
      rw [show 35 + k + 21 = 56 + k by omega] at HR4
      generalize ws.getD (35 + k) 0 = old at *
      go_upto_region 8 with fail
      have hWd : w3.drew = w3.drew := rfl
      refine wp_region_steady_tail (fun W => W = w3.drew) 9 (by kernel_rfl) (by kernel_rfl) hWd ?_
      iterate 4
        refine steady_val ?_ ?_ (by rfl) (fun W hS => ?_) ?_ ?_
        rotate_left 2
        · subst hS
          go_simp
          exact rfl
        · go_simp
          exact rfl
      refine steady_enter (.int .u64 (Wd.onesS 1 31)) 93 #[.int .i64 1, .int .i64 31] ?_ (by rfl) (fun W hS => ?_) (fun W hS => (ones_c 1 31 W (by omega) (by omega) (by omega) (by omega)).mono (by rintro e w' ⟨rfl, rfl⟩; exact ⟨rfl, hS⟩)) ?_ ?_
      rotate_left 1
      · subst hS
        go_simp
      · go_simp
        exact rfl
      iterate 4
        refine steady_val ?_ ?_ (by rfl) (fun W hS => ?_) ?_ ?_
        rotate_left 2
        · subst hS
          go_simp
          exact rfl
        · go_simp
          exact rfl
      refine steady_nil ?_
      rintro W rfl
      simp only [List.drop_succ_cons, List.drop_zero]
      go_wp2_with fail
      go_ret
      exact ⟨rfl, .inr ⟨b, rfl, ⟨HR4.out, HOK.out HA3.out.ok⟩⟩, HO4.out⟩
    · rw [prV_eq 3 k] at HL
      rw [HW.out] at HOK ⊢
      simp only [Nat.reduceEqDiff, if_false, if_true] at HOK ⊢
      clear HV HW
      go_enter Tryz.func58, Tryz.ntmps58
      go_wp2_with fail
      refine HC.out.mono ?_
      rintro e w1 ⟨rfl, rfl⟩
      go_wp2_with fail
      refine HL.out.mono ?_
      rintro e w2 ⟨rfl, hb2⟩
      have hR := CsAt.new w2 RgP #[.int .i64 3, .int .u64 (k : Int)]
      have hb3 := hb2.alloc hb2.size (Obj.cells #[.int .i64 3, .int .u64 (k : Int)] RgP)
      go_upto_region 2 with fail
      generalize w2.alloc (Obj.cells #[.int .i64 3, .int .u64 (k : Int)] RgP) = w3 at *
      have r0 := hR.cell 0
      have r1 := hR.cell 1
      simp only [List.getElem?_toArray, List.getElem?_cons_zero, List.getElem?_cons_succ] at r0 r1
      have HA3 := Lib.hid (HA.out.low hb3)
      have HB3 := Lib.hid hb3
      have hrb : w2.heap.size ≠ b := by have := hb2.size; omega
      clear hR hb2 hb3 HC HL HA
      have gk : (k : Int) < 16 := by omega
      have hf := HA3.out.row.frozen (72 + k)
      have q := HA3.out.cell (show 51 + k < 67 by omega)
      rw [show 51 + k + 21 = 72 + k by omega] at q
      have HR4 := Lib.hid (step_row HA3.out.row (51 + k) (Wd.cutS v 0 3))
      have HO4 := Lib.hid (step_och (Och.of_below (o := some b) HB3.out) (72 + k) (.int .u64 (Wd.cutS v 0 3)))
      rw [show 51 + k + 21 = 72 + k by omega] at HR4
      generalize ws.getD (51 + k) 0 = old at *
      go_upto_region 10 with fail
      have hWd : w3.drew = w3.drew := rfl
      refine wp_region_steady_tail (fun W => W = w3.drew) 8 (by kernel_rfl) (by kernel_rfl) hWd ?_
      iterate 4
        refine steady_val ?_ ?_ (by rfl) (fun W hS => ?_) ?_ ?_
        rotate_left 2
        · subst hS
          go_simp
          exact rfl
        · go_simp
          exact rfl
      refine steady_enter (.int .u64 (Wd.cutS v 0 3)) 92 #[.int .u64 v, .int .i64 3] ?_ (by rfl) (fun W hS => ?_) (fun W hS => (low_c v 3 W v0 v1).mono (by rintro e w' ⟨rfl, rfl⟩; exact ⟨rfl, hS⟩)) ?_ ?_
      rotate_left 1
      · subst hS
        go_simp
      · go_simp
        exact rfl
      iterate 3
        refine steady_val ?_ ?_ (by rfl) (fun W hS => ?_) ?_ ?_
        rotate_left 2
        · subst hS
          go_simp
          exact rfl
        · go_simp
          exact rfl
      refine steady_nil ?_
      rintro W rfl
      simp only [List.drop_succ_cons, List.drop_zero]
      go_wp2_with fail
      go_ret
      exact ⟨rfl, .inr ⟨b, rfl, ⟨HR4.out, HOK.out HA3.out.ok⟩⟩, HO4.out⟩
    · rw [prV_eq 4 k] at HL
      rw [HW.out] at HOK ⊢
      simp only [Nat.reduceEqDiff, if_false, if_true] at HOK ⊢
      clear HV HW
      go_enter Tryz.func58, Tryz.ntmps58
      go_wp2_with fail
      refine HC.out.mono ?_
      rintro e w1 ⟨rfl, rfl⟩
      go_wp2_with fail
      refine HL.out.mono ?_
      rintro e w2 ⟨rfl, hb2⟩
      have hR := CsAt.new w2 RgP #[.int .i64 4, .int .u64 (k : Int)]
      have hb3 := hb2.alloc hb2.size (Obj.cells #[.int .i64 4, .int .u64 (k : Int)] RgP)
      go_upto_region 2 with fail
      generalize w2.alloc (Obj.cells #[.int .i64 4, .int .u64 (k : Int)] RgP) = w3 at *
      have r0 := hR.cell 0
      have r1 := hR.cell 1
      simp only [List.getElem?_toArray, List.getElem?_cons_zero, List.getElem?_cons_succ] at r0 r1
      have HA3 := Lib.hid (HA.out.low hb3)
      have HB3 := Lib.hid hb3
      have hrb : w2.heap.size ≠ b := by have := hb2.size; omega
      clear hR hb2 hb3 HC HL HA
      go_upto_region 12 with fail
      have hWd : w3.drew = w3.drew := rfl
      refine wp_region_steady_tail (fun W => W = w3.drew) 5 (by kernel_rfl) (by kernel_rfl) hWd ?_
      iterate 4
        refine steady_val ?_ ?_ (by rfl) (fun W hS => ?_) ?_ ?_
        rotate_left 2
        · subst hS
          go_simp
          exact rfl
        · go_simp
          exact rfl
      refine steady_enter (.int .u64 (Wd.cutS v 0 32)) 92 #[.int .u64 v, .int .i64 32] ?_ (by rfl) (fun W hS => ?_) (fun W hS => (low_c v 32 W v0 v1).mono (by rintro e w' ⟨rfl, rfl⟩; exact ⟨rfl, hS⟩)) ?_ ?_
      rotate_left 1
      · subst hS
        go_simp
      · go_simp
        exact rfl
      refine steady_nil ?_
      rintro W rfl
      simp only [List.drop_succ_cons, List.drop_zero]
      have hcr := Wd.cutS_range v 0 32
      go_wp2_with fail
      refine (pcomplete_c b n ws k hk (Wd.cutS v 0 32) hcr.1 (by omega) w3.drew (HA3.out.low (below_dnC (Below.refl _ _) 1))).mono ?_
      rintro e w4 ⟨rfl, hA4, ho4⟩
      have HA4 := Lib.hid hA4
      have HO4 := Lib.hid ((Och.of_below (o := some b) (below_dnC HB3.out 1)).trans ho4)
      clear hA4 ho4
      go_wp2_with fail
      go_ret
      exact ⟨rfl, .inr ⟨b, rfl, HA4.out⟩, HO4.out⟩
end
end Bp
end Go.Proofs.YtfjdalepaacmgaaGreat
set_option maxRecDepth 20000
namespace Go.Proofs.YtfjdalepaacmgaaGreat
open Go.ChangeShapes Go.WideShapes Go.ChangeAt Go.RowKit
namespace Bm
section
variable {S : SurC}
/-- What count looks at: none, or a clint of n harts. -/
def Cw (w : World) (p : Option Addr) (n : Nat) : Prop := (p = none ∧ n = 0) ∨ ∃ b, p = some ⟨b, 2, none⟩ ∧ w.cell? ⟨b, 2, none⟩ = some (.int .i64 n)
theorem count_c (p : Option Addr) (n : Nat) (hn : n ≤ 8) (w : World) (h : Cw w p n) : Calls Tryz.prog 60 #[.pointer p] w fun e w' => e = .returned (.int .u64 n) ∧ w' = w := by
  rcases h with ⟨rfl, rfl⟩ | ⟨b, rfl, hc⟩
  · go_enter Tryz.func60, Tryz.ntmps60
    go_wp2_with fail
    go_ret
    exact ⟨rfl, rfl⟩
  · have e := wrap_n hn
    go_enter Tryz.func60, Tryz.ntmps60
    go_wp2_with fail
    go_ret
    exact ⟨by first | rfl | rw [e], rfl⟩
def ptr (p : Option Addr) (t : Option Nat) : Value := match t with
  | none => .pointer none
  | some i => .pointer (p.map fun a => ⟨a.block, i + 3, none⟩)
set_option maxHeartbeats 1000000 in
theorem wide_c (p : Option Addr) (n : Nat) (hn : n ≤ 8) (off : Int) (h0 : 0 ≤ off) (h1 : off ≤ 18446744073709551615) (w : World) (h : Cw w p n) :
    Calls Tryz.prog 96 #[.pointer p, .int .u64 off] w fun e w' => e = .returned (ptr p (Ct.wide n off)) ∧ w' = w := by
  have HC := Lib.hid (count_c p n hn w h)
  have h8 : 0 ≤ off % 8 ∧ off % 8 < 8 := by omega
  by_cases hf : off - off % 8 = 49144
  · by_cases hz : n = 0
    · have HE := Lib.hid (show Ct.wide n off = none by unfold Ct.wide; rw [if_neg (by omega), if_neg (by omega)])
      subst hz
      go_enter Tryz.func96, Tryz.ntmps96
      go_wp2_with fail
      refine HC.out.mono ?_
      rintro e w1 ⟨rfl, rfl⟩
      go_wp2_with fail
      refine HC.out.mono ?_
      rintro e w1 ⟨rfl, rfl⟩
      go_wp2_with fail
      go_ret
      exact ⟨by rw [HE.out]; rfl, rfl⟩
    · have HE := Lib.hid (show Ct.wide n off = some 0 by unfold Ct.wide; rw [if_pos (by omega)])
      obtain ⟨b, rfl, hc⟩ : ∃ b, p = some ⟨b, 2, none⟩ ∧ w.cell? ⟨b, 2, none⟩ = some (.int .i64 n) := by
        rcases h with h | h
        · exact absurd h.2 hz
        · exact h
      have gz : decide (0 < n) = true := by simp; omega
      clear h hz
      go_enter Tryz.func96, Tryz.ntmps96
      go_wp2_with fail
      refine HC.out.mono ?_
      rintro e w1 ⟨rfl, rfl⟩
      go_wp2_with fail
      go_ret
      exact ⟨by rw [HE.out]; rfl, rfl⟩
  · by_cases hlo : off - off % 8 < 16384
    · have HE := Lib.hid (show Ct.wide n off = none by unfold Ct.wide; rw [if_neg (by omega), if_neg (by omega)])
      have g0 : (off - off % 8 == 49144) = false := by simpa using hf
      have g1 : decide (off - off % 8 ≥ 16384) = false := by simp; omega
      clear h hf
      go_enter Tryz.func96, Tryz.ntmps96
      go_wp2_with fail
      go_ret
      exact ⟨by rw [HE.out]; rfl, rfl⟩
    · have g0 : (off - off % 8 == 49144) = false := by simpa using hf
      have g1 : decide (off - off % 8 ≥ 16384) = true := by simp; omega
      by_cases hn2 : (off - off % 8 - 16384) / 8 < n
      · have HE := Lib.hid (show Ct.wide n off = some (1 + ((off - off % 8 - 16384) / 8).toNat) by unfold Ct.wide; rw [if_neg (by omega), if_pos (by omega)])
        obtain ⟨b, rfl, hc⟩ : ∃ b, p = some ⟨b, 2, none⟩ ∧ w.cell? ⟨b, 2, none⟩ = some (.int .i64 n) := by
          rcases h with h | h
          · omega
          · exact h
        have g2 : decide ((off - off % 8 - 16384) / 8 < n) = true := by simpa using hn2
        have g3 : (off - off % 8 - 16384) / 8 < 8 := by omega
        clear h hf
        go_enter Tryz.func96, Tryz.ntmps96
        go_wp2_with fail
        refine HC.out.mono ?_
        rintro e w1 ⟨rfl, rfl⟩
        go_wp2_with fail
        go_ret
        exact ⟨by rw [HE.out, show 1 + ((off - off % 8 - 16384) / 8).toNat = ((off - off % 8 - 16384) / 8).toNat + 1 by omega]; show _ = Ending.returned (.pointer (some ⟨b, ((off - off % 8 - 16384) / 8).toNat + 1 + 3, none⟩)); rw [show ((off - off % 8 - 16384) / 8).toNat + 1 + 3 = 4 + ((off - off % 8 - 16384) / 8).toNat by omega]; rfl, rfl⟩
      · have HE := Lib.hid (show Ct.wide n off = none by unfold Ct.wide; rw [if_neg (by omega), if_neg (by omega)])
        have g2 : decide ((off - off % 8 - 16384) / 8 < n) = false := by simpa using hn2
        clear h hf
        go_enter Tryz.func96, Tryz.ntmps96
        go_wp2_with fail
        refine HC.out.mono ?_
        rintro e w1 ⟨rfl, rfl⟩
        go_wp2_with fail
        go_ret
        exact ⟨by rw [HE.out]; rfl, rfl⟩
/-- A register as the code has it. -/
def rgV (p : Option Addr) (t : Option (Nat × Int × Int)) : Array Value := match t with
  | none => #[.pointer none, .int .u64 0, .int .u64 0]
  | some (i, a, m) => #[.pointer (p.map fun q => ⟨q.block, i + 3, none⟩), .int .u64 a, .int .u64 m]
theorem rgV_soft (b k : Nat) : rgV (some ⟨b, 2, none⟩) (some (9 + k, 0, 1)) = #[.pointer (some ⟨b, 12 + k, none⟩), .int .u64 0, .int .u64 1] := by
  show (#[.pointer (some ⟨b, 9 + k + 3, none⟩), .int .u64 0, .int .u64 1] : Array Value) = _
  rw [show 9 + k + 3 = 12 + k by omega]
theorem Cw.low {w w' : World} {p : Option Addr} {n : Nat} (h : Cw w p n) (hb : Below w.heap.size w w') : Cw w' p n := by
  rcases h with h | ⟨b, rfl, hc⟩
  · exact .inl h
  · exact .inr ⟨b, rfl, (hb.cell (p := ⟨b, 2, none⟩) (World.block_lt_of_cell? _ _ hc)).trans hc⟩
theorem Cw.pos {w : World} {p : Option Addr} {n : Nat} (h : Cw w p n) (hn : 0 < n) : ∃ b, p = some ⟨b, 2, none⟩ := by
  rcases h with h | ⟨b, rfl, -⟩
  · omega
  · exact ⟨b, rfl⟩
set_option maxHeartbeats 4000000 in
theorem locate_c (p : Option Addr) (n : Nat) (hn : n ≤ 8) (off : Int) (h0 : 0 ≤ off) (h1 : off ≤ 18446744073709551615) (size : Int) (w : World) (h : Cw w p n) :
    Calls Tryz.prog 81 #[.pointer p, .int .u64 off, .int .i64 size] w fun e w' => e = .returned (.tuple #[.agg (rgV p (Ct.loc (Ct.at_ n off size))), .bool (Ct.loc (Ct.at_ n off size)).isSome]) ∧ Below w.heap.size w w' := by
  have HW := Lib.hid h
  have hlow := (Below.refl w.heap.size w).alloc (Nat.le_refl _)
  clear h
  by_cases hs8 : size = 8
  · subst hs8
    by_cases hm : off % 8 = 0
    · cases hw : Ct.wide n off with
      | none =>
        have HE := Lib.hid (loc0 (Ct.at_no8 hn hm hw))
        go_enter Tryz.func81, Tryz.ntmps81
        go_wp2_with fail
        refine (wide_c p n hn off h0 h1 _ (HW.out.low ((Below.refl _ _).alloc (Nat.le_refl _) _))).mono ?_
        rintro e w1 ⟨rfl, rfl⟩
        rw [hw, ptr]
        go_wp2_with fail
        exact bodyPost_ret (results_cb RgT Tryz.results81 _ _ w.heap.size _ _ rfl rfl (run_loadVar_row _ _ RgT RgT _ (0, 0) _ (CsAt.new _ RgT _) Tryz.underlying150 rfl (by kernel_rfl))) rfl ⟨by rw [HE.out]; rfl, (Below.refl _ _).alloc (Nat.le_refl _) _⟩
      | some i =>
        have HE := Lib.hid (Ct.at_yes8 hn hm hw)
        obtain ⟨b, rfl⟩ := HW.out.pos (Ct.wide_lt hn hw).2
        go_enter Tryz.func81, Tryz.ntmps81
        go_wp2_with fail
        refine (wide_c _ n hn off h0 h1 _ (HW.out.low ((Below.refl _ _).alloc (Nat.le_refl _) _))).mono ?_
        rintro e w1 ⟨rfl, rfl⟩
        rw [hw, ptr]
        simp only [Option.map_some]
        go_wp2_with fail
        exact bodyPost_ret (results_cb RgT Tryz.results81 _ _ w.heap.size _ _ rfl rfl (run_loadVar_row _ _ RgT RgT _ (0, 0) _ (CsAt.new _ RgT _) Tryz.underlying150 rfl (by kernel_rfl))) rfl ⟨by rw [HE.out]; rfl, (Below.refl _ _).alloc (Nat.le_refl _) _⟩
    · have HE := Lib.hid (loc0 (Ct.at_odd8 (n := n) hm))
      have g0 : (off % 8 == 0) = false := by simpa using hm
      clear hm
      go_enter Tryz.func81, Tryz.ntmps81
      go_wp2_with fail
      exact bodyPost_ret (results_cb RgT Tryz.results81 _ _ w.heap.size _ _ rfl rfl (run_loadVar_row _ _ RgT RgT _ (0, 0) _ (CsAt.new _ RgT _) Tryz.underlying150 rfl (by kernel_rfl))) rfl ⟨by rw [HE.out]; rfl, (Below.refl _ _).alloc (Nat.le_refl _) _⟩
  · by_cases hs4 : size = 4
    · subst hs4
      clear hs8
      by_cases hm : off % 4 = 0
      · by_cases hlt : off / 4 < n
        · have HE := Lib.hid (show Ct.loc (Ct.at_ n off 4) = some (9 + (off / 4).toNat, 0, 1) by rw [Ct.at_soft hm hlt]; rfl)
          obtain ⟨b, rfl⟩ := HW.out.pos (by omega)
          have g1 : decide (off / 4 < n) = true := by simpa using hlt
          have g2 : off / 4 < 8 := by omega
          have HC := Lib.hid (count_c _ n hn _ (HW.out.low (hlow (Obj.cells #[Value.pointer none, Value.int IntKind.u64 0, Value.int IntKind.u64 0] RgT))))
          go_enter Tryz.func81, Tryz.ntmps81
          go_wp2_with fail
          refine HC.out.mono ?_
          rintro e w1 ⟨rfl, rfl⟩
          go_wp2_with fail
          exact bodyPost_ret (results_cb RgT Tryz.results81 _ _ w.heap.size _ _ rfl rfl (run_loadVar_row _ _ RgT RgT _ (0, 0) _ (CsAt.new _ RgT _) Tryz.underlying150 rfl (by kernel_rfl))) rfl ⟨by rw [HE.out, rgV_soft]; rfl, (Below.refl _ _).alloc (Nat.le_refl _) _⟩
        · have g1 : decide (off / 4 < n) = false := by simpa using hlt
          have HC := Lib.hid (count_c p n hn _ (HW.out.low (hlow (Obj.cells #[Value.pointer none, Value.int IntKind.u64 0, Value.int IntKind.u64 0] RgT))))
          cases hw : Ct.wide n off with
          | none =>
            have HE := Lib.hid (loc0 (Ct.at_no4 hn hm hlt hw))
            clear hlt
            go_enter Tryz.func81, Tryz.ntmps81
            go_wp2_with fail
            refine HC.out.mono ?_
            rintro e w1 ⟨rfl, rfl⟩
            go_wp2_with fail
            refine (wide_c p n hn off h0 h1 _ (HW.out.low ((Below.refl _ _).alloc (Nat.le_refl _) _))).mono ?_
            rintro e w2 ⟨rfl, rfl⟩
            rw [hw, ptr]
            go_wp2_with fail
            exact bodyPost_ret (results_cb RgT Tryz.results81 _ _ w.heap.size _ _ rfl rfl (run_loadVar_row _ _ RgT RgT _ (0, 0) _ (CsAt.new _ RgT _) Tryz.underlying150 rfl (by kernel_rfl))) rfl ⟨by rw [HE.out]; rfl, (Below.refl _ _).alloc (Nat.le_refl _) _⟩
          | some i =>
            have HE := Lib.hid (Ct.at_yes4 hn hm hlt hw)
            clear hlt
            obtain ⟨b, rfl⟩ := HW.out.pos (Ct.wide_lt hn hw).2
            go_enter Tryz.func81, Tryz.ntmps81
            go_wp2_with fail
            refine HC.out.mono ?_
            rintro e w1 ⟨rfl, rfl⟩
            go_wp2_with fail
            refine (wide_c _ n hn off h0 h1 _ (HW.out.low ((Below.refl _ _).alloc (Nat.le_refl _) _))).mono ?_
            rintro e w2 ⟨rfl, rfl⟩
            rw [hw, ptr]
            simp only [Option.map_some]
            go_wp2_with fail
            exact bodyPost_ret (results_cb RgT Tryz.results81 _ _ w.heap.size _ _ rfl rfl (run_loadVar_row _ _ RgT RgT _ (0, 0) _ (CsAt.new _ RgT _) Tryz.underlying150 rfl (by kernel_rfl))) rfl ⟨by rw [HE.out]; rfl, (Below.refl _ _).alloc (Nat.le_refl _) _⟩
      · have HE := Lib.hid (loc0 (Ct.at_odd4 (n := n) hm))
        have g0 : (off % 4 == 0) = false := by simpa using hm
        clear hm
        go_enter Tryz.func81, Tryz.ntmps81
        go_wp2_with fail
        exact bodyPost_ret (results_cb RgT Tryz.results81 _ _ w.heap.size _ _ rfl rfl (run_loadVar_row _ _ RgT RgT _ (0, 0) _ (CsAt.new _ RgT _) Tryz.underlying150 rfl (by kernel_rfl))) rfl ⟨by rw [HE.out]; rfl, (Below.refl _ _).alloc (Nat.le_refl _) _⟩
    · have HE := Lib.hid (loc0 (Ct.at_size (n := n) (off := off) hs4 hs8))
      have g0 : (size == 4) = false := by simpa using hs4
      have g1 : (size == 8) = false := by simpa using hs8
      clear hs4 hs8
      go_enter Tryz.func81, Tryz.ntmps81
      go_wp2_with fail
      exact bodyPost_ret (results_cb RgT Tryz.results81 _ _ w.heap.size _ _ rfl rfl (run_loadVar_row _ _ RgT RgT _ (0, 0) _ (CsAt.new _ RgT _) Tryz.underlying150 rfl (by kernel_rfl))) rfl ⟨by rw [HE.out]; rfl, (Below.refl _ _).alloc (Nat.le_refl _) _⟩
end
end Bm
end Go.Proofs.YtfjdalepaacmgaaGreat
