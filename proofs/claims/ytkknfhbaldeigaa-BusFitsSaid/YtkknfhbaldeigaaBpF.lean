/-
  A controller within a bus: contracts of claim, complete, Wire, Line.
-/
import Derived.Test.YtkknfhbaldeigaaBpE
import Derived.BigQuiet
import Derived.BigRegion
set_option maxRecDepth 20000
namespace Go.Proofs.Ytkknfhbaldeigaa
open Go.ChangeShapes Go.WideShapes Go.ChangeAt Go.RowKit
namespace Pc
theorem set0 {ws : List Int} (h : 0 < ws.length) : ws.set 0 (ws.getD 0 0) = ws := by
  cases ws with
  | nil => simp at h
  | cons a l => rfl
theorem tri_claim {ws : List Int} (h : 0 < ws.length) (x y : Int) : (ws.set 1 x).set 2 y = tri ws (ws.getD 0 0) x y := by unfold tri; rw [set0 h]
theorem tri_end {ws : List Int} (h : 0 < ws.length) (x y : Int) : (ws.set 2 y).set 1 x = tri ws (ws.getD 0 0) x y := by unfold tri; rw [set0 h, List.set_comm _ _ (by omega)]
theorem set1 {ws : List Int} (h : 1 < ws.length) : ws.set 1 (ws.getD 1 0) = ws := by
  cases ws with
  | nil => simp at h
  | cons a l => cases l with
    | nil => simp at h
    | cons b l => rfl
theorem set2 {ws : List Int} (h : 2 < ws.length) : ws.set 2 (ws.getD 2 0) = ws := by
  cases ws with
  | nil => simp at h
  | cons a l => cases l with
    | nil => simp at h
    | cons b l => cases l with
      | nil => simp at h
      | cons c l => rfl
theorem tri_off {ws : List Int} (h : ws.length = 67) (a : Int) : ws.set 0 a = tri ws a (ws.getD 1 0) (ws.getD 2 0) := by
  unfold tri
  rw [List.set_comm a (ws.getD 1 0) (by omega), set1 (by omega), List.set_comm a (ws.getD 2 0) (by omega), set2 (by omega)]
theorem tri_on {ws : List Int} (h : ws.length = 67) (a b c : Int) : ((ws.set 0 a).set 0 b).set 1 c = tri ws b c (ws.getD 2 0) := by
  unfold tri
  rw [List.set_set, List.set_comm c (ws.getD 2 0) (by omega), List.set_comm b (ws.getD 2 0) (by omega), set2 (by omega)]
end Pc
namespace Pc
theorem one_wrap {s : Int} (h0 : -9223372036854775808 ≤ s) (h1 : s ≤ 9223372036854775807) : one (IntKind.u64.wrap s) = one s := by
  rw [IntKind.wrap_u64]
  unfold one
  by_cases h : 0 ≤ s
  · rw [show s % 18446744073709551616 = s by omega]
  · rw [if_neg (by omega), if_neg (by omega)]
theorem one_ne {s : Int} (h : 1 ≤ s ∧ s < 32) : one s ≠ 0 := fun e => by
  have := tb_one s s.toNat
  rw [e, Wd.tb_zero] at this
  simp at this
  omega
end Pc
theorem Och.low {u v w : World} {b : Nat} (h : Och (some b) u v) (hb : Below v.heap.size v w) : Och (some b) u w := h.trans (Och.of_below hb)
theorem och_set {b : Nat} (w : World) (i : Nat) (v : Value) : Och (some b) w (w.setCell ⟨b, i, none⟩ v) := Och.set i v
theorem step_och {o w : World} {b : Nat} (h : Och (some b) o w) (i : Nat) (v : Value) : Och (some b) o ((w.setCell ⟨b, i, none⟩ v).drew) :=
  h.trans ((Och.set i v).trans (Och.of_below (below_dnC (Below.refl _ _) 1)))
namespace Bp
section
variable {S : SurP}
theorem step_row {w : World} {b n : Nat} {ws : List Int} {t : TypeId} (h : CsAt w b t (rowP S n ws)) (i : Nat) (v : Int) : CsAt ((w.setCell ⟨b, i + 21, none⟩ (.int .u64 v)).drew) b t (rowP S n (ws.set i v)) :=
  (row_set h i v).low (below_dnC (Below.refl _ _) 1)
set_option maxHeartbeats 8000000 in
theorem pclaim_c (b n : Nat) (ws : List Int) (c : Nat) (hc : c < 16) (w : World) (h : BpAt S w b n ws) :
    Calls Try.prog 81 #[.pointer (some ⟨b, 20, none⟩), .int .u64 c] w fun e w' => e = .returned (.int .u64 (Pc.bst ws c 0)) ∧ BpAt S w' b n (Pc.claimP ws c) ∧ Och (some b) w w' := by
  have HC := Lib.hid (pbest_c b n ws c hc 0 (by omega) (by omega) w h)
  have HOK := Lib.hid (Pc.claim_ok h.ok hc)
  have HL := Lib.hid h.ok.len
  have HRow := Lib.hid h.row
  have hbs : (Pc.bst ws c 0 : Int) ≤ 18446744073709551615 := by rcases Pc.bst_of h.ok hc 0 with h | h <;> omega
  have hb : b < w.heap.size := h.lt
  have HE := Lib.hid (show Pc.claimP ws c = (ws.set 1 (bits .andNot .u64 (ws.getD 1 0) (Pc.one (Pc.bst ws c 0)))).set 2 (bits .or .u64 (ws.getD 2 0) (Pc.one (Pc.bst ws c 0))) by rw [Pc.tri_claim (by rw [h.ok.len]; omega)]; rfl)
  rw [HE.out] at HOK ⊢
  have HC1 := Lib.hid (fun (w' : World) (h : CsAt w' b BuT (rowP S n ws)) => show w'.cell? ⟨b, 22, none⟩ = some (.int .u64 (ws.getD 1 0)) by rw [h.cell]; exact bpV_at (by rw [HL.out]; omega))
  have HC2 := Lib.hid (fun (w' : World) (v : Int) (h : CsAt w' b BuT (rowP S n (ws.set 1 v))) => show w'.cell? ⟨b, 23, none⟩ = some (.int .u64 (ws.getD 2 0)) by
    rw [h.cell, bpV_at (by rw [List.length_set, HL.out]; omega), Pc.get_set (by rw [HL.out]; omega), if_neg (by omega)])
  clear h HE
  generalize Pc.bst ws c 0 = m at *
  generalize ws.getD 1 0 = wa at *
  generalize ws.getD 2 0 = sv at *
  go_enter Try.func81, Try.ntmps81
  go_wp2_with fail
  refine HC.out.mono ?_
  rintro e w1 ⟨rfl, hb1⟩
  have HR1 := Lib.hid (HRow.out.low hb1)
  have HO1 := Lib.hid (Och.of_below (o := some b) hb1)
  have hc1 := HC1.out _ HR1.out
  have hf1 := HR1.out.frozen 22
  clear hb1 HC HRow
  go_upto_region 2 with fail
  have hWd : w1.drew = w1.drew := rfl
  refine wp_region_steady_tail (fun W => W = w1.drew) 9 (by kernel_rfl) (by kernel_rfl) hWd ?_
  iterate 5
    refine steady_val ?_ ?_ (by rfl) (fun W hS => ?_) ?_ ?_
    rotate_left 2
    · subst hS
      go_simp
      exact rfl
    · go_simp
      exact rfl
  refine steady_enter (.int .u64 (Pc.one (m : Int))) 68 #[.int .u64 (m : Int)] ?_ (by rfl) (fun W hS => ?_) (fun W hS => (pone_c m (by omega) hbs W).mono (by rintro e w' ⟨rfl, rfl⟩; exact ⟨rfl, hS⟩)) ?_ ?_
  rotate_left 1
  · subst hS
    go_simp
  · go_simp
    exact rfl
  iterate 3
    refine steady_val ?_ ?_ (by rfl) (fun W hS => ?_) ?_ ?_
    rotate_left 2
    · subst hS
      go_simp
      exact rfl
    · go_simp
      exact rfl
  refine steady_nil ?_
  rintro W rfl
  simp only [List.drop_succ_cons, List.drop_zero]
  have HR2 := Lib.hid (step_row HR1.out 1 (bits .andNot .u64 wa (Pc.one (m : Int))))
  have HO2 := Lib.hid (step_och HO1.out 22 (.int .u64 (bits .andNot .u64 wa (Pc.one (m : Int)))))
  have hc2 := HC2.out _ _ HR2.out
  have hf2 := HR2.out.frozen 23
  clear HR1 HO1 HC1
  go_upto_region 3 with fail
  generalize (w1.setCell ⟨b, 22, none⟩ (.int .u64 (bits .andNot .u64 wa (Pc.one (m : Int))))).drew = w2 at *
  clear hc1 hf1
  have hWd : w2.drew = w2.drew := rfl
  refine wp_region_steady_tail (fun W => W = w2.drew) 9 (by kernel_rfl) (by kernel_rfl) hWd ?_
  iterate 5
    refine steady_val ?_ ?_ (by rfl) (fun W hS => ?_) ?_ ?_
    rotate_left 2
    · subst hS
      go_simp
      exact rfl
    · go_simp
      exact rfl
  refine steady_enter (.int .u64 (Pc.one (m : Int))) 68 #[.int .u64 (m : Int)] ?_ (by rfl) (fun W hS => ?_) (fun W hS => (pone_c m (by omega) hbs W).mono (by rintro e w' ⟨rfl, rfl⟩; exact ⟨rfl, hS⟩)) ?_ ?_
  rotate_left 1
  · subst hS
    go_simp
  · go_simp
    exact rfl
  iterate 3
    refine steady_val ?_ ?_ (by rfl) (fun W hS => ?_) ?_ ?_
    rotate_left 2
    · subst hS
      go_simp
      exact rfl
    · go_simp
      exact rfl
  refine steady_nil ?_
  rintro W rfl
  simp only [List.drop_succ_cons, List.drop_zero]
  have HR3 := Lib.hid (step_row HR2.out 2 (bits .or .u64 sv (Pc.one (m : Int))))
  have HO3 := Lib.hid (step_och HO2.out 23 (.int .u64 (bits .or .u64 sv (Pc.one (m : Int)))))
  clear HR2 HO2 HC2
  go_wp2_with fail
  go_ret
  exact ⟨rfl, ⟨HR3.out, HOK.out⟩, HO3.out⟩
set_option maxHeartbeats 8000000 in
theorem pcomplete_c (b n : Nat) (ws : List Int) (c : Nat) (hc : c < 16) (s : Int) (s0 : 0 ≤ s) (s1 : s ≤ 18446744073709551615) (w : World) (h : BpAt S w b n ws) :
    Calls Try.prog 92 #[.pointer (some ⟨b, 20, none⟩), .int .u64 c, .int .u64 s] w fun e w' => e = .returned (.tuple #[]) ∧ BpAt S w' b n (Pc.endP ws c s) ∧ Och (some b) w w' := by
  have HOK := Lib.hid (Pc.end_ok h.ok hc s)
  have HL := Lib.hid h.ok.len
  have HRow := Lib.hid h.row
  have hb : b < w.heap.size := h.lt
  have gc : (c : Int) < 16 := by omega
  have HE := Lib.hid (show Pc.endP ws c s = (ws.set 2 (bits .andNot .u64 (ws.getD 2 0) (bits .and .u64 (bits .and .u64 (Pc.one s) (ws.getD (35 + c) 0)) (ws.getD 2 0)))).set 1 (bits .or .u64 (ws.getD 1 0) (bits .and .u64 (bits .and .u64 (bits .and .u64 (Pc.one s) (ws.getD (35 + c) 0)) (ws.getD 2 0)) (ws.getD 0 0))) by rw [Pc.tri_end (by rw [h.ok.len]; omega)]; rfl)
  rw [HE.out] at HOK ⊢
  have HC0 := Lib.hid (fun (w' : World) (h : CsAt w' b BuT (rowP S n ws)) => show w'.cell? ⟨b, 56 + c, none⟩ = some (.int .u64 (ws.getD (35 + c) 0)) ∧ w'.cell? ⟨b, 23, none⟩ = some (.int .u64 (ws.getD 2 0)) by
    rw [h.cell, h.cell, show 56 + c = 35 + c + 21 by omega]; exact ⟨bpV_at (by rw [HL.out]; omega), bpV_at (by rw [HL.out]; omega)⟩)
  have HC2 := Lib.hid (fun (w' : World) (v : Int) (h : CsAt w' b BuT (rowP S n (ws.set 2 v))) => show w'.cell? ⟨b, 22, none⟩ = some (.int .u64 (ws.getD 1 0)) ∧ w'.cell? ⟨b, 21, none⟩ = some (.int .u64 (ws.getD 0 0)) by
    rw [h.cell, h.cell, bpV_at (i := 1) (by rw [List.length_set, HL.out]; omega), Pc.get_set (by rw [HL.out]; omega), if_neg (by omega), bpV_at (i := 0) (by rw [List.length_set, HL.out]; omega), Pc.get_set (by rw [HL.out]; omega), if_neg (by omega)]
    exact ⟨rfl, rfl⟩)
  clear h HE
  generalize ws.getD (35 + c) 0 = en at *
  generalize ws.getD 0 0 = wi at *
  generalize ws.getD 1 0 = wa at *
  generalize ws.getD 2 0 = sv at *
  obtain ⟨E, hEd⟩ : ∃ E, bits .and .u64 (bits .and .u64 (Pc.one s) en) sv = E := ⟨_, rfl⟩
  rw [hEd] at HOK ⊢
  have HO := Lib.hid (pone_c s s0 s1)
  obtain ⟨q0, q3⟩ := HC0.out _ HRow.out
  have hf3 := HRow.out.frozen 23
  clear HC0
  go_enter Try.func92, Try.ntmps92
  go_upto_region 0 with fail
  refine wp_region_steady (fun W => W = w.drew) (by kernel_rfl) (by kernel_rfl) rfl ?_
  refine steady_val ?_ ?_ (by rfl) (fun W hS => ?_) ?_ ?_
  rotate_left 2
  · subst hS
    go_simp
    exact rfl
  · go_simp
    exact rfl
  refine steady_enter (.int .u64 (Pc.one s)) 68 #[.int .u64 s] ?_ (by rfl) (fun W hS => ?_) (fun W hS => (HO.out W).mono (by rintro e w' ⟨rfl, rfl⟩; exact ⟨rfl, hS⟩)) ?_ ?_
  rotate_left 1
  · subst hS
    go_simp
  · go_simp
    exact rfl
  iterate 13
    refine steady_val ?_ ?_ (by rfl) (fun W hS => ?_) ?_ ?_
    rotate_left 2
    · subst hS
      go_simp
      exact rfl
    · go_simp
      exact rfl
  refine steady_nil ?_
  rintro W rfl
  have HR2 := Lib.hid (step_row HRow.out 2 (bits .andNot .u64 sv E))
  have HO2 := Lib.hid (step_och (Och.refl (some b) w) 23 (.int .u64 (bits .andNot .u64 sv E)))
  obtain ⟨q2, q1⟩ := HC2.out _ _ HR2.out
  have hf2 := HR2.out.frozen 22
  clear HRow HC2 hEd
  go_upto_region 2 with fail
  generalize (w.setCell ⟨b, 23, none⟩ (.int .u64 (bits .andNot .u64 sv E))).drew = w2 at *
  clear q0 q3 hf3
  have hWd : w2.drew = w2.drew := rfl
  refine wp_region_steady_tail (fun W => W = w2.drew) 13 (by kernel_rfl) (by kernel_rfl) hWd ?_
  iterate 13
    refine steady_val ?_ ?_ (by rfl) (fun W hS => ?_) ?_ ?_
    rotate_left 2
    · subst hS
      go_simp
      exact rfl
    · go_simp
      exact rfl
  refine steady_nil ?_
  rintro W rfl
  simp only [List.drop_succ_cons, List.drop_zero]
  have HR3 := Lib.hid (step_row HR2.out 1 (bits .or .u64 wa (bits .and .u64 E wi)))
  have HO3 := Lib.hid (step_och HO2.out 22 (.int .u64 (bits .or .u64 wa (bits .and .u64 E wi))))
  clear HR2 HO2
  go_wp2_with fail
  exact bodyPost_end (v := .tuple #[]) (by simp [results, Try.results92, go_sem]) rfl ⟨rfl, ⟨HR3.out, HOK.out⟩, HO3.out⟩
set_option maxHeartbeats 8000000 in
theorem pwire_c (p : Option Addr) (n : Nat) (ws : List Int) (s : Int) (s0 : -9223372036854775808 ≤ s) (s1 : s ≤ 9223372036854775807) (on : Bool) (w : World) (h : PcP S w p n ws) :
    Calls Try.prog 30 #[.pointer p, .int .i64 s, .bool on] w fun e w' => e = .returned (.bool (Pc.wires n s)) ∧ PcP S w' p n (Pc.wireW n ws s on) ∧ Och (pb p) w w' := by
  have HO := Lib.hid (fun W => pone_c (IntKind.u64.wrap s) (Wd.wrap_range s).1 (by have := (Wd.wrap_range s).2; omega) W)
  rw [Pc.one_wrap s0 s1] at HO
  by_cases hs : 1 ≤ s ∧ s < 32
  · have e0 : (Pc.one s == 0) = false := by simpa using Pc.one_ne hs
    by_cases hn : n = 0
    · have HE := Lib.hid (show Pc.wires n s = false by unfold Pc.wires; simp [hn])
      have HW := Lib.hid (show Pc.wireW n ws s on = ws by unfold Pc.wireW; rw [HE.out, if_neg (by simp)])
      have HC := Lib.hid (pcount_c p n w h.cw)
      rw [HE.out, HW.out]
      have HP := Lib.hid h
      subst hn
      clear h hs HE HW
      generalize Pc.one s = o at *
      go_enter Try.func30, Try.ntmps30
      go_wp2_with fail
      refine (HO.out w).mono ?_
      rintro e w1 ⟨rfl, rfl⟩
      go_wp2_with fail
      refine HC.out.mono ?_
      rintro e w1 ⟨rfl, rfl⟩
      go_wp2_with fail
      go_ret
      exact ⟨rfl, HP.out, Och.refl _ _⟩
    · obtain ⟨b, rfl, hA⟩ := h.pos (by omega)
      have HE := Lib.hid (show Pc.wires n s = true by unfold Pc.wires; simp; omega)
      have HW := Lib.hid (show Pc.wireW n ws s on = Pc.wireP ws s on by unfold Pc.wireW; rw [HE.out, if_pos rfl])
      have HC := Lib.hid (pcount_c (some ⟨b, 20, none⟩) n w h.cw)
      have HOK := Lib.hid (Pc.wire_ok hA.ok s on)
      have e1 : ((n : Int) == 0) = false := by simpa using hn
      have HL := Lib.hid hA.ok.len
      have HRow := Lib.hid hA.row
      have hb := hA.lt
      have q1 := hA.cell (show 0 < 67 by omega)
      have f1 := hA.row.frozen 21
      have HC1 := Lib.hid (fun (w' : World) (v : Int) (h : CsAt w' b BuT (rowP S n (ws.set 0 v))) => show w'.cell? ⟨b, 21, none⟩ = some (.int .u64 v) by rw [h.cell, bpV_at (i := 0) (by rw [List.length_set, HL.out]; omega), Pc.get_set (by rw [HL.out]; omega), if_pos rfl])
      have HC2 := Lib.hid (fun (w' : World) (u v : Int) (h : CsAt w' b BuT (rowP S n ((ws.set 0 u).set 0 v))) => show w'.cell? ⟨b, 22, none⟩ = some (.int .u64 (ws.getD 1 0)) ∧ w'.cell? ⟨b, 23, none⟩ = some (.int .u64 (ws.getD 2 0)) by
        rw [h.cell, h.cell, bpV_at (i := 1) (by rw [List.length_set, List.length_set, HL.out]; omega), Pc.get_set (by rw [List.length_set, HL.out]; omega), if_neg (by omega), Pc.get_set (by rw [HL.out]; omega), if_neg (by omega), bpV_at (i := 2) (by rw [List.length_set, List.length_set, HL.out]; omega), Pc.get_set (by rw [List.length_set, HL.out]; omega), if_neg (by omega), Pc.get_set (by rw [HL.out]; omega), if_neg (by omega)]
        exact ⟨rfl, rfl⟩)
      rw [HE.out, HW.out]
      have HT := Lib.hid (Pc.tri_off hA.ok.len)
      have HTn := Lib.hid (Pc.tri_on hA.ok.len)
      clear h hs HE HW hn hA
      rw [Pc.wireP] at HOK ⊢
      generalize ws.getD 0 0 = wi at *
      generalize ws.getD 1 0 = wa at *
      generalize ws.getD 2 0 = sv at *
      generalize Pc.one s = o at *
      have hblk : pb (some ⟨b, 20, none⟩) = some b := rfl
      rw [hblk]
      cases on with
      | false =>
        rw [if_neg (by simp), ← HT.out] at HOK ⊢
        go_enter Try.func30, Try.ntmps30
        go_wp2_with fail
        refine (HO.out w).mono ?_
        rintro e w1 ⟨rfl, rfl⟩
        go_wp2_with fail
        refine HC.out.mono ?_
        rintro e w1 ⟨rfl, rfl⟩
        go_wp2_with fail
        go_ret
        exact ⟨rfl, .inr ⟨b, rfl, ⟨row_set HRow.out 0 _, HOK.out⟩⟩, Och.set 21 _⟩
      | true =>
        rw [if_pos rfl, ← HTn.out (bits .andNot .u64 wi o)] at HOK ⊢
        go_enter Try.func30, Try.ntmps30
        go_wp2_with fail
        refine (HO.out w).mono ?_
        rintro e w1 ⟨rfl, rfl⟩
        go_wp2_with fail
        refine HC.out.mono ?_
        rintro e w1 ⟨rfl, rfl⟩
        have HR2 := Lib.hid (row_set HRow.out 0 (bits .andNot .u64 wi o))
        have HO2 := Lib.hid (Och.set (w := w1) (b := b) 21 (.int .u64 (bits .andNot .u64 wi o)))
        go_upto_region 6 with fail
        generalize w1.setCell ⟨b, 21, none⟩ (.int .u64 (bits .andNot .u64 wi o)) = w2 at *
        clear q1 f1 HRow HT HTn HO HC
        have q2 := HC1.out _ _ HR2.out
        have f2 := HR2.out.frozen 21
        have HR3 := Lib.hid (row_set HR2.out 0 (bits .or .u64 (bits .andNot .u64 wi o) o))
        have HO3 := Lib.hid (HO2.out.trans (Och.set (w := w2) (b := b) 21 (.int .u64 (bits .or .u64 (bits .andNot .u64 wi o) o))))
        go_upto_region 7 with fail
        generalize w2.setCell ⟨b, 21, none⟩ (.int .u64 (bits .or .u64 (bits .andNot .u64 wi o) o)) = w3 at *
        clear q2 f2 HR2 HO2 HC1
        obtain ⟨q3, q4⟩ := HC2.out _ _ _ HR3.out
        have f3 := HR3.out.frozen 22
        have hWd : w3.drew = w3.drew := rfl
        refine wp_region_steady_tail (fun W => W = w3.drew) 13 (by kernel_rfl) (by kernel_rfl) hWd ?_
        iterate 13
          refine steady_val ?_ ?_ (by rfl) (fun W hS => ?_) ?_ ?_
          rotate_left 2
          · subst hS
            go_simp
            exact rfl
          · go_simp
            exact rfl
        refine steady_nil ?_
        rintro W rfl
        simp only [List.drop_succ_cons, List.drop_zero]
        have HR4 := Lib.hid (step_row HR3.out 1 (bits .or .u64 wa (bits .andNot .u64 o sv)))
        have HO4 := Lib.hid (step_och HO3.out 22 (.int .u64 (bits .or .u64 wa (bits .andNot .u64 o sv))))
        clear HR3 HO3 HC2
        go_wp2_with fail
        go_ret
        exact ⟨rfl, .inr ⟨b, rfl, ⟨by have := HR4.out; rw [List.set_set] at this; exact this, by have := HOK.out; rw [List.set_set] at this; exact this⟩⟩, HO4.out⟩
  · have HE := Lib.hid (show Pc.wires n s = false by unfold Pc.wires; simp; omega)
    have HW := Lib.hid (show Pc.wireW n ws s on = ws by unfold Pc.wireW; rw [HE.out, if_neg (by simp)])
    have e0 : Pc.one s = 0 := by unfold Pc.one; rw [if_neg hs]
    rw [HE.out, HW.out]
    rw [e0] at HO
    have HP := Lib.hid h
    clear h hs HE HW
    go_enter Try.func30, Try.ntmps30
    go_wp2_with fail
    refine (HO.out w).mono ?_
    rintro e w1 ⟨rfl, rfl⟩
    go_wp2_with fail
    go_ret
    exact ⟨rfl, HP.out, Och.refl _ _⟩
set_option maxHeartbeats 8000000 in
theorem pline_c (p : Option Addr) (n : Nat) (ws : List Int) (c : Int) (c0 : -9223372036854775808 ≤ c) (c1 : c ≤ 9223372036854775807) (w : World) (h : PcP S w p n ws) :
    Calls Try.prog 33 #[.pointer p, .int .i64 c] w fun e w' => e = .returned (.bool (Pc.lineP n ws c)) ∧ Below w.heap.size w w' := by
  have HC := Lib.hid (pcount_c p n w h.cw)
  have hn8 := h.n8
  by_cases hneg : c < 0
  · have HE := Lib.hid (show Pc.lineP n ws c = false by unfold Pc.lineP; simp; omega)
    rw [HE.out]
    have e0 : decide (c < 0) = true := by simpa using hneg
    clear h HE
    go_enter Try.func33, Try.ntmps33
    go_wp2_with fail
    go_ret
    exact ⟨rfl, Below.refl _ _⟩
  · have e0 : decide (c < 0) = false := by simpa using hneg
    obtain ⟨k, rfl⟩ := Int.eq_ofNat_of_zero_le (by omega : 0 ≤ c)
    by_cases hk : k < 2 * n
    · obtain ⟨b, rfl, hA⟩ := h.pos (by omega)
      have hk16 : k < 16 := by omega
      have gk : (k : Int) < 16 := by omega
      have e1 : decide ((k : Int) ≥ 2 * (n : Int)) = false := by simp; omega
      have q := hA.cell (show 51 + k < 67 by omega)
      rw [show 51 + k + 21 = 72 + k by omega] at q
      have ht := hA.ok.thr k hk16
      have HBst := Lib.hid (pbest_c b n ws k hk16 (ws.getD (51 + k) 0) (by omega) (by omega) w hA)
      have HE := Lib.hid (show Pc.lineP n ws (k : Int) = (((Pc.bst ws k (ws.getD (51 + k) 0) : Nat) : Int) != 0) by
        unfold Pc.lineP
        rw [Int.toNat_natCast, Bool.eq_iff_iff]
        simp
        omega)
      rw [HE.out]
      clear h hA HE hneg
      generalize Pc.bst ws k (ws.getD (51 + k) 0) = m at *
      generalize ws.getD (51 + k) 0 = t at *
      go_enter Try.func33, Try.ntmps33
      go_wp2_with fail
      refine HC.out.mono ?_
      rintro e w1 ⟨rfl, rfl⟩
      go_wp2_with fail
      refine HBst.out.mono ?_
      rintro e w2 ⟨rfl, hb2⟩
      have HB := Lib.hid hb2
      clear hb2
      go_wp2_with fail
      go_ret
      exact ⟨rfl, HB.out⟩
    · have HE := Lib.hid (show Pc.lineP n ws (k : Int) = false by unfold Pc.lineP; simp; omega)
      rw [HE.out]
      have e1 : decide ((k : Int) ≥ 2 * (n : Int)) = true := by simp; omega
      clear h HE hneg
      go_enter Try.func33, Try.ntmps33
      go_wp2_with fail
      refine HC.out.mono ?_
      rintro e w1 ⟨rfl, rfl⟩
      go_wp2_with fail
      go_ret
      exact ⟨rfl, Below.refl _ _⟩
end
end Bp
end Go.Proofs.Ytkknfhbaldeigaa
