/-
  Contracts of cause.exception, Align, Fault, Page, Call, To, First.
-/
import Derived.Test.YtfjdalepaacmgaaDoorCauC
set_option maxRecDepth 20000
namespace Go.Proofs.YtfjdalepaacmgaaDoor
open Go.ChangeShapes Go.WideShapes Go.ChangeAt Go.RowKit Wd Cau

abbrev kE (n : Int) : Value := .agg #[.bool false, .int .i64 n]
def excK (a i l s : Int) : Int := if a = 0 then i else if a = 1 then l else s
set_option maxHeartbeats 1000000 in
theorem kexc_c (a i l s : Int) (w : World) : Calls Tryd.prog 52 #[.int .i64 a, .int .i64 i, .int .i64 l, .int .i64 s] w fun e w' => e = .returned (kE (excK a i l s)) ∧ Below w.heap.size w w' := by
  by_cases h0 : a = 0
  · subst h0
    have HX := Lib.hid (show excK 0 i l s = i from if_pos rfl)
    go_enter Tryd.func52, Tryd.ntmps52
    go_upto_region 1 with (fail)
    have h1 := CsAt.new w CaT zCa
    have h3 : Below w.heap.size w (w.alloc (.cells zCa CaT)) := (Below.refl _ _).alloc (Nat.le_refl _) _
    generalize (w.alloc (.cells zCa CaT)) = w1 at *
    have H1 := Lib.hid h1
    have H3 := Lib.hid h3
    clear h1 h3
    have hR2 := H1.out
    have z0 := hR2.cell 0
    have z1 := hR2.cell 1
    have y0 := hR2.frozen 0
    have y1 := hR2.frozen 1
    clear hR2
    simp only [List.getElem?_toArray, List.getElem?_cons_zero, List.getElem?_cons_succ] at z0 z1
    go_wp2_with fail
    refine bodyPost_ret (v := kE i) (by simp [results, Tryd.results52, go_sem, z0, z1]) rfl ⟨by rw [HX.out], ?_⟩
    exact ((H3.out.setCell (by exact Nat.le_refl _) _).setCell (by exact Nat.le_refl _) _)
  · have e0 : (a == 0) = false := by simpa using h0
    have HX := Lib.hid (show excK a i l s = if a = 1 then l else s from if_neg h0)
    clear h0
    by_cases h1 : a = 1
    · subst h1
      rw [if_pos rfl] at HX
      go_enter Tryd.func52, Tryd.ntmps52
      go_upto_region 1 with (fail)
      have h1 := CsAt.new w CaT zCa
      have h3 : Below w.heap.size w (w.alloc (.cells zCa CaT)) := (Below.refl _ _).alloc (Nat.le_refl _) _
      generalize (w.alloc (.cells zCa CaT)) = w1 at *
      have H1 := Lib.hid h1
      have H3 := Lib.hid h3
      clear h1 h3
      have hR2 := H1.out
      have z0 := hR2.cell 0
      have z1 := hR2.cell 1
      have y0 := hR2.frozen 0
      have y1 := hR2.frozen 1
      clear hR2
      simp only [List.getElem?_toArray, List.getElem?_cons_zero, List.getElem?_cons_succ] at z0 z1
      go_wp2_with fail
      refine bodyPost_ret (v := kE l) (by simp [results, Tryd.results52, go_sem, z0, z1]) rfl ⟨by rw [HX.out], ?_⟩
      exact ((H3.out.setCell (by exact Nat.le_refl _) _).setCell (by exact Nat.le_refl _) _)
    · have e1 : (a == 1) = false := by simpa using h1
      rw [if_neg h1] at HX
      clear h1
      go_enter Tryd.func52, Tryd.ntmps52
      go_upto_region 1 with (fail)
      have h1 := CsAt.new w CaT zCa
      have h3 : Below w.heap.size w (w.alloc (.cells zCa CaT)) := (Below.refl _ _).alloc (Nat.le_refl _) _
      generalize (w.alloc (.cells zCa CaT)) = w1 at *
      have H1 := Lib.hid h1
      have H3 := Lib.hid h3
      clear h1 h3
      have hR2 := H1.out
      have z0 := hR2.cell 0
      have z1 := hR2.cell 1
      have y0 := hR2.frozen 0
      have y1 := hR2.frozen 1
      clear hR2
      simp only [List.getElem?_toArray, List.getElem?_cons_zero, List.getElem?_cons_succ] at z0 z1
      go_wp2_with fail
      refine bodyPost_ret (v := kE s) (by simp [results, Tryd.results52, go_sem, z0, z1]) rfl ⟨by rw [HX.out], ?_⟩
      exact ((H3.out.setCell (by exact Nat.le_refl _) _).setCell (by exact Nat.le_refl _) _)
set_option maxHeartbeats 1000000 in
theorem kalign_c (a : Int) (w : World) : Calls Tryd.prog 19 #[.int .i64 a] w fun e w' => e = .returned (kE (excK a 0 4 6)) ∧ Below w.heap.size w w' := by
  have HC := Lib.hid (fun W => kexc_c a 0 4 6 W)
  generalize excK a 0 4 6 = v at *
  go_enter Tryd.func19, Tryd.ntmps19
  go_upto_region 1 with (fail)
  have h1 := CsAt.new w CaT zCa
  have h3 : Below w.heap.size w (w.alloc (.cells zCa CaT)) := (Below.refl _ _).alloc (Nat.le_refl _) _
  generalize (w.alloc (.cells zCa CaT)) = w1 at *
  have H1 := Lib.hid h1
  have H3 := Lib.hid h3
  clear h1 h3
  go_wp2_with fail
  refine (HC.out _).mono ?_
  rintro e w2 ⟨rfl, hb⟩
  have HB := Lib.hid (H3.out.trans (hb.mono H3.out.size))
  have hR2 := H1.out.low hb
  have z0 := hR2.cell 0
  have z1 := hR2.cell 1
  have y0 := hR2.frozen 0
  have y1 := hR2.frozen 1
  clear hR2
  simp only [List.getElem?_toArray, List.getElem?_cons_zero, List.getElem?_cons_succ] at z0 z1
  clear hb
  go_wp2_with fail
  refine bodyPost_ret (v := kE v) (by simp [results, Tryd.results19, go_sem, z0, z1]) rfl ⟨rfl, ?_⟩
  exact ((HB.out.setCell (by exact Nat.le_refl _) _).setCell (by exact Nat.le_refl _) _)
set_option maxHeartbeats 1000000 in
theorem kfault_c (a : Int) (w : World) : Calls Tryd.prog 21 #[.int .i64 a] w fun e w' => e = .returned (kE (excK a 1 5 7)) ∧ Below w.heap.size w w' := by
  have HC := Lib.hid (fun W => kexc_c a 1 5 7 W)
  generalize excK a 1 5 7 = v at *
  go_enter Tryd.func21, Tryd.ntmps21
  go_upto_region 1 with (fail)
  have h1 := CsAt.new w CaT zCa
  have h3 : Below w.heap.size w (w.alloc (.cells zCa CaT)) := (Below.refl _ _).alloc (Nat.le_refl _) _
  generalize (w.alloc (.cells zCa CaT)) = w1 at *
  have H1 := Lib.hid h1
  have H3 := Lib.hid h3
  clear h1 h3
  go_wp2_with fail
  refine (HC.out _).mono ?_
  rintro e w2 ⟨rfl, hb⟩
  have HB := Lib.hid (H3.out.trans (hb.mono H3.out.size))
  have hR2 := H1.out.low hb
  have z0 := hR2.cell 0
  have z1 := hR2.cell 1
  have y0 := hR2.frozen 0
  have y1 := hR2.frozen 1
  clear hR2
  simp only [List.getElem?_toArray, List.getElem?_cons_zero, List.getElem?_cons_succ] at z0 z1
  clear hb
  go_wp2_with fail
  refine bodyPost_ret (v := kE v) (by simp [results, Tryd.results21, go_sem, z0, z1]) rfl ⟨rfl, ?_⟩
  exact ((HB.out.setCell (by exact Nat.le_refl _) _).setCell (by exact Nat.le_refl _) _)
set_option maxHeartbeats 1000000 in
theorem kpage_c (a : Int) (w : World) : Calls Tryd.prog 22 #[.int .i64 a] w fun e w' => e = .returned (kE (excK a 12 13 15)) ∧ Below w.heap.size w w' := by
  have HC := Lib.hid (fun W => kexc_c a 12 13 15 W)
  generalize excK a 12 13 15 = v at *
  go_enter Tryd.func22, Tryd.ntmps22
  go_upto_region 1 with (fail)
  have h1 := CsAt.new w CaT zCa
  have h3 : Below w.heap.size w (w.alloc (.cells zCa CaT)) := (Below.refl _ _).alloc (Nat.le_refl _) _
  generalize (w.alloc (.cells zCa CaT)) = w1 at *
  have H1 := Lib.hid h1
  have H3 := Lib.hid h3
  clear h1 h3
  go_wp2_with fail
  refine (HC.out _).mono ?_
  rintro e w2 ⟨rfl, hb⟩
  have HB := Lib.hid (H3.out.trans (hb.mono H3.out.size))
  have hR2 := H1.out.low hb
  have z0 := hR2.cell 0
  have z1 := hR2.cell 1
  have y0 := hR2.frozen 0
  have y1 := hR2.frozen 1
  clear hR2
  simp only [List.getElem?_toArray, List.getElem?_cons_zero, List.getElem?_cons_succ] at z0 z1
  clear hb
  go_wp2_with fail
  refine bodyPost_ret (v := kE v) (by simp [results, Tryd.results22, go_sem, z0, z1]) rfl ⟨rfl, ?_⟩
  exact ((HB.out.setCell (by exact Nat.le_refl _) _).setCell (by exact Nat.le_refl _) _)
def callK (p : Int) : Int := if p = 0 then 8 else if p = 1 then 9 else 11
set_option maxHeartbeats 1000000 in
theorem kcall_c (p : Int) (w : World) : Calls Tryd.prog 23 #[.int .i64 p] w fun e w' => e = .returned (kE (callK p)) ∧ Below w.heap.size w w' := by
  by_cases h0 : p = 0
  · subst h0
    have HX := Lib.hid (show callK 0 = 8 from if_pos rfl)
    go_enter Tryd.func23, Tryd.ntmps23
    go_upto_region 1 with (fail)
    have h1 := CsAt.new w CaT zCa
    have h3 : Below w.heap.size w (w.alloc (.cells zCa CaT)) := (Below.refl _ _).alloc (Nat.le_refl _) _
    generalize (w.alloc (.cells zCa CaT)) = w1 at *
    have H1 := Lib.hid h1
    have H3 := Lib.hid h3
    clear h1 h3
    have hR2 := H1.out
    have z0 := hR2.cell 0
    have z1 := hR2.cell 1
    have y0 := hR2.frozen 0
    have y1 := hR2.frozen 1
    clear hR2
    simp only [List.getElem?_toArray, List.getElem?_cons_zero, List.getElem?_cons_succ] at z0 z1
    go_wp2_with fail
    refine bodyPost_ret (v := kE 8) (by simp [results, Tryd.results23, go_sem, z0, z1]) rfl ⟨by rw [HX.out], ?_⟩
    exact ((H3.out.setCell (by exact Nat.le_refl _) _).setCell (by exact Nat.le_refl _) _)
  · have e0 : (p == 0) = false := by simpa using h0
    have HX := Lib.hid (show callK p = if p = 1 then 9 else 11 from if_neg h0)
    clear h0
    by_cases h1 : p = 1
    · subst h1
      rw [if_pos rfl] at HX
      go_enter Tryd.func23, Tryd.ntmps23
      go_upto_region 1 with (fail)
      have h1 := CsAt.new w CaT zCa
      have h3 : Below w.heap.size w (w.alloc (.cells zCa CaT)) := (Below.refl _ _).alloc (Nat.le_refl _) _
      generalize (w.alloc (.cells zCa CaT)) = w1 at *
      have H1 := Lib.hid h1
      have H3 := Lib.hid h3
      clear h1 h3
      have hR2 := H1.out
      have z0 := hR2.cell 0
      have z1 := hR2.cell 1
      have y0 := hR2.frozen 0
      have y1 := hR2.frozen 1
      clear hR2
      simp only [List.getElem?_toArray, List.getElem?_cons_zero, List.getElem?_cons_succ] at z0 z1
      go_wp2_with fail
      refine bodyPost_ret (v := kE 9) (by simp [results, Tryd.results23, go_sem, z0, z1]) rfl ⟨by rw [HX.out], ?_⟩
      exact ((H3.out.setCell (by exact Nat.le_refl _) _).setCell (by exact Nat.le_refl _) _)
    · have e1 : (p == 1) = false := by simpa using h1
      rw [if_neg h1] at HX
      clear h1
      go_enter Tryd.func23, Tryd.ntmps23
      go_upto_region 1 with (fail)
      have h1 := CsAt.new w CaT zCa
      have h3 : Below w.heap.size w (w.alloc (.cells zCa CaT)) := (Below.refl _ _).alloc (Nat.le_refl _) _
      generalize (w.alloc (.cells zCa CaT)) = w1 at *
      have H1 := Lib.hid h1
      have H3 := Lib.hid h3
      clear h1 h3
      have hR2 := H1.out
      have z0 := hR2.cell 0
      have z1 := hR2.cell 1
      have y0 := hR2.frozen 0
      have y1 := hR2.frozen 1
      clear hR2
      simp only [List.getElem?_toArray, List.getElem?_cons_zero, List.getElem?_cons_succ] at z0 z1
      go_wp2_with fail
      refine bodyPost_ret (v := kE 11) (by simp [results, Tryd.results23, go_sem, z0, z1]) rfl ⟨by rw [HX.out], ?_⟩
      exact ((H3.out.setCell (by exact Nat.le_refl _) _).setCell (by exact Nat.le_refl _) _)
theorem bitK {d : Int} (hd : 0 ≤ d ∧ d < 18446744073709551616) (k : Nat) : (bits .and .u64 (d / 2 ^ k) 1 == 1) = tb d k := by
  have hr := div_range hd.1 hd.2 k
  have h := and_low hr.1 hr.2 1 (by omega)
  rw [show (2 : Int) ^ 1 - 1 = 1 by decide, show (2 : Int) ^ 1 = 2 by decide] at h
  rw [h]
  have e : tb d k = tb (d / 2 ^ k) 0 := by rw [tb_div hd.1]; congr 1; omega
  rw [e]
  unfold tb
  rw [Nat.testBit_zero]
  rw [Bool.eq_iff_iff]
  simp only [beq_iff_eq, decide_eq_true_eq]
  omega
def toK (b : Bool) (n p d i : Int) : Int := if p ≠ 3 ∧ 0 ≤ n ∧ n ≤ 63 ∧ tb (if b then i else d) n.toNat = true then 1 else 3
set_option maxHeartbeats 2000000 in
theorem kto_c (b : Bool) (n p d i : Int) (w : World) (hd : 0 ≤ d ∧ d < 18446744073709551616) (hi : 0 ≤ i ∧ i < 18446744073709551616) :
    Calls Tryd.prog 25 #[.agg #[.bool b, .int .i64 n], .int .i64 p, .int .u64 d, .int .u64 i] w fun e w' => e = .returned (.int .i64 (toK b n p d i)) ∧ Below w.heap.size w w' := by
  have HC := Lib.hid (fun W => kword1_c n W)
  have hB : Below w.heap.size w (w.alloc (.cells #[.bool b, .int .i64 n] CaT)) := (Below.refl _ _).alloc (Nat.le_refl _) _
  have HB := Lib.hid hB
  clear hB
  by_cases hp : p = 3
  · subst hp
    have HV := Lib.hid (show toK b n 3 d i = 3 from if_neg (fun h => h.1 rfl))
    clear hd hi
    cases b
    all_goals
      go_enter Tryd.func25, Tryd.ntmps25
      go_wp2_with fail
      go_ret
      exact ⟨by rw [HV.out]; rfl, HB.out⟩
  · have ep : (p != 3) = true := by simpa using hp
    by_cases hn : 0 ≤ n ∧ n ≤ 63
    · have h2 : (decide (0 ≤ n) && decide (n ≤ 63)) = true := by simp [hn]
      rw [h2] at HC
      clear h2
      obtain ⟨k, rfl⟩ := Int.eq_ofNat_of_zero_le hn.1
      have hk : k < 64 := by omega
      have hv : toK b k p d i = if tb (if b then i else d) k = true then 1 else 3 := by
        unfold toK
        by_cases ht : tb (if b then i else d) k = true
        · rw [if_pos ht, if_pos ⟨hp, hn.1, hn.2, by simpa using ht⟩]
        · rw [if_neg ht, if_neg (fun h => ht (by simpa using h.2.2.2))]
      have hbd := bitK hd k
      have hbi := bitK hi k
      have HV := Lib.hid hv
      clear hv hp hd hi
      cases b
      all_goals
        simp only [Bool.false_eq_true, if_false, if_true] at HV
      · cases ht : tb d k
        all_goals
          rw [ht] at HV hbd
          clear ht
          go_enter Tryd.func25, Tryd.ntmps25
          go_wp2_with fail
          refine (HC.out _).mono ?_
          rintro e w2 ⟨rfl, rfl⟩
          go_wp2_with fail
          go_ret
          exact ⟨by rw [HV.out]; rfl, HB.out⟩
      · cases ht : tb i k
        all_goals
          rw [ht] at HV hbi
          clear ht
          go_enter Tryd.func25, Tryd.ntmps25
          go_wp2_with fail
          refine (HC.out _).mono ?_
          rintro e w2 ⟨rfl, rfl⟩
          go_wp2_with fail
          go_ret
          exact ⟨by rw [HV.out]; rfl, HB.out⟩
    · have h2 : (decide (0 ≤ n) && decide (n ≤ 63)) = false := by
        rw [Bool.and_eq_false_iff]
        simp only [decide_eq_false_iff_not]
        omega
      rw [h2] at HC
      have HV := Lib.hid (show toK b n p d i = 3 from if_neg (fun h => hn ⟨h.2.1, h.2.2.1⟩))
      clear h2 hn hp hd hi
      cases b
      all_goals
        go_enter Tryd.func25, Tryd.ntmps25
        go_wp2_with fail
        refine (HC.out _).mono ?_
        rintro e w2 ⟨rfl, rfl⟩
        go_wp2_with fail
        go_ret
        exact ⟨by rw [HV.out]; rfl, HB.out⟩
/-- The order of the interrupts in memory. -/
def OrderIn (w : World) : Prop := 0 < w.heap.size ∧ ∀ k, k < 6 → w.cell? ⟨0, k, none⟩ = some (.int .i64 (ordK.getD k 0 : Nat))
theorem OrderIn.low {w w' : World} (h : OrderIn w) (hb : Below w.heap.size w w') : OrderIn w' :=
  ⟨Nat.le_trans h.1 hb.size, fun k hk => (hb.cell (p := ⟨0, k, none⟩) h.1).trans (h.2 k hk)⟩
def fI (w : Int) : Value := .tuple #[.agg #[.bool (fstI w).isSome, .int .i64 ((fstI w).getD 0 : Nat)], .bool (fstI w).isSome]
set_option maxHeartbeats 4000000 in
theorem kfirst_c (x : Int) (hx : 0 ≤ x ∧ x < 18446744073709551616) (w : World) (hN : OrderIn w) : Calls Tryd.prog 27 #[.int .u64 x] w fun e w' => e = .returned (fI x) ∧ Below w.heap.size w w' := by
  have HX := Lib.hid hx
  have HN := Lib.hid hN
  clear hx hN
  go_enter Tryd.func27, Tryd.ntmps27
  go_wp2_with fail
  have h1 := CsAt.new w CaT zCa
  have h3 : Below w.heap.size w (w.alloc (.cells zCa CaT)) := (Below.refl _ _).alloc (Nat.le_refl _) _
  generalize (w.alloc (.cells zCa CaT)) = w1 at *
  have H1 := Lib.hid h1
  have H3 := Lib.hid h3
  clear h1 h3
  go_loopw [4, 5] (fun _ iv wr => ∃ k : Nat, k ≤ 6 ∧ iv = .int .i64 k ∧ (∀ j, j < k → tb x (ordK.getD j 0) = false) ∧ wr = w1) (fun _ iv _ => 6 - (intOf iv).toNat)
  case atStart => exact ⟨0, Nat.zero_le _, rfl, fun i h => by omega, rfl⟩
  case round =>
    obtain ⟨k, hk, rfl, hn, rfl⟩ := hrel
    have HN' := Lib.hid hn
    clear hn
    by_cases hlt : k < 6
    · have c0 := (HN.out.low H3.out).2 k hlt
      have hl2 : (k : Int) < 6 := by omega
      have hq : ordK.getD k 0 < 64 := (by decide : ∀ k : Fin 6, ordK.getD k.val 0 < 64) ⟨k, hlt⟩
      have hbt := bitK HX.out (ordK.getD k 0)
      have HH := Lib.hid (fun h => ifst_hit (w := x) hlt HN'.out h)
      cases ht : tb x (ordK.getD k 0)
      · rw [ht] at hbt
        have HT := Lib.hid ht
        clear ht HH
        generalize hqk : ordK.getD k 0 = q at *
        have HQ := Lib.hid hqk
        clear hqk
        go_wp2_with fail
        go_roundw
        case rel => exact ⟨k + 1, by omega, by go_num, fun i hi => if e : i = k then by rw [e, HQ.out]; exact HT.out else HN'.out i (by omega), trivial⟩
        case measure => simp [intOf]; omega
      · rw [ht] at hbt
        have HF := Lib.hid (HH.out ht)
        clear ht HH
        generalize ordK.getD k 0 = q at *
        have hR2 := H1.out
        have z0 := hR2.cell 0
        have z1 := hR2.cell 1
        have y0 := hR2.frozen 0
        have y1 := hR2.frozen 1
        clear hR2
        simp only [List.getElem?_toArray, List.getElem?_cons_zero, List.getElem?_cons_succ] at z0 z1
        go_wp2_with fail
        refine bodyPost_ret (v := .tuple #[.agg #[.bool true, .int .i64 q], .bool true]) (by simp [results, Tryd.results27, go_sem, z0, z1]) rfl ⟨by unfold fI; rw [HF.out]; rfl, ?_⟩
        exact ((H3.out.setCell (by exact Nat.le_refl _) _).setCell (by exact Nat.le_refl _) _)
    · obtain rfl : k = 6 := by omega
      have HF := Lib.hid (ifst_none HN'.out)
      have hR2 := H1.out
      have z0 := hR2.cell 0
      have z1 := hR2.cell 1
      have y0 := hR2.frozen 0
      have y1 := hR2.frozen 1
      clear hR2
      simp only [List.getElem?_toArray, List.getElem?_cons_zero, List.getElem?_cons_succ] at z0 z1
      go_wp2_with fail
      refine bodyPost_ret (v := .tuple #[.agg zCa, .bool false]) (by simp [results, Tryd.results27, go_sem, z0, z1]) rfl ⟨by unfold fI; rw [HF.out]; rfl, ?_⟩
      exact ((H3.out.setCell (by exact Nat.le_refl _) _).setCell (by exact Nat.le_refl _) _)
end Go.Proofs.YtfjdalepaacmgaaDoor
