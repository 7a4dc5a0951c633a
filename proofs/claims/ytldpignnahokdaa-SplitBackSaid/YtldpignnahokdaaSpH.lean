/-
  Contracts of split's mask and Part, and of the reference's right and Part (layer 11).
-/
import Derived.Test.YtldpignnahokdaaSpL
namespace Go.Proofs.Ytldpignnahokdaa
open Go.ChangeShapes Go.WideShapes Go.ChangeAt Go.RowKit Wd

/-- Has a piece bits? -/
def rightB (n s : Int) : Bool := decide (1 ≤ n ∧ n ≤ 8 ∧ 0 ≤ s ∧ s ≤ 63)
theorem rightB_iff {n s : Int} : rightB n s = true ↔ 1 ≤ n ∧ n ≤ 8 ∧ 0 ≤ s ∧ s ≤ 63 := by simp [rightB]
def maskV (n s : Int) : Int := if rightB n s then maskS (8 * n) else 0
def partV (v n s : Int) : Int := if rightB n s then cutS v s (8 * n) else 0
theorem rightB_no {n s : Int} (h : ¬ (1 ≤ n ∧ n ≤ 8 ∧ 0 ≤ s ∧ s ≤ 63)) : rightB n s = false := by
  cases e : rightB n s
  · rfl
  · exact absurd (rightB_iff.1 e) h
theorem maskV_no {n s : Int} (h : ¬ (1 ≤ n ∧ n ≤ 8 ∧ 0 ≤ s ∧ s ≤ 63)) : (0 : Int) = maskV n s := by unfold maskV; rw [rightB_no h]; rfl
theorem maskV_yes {n s : Int} (h : 1 ≤ n ∧ n ≤ 8 ∧ 0 ≤ s ∧ s ≤ 63) : maskS (8 * n) = maskV n s := by unfold maskV; rw [rightB_iff.2 h]; rfl
theorem partV_no {v n s : Int} (h : ¬ (1 ≤ n ∧ n ≤ 8 ∧ 0 ≤ s ∧ s ≤ 63)) : (0 : Int) = partV v n s := by unfold partV; rw [rightB_no h]; rfl
theorem partV_yes {v n s : Int} (h : 1 ≤ n ∧ n ≤ 8 ∧ 0 ≤ s ∧ s ≤ 63) : cutS v s (8 * n) = partV v n s := by unfold partV; rw [rightB_iff.2 h]; rfl
theorem maskV_range (n s : Int) : 0 ≤ maskV n s ∧ maskV n s < 18446744073709551616 := by
  unfold maskV
  split
  · exact maskS_range _
  · omega
theorem partV_range (v n s : Int) : 0 ≤ partV v n s ∧ partV v n s < 18446744073709551616 := by
  unfold partV
  split
  · exact cutS_range _ _ _
  · omega
theorem mask_num : maskS 8 = 255 ∧ maskS 16 = 65535 ∧ maskS 24 = 16777215 ∧ maskS 32 = 4294967295 ∧ maskS 40 = 1099511627775 ∧ maskS 48 = 281474976710655 ∧ maskS 56 = 72057594037927935 ∧ maskS 64 = 18446744073709551615 := by decide +kernel
theorem maskS_pos {n : Int} (h1 : 1 ≤ n) (h8 : n ≤ 8) : 0 < maskS (8 * n) := by
  obtain ⟨m1, m2, m3, m4, m5, m6, m7, m8⟩ := mask_num
  have : n = 1 ∨ n = 2 ∨ n = 3 ∨ n = 4 ∨ n = 5 ∨ n = 6 ∨ n = 7 ∨ n = 8 := by omega
  rcases this with rfl | rfl | rfl | rfl | rfl | rfl | rfl | rfl
  · show 0 < maskS 8; omega
  · show 0 < maskS 16; omega
  · show 0 < maskS 24; omega
  · show 0 < maskS 32; omega
  · show 0 < maskS 40; omega
  · show 0 < maskS 48; omega
  · show 0 < maskS 56; omega
  · show 0 < maskS 64; omega
abbrev pcV (a n s : Int) : Array Value := #[.int .u64 a, .int .i64 n, .int .i64 s]
theorem shr_mask {n : Int} (h1 : 1 ≤ n) (h8 : n ≤ 8) : (18446744073709551615 : Int) / 2 ^ (8 * (8 - n)).toNat = maskS (8 * n) := by
  obtain ⟨m1, m2, m3, m4, m5, m6, m7, m8⟩ := mask_num
  have : n = 1 ∨ n = 2 ∨ n = 3 ∨ n = 4 ∨ n = 5 ∨ n = 6 ∨ n = 7 ∨ n = 8 := by omega
  rcases this with rfl | rfl | rfl | rfl | rfl | rfl | rfl | rfl
  · show _ = maskS 8; rw [m1]; decide
  · show _ = maskS 16; rw [m2]; decide
  · show _ = maskS 24; rw [m3]; decide
  · show _ = maskS 32; rw [m4]; decide
  · show _ = maskS 40; rw [m5]; decide
  · show _ = maskS 48; rw [m6]; decide
  · show _ = maskS 56; rw [m7]; decide
  · show _ = maskS 64; rw [m8]; decide
set_option maxHeartbeats 1000000 in
theorem mask_c (a n s : Int) (w : World) : Calls Try.prog 29 #[.agg (pcV a n s)] w fun e w' => e = .returned (.int .u64 (maskV n s)) ∧ Below w.heap.size w w' := by
  have HB := Lib.hid ((Below.refl w.heap.size w).alloc (Nat.le_refl _) (.cells (pcV a n s) 39))
  have HC := CsAt.new w 39 (pcV a n s)
  have c1 := HC.cell 1
  have c2 := HC.cell 2
  clear HC
  go_enter Try.func29, Try.ntmps29
  go_upto_region 1 with (fail)
  generalize w.alloc (.cells (pcV a n s) 39) = w1 at *
  go_wp2_with fail
  refine (isSize_c _ _).mono ?_
  rintro e w2 ⟨rfl, rfl⟩
  cases hs : Sp.szB n
  · have H := Lib.hid (show (0 : Int) = maskV n s by
      unfold Sp.szB at hs; simp at hs; exact maskV_no (by omega))
    go_wp2_with fail
    go_ret
    exact ⟨sret_u H.out, HB.out⟩
  · unfold Sp.szB at hs
    have hn1 : 1 ≤ n := by simp at hs; omega
    have hn8 : n ≤ 8 := by simp at hs; omega
    clear hs
    by_cases h0 : s < 0
    · have g0 : decide (s < 0) = true := by simpa using h0
      have H := Lib.hid (show (0 : Int) = maskV n s from maskV_no (by omega))
      clear h0
      go_wp2_with fail
      go_ret
      exact ⟨sret_u H.out, HB.out⟩
    · have g0 : decide (s < 0) = false := by simpa using h0
      by_cases h1 : 64 ≤ s
      · have g1 : decide (64 ≤ s) = true := by simpa using h1
        have H := Lib.hid (show (0 : Int) = maskV n s from maskV_no (by omega))
        clear h0 h1
        go_wp2_with fail
        go_ret
        exact ⟨sret_u H.out, HB.out⟩
      · have g1 : decide (64 ≤ s) = false := by simpa using h1
        have H := Lib.hid (show maskS (8 * n) = maskV n s from maskV_yes ⟨hn1, hn8, by omega, by omega⟩)
        have hsm := shr_mask hn1 hn8
        have h8n : 0 ≤ 8 * (8 - n) := by omega
        have hmin : min (8 * (8 - n)).toNat 64 = (8 * (8 - n)).toNat := by omega
        have hr := maskS_range (8 * n)
        go_wp2_with fail
        go_ret
        exact ⟨sret_u H.out, HB.out⟩
theorem low_cut {v s : Int} (size : Int) (hv : 0 ≤ v ∧ v < 18446744073709551616) (h0 : 0 ≤ s) (h1 : s ≤ 63) : bits .and .u64 (v / 2 ^ s.toNat) (maskS size) = cutS v s size := by
  have e := lower_pos (x := v) (p := s) hv.1 hv.2 h0 (by omega)
  rw [show (IntKind.u64.wrap s).toNat = s.toNat by rw [IntKind.wrap_u64]; omega, show min s.toNat 64 = s.toNat by omega] at e
  rw [e]
  exact cut_and _ _ _
set_option maxHeartbeats 1000000 in
theorem part_c (v a n s : Int) (w : World) (hv : 0 ≤ v ∧ v < 18446744073709551616) : Calls Try.prog 19 #[.int .u64 v, .agg (pcV a n s)] w fun e w' => e = .returned (.int .u64 (partV v n s)) ∧ Below w.heap.size w w' := by
  have HB := Lib.hid ((Below.refl w.heap.size w).alloc (Nat.le_refl _) (.cells (pcV a n s) 39))
  have HC := Lib.hid (CsAt.new w 39 (pcV a n s))
  have HV := Lib.hid hv
  go_enter Try.func19, Try.ntmps19
  go_upto_region 1 with (fail)
  generalize w.alloc (.cells (pcV a n s) 39) = w1 at *
  go_wp2_with (refine wpList_load_row rfl 39 _ rfl w.heap.size rfl 39 _ (0, 0) _ HC.out Try.underlying39 rfl (by kernel_rfl) ?_)
  refine (mask_c _ _ _ _).mono ?_
  rintro e w2 ⟨rfl, hb2⟩
  have HC2 := Lib.hid (HC.out.low hb2)
  have HB2 := Lib.hid (HB.out.trans (hb2.mono HB.out.size))
  have c2 := HC2.out.cell 2
  clear hb2 HC HB
  by_cases h : 1 ≤ n ∧ n ≤ 8 ∧ 0 ≤ s ∧ s ≤ 63
  · have hp := maskS_pos h.1 h.2.1
    have hr := maskS_range (8 * n)
    have g : (maskS (8 * n) == 0) = false := by simp; omega
    rw [← maskV_yes h]
    have hl := low_cut (8 * n) hv h.2.2.1 h.2.2.2
    have hx := lower_pos (x := v) (p := s) hv.1 hv.2 h.2.2.1 (by omega)
    rw [show (IntKind.u64.wrap s).toNat = s.toNat by rw [IntKind.wrap_u64]; omega, show min s.toNat 64 = s.toNat by omega] at hx
    have hlr := lowerS_range v s
    rw [← hx] at hlr
    have H := Lib.hid (show cutS v s (8 * n) = partV v n s from partV_yes h)
    have hs0 := h.2.2.1
    have hmin : min s.toNat 64 = s.toNat := by omega
    have hcr := cutS_range v s (8 * n)
    obtain ⟨hq0, hq1⟩ := hlr
    have hq2 : IntKind.u64.wrap (v / 2 ^ s.toNat) = v / 2 ^ s.toNat := by rw [IntKind.wrap_u64]; omega
    clear hx h hv
    go_wp2_with fail
    go_ret
    exact ⟨sret_u H.out, HB2.out⟩
  · rw [← maskV_no h]
    have H := Lib.hid (show (0 : Int) = partV v n s from partV_no h)
    clear h
    go_wp2_with fail
    go_ret
    exact ⟨sret_u H.out, HB2.out⟩
theorem right_c (a n s : Int) (w : World) : Calls Try.prog 30 #[.agg (pcV a n s)] w fun e w' => e = .returned (.bool (rightB n s)) ∧ Below w.heap.size w w' := by
  have HB := Lib.hid ((Below.refl w.heap.size w).alloc (Nat.le_refl _) (.cells (pcV a n s) 38))
  have HC := CsAt.new w 38 (pcV a n s)
  have c1 := HC.cell 1
  have c2 := HC.cell 2
  clear HC
  by_cases h1 : 0 < n
  · have g1 : decide (0 < n) = true := by simpa using h1
    by_cases h2 : n < 9
    · have g2 : decide (n < 9) = true := by simpa using h2
      by_cases h3 : 0 ≤ s
      · have g3 : decide (0 ≤ s) = true := by simpa using h3
        have H := Lib.hid (show rightB n s = decide (s < 64) by unfold rightB; exact decide_eq_decide.2 (by omega))
        clear h1 h2 h3
        go_enter Try.func30, Try.ntmps30
        go_upto_region 1 with (fail)
        generalize w.alloc (.cells (pcV a n s) 38) = w1 at *
        go_wp2_with fail
        go_ret
        exact ⟨sret_b H.out.symm, HB.out⟩
      · have g3 : decide (0 ≤ s) = false := by simpa using h3
        have H := Lib.hid (show rightB n s = false from rightB_no (by omega))
        clear h1 h2 h3
        go_enter Try.func30, Try.ntmps30
        go_upto_region 1 with (fail)
        generalize w.alloc (.cells (pcV a n s) 38) = w1 at *
        go_wp2_with fail
        go_ret
        exact ⟨sret_b H.out.symm, HB.out⟩
    · have g2 : decide (n < 9) = false := by simpa using h2
      have H := Lib.hid (show rightB n s = false from rightB_no (by omega))
      clear h1 h2
      go_enter Try.func30, Try.ntmps30
      go_upto_region 1 with (fail)
      generalize w.alloc (.cells (pcV a n s) 38) = w1 at *
      go_wp2_with fail
      go_ret
      exact ⟨sret_b H.out.symm, HB.out⟩
  · have g1 : decide (0 < n) = false := by simpa using h1
    have H := Lib.hid (show rightB n s = false from rightB_no (by omega))
    clear h1
    go_enter Try.func30, Try.ntmps30
    go_upto_region 1 with (fail)
    generalize w.alloc (.cells (pcV a n s) 38) = w1 at *
    go_wp2_with fail
    go_ret
    exact ⟨sret_b H.out.symm, HB.out⟩
theorem rpart_c (v a n s : Int) (w : World) (hv : 0 ≤ v ∧ v < 18446744073709551616) : Calls Try.prog 20 #[.int .u64 v, .agg (pcV a n s)] w fun e w' => e = .returned (.int .u64 (partV v n s)) ∧ Below w.heap.size w w' := by
  have HB := Lib.hid ((Below.refl w.heap.size w).alloc (Nat.le_refl _) (.cells (pcV a n s) 38))
  have HC := Lib.hid (CsAt.new w 38 (pcV a n s))
  have HV := Lib.hid hv
  clear hv
  go_enter Try.func20, Try.ntmps20
  go_upto_region 1 with (fail)
  generalize w.alloc (.cells (pcV a n s) 38) = w1 at *
  go_wp2_with (refine wpList_load_row rfl 38 _ rfl w.heap.size rfl 38 _ (0, 0) _ HC.out Try.underlying38 rfl (by kernel_rfl) ?_)
  refine (right_c _ _ _ _).mono ?_
  rintro e w2 ⟨rfl, hb2⟩
  have HC2 := Lib.hid (HC.out.low hb2)
  have HB2 := Lib.hid (HB.out.trans (hb2.mono HB.out.size))
  have c1 := HC2.out.cell 1
  have c2 := HC2.out.cell 2
  clear hb2 HC HB
  by_cases h : 1 ≤ n ∧ n ≤ 8 ∧ 0 ≤ s ∧ s ≤ 63
  · rw [rightB_iff.2 h]
    have H := Lib.hid (show cutS v s (8 * n) = partV v n s from partV_yes h)
    obtain ⟨h1, h2, h3, h4⟩ := h
    go_wp2_with fail
    refine (refCut_c _ _ _ _ HV.out.1 HV.out.2 (by omega) (by omega)).mono ?_
    rintro e w3 ⟨rfl, hb3⟩
    have HB3 := Lib.hid (HB2.out.trans (hb3.mono HB2.out.size))
    clear hb3
    go_wp2_with fail
    go_ret
    exact ⟨sret_u H.out, HB3.out⟩
  · rw [rightB_no h]
    have H := Lib.hid (show (0 : Int) = partV v n s from partV_no h)
    clear h
    go_wp2_with fail
    go_ret
    exact ⟨sret_u H.out, HB2.out⟩
end Go.Proofs.Ytldpignnahokdaa
