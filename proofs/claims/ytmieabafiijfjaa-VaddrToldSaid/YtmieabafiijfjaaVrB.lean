/-
  The program's layer 26: places, pages and entries of an address; satp.
-/
import Derived.Test.YtmieabafiijfjaaVrA
set_option maxRecDepth 4000
namespace Go.Proofs.Ytmieabafiijfjaa
open Go.ChangeShapes Go.WideShapes Go.ChangeAt Go.RowKit Wd Csr Sta

theorem inside_yes (n : Int) (h : 0 ≤ n ∧ n ≤ 2) (w : World) : Calls Try.prog 49 #[.int .i64 n] w fun e w' => e = .returned (.tuple #[.int .i64 (12 + 9 * n), .bool true]) ∧ w = w' := by
  have h1 := h.1
  have h2 := h.2
  clear h
  go_enter Try.func49, Try.ntmps49
  go_wp2_with fail
  go_ret2
  exact ⟨rfl, rfl⟩
theorem inside_no (n : Int) (h : ¬ (0 ≤ n ∧ n ≤ 2)) (w : World) : Calls Try.prog 49 #[.int .i64 n] w fun e w' => e = .returned (.tuple #[.int .i64 0, .bool false]) ∧ w = w' := by
  by_cases h1 : n < 0
  · clear h
    go_enter Try.func49, Try.ntmps49
    go_wp2_with fail
    go_ret2
    exact ⟨rfl, rfl⟩
  · have h2 : 2 < n := by omega
    clear h
    go_enter Try.func49, Try.ntmps49
    go_wp2_with fail
    go_ret2
    exact ⟨rfl, rfl⟩
/-! ### may an address be? -/
theorem may_sign {va : Int} (hv : W64 va) : (signS va 39 == va) = decide (mayP va) := by
  have s := signS_range va 39
  have tbs : ∀ i, i < 64 → tb (signS va 39) i = if i < 39 then tb va i else tb va 38 := by
    intro i hi
    unfold signS
    rw [if_neg (by omega), tb_word, decide_eq_true hi, Bool.true_and]
    by_cases c : i < 39
    · rw [if_pos c, if_pos (by omega)]
    · rw [if_neg c, if_neg (by omega)]; rfl
  by_cases m : mayP va
  · rw [decide_eq_true m]
    have e : signS va 39 = va := by
      apply Wd.ext s.1 s.2 hv.1 hv.2
      intro i hi
      rw [tbs i hi]
      by_cases c : i < 39
      · rw [if_pos c]
      · rw [if_neg c]
        have := m (i - 39) (by omega)
        rw [show 39 + (i - 39) = i by omega] at this
        exact this.symm
    simp [e]
  · rw [decide_eq_false m]
    apply beq_eq_false_iff_ne.2
    intro e
    apply m
    intro j hj
    have := tbs (39 + j) (by omega)
    rw [if_neg (by omega), e] at this
    exact this
theorem pmay_c (va : Int) (hv : W64 va) (w : World) : Calls Try.prog 16 #[.int .u64 va] w fun e w' => e = .returned (.bool (decide (mayP va))) ∧ w = w' := by
  have HC := Lib.hid (fun W => sign_c va 39 W hv.1 hv.2)
  have HM := Lib.hid (may_sign hv)
  generalize signS va 39 = x at *
  generalize decide (mayP va) = m at *
  clear hv
  go_enter Try.func16, Try.ntmps16
  go_wp2_with fail
  refine (HC.out _).mono ?_
  rintro e w1 ⟨rfl, rfl⟩
  go_wp2_with fail
  go_ret
  exact ⟨by rw [← HM.out]; rfl, rfl⟩
/-! ### places, sizes and pages -/
theorem cut_shift {x : Int} (hx : W64 x) (p s : Nat) : cutS (x / 2 ^ p) 0 s = cutS x p s := by
  unfold cutS
  apply word_congr
  intro k hk
  by_cases c : (k : Int) < (s : Int)
  · rw [decide_eq_true (show (k : Int) < (s : Int) ∧ (0 : Int) ≤ 0 + k by omega), decide_eq_true (show (k : Int) < (s : Int) ∧ (0 : Int) ≤ (p : Int) + k by omega), tb_div hx.1]
    congr 2; omega
  · rw [decide_eq_false (show ¬ ((k : Int) < (s : Int) ∧ (0 : Int) ≤ 0 + k) by omega), decide_eq_false (show ¬ ((k : Int) < (s : Int) ∧ (0 : Int) ≤ (p : Int) + k) by omega)]; rfl
set_option maxHeartbeats 2000000 in
theorem pplace_c (va n : Int) (hv : W64 va) (w : World) : Calls Try.prog 18 #[.int .u64 va, .int .i64 n] w fun e w' => e = .returned (.int .i64 (placeS va n)) ∧ w = w' := by
  by_cases h : 0 ≤ n ∧ n ≤ 2
  · have HI := Lib.hid (fun W => inside_yes n h W)
    have hp := place_lt va n
    have HK := Lib.hid (show placeS va n = cutS va (12 + 9 * n) 9 from if_pos h)
    rw [HK.out] at hp ⊢
    have hs := cut_shift hv (12 + 9 * n).toNat 9
    rw [show (((12 + 9 * n).toNat : Nat) : Int) = 12 + 9 * n by omega] at hs
    have dr := div_range hv.1 hv.2 (12 + 9 * n).toNat
    have HC := Lib.hid (fun W => low_c (va / 2 ^ (12 + 9 * n).toNat) 9 W dr.1 dr.2)
    have hs2 : cutS (va / 2 ^ (12 + 9 * n).toNat) 0 9 = cutS va (12 + 9 * n) 9 := hs
    rw [hs2] at HC
    have hw : wrap64 (cutS va (12 + 9 * n) 9) = cutS va (12 + 9 * n) 9 := by unfold wrap64; omega
    generalize cutS va (12 + 9 * n) 9 = x at *
    have hn1 : 0 ≤ 12 + 9 * n := by omega
    have hn2 : 12 + 9 * n < 64 := by omega
    have HV := Lib.hid hv
    generalize 12 + 9 * n = k at *
    clear HK hv h hs hs2
    go_enter Try.func18, Try.ntmps18
    go_wp2_with fail
    refine (HI.out _).mono ?_
    rintro e w1 ⟨rfl, rfl⟩
    go_wp2_with fail
    refine (HC.out _).mono ?_
    rintro e w2 ⟨rfl, rfl⟩
    go_wp2_with fail
    go_ret
    exact ⟨rfl, rfl⟩
  · have HI := Lib.hid (fun W => inside_no n h W)
    have HK := Lib.hid (show placeS va n = 0 from if_neg h)
    clear h hv
    go_enter Try.func18, Try.ntmps18
    go_wp2_with fail
    refine (HI.out _).mono ?_
    rintro e w1 ⟨rfl, rfl⟩
    go_wp2_with fail
    go_ret
    exact ⟨by rw [HK.out]; rfl, rfl⟩
set_option maxHeartbeats 2000000 in
theorem psize_c (n : Int) (w : World) : Calls Try.prog 20 #[.int .i64 n] w fun e w' => e = .returned (.int .u64 (sizeS n)) ∧ w = w' := by
  by_cases h : 0 ≤ n ∧ n ≤ 2
  · have HI := Lib.hid (fun W => inside_yes n h W)
    rcases lev3 h with rfl | rfl | rfl
    all_goals
      clear h
      go_enter Try.func20, Try.ntmps20
      go_wp2_with fail
      refine (HI.out _).mono ?_
      rintro e w1 ⟨rfl, rfl⟩
      go_wp2_with fail
      go_ret
      exact ⟨rfl, rfl⟩
  · have HI := Lib.hid (fun W => inside_no n h W)
    have HK := Lib.hid (show sizeS n = 0 by unfold sizeS; rw [if_neg (by omega), if_neg (by omega), if_neg (by omega)])
    clear h
    go_enter Try.func20, Try.ntmps20
    go_wp2_with fail
    refine (HI.out _).mono ?_
    rintro e w1 ⟨rfl, rfl⟩
    go_wp2_with fail
    go_ret
    exact ⟨by rw [HK.out]; rfl, rfl⟩
set_option maxHeartbeats 2000000 in
theorem ppage_c (va n : Int) (hv : W64 va) (w : World) : Calls Try.prog 22 #[.int .u64 va, .int .i64 n] w fun e w' => e = .returned (.int .u64 (pageS va n)) ∧ w = w' := by
  by_cases h : 0 ≤ n ∧ n ≤ 2
  · have HI := Lib.hid (fun W => inside_yes n h W)
    have HK := Lib.hid (show pageS va n = va / sizeS n * sizeS n from if_pos h)
    have hl := page_le hv h
    have hw : IntKind.u64.wrap (va / sizeS n * sizeS n) = va / sizeS n * sizeS n := by have := hv.2; rw [IntKind.wrap_u64]; omega
    have HW := Lib.hid hw
    clear hl hw
    have hv1 := hv.1
    have hv2 := hv.2
    rcases lev3 h with rfl | rfl | rfl
    all_goals
      clear h hv
      go_enter Try.func22, Try.ntmps22
      go_wp2_with fail
      refine (HI.out _).mono ?_
      rintro e w1 ⟨rfl, rfl⟩
      go_wp2_with fail
      go_ret
      exact ⟨by rw [HK.out]; rfl, rfl⟩
  · have HI := Lib.hid (fun W => inside_no n h W)
    have HK := Lib.hid (show pageS va n = va from if_neg h)
    clear h hv
    go_enter Try.func22, Try.ntmps22
    go_wp2_with fail
    refine (HI.out _).mono ?_
    rintro e w1 ⟨rfl, rfl⟩
    go_wp2_with fail
    go_ret
    exact ⟨by rw [HK.out]; rfl, rfl⟩
theorem psame_c (a b n : Int) (ha : W64 a) (hb : W64 b) (w : World) : Calls Try.prog 24 #[.int .u64 a, .int .u64 b, .int .i64 n] w fun e w' => e = .returned (.bool (pageS a n == pageS b n)) ∧ w = w' := by
  have HA := Lib.hid (fun W => ppage_c a n ha W)
  have HB := Lib.hid (fun W => ppage_c b n hb W)
  generalize pageS a n = x at *
  generalize pageS b n = y at *
  clear ha hb
  go_enter Try.func24, Try.ntmps24
  go_wp2_with fail
  refine (HA.out _).mono ?_
  rintro e w1 ⟨rfl, rfl⟩
  go_wp2_with fail
  refine (HB.out _).mono ?_
  rintro e w2 ⟨rfl, rfl⟩
  go_wp2_with fail
  go_ret
  exact ⟨rfl, rfl⟩
set_option maxHeartbeats 2000000 in
theorem pentry_c (ppn va n : Int) (hp : W64 ppn) (hv : W64 va) (w : World) : Calls Try.prog 25 #[.int .u64 ppn, .int .u64 va, .int .i64 n] w fun e w' => e = .returned (.int .u64 (entryS ppn va n)) ∧ w = w' := by
  by_cases h : 0 ≤ n ∧ n ≤ 2
  · have HI := Lib.hid (fun W => inside_yes n h W)
    have HK := Lib.hid (show entryS ppn va n = cutS ppn 0 44 * 4096 + 8 * placeS va n from if_pos h)
    have HC := Lib.hid (fun W => low_c ppn 44 W hp.1 hp.2)
    have HP := Lib.hid (fun W => pplace_c va n hv W)
    rw [HK.out]
    have hx := cutS_range ppn 0 44
    have hx2 : cutS ppn 0 44 < 2 ^ 44 := ecut_lt 44 (by omega)
    have hx3 : cutS ppn 0 44 < 17592186044416 := hx2
    have hy := place_lt va n
    generalize cutS ppn 0 44 = x at *
    generalize placeS va n = y at *
    have hx0 := hx.1
    have hy0 := hy.1
    have hy1 := hy.2
    clear HK hp hv h hx hx2 hy
    go_enter Try.func25, Try.ntmps25
    go_wp2_with fail
    refine (HI.out _).mono ?_
    rintro e w1 ⟨rfl, rfl⟩
    go_wp2_with fail
    refine (HC.out _).mono ?_
    rintro e w2 ⟨rfl, rfl⟩
    go_wp2_with fail
    refine (HP.out _).mono ?_
    rintro e w3 ⟨rfl, rfl⟩
    go_wp2_with fail
    go_ret
    exact ⟨rfl, rfl⟩
  · have HI := Lib.hid (fun W => inside_no n h W)
    have HK := Lib.hid (show entryS ppn va n = 0 from if_neg h)
    clear h hv hp
    go_enter Try.func25, Try.ntmps25
    go_wp2_with fail
    refine (HI.out _).mono ?_
    rintro e w1 ⟨rfl, rfl⟩
    go_wp2_with fail
    go_ret
    exact ⟨by rw [HK.out]; rfl, rfl⟩
theorem pmode_c (x : Int) (hx : W64 x) (w : World) : Calls Try.prog 28 #[.int .u64 x] w fun e w' => e = .returned (.int .i64 (cutS x 60 4)) ∧ w = w' := by
  have HC := Lib.hid (fun W => cut_c x 60 4 W hx.1 hx.2 (by omega) (by omega))
  have a := cutS_range x 60 4
  have b : cutS x 60 4 < 2 ^ 4 := ecut_lt 4 (by omega)
  have c : cutS x 60 4 < 16 := b
  have hw : wrap64 (cutS x 60 4) = cutS x 60 4 := by unfold wrap64; omega
  generalize cutS x 60 4 = y at *
  clear hx b
  go_enter Try.func28, Try.ntmps28
  go_wp2_with fail
  refine (HC.out _).mono ?_
  rintro e w1 ⟨rfl, rfl⟩
  go_wp2_with fail
  go_ret
  exact ⟨rfl, rfl⟩
theorem pasid_c (x : Int) (hx : W64 x) (w : World) : Calls Try.prog 30 #[.int .u64 x] w fun e w' => e = .returned (.int .i64 (cutS x 44 16)) ∧ w = w' := by
  have HC := Lib.hid (fun W => cut_c x 44 16 W hx.1 hx.2 (by omega) (by omega))
  have a := cutS_range x 44 16
  have b : cutS x 44 16 < 2 ^ 16 := ecut_lt 16 (by omega)
  have c : cutS x 44 16 < 65536 := b
  have hw : wrap64 (cutS x 44 16) = cutS x 44 16 := by unfold wrap64; omega
  generalize cutS x 44 16 = y at *
  clear hx b
  go_enter Try.func30, Try.ntmps30
  go_wp2_with fail
  refine (HC.out _).mono ?_
  rintro e w1 ⟨rfl, rfl⟩
  go_wp2_with fail
  go_ret
  exact ⟨rfl, rfl⟩
theorem proot_c (x : Int) (hx : W64 x) (w : World) : Calls Try.prog 32 #[.int .u64 x] w fun e w' => e = .returned (.int .u64 (cutS x 0 44)) ∧ w = w' := by
  have HC := Lib.hid (fun W => low_c x 44 W hx.1 hx.2)
  generalize cutS x 0 44 = y at *
  clear hx
  go_enter Try.func32, Try.ntmps32
  go_wp2_with fail
  refine (HC.out _).mono ?_
  rintro e w1 ⟨rfl, rfl⟩
  go_wp2_with fail
  go_ret
  exact ⟨rfl, rfl⟩
theorem satp_or {m a r : Int} : bits .or .u64 (bits .or .u64 (IntKind.u64.wrap (cutS (IntKind.u64.wrap m) 0 4 * 2 ^ 60)) (IntKind.u64.wrap (cutS (IntKind.u64.wrap a) 0 16 * 2 ^ 44))) (cutS r 0 44) = satpS m a r := by
  have x1 := wrap_range (cutS (IntKind.u64.wrap m) 0 4 * 2 ^ 60)
  have x2 := wrap_range (cutS (IntKind.u64.wrap a) 0 16 * 2 ^ 44)
  have x3 := cutS_range r 0 44
  have o1 := or_range x1.1 x1.2 x2.1 x2.2
  have o2 := or_range o1.1 o1.2 x3.1 x3.2
  have s := putS_range (putS (putS 0 0 44 r) 44 16 (IntKind.u64.wrap a)) 60 4 (IntKind.u64.wrap m)
  have c1 := cutS_range (IntKind.u64.wrap m) 0 4
  have c2 := cutS_range (IntKind.u64.wrap a) 0 16
  unfold satpS
  apply Wd.ext o2.1 o2.2 s.1 s.2
  intro i hi
  rw [tb_or o1.1 o1.2 x3.1 x3.2, tb_or x1.1 x1.2 x2.1 x2.2, tb_wrap (mul_nonneg' c1.1 60), tb_wrap (mul_nonneg' c2.1 44), tb_mul c1.1, tb_mul c2.1, decide_eq_true hi, Bool.true_and, Bool.true_and, ccut _ _ _ (by omega), ccut _ _ _ (by omega), ccut _ _ _ hi]
  rw [cput _ _ _ _ hi, cput _ _ _ _ hi, cput _ _ _ _ hi, tb_zero]
  unfold inP
  by_cases d1 : i < 44
  · rw [decide_eq_false (show ¬ 60 ≤ i by omega), decide_eq_false (show ¬ 44 ≤ i by omega), decide_eq_true (show (i : Int) < 44 ∧ (0 : Int) ≤ 0 + i by omega)]
    rw [if_neg (by simp; omega), if_neg (by simp; omega), if_pos (by simp; omega)]
    rw [show ((0 : Int) + (i : Int)).toNat = i by omega, show ((i : Int) - 0).toNat = i by omega]; rfl
  · by_cases d2 : i < 60
    · rw [decide_eq_false (show ¬ 60 ≤ i by omega), decide_eq_true (show 44 ≤ i by omega), decide_eq_false (show ¬ ((i : Int) < 44 ∧ (0 : Int) ≤ 0 + i) by omega)]
      rw [if_neg (by simp; omega), if_pos (by simp; omega), decide_eq_true (show ((i - 44 : Nat) : Int) < 16 ∧ (0 : Int) ≤ 0 + ((i - 44 : Nat) : Int) by omega)]
      rw [show ((0 : Int) + ((i - 44 : Nat) : Int)).toNat = i - 44 by omega, show ((i : Int) - 44).toNat = i - 44 by omega]; simp
    · rw [decide_eq_true (show 60 ≤ i by omega), decide_eq_true (show 44 ≤ i by omega), decide_eq_false (show ¬ ((i : Int) < 44 ∧ (0 : Int) ≤ 0 + i) by omega)]
      rw [if_pos (by simp; omega), decide_eq_true (show ((i - 60 : Nat) : Int) < 4 ∧ (0 : Int) ≤ 0 + ((i - 60 : Nat) : Int) by omega), decide_eq_false (show ¬ (((i - 44 : Nat) : Int) < 16 ∧ (0 : Int) ≤ 0 + ((i - 44 : Nat) : Int)) by omega)]
      rw [show ((0 : Int) + ((i - 60 : Nat) : Int)).toNat = i - 60 by omega, show ((i : Int) - 60).toNat = i - 60 by omega]; simp
set_option maxHeartbeats 2000000 in
theorem psatp_c (m a r : Int) (hr : W64 r) (w : World) : Calls Try.prog 34 #[.int .i64 m, .int .i64 a, .int .u64 r] w fun e w' => e = .returned (.int .u64 (satpS m a r)) ∧ w = w' := by
  have wm := wrap_range m
  have wa := wrap_range a
  have HM := Lib.hid (fun W => low_c (IntKind.u64.wrap m) 4 W wm.1 wm.2)
  have HA := Lib.hid (fun W => low_c (IntKind.u64.wrap a) 16 W wa.1 wa.2)
  have HR := Lib.hid (fun W => low_c r 44 W hr.1 hr.2)
  have HS := Lib.hid (satp_or (m := m) (a := a) (r := r))
  generalize cutS r 0 44 = z at *
  generalize cutS (IntKind.u64.wrap m) 0 4 = x at *
  generalize cutS (IntKind.u64.wrap a) 0 16 = y at *
  clear wm wa hr
  go_enter Try.func34, Try.ntmps34
  go_wp2_with fail
  refine (HM.out _).mono ?_
  rintro e w1 ⟨rfl, rfl⟩
  go_wp2_with fail
  refine (HA.out _).mono ?_
  rintro e w2 ⟨rfl, rfl⟩
  go_wp2_with fail
  refine (HR.out _).mono ?_
  rintro e w3 ⟨rfl, rfl⟩
  go_wp2_with fail
  go_ret
  exact ⟨by rw [← HS.out]; rfl, rfl⟩
set_option maxHeartbeats 2000000 in
theorem ptrl_c (x p : Int) (hx : W64 x) (w : World) : Calls Try.prog 36 #[.int .u64 x, .int .i64 p] w fun e w' => e = .returned (.bool (trlS x p)) ∧ w = w' := by
  have HM := Lib.hid (fun W => pmode_c x hx W)
  have HT := Lib.hid (show trlS x p = ((cutS x 60 4 == 8) && (p == 0 || p == 1)) from rfl)
  generalize trlS x p = t at *
  generalize cutS x 60 4 = y at *
  clear hx
  generalize hc0 : (y == 8) = c0 at *
  generalize hc1 : (p == 0) = c1 at *
  generalize hc2 : (p == 1) = c2 at *
  cases c0 <;> cases c1 <;> cases c2
  all_goals
    go_enter Try.func36, Try.ntmps36
    go_wp2_with fail
    refine (HM.out _).mono ?_
    rintro e w1 ⟨rfl, rfl⟩
    go_wp2_with fail
    go_ret
    exact ⟨by rw [HT.out]; rfl, rfl⟩
/-! ### what must be whatever is asked -/
set_option maxHeartbeats 2000000 in
theorem live26_c (w : World) : Calls Try.prog 27 #[] w fun e w' => e = .returned (.bool true) ∧ w = w' := by
  have w1 : W64 274877906944 := by constructor <;> omega
  have w2 : W64 18446743798831644672 := by constructor <;> omega
  have w3 : W64 1075843072 := by constructor <;> omega
  have w4 : W64 1073741824 := by constructor <;> omega
  have w5 : W64 5 := by constructor <;> omega
  have e1 : decide (mayP 274877906944) = false := by rw [← may_sign w1]; decide +kernel
  have e2 : decide (mayP 18446743798831644672) = true := by rw [← may_sign w2]; decide +kernel
  have e3 : placeS 1075843072 1 = 1 := by decide +kernel
  have e4 : entryS 5 1073741824 2 = 20488 := by decide +kernel
  have H1 := Lib.hid (fun W => pmay_c _ w1 W)
  have H2 := Lib.hid (fun W => pmay_c _ w2 W)
  have H3 := Lib.hid (fun W => pplace_c _ 1 w3 W)
  have H4 := Lib.hid (fun W => pentry_c _ _ 2 w5 w4 W)
  rw [e1] at H1
  rw [e2] at H2
  rw [e3] at H3
  rw [e4] at H4
  clear e1 e2 e3 e4 w1 w2 w3 w4 w5
  go_enter Try.func27, Try.ntmps27
  go_wp2_with fail
  refine (H1.out _).mono ?_
  rintro e w1 ⟨rfl, rfl⟩
  go_wp2_with fail
  refine (H2.out _).mono ?_
  rintro e w1 ⟨rfl, rfl⟩
  go_wp2_with fail
  refine (H3.out _).mono ?_
  rintro e w1 ⟨rfl, rfl⟩
  go_wp2_with fail
  refine (H4.out _).mono ?_
  rintro e w1 ⟨rfl, rfl⟩
  go_wp2_with fail
  go_ret
  exact ⟨rfl, rfl⟩
end Go.Proofs.Ytmieabafiijfjaa
