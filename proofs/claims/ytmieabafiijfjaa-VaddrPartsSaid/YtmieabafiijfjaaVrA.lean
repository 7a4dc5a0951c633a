/-
  The reference of layer 26: addresses, their places and pages, satp.
-/
import Derived.Test.YtmieabafiijfjaaPtS
import Derived.Test.YtmieabafiijfjaaSteady
import Derived.Deep.DeepCutAuto
set_option maxRecDepth 4000
namespace Go.Proofs.Ytmieabafiijfjaa
open Go.ChangeShapes Go.WideShapes Go.ChangeAt Go.RowKit Wd Csr Sta

theorem vlev_c (n : Int) (w : World) : Calls Try.prog 50 #[.int .i64 n] w fun e w' => e = .returned (.bool (decide (0 ≤ n ∧ n ≤ 2))) ∧ w = w' := by
  by_cases h0 : n = 0
  · subst h0
    go_enter Try.func50, Try.ntmps50
    go_wp2_with fail
    go_ret
    exact ⟨rfl, rfl⟩
  · have e0 : (n == 0) = false := by simpa using h0
    by_cases h1 : n = 1
    · subst h1
      go_enter Try.func50, Try.ntmps50
      go_wp2_with fail
      go_ret
      exact ⟨rfl, rfl⟩
    · have e1 : (n == 1) = false := by simpa using h1
      by_cases h2 : n = 2
      · subst h2
        go_enter Try.func50, Try.ntmps50
        go_wp2_with fail
        go_ret
        exact ⟨rfl, rfl⟩
      · have e2 : (n == 2) = false := by simpa using h2
        have HD := Lib.hid (show decide (0 ≤ n ∧ n ≤ 2) = false from decide_eq_false (by omega))
        clear h0 h1 h2
        go_enter Try.func50, Try.ntmps50
        go_wp2_with fail
        go_ret
        exact ⟨by rw [HD.out]; rfl, rfl⟩
/-- May an address be? -/
def mayP (va : Int) : Prop := ∀ j, j < 25 → tb va (39 + j) = tb va 38
instance (va : Int) : Decidable (mayP va) := inferInstanceAs (Decidable (∀ j, j < 25 → tb va (39 + j) = tb va 38))
set_option maxHeartbeats 4000000 in
theorem vmay_c (va : Int) (hv : W64 va) (w : World) : Calls Try.prog 17 #[.int .u64 va] w fun e w' => e = .returned (.bool (decide (mayP va))) ∧ w = w' := by
  have HB := Lib.hid (fun (i : Nat) W => bit_c va (i : Int) W hv.1 hv.2)
  have HX := Lib.hid hv
  clear hv
  go_enter Try.func17, Try.ntmps17
  go_wp2_with fail
  go_loopw [3] (fun i wr => ∃ k : Nat, k ≤ 25 ∧ i = .int .i64 (39 + k : Nat) ∧ (∀ j, j < k → tb va (39 + j) = tb va 38) ∧ w = wr) (fun i _ => 64 - (intOf i).toNat)
  case atStart => exact ⟨0, Nat.zero_le _, rfl, fun j h => absurd h (by omega), rfl⟩
  case round =>
    obtain ⟨k, hk, rfl, hn, rfl⟩ := hrel
    have HN := Lib.hid hn
    clear hn
    by_cases hlt : k < 25
    · have hd : ((39 + k : Nat) : Int) < 64 := by omega
      have H1 := Lib.hid (fun W => HB.out (39 + k) W)
      rw [tbI_nat va (39 + k) (by omega)] at H1
      have H2 := Lib.hid (fun W => HB.out 38 W)
      rw [tbI_nat va 38 (by omega)] at H2
      have HT := Lib.hid (fun (h : tb va (39 + k) = tb va 38) j (hj : j < k + 1) => if e : j = k then by rw [e]; exact h else HN.out j (by omega))
      have HF := Lib.hid (fun (h : ¬ tb va (39 + k) = tb va 38) => show decide (mayP va) = false from decide_eq_false (fun hh => h (hh k hlt)))
      generalize tb va (39 + k) = x at *
      generalize tb va 38 = y at *
      have hxy : (bi x != bi y) = !(x == y) := by cases x <;> cases y <;> decide
      generalize bi x = xv at *
      generalize bi y = yv at *
      generalize hki : ((39 + k : Nat) : Int) = ki at *
      cases he : (x == y)
      · rw [he] at hxy
        have HFF := Lib.hid (HF.out (by simpa using he))
        clear he HT HF
        go_wp2_with fail
        refine (H1.out _).mono ?_
        rintro e w1 ⟨rfl, rfl⟩
        go_wp2_with fail
        refine (H2.out _).mono ?_
        rintro e w2 ⟨rfl, rfl⟩
        go_wp2_with fail
        go_ret
        exact ⟨by rw [HFF.out]; rfl, rfl⟩
      · rw [he] at hxy
        have HTT := Lib.hid (HT.out (by simpa using he))
        clear he HT HF
        go_wp2_with fail
        refine (H1.out _).mono ?_
        rintro e w1 ⟨rfl, rfl⟩
        go_wp2_with fail
        refine (H2.out _).mono ?_
        rintro e w2 ⟨rfl, rfl⟩
        go_wp2_with fail
        go_roundw
        case rel => exact ⟨k + 1, by omega, by rw [← hki]; go_num, HTT.out, trivial⟩
        case measure => rw [← hki]; simp [intOf]; omega
    · obtain rfl : k = 25 := by omega
      have HD := Lib.hid (show decide (mayP va) = true from decide_eq_true HN.out)
      clear HN HB
      go_wp2_with fail
      go_ret
      exact ⟨by rw [HD.out]; rfl, rfl⟩
def placeS (va n : Int) : Int := if 0 ≤ n ∧ n ≤ 2 then cutS va (12 + 9 * n) 9 else 0
theorem place_lt (va n : Int) : 0 ≤ placeS va n ∧ placeS va n < 512 := by
  unfold placeS
  split
  · have a := cutS_range va (12 + 9 * n) 9
    have b : cutS va (12 + 9 * n) 9 < 2 ^ 9 := ecut_lt 9 (by omega)
    exact ⟨a.1, b⟩
  · omega
def sizeS (n : Int) : Int := if n = 0 then 4096 else if n = 1 then 2097152 else if n = 2 then 1073741824 else 0
def pageS (va n : Int) : Int := if 0 ≤ n ∧ n ≤ 2 then va / sizeS n * sizeS n else va
def entryS (ppn va n : Int) : Int := if 0 ≤ n ∧ n ≤ 2 then cutS ppn 0 44 * 4096 + 8 * placeS va n else 0
theorem lev3 {n : Int} (h : 0 ≤ n ∧ n ≤ 2) : n = 0 ∨ n = 1 ∨ n = 2 := by omega
set_option maxHeartbeats 2000000 in
theorem vplace_c (va n : Int) (hv : W64 va) (w : World) : Calls Try.prog 19 #[.int .u64 va, .int .i64 n] w fun e w' => e = .returned (.int .i64 (placeS va n)) ∧ Below w.heap.size w w' := by
  have HL := Lib.hid (fun W => vlev_c n W)
  by_cases h : 0 ≤ n ∧ n ≤ 2
  · rw [decide_eq_true h] at HL
    have hp := place_lt va n
    have HK := Lib.hid (show placeS va n = cutS va (12 + 9 * n) 9 from if_pos h)
    have HC := Lib.hid (fun W => refCut_c va (12 + 9 * n) 9 W hv.1 hv.2 (by omega) (by omega))
    rw [HK.out] at hp ⊢
    have hw : wrap64 (cutS va (12 + 9 * n) 9) = cutS va (12 + 9 * n) 9 := by unfold wrap64; omega
    generalize cutS va (12 + 9 * n) 9 = x at *
    have h1 : 0 ≤ n := h.1
    have h2 : n ≤ 2 := h.2
    clear HK hv h
    go_enter Try.func19, Try.ntmps19
    go_wp2_with fail
    refine (HL.out _).mono ?_
    rintro e w1 ⟨rfl, rfl⟩
    go_wp2_with fail
    refine (HC.out _).mono ?_
    rintro e w2 ⟨rfl, hb⟩
    have HB := Lib.hid hb
    clear hb
    go_wp2_with fail
    go_ret
    exact ⟨rfl, HB.out⟩
  · rw [decide_eq_false h] at HL
    have HK := Lib.hid (show placeS va n = 0 from if_neg h)
    have HB := Lib.hid (Below.refl w.heap.size w)
    clear h
    go_enter Try.func19, Try.ntmps19
    go_wp2_with fail
    refine (HL.out _).mono ?_
    rintro e w1 ⟨rfl, rfl⟩
    go_wp2_with fail
    go_ret
    exact ⟨by rw [HK.out]; rfl, HB.out⟩
set_option maxHeartbeats 2000000 in
theorem vsize_c (n : Int) (w : World) : Calls Try.prog 21 #[.int .i64 n] w fun e w' => e = .returned (.int .u64 (sizeS n)) ∧ w = w' := by
  have HL := Lib.hid (fun W => vlev_c n W)
  by_cases h : 0 ≤ n ∧ n ≤ 2
  · rw [decide_eq_true h] at HL
    have hn : ∀ k : Nat, k ≤ 2 → sizeS k = 4096 * 512 ^ k := by
      intro k hk
      obtain rfl | rfl | rfl : k = 0 ∨ k = 1 ∨ k = 2 := by omega
      all_goals rfl
    obtain ⟨m, rfl⟩ := Int.eq_ofNat_of_zero_le h.1
    have hm : m ≤ 2 := by omega
    clear h hn
    go_enter Try.func21, Try.ntmps21
    go_wp2_with fail
    refine (HL.out _).mono ?_
    rintro e w1 ⟨rfl, rfl⟩
    go_wp2_with fail
    go_loopw [3, 4] (fun s i wr => ∃ k : Nat, k ≤ m ∧ i = .int .i64 k ∧ s = .int .u64 (sizeS k) ∧ w = wr) (fun _ i _ => m - (intOf i).toNat)
    case atStart => exact ⟨0, Nat.zero_le _, rfl, rfl, rfl⟩
    case round =>
      obtain ⟨k, hk, rfl, rfl, rfl⟩ := hrel
      obtain rfl | rfl | rfl : m = 0 ∨ m = 1 ∨ m = 2 := by omega
      · obtain rfl : k = 0 := by omega
        have e0 : sizeS ((0 : Nat) : Int) = 4096 := rfl
        rw [e0]
        go_wp2_with fail
        go_ret
        exact ⟨rfl, rfl⟩
      · obtain rfl | rfl : k = 0 ∨ k = 1 := by omega
        · have e0 : sizeS ((0 : Nat) : Int) = 4096 := rfl
          rw [e0]
          go_wp2_with fail
          go_roundw
          case rel => exact ⟨1, by omega, rfl, rfl, trivial⟩
          case measure => simp [intOf]
        · have e0 : sizeS ((1 : Nat) : Int) = 2097152 := rfl
          rw [e0]
          go_wp2_with fail
          go_ret
          exact ⟨rfl, rfl⟩
      · obtain rfl | rfl | rfl : k = 0 ∨ k = 1 ∨ k = 2 := by omega
        · have e0 : sizeS ((0 : Nat) : Int) = 4096 := rfl
          rw [e0]
          go_wp2_with fail
          go_roundw
          case rel => exact ⟨1, by omega, rfl, rfl, trivial⟩
          case measure => simp [intOf]
        · have e0 : sizeS ((1 : Nat) : Int) = 2097152 := rfl
          rw [e0]
          go_wp2_with fail
          go_roundw
          case rel => exact ⟨2, by omega, rfl, rfl, trivial⟩
          case measure => simp [intOf]
        · have e0 : sizeS ((2 : Nat) : Int) = 1073741824 := rfl
          rw [e0]
          go_wp2_with fail
          go_ret
          exact ⟨rfl, rfl⟩
  · rw [decide_eq_false h] at HL
    have HK := Lib.hid (show sizeS n = 0 by unfold sizeS; rw [if_neg (by omega), if_neg (by omega), if_neg (by omega)])
    clear h
    go_enter Try.func21, Try.ntmps21
    go_wp2_with fail
    refine (HL.out _).mono ?_
    rintro e w1 ⟨rfl, rfl⟩
    go_wp2_with fail
    go_ret
    exact ⟨by rw [HK.out]; rfl, rfl⟩
theorem size_pos {n : Int} (h : 0 ≤ n ∧ n ≤ 2) : 4096 ≤ sizeS n ∧ sizeS n ≤ 1073741824 := by rcases lev3 h with rfl | rfl | rfl <;> decide
theorem page_le {va n : Int} (hv : W64 va) (h : 0 ≤ n ∧ n ≤ 2) : 0 ≤ va / sizeS n * sizeS n ∧ va / sizeS n * sizeS n ≤ va := by
  have hp := size_pos h
  have hv1 := hv.1
  generalize sizeS n = z at *
  have h1 : 0 ≤ va / z := Int.ediv_nonneg hv1 (by omega)
  have h2 := Int.ediv_mul_le va (show z ≠ 0 by omega)
  exact ⟨Int.mul_nonneg h1 (by omega), h2⟩
set_option maxHeartbeats 2000000 in
theorem vpage_c (va n : Int) (hv : W64 va) (w : World) : Calls Try.prog 23 #[.int .u64 va, .int .i64 n] w fun e w' => e = .returned (.int .u64 (pageS va n)) ∧ Below w.heap.size w w' := by
  have HL := Lib.hid (fun W => vlev_c n W)
  by_cases h : 0 ≤ n ∧ n ≤ 2
  · rw [decide_eq_true h] at HL
    have HK := Lib.hid (show pageS va n = va / sizeS n * sizeS n from if_pos h)
    have HZ := Lib.hid (fun W => vsize_c n W)
    have hp := size_pos h
    have hle := page_le hv h
    rw [HK.out]
    have hv1 := hv.1
    have hv2 := hv.2
    generalize sizeS n = z at *
    have hz0 : ¬ z = 0 := by omega
    have hzb : (z == 0) = false := by simpa using hz0
    have hdt : va.tdiv z = va / z := by rw [Int.tdiv_eq_ediv_of_nonneg hv1]
    have hdw : IntKind.u64.wrap (va / z) = va / z := by
      have h1 : 0 ≤ va / z := Int.ediv_nonneg hv1 (by omega)
      have h2 : va / z ≤ va := Int.ediv_le_self z hv1
      rw [IntKind.wrap_u64]; omega
    have hmw : IntKind.u64.wrap (va / z * z) = va / z * z := by rw [IntKind.wrap_u64]; omega
    generalize va / z = d at *
    generalize hdm : d * z = m at *
    clear HK hle hp h
    go_enter Try.func23, Try.ntmps23
    go_wp2_with fail
    refine (HL.out _).mono ?_
    rintro e w1 ⟨rfl, rfl⟩
    go_upto_region 3 with fail
    refine wp_region_steady (fun W => Below w.heap.size w W) (by kernel_rfl) (by kernel_rfl) (Below.drew (Below.refl _ _)) ?_
    iterate 2
      refine steady_val ?_ ?_ (by kernel_rfl) (fun W hS => ?_) ?_ ?_
      rotate_left 2
      · go_simp
        exact rfl
      · go_simp
        exact rfl
    refine steady_enter (.int .u64 z) 21 #[.int .i64 n] ?_ (by kernel_rfl) (fun W hS => ?_) (fun W hS => (HZ.out W).mono (by rintro e w' ⟨rfl, rfl⟩; exact ⟨rfl, hS⟩)) ?_ ?_
    rotate_left 1
    · go_simp
    · go_simp
      exact rfl
    refine steady_val (.int .u64 d) ?_ (by kernel_rfl) (fun W hS => by go_simp) ?_ ?_
    rotate_left 1
    · go_simp
      exact rfl
    refine steady_val ?_ ?_ (by kernel_rfl) (fun W hS => ?_) ?_ ?_
    rotate_left 2
    · go_simp
      exact rfl
    · go_simp
      exact rfl
    refine steady_enter (.int .u64 z) 21 #[.int .i64 n] ?_ (by kernel_rfl) (fun W hS => ?_) (fun W hS => (HZ.out W).mono (by rintro e w' ⟨rfl, rfl⟩; exact ⟨rfl, hS⟩)) ?_ ?_
    rotate_left 1
    · go_simp
    · go_simp
      exact rfl
    refine steady_val (.int .u64 m) ?_ (by kernel_rfl) (fun W hS => by go_simp) ?_ ?_
    rotate_left 1
    · go_simp
      exact rfl
    refine steady_val ?_ ?_ (by kernel_rfl) (fun W hS => ?_) ?_ ?_
    rotate_left 2
    · go_simp
      exact rfl
    · go_simp
      exact rfl
    refine steady_nil ?_
    intro W hS
    have HB := Lib.hid hS
    clear hS
    go_wp2_with fail
    go_ret
    exact ⟨rfl, HB.out⟩
  · rw [decide_eq_false h] at HL
    have HK := Lib.hid (show pageS va n = va from if_neg h)
    have HB := Lib.hid (Below.refl w.heap.size w)
    clear h hv
    go_enter Try.func23, Try.ntmps23
    go_wp2_with fail
    refine (HL.out _).mono ?_
    rintro e w1 ⟨rfl, rfl⟩
    go_wp2_with fail
    go_ret
    exact ⟨by rw [HK.out]; rfl, HB.out⟩
set_option maxHeartbeats 2000000 in
theorem ventry_c (ppn va n : Int) (hp : W64 ppn) (hv : W64 va) (w : World) : Calls Try.prog 26 #[.int .u64 ppn, .int .u64 va, .int .i64 n] w fun e w' => e = .returned (.int .u64 (entryS ppn va n)) ∧ Below w.heap.size w w' := by
  have HL := Lib.hid (fun W => vlev_c n W)
  by_cases h : 0 ≤ n ∧ n ≤ 2
  · rw [decide_eq_true h] at HL
    have HK := Lib.hid (show entryS ppn va n = cutS ppn 0 44 * 4096 + 8 * placeS va n from if_pos h)
    have HC := Lib.hid (fun W => refCut_c ppn 0 44 W hp.1 hp.2 (by omega) (by omega))
    have HP := Lib.hid (fun W => vplace_c va n hv W)
    have hpl := place_lt va n
    have hc := cutS_range ppn 0 44
    have hc2 : cutS ppn 0 44 < 2 ^ 44 := ecut_lt 44 (by omega)
    have hc3 : cutS ppn 0 44 < 17592186044416 := hc2
    rw [HK.out]
    generalize cutS ppn 0 44 = x at *
    generalize placeS va n = y at *
    have hx0 := hc.1
    have hy0 := hpl.1
    have hy1 := hpl.2
    have m1 : IntKind.u64.wrap (x * 4096) = x * 4096 := by rw [IntKind.wrap_u64]; omega
    have m2 : IntKind.u64.wrap y = y := by rw [IntKind.wrap_u64]; omega
    have m3 : IntKind.u64.wrap (8 * y) = 8 * y := by rw [IntKind.wrap_u64]; omega
    have m4 : IntKind.u64.wrap (x * 4096 + 8 * y) = x * 4096 + 8 * y := by rw [IntKind.wrap_u64]; omega
    clear HK hp hv h hc hc2 hpl
    go_enter Try.func26, Try.ntmps26
    go_wp2_with fail
    refine (HL.out _).mono ?_
    rintro e w1 ⟨rfl, rfl⟩
    go_wp2_with fail
    refine (HC.out _).mono ?_
    rintro e w2 ⟨rfl, hb⟩
    have HB := Lib.hid hb
    clear hb
    go_wp2_with fail
    refine (HP.out _).mono ?_
    rintro e w3 ⟨rfl, hb⟩
    have HB2 := Lib.hid (HB.out.trans (hb.mono HB.out.size))
    clear hb
    go_wp2_with fail
    go_ret
    exact ⟨rfl, HB2.out⟩
  · rw [decide_eq_false h] at HL
    have HK := Lib.hid (show entryS ppn va n = 0 from if_neg h)
    have HB := Lib.hid (Below.refl w.heap.size w)
    clear h hp hv
    go_enter Try.func26, Try.ntmps26
    go_wp2_with fail
    refine (HL.out _).mono ?_
    rintro e w1 ⟨rfl, rfl⟩
    go_wp2_with fail
    go_ret
    exact ⟨by rw [HK.out]; rfl, HB.out⟩
theorem vmode_c (x : Int) (hx : W64 x) (w : World) : Calls Try.prog 29 #[.int .u64 x] w fun e w' => e = .returned (.int .i64 (cutS x 60 4)) ∧ Below w.heap.size w w' := by
  have HC := Lib.hid (fun W => refCut_c x 60 4 W hx.1 hx.2 (by omega) (by omega))
  have hc := cutS_range x 60 4
  have hc2 : cutS x 60 4 < 2 ^ 4 := ecut_lt 4 (by omega)
  have hc3 : cutS x 60 4 < 16 := hc2
  generalize cutS x 60 4 = y at *
  have hw : wrap64 y = y := by unfold wrap64; omega
  have HWW := Lib.hid hw
  clear hx hc hc2 hw
  go_enter Try.func29, Try.ntmps29
  go_wp2_with fail
  refine (HC.out _).mono ?_
  rintro e w1 ⟨rfl, hb⟩
  have HB := Lib.hid hb
  clear hb
  go_wp2_with fail
  go_ret
  exact ⟨by first | rfl | exact congrArg (fun t => Ending.returned (Value.int IntKind.i64 t)) HWW.out, HB.out⟩
theorem vasid_c (x : Int) (hx : W64 x) (w : World) : Calls Try.prog 31 #[.int .u64 x] w fun e w' => e = .returned (.int .i64 (cutS x 44 16)) ∧ Below w.heap.size w w' := by
  have HC := Lib.hid (fun W => refCut_c x 44 16 W hx.1 hx.2 (by omega) (by omega))
  have hc := cutS_range x 44 16
  have hc2 : cutS x 44 16 < 2 ^ 16 := ecut_lt 16 (by omega)
  have hc3 : cutS x 44 16 < 65536 := hc2
  generalize cutS x 44 16 = y at *
  have hw : wrap64 y = y := by unfold wrap64; omega
  have HWW := Lib.hid hw
  clear hx hc hc2 hw
  go_enter Try.func31, Try.ntmps31
  go_wp2_with fail
  refine (HC.out _).mono ?_
  rintro e w1 ⟨rfl, hb⟩
  have HB := Lib.hid hb
  clear hb
  go_wp2_with fail
  go_ret
  exact ⟨by first | rfl | exact congrArg (fun t => Ending.returned (Value.int IntKind.i64 t)) HWW.out, HB.out⟩
theorem vroot_c (x : Int) (hx : W64 x) (w : World) : Calls Try.prog 33 #[.int .u64 x] w fun e w' => e = .returned (.int .u64 (cutS x 0 44)) ∧ Below w.heap.size w w' := by
  have HC := Lib.hid (fun W => refCut_c x 0 44 W hx.1 hx.2 (by omega) (by omega))
  have hc := cutS_range x 0 44
  have hc2 : cutS x 0 44 < 2 ^ 44 := ecut_lt 44 (by omega)
  have hc3 : cutS x 0 44 < 17592186044416 := hc2
  generalize cutS x 0 44 = y at *
  have hw : wrap64 y = y := by unfold wrap64; omega
  have HWW := Lib.hid hw
  clear hx hc hc2 hw
  go_enter Try.func33, Try.ntmps33
  go_wp2_with fail
  refine (HC.out _).mono ?_
  rintro e w1 ⟨rfl, hb⟩
  have HB := Lib.hid hb
  clear hb
  go_wp2_with fail
  go_ret
  exact ⟨by first | rfl | exact congrArg (fun t => Ending.returned (Value.int IntKind.i64 t)) HWW.out, HB.out⟩
def satpS (m a r : Int) : Int := putS (putS (putS 0 0 44 r) 44 16 (IntKind.u64.wrap a)) 60 4 (IntKind.u64.wrap m)
set_option maxHeartbeats 2000000 in
theorem vsatp_c (m a r : Int) (hr : W64 r) (w : World) : Calls Try.prog 35 #[.int .i64 m, .int .i64 a, .int .u64 r] w fun e w' => e = .returned (.int .u64 (satpS m a r)) ∧ Below w.heap.size w w' := by
  have HK := Lib.hid (show satpS m a r = putS (putS (putS 0 0 44 r) 44 16 (IntKind.u64.wrap a)) 60 4 (IntKind.u64.wrap m) from rfl)
  have wa := wrap_range a
  have wm := wrap_range m
  have h1 := putS_range 0 0 44 r
  have h2 := putS_range (putS 0 0 44 r) 44 16 (IntKind.u64.wrap a)
  have H1 := Lib.hid (fun W => refPut_c 0 0 44 r W (by omega) (by omega) (by omega) (by omega) hr.1 hr.2)
  have H2 := Lib.hid (fun W => refPut_c (putS 0 0 44 r) 44 16 (IntKind.u64.wrap a) W h1.1 h1.2 (by omega) (by omega) wa.1 wa.2)
  have H3 := Lib.hid (fun W => refPut_c (putS (putS 0 0 44 r) 44 16 (IntKind.u64.wrap a)) 60 4 (IntKind.u64.wrap m) W h2.1 h2.2 (by omega) (by omega) wm.1 wm.2)
  rw [HK.out]
  clear HK h1 h2 hr wa wm
  generalize putS (putS (putS 0 0 44 r) 44 16 (IntKind.u64.wrap a)) 60 4 (IntKind.u64.wrap m) = z at *
  generalize putS (putS 0 0 44 r) 44 16 (IntKind.u64.wrap a) = y at *
  generalize putS 0 0 44 r = x at *
  go_enter Try.func35, Try.ntmps35
  go_wp2_with fail
  refine (H1.out _).mono ?_
  rintro e w1 ⟨rfl, hb⟩
  have HB := Lib.hid hb
  clear hb
  go_wp2_with fail
  refine (H2.out _).mono ?_
  rintro e w2 ⟨rfl, hb⟩
  have HB2 := Lib.hid (HB.out.trans (hb.mono HB.out.size))
  clear hb
  go_wp2_with fail
  refine (H3.out _).mono ?_
  rintro e w3 ⟨rfl, hb⟩
  have HB3 := Lib.hid (HB2.out.trans (hb.mono HB2.out.size))
  clear hb
  go_wp2_with fail
  go_ret
  exact ⟨rfl, HB3.out⟩
def trlS (x p : Int) : Bool := (cutS x 60 4 == 8) && (p == 0 || p == 1)
set_option maxHeartbeats 2000000 in
theorem vtrl_c (x p : Int) (hx : W64 x) (w : World) : Calls Try.prog 37 #[.int .u64 x, .int .i64 p] w fun e w' => e = .returned (.bool (trlS x p)) ∧ Below w.heap.size w w' := by
  have HM := Lib.hid (fun W => vmode_c x hx W)
  have HK := Lib.hid (show trlS x p = ((cutS x 60 4 == 8) && (p == 0 || p == 1)) from rfl)
  clear hx
  generalize trlS x p = r at *
  generalize cutS x 60 4 = m at *
  cases h8 : (m == 8)
  · rw [h8] at HK
    go_enter Try.func37, Try.ntmps37
    go_wp2_with fail
    refine (HM.out _).mono ?_
    rintro e w1 ⟨rfl, hb⟩
    have HB := Lib.hid hb
    clear hb
    go_wp2_with fail
    go_ret
    exact ⟨by rw [HK.out]; rfl, HB.out⟩
  · rw [h8] at HK
    cases h0 : (p == 0)
    · rw [h0] at HK
      cases h1 : (p == 1)
      all_goals
        rw [h1] at HK
        go_enter Try.func37, Try.ntmps37
        go_wp2_with fail
        refine (HM.out _).mono ?_
        rintro e w1 ⟨rfl, hb⟩
        have HB := Lib.hid hb
        clear hb
        go_wp2_with fail
        go_ret
        exact ⟨by rw [HK.out]; rfl, HB.out⟩
    · rw [h0] at HK
      go_enter Try.func37, Try.ntmps37
      go_wp2_with fail
      refine (HM.out _).mono ?_
      rintro e w1 ⟨rfl, hb⟩
      have HB := Lib.hid hb
      clear hb
      go_wp2_with fail
      go_ret
      exact ⟨by rw [HK.out]; rfl, HB.out⟩
end Go.Proofs.Ytmieabafiijfjaa
