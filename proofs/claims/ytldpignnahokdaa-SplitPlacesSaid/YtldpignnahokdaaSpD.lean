/-
  Contracts of the reference of layer 11: May, Byte, Stripe, Cut.
-/
import Derived.Test.YtldpignnahokdaaSpC
namespace Go.Proofs.Ytldpignnahokdaa
open Go.ChangeShapes Go.WideShapes Go.ChangeAt Go.RowKit Wd

theorem rmay_c (a b c n : Int) (w : World) : Calls Try.prog 10 #[.agg (axV a b c n)] w fun e w' => e = .returned (.bool (Sp.okA c n)) ∧ Below w.heap.size w w' := by
  have HB := Lib.hid ((Below.refl w.heap.size w).alloc (Nat.le_refl _) (.cells (axV a b c n) 29))
  have HC := CsAt.new w 29 (axV a b c n)
  have c2 := HC.cell 2
  have c3 := HC.cell 3
  clear HC
  by_cases h1 : 0 < n
  · have g1 : decide (0 < n) = true := by simpa using h1
    by_cases h2 : n < 9
    · have g2 : decide (n < 9) = true := by simpa using h2
      by_cases h3 : 0 ≤ c
      · have g3 : decide (0 ≤ c) = true := by simpa using h3
        have H := Lib.hid (show Sp.okA c n = decide (c < n) by unfold Sp.okA; exact decide_eq_decide.2 (by omega))
        clear h1 h2 h3
        go_enter Try.func10, Try.ntmps10
        go_upto_region 1 with (fail)
        generalize w.alloc (.cells (axV a b c n) 29) = w1 at *
        go_wp2_with fail
        go_ret
        exact ⟨sret_b H.out.symm, HB.out⟩
      · have g3 : decide (0 ≤ c) = false := by simpa using h3
        have H := Lib.hid (show Sp.okA c n = false by unfold Sp.okA; simp; omega)
        clear h1 h2 h3
        go_enter Try.func10, Try.ntmps10
        go_upto_region 1 with (fail)
        generalize w.alloc (.cells (axV a b c n) 29) = w1 at *
        go_wp2_with fail
        go_ret
        exact ⟨sret_b H.out.symm, HB.out⟩
    · have g2 : decide (n < 9) = false := by simpa using h2
      have H := Lib.hid (show Sp.okA c n = false by unfold Sp.okA; simp; omega)
      clear h1 h2
      go_enter Try.func10, Try.ntmps10
      go_upto_region 1 with (fail)
      generalize w.alloc (.cells (axV a b c n) 29) = w1 at *
      go_wp2_with fail
      go_ret
      exact ⟨sret_b H.out.symm, HB.out⟩
  · have g1 : decide (0 < n) = false := by simpa using h1
    have H := Lib.hid (show Sp.okA c n = false by unfold Sp.okA; simp; omega)
    clear h1
    go_enter Try.func10, Try.ntmps10
    go_upto_region 1 with (fail)
    generalize w.alloc (.cells (axV a b c n) 29) = w1 at *
    go_wp2_with fail
    go_ret
    exact ⟨sret_b H.out.symm, HB.out⟩
theorem rbyte_c (a b c n i : Int) (w : World) (hi0 : 0 ≤ i) (hi : i ≤ 8) (hc : c ≤ 8) :
    Calls Try.prog 23 #[.agg (axV a b c n), .int .i64 i] w fun e w' => e = .returned (.int .u64 (Sp.byte a b c i)) ∧ Below w.heap.size w w' := by
  have HB := Lib.hid ((Below.refl w.heap.size w).alloc (Nat.le_refl _) (.cells (axV a b c n) 29))
  have HC := CsAt.new w 29 (axV a b c n)
  have c0 := HC.cell 0
  have c1 := HC.cell 1
  have c2 := HC.cell 2
  clear HC
  by_cases h1 : 0 < c
  · have g1 : decide (0 < c) = true := by simpa using h1
    by_cases h2 : c ≤ i
    · have g2 : decide (c ≤ i) = true := by simpa using h2
      have H := Lib.hid (show (b + (i - c)) % 18446744073709551616 = Sp.byte a b c i by unfold Sp.byte; rw [if_pos ⟨h1, h2⟩])
      have e1 : IntKind.u64.wrap (i - c) = i - c := by rw [IntKind.wrap_u64]; omega
      have e2 : IntKind.u64.wrap (b + (i - c)) = (b + (i - c)) % 18446744073709551616 := by rw [IntKind.wrap_u64]
      go_enter Try.func23, Try.ntmps23
      go_upto_region 1 with (fail)
      generalize w.alloc (.cells (axV a b c n) 29) = w1 at *
      go_wp2_with fail
      go_ret
      exact ⟨sret_u H.out, HB.out⟩
    · have g2 : decide (c ≤ i) = false := by simpa using h2
      have H := Lib.hid (show (a + i) % 18446744073709551616 = Sp.byte a b c i by unfold Sp.byte; rw [if_neg (by omega)])
      have e1 : IntKind.u64.wrap i = i := by rw [IntKind.wrap_u64]; omega
      have e2 : IntKind.u64.wrap (a + i) = (a + i) % 18446744073709551616 := by rw [IntKind.wrap_u64]
      go_enter Try.func23, Try.ntmps23
      go_upto_region 1 with (fail)
      generalize w.alloc (.cells (axV a b c n) 29) = w1 at *
      go_wp2_with fail
      go_ret
      exact ⟨sret_u H.out, HB.out⟩
  · have g1 : decide (0 < c) = false := by simpa using h1
    have H := Lib.hid (show (a + i) % 18446744073709551616 = Sp.byte a b c i by unfold Sp.byte; rw [if_neg (by omega)])
    have e1 : IntKind.u64.wrap i = i := by rw [IntKind.wrap_u64]; omega
    have e2 : IntKind.u64.wrap (a + i) = (a + i) % 18446744073709551616 := by rw [IntKind.wrap_u64]
    go_enter Try.func23, Try.ntmps23
    go_upto_region 1 with (fail)
    generalize w.alloc (.cells (axV a b c n) 29) = w1 at *
    go_wp2_with fail
    go_ret
    exact ⟨sret_u H.out, HB.out⟩
theorem rstripe_c (a n : Int) (w : World) (h0 : 0 ≤ a) (h1 : a < 18446744073709551616) (hn : n ≤ 9223372036854775807) :
    Calls Try.prog 13 #[.int .u64 a, .int .i64 n] w fun e w' => e = .returned (.int .i64 (Sp.stripe a n)) ∧ w = w' := by
  by_cases h : n < 1
  · have H := Lib.hid (show Sp.stripe a n = 0 by unfold Sp.stripe; rw [if_pos h])
    go_enter Try.func13, Try.ntmps13
    go_wp2_with fail
    go_ret
    exact ⟨sret_u H.out.symm, rfl⟩
  · have hr := Sp.stripe_range (n := n) h0 h1
    have HE := Lib.hid (show a / 64 % n = Sp.stripe a n by unfold Sp.stripe; rw [if_neg h])
    have e1 : IntKind.u64.wrap n = n := by rw [IntKind.wrap_u64]; omega
    obtain ⟨r0, r1⟩ : 0 ≤ a / 64 % n ∧ a / 64 % n < 288230376151711744 := by rw [HE.out]; exact hr
    clear hr
    go_enter Try.func13, Try.ntmps13
    go_wp2_with fail
    go_ret
    exact ⟨sret_u HE.out, rfl⟩
theorem rcut_c (a n : Int) (w : World) (h0 : 0 ≤ a) (h1 : a < 18446744073709551616) :
    Calls Try.prog 8 #[.int .u64 a, .int .i64 n] w fun e w' => e = .returned (.int .i64 (Sp.cut a n)) ∧ w = w' := by
  by_cases hn1 : n < 1
  · have H := Lib.hid (show (0 : Int) = Sp.cut a n by unfold Sp.cut; rw [if_neg (by omega)])
    have g1 : decide (n < 1) = true := by simpa using hn1
    go_enter Try.func8, Try.ntmps8
    go_wp2_with fail
    go_ret
    exact ⟨sret_u H.out, rfl⟩
  · have g1 : decide (n < 1) = false := by simpa using hn1
    by_cases hn8 : 8 < n
    · have H := Lib.hid (show (0 : Int) = Sp.cut a n by unfold Sp.cut; rw [if_neg (by omega)])
      have g2 : decide (8 < n) = true := by simpa using hn8
      go_enter Try.func8, Try.ntmps8
      go_wp2_with fail
      go_ret
      exact ⟨sret_u H.out, rfl⟩
    · have g2 : decide (8 < n) = false := by simpa using hn8
      have HCC := Lib.hid (Sp.cnt_cut (va := a) (n := n) (by omega) (by omega))
      obtain ⟨m, rfl⟩ := Int.eq_ofNat_of_zero_le (show 0 ≤ n by omega)
      have hm : m ≤ 8 := by omega
      rw [Int.toNat_natCast] at HCC
      go_enter Try.func8, Try.ntmps8
      go_wp2_with fail
      go_loop [5, 6] (fun t i => ∃ k : Nat, k ≤ m ∧ i = .int .i64 k ∧ t = .int .i64 (Sp.cnt a k)) (fun _ i => m - (intOf i).toNat)
      case atStart => exact ⟨0, by omega, rfl, by unfold Sp.cnt; rw [if_pos (by omega)]; rfl⟩
      case round =>
        obtain ⟨k, hk, rfl, rfl⟩ := hrel
        have hr := Sp.cnt_range a k (by omega)
        by_cases hlt : k < m
        · have e1 : IntKind.u64.wrap (k : Int) = k := by rw [IntKind.wrap_u64]; omega
          have e2 : IntKind.u64.wrap (a + k) = (a + k) % 18446744073709551616 := by rw [IntKind.wrap_u64]
          have x0 : 0 ≤ (a + k) % 18446744073709551616 := by omega
          have x1 : (a + k) % 18446744073709551616 < 18446744073709551616 := by omega
          by_cases hin : (a + k) % 18446744073709551616 / 4096 = a / 4096
          · have HE := Lib.hid (Sp.cnt_in h0 h1 (by omega) hin)
            have g : ((a + k) % 18446744073709551616 / 4096 == a / 4096) = true := by simpa using hin
            clear hin
            generalize (a + (k : Int)) % 18446744073709551616 = x at *
            go_wp2_with fail
            go_round
            case rel => exact ⟨k + 1, by omega, by go_num, by rw [HE.out]⟩
            case measure => simp [intOf]; omega
          · have HE := Lib.hid (Sp.cnt_out h0 h1 (by omega) hin)
            have g : ((a + k) % 18446744073709551616 / 4096 == a / 4096) = false := by simpa using hin
            clear hin
            generalize (a + (k : Int)) % 18446744073709551616 = x at *
            go_wp2_with fail
            go_round
            case rel => exact ⟨k + 1, by omega, by go_num, by rw [HE.out]⟩
            case measure => simp [intOf]; omega
        · obtain rfl : k = m := by omega
          by_cases he : Sp.cnt a k = k
          · have g : (Sp.cnt a k == (k : Int)) = true := by simpa using he
            rw [if_pos he] at HCC
            clear he
            generalize Sp.cnt a k = z at *
            go_wp2_with fail
            go_ret
            exact ⟨sret_u HCC.out, rfl⟩
          · have g : (Sp.cnt a k == (k : Int)) = false := by simpa using he
            rw [if_neg he] at HCC
            clear he
            generalize Sp.cnt a k = z at *
            go_wp2_with fail
            go_ret
            exact ⟨sret_u HCC.out, rfl⟩
end Go.Proofs.Ytldpignnahokdaa
