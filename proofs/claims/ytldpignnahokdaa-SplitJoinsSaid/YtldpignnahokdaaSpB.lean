/-
  Contracts of package split and of the reference of layer 11: isSize, left, Cut, May, Line, Stripe, Byte.
-/
import Derived.Test.YtldpignnahokdaaSpA
import Derived.Test.YtldpignnahokdaaRow
import Derived.Test.YtldpignnahokdaaRefC
import Derived.Laws.ResultCell
import Derived.ProofKit
import Derived.OpenShut
import Derived.Deep.DeepCutAuto
import Derived.Deep.QuietTactic
import Derived.BigQuiet
namespace Go.Proofs.Ytldpignnahokdaa
open Go.ChangeShapes Go.WideShapes Go.ChangeAt Go.RowKit Wd

theorem sret_b {a b : Bool} (h : a = b) : Ending.returned (.bool a) = .returned (.bool b) := by rw [h]
theorem sret_u {k : IntKind} {a b : Int} (h : a = b) : Ending.returned (.int k a) = .returned (.int k b) := by rw [h]
theorem isSize_c (n : Int) (w : World) : Calls Try.prog 25 #[.int .i64 n] w fun e w' => e = .returned (.bool (Sp.szB n)) ∧ w = w' := by
  by_cases h1 : 1 ≤ n
  · have g1 : decide (1 ≤ n) = true := by simpa using h1
    have H := Lib.hid (show Sp.szB n = decide (n ≤ 8) by unfold Sp.szB; exact decide_eq_decide.2 (by omega))
    go_enter Try.func25, Try.ntmps25
    go_wp2_with fail
    go_ret
    exact ⟨sret_b H.out.symm, rfl⟩
  · have g1 : decide (1 ≤ n) = false := by simpa using h1
    have H := Lib.hid (show Sp.szB n = false by unfold Sp.szB; simp; omega)
    go_enter Try.func25, Try.ntmps25
    go_wp2_with fail
    go_ret
    exact ⟨sret_b H.out.symm, rfl⟩
theorem left_c (a s : Int) (w : World) (h0 : 0 ≤ a) (h1 : a < 18446744073709551616) (hs : 1 ≤ s) (hs2 : s ≤ 4096) :
    Calls Try.prog 24 #[.int .u64 a, .int .i64 s] w fun e w' => e = .returned (.int .i64 (s - a % s)) ∧ w = w' := by
  have hw : IntKind.u64.wrap s = s := by rw [IntKind.wrap_u64]; omega
  have hm0 := Int.emod_nonneg a (show s ≠ 0 by omega)
  have hm1 := Int.emod_lt_of_pos a (show 0 < s by omega)
  go_enter Try.func24, Try.ntmps24
  go_wp2_with fail
  go_ret
  exact ⟨sret_u (by first | rfl | omega), rfl⟩
theorem scut_c (a n : Int) (w : World) (h0 : 0 ≤ a) (h1 : a < 18446744073709551616) :
    Calls Try.prog 7 #[.int .u64 a, .int .i64 n] w fun e w' => e = .returned (.int .i64 (Sp.cut a n)) ∧ w = w' := by
  have H := Lib.hid (show Sp.cut a n = if Sp.szB n then (if n ≤ 4096 - a % 4096 then 0 else 4096 - a % 4096) else 0 by
    unfold Sp.cut Sp.szB
    by_cases c : 1 ≤ n ∧ n ≤ 8
    · simp [c]; by_cases d : n ≤ 4096 - a % 4096
      · rw [if_pos d, if_neg (by omega)]
      · rw [if_neg d, if_pos (by omega)]
    · rw [if_neg (by omega)]; simp [c])
  go_enter Try.func7, Try.ntmps7
  go_wp2_with fail
  refine (left_c _ _ _ h0 h1 (by omega) (by omega)).mono ?_
  rintro e w1 ⟨rfl, rfl⟩
  go_wp2_with fail
  refine (isSize_c _ _).mono ?_
  rintro e w1 ⟨rfl, rfl⟩
  cases hs : Sp.szB n
  · rw [hs] at H
    go_wp2_with fail
    go_ret
    exact ⟨sret_u H.out.symm, rfl⟩
  · rw [hs] at H
    by_cases d : n ≤ 4096 - a % 4096
    · have g : decide (n ≤ 4096 - a % 4096) = true := by simpa using d
      have H' := Lib.hid (show Sp.cut a n = 0 by rw [H.out]; simp [d])
      generalize 4096 - a % 4096 = z at *
      go_wp2_with fail
      go_ret
      exact ⟨sret_u H'.out.symm, rfl⟩
    · have g : decide (n ≤ 4096 - a % 4096) = false := by simpa using d
      have H' := Lib.hid (show Sp.cut a n = 4096 - a % 4096 by rw [H.out]; simp [d])
      generalize 4096 - a % 4096 = z at *
      go_wp2_with fail
      go_ret
      exact ⟨sret_u H'.out.symm, rfl⟩
/-- An access. -/
abbrev axV (a b c n : Int) : Array Value := #[.int .u64 a, .int .u64 b, .int .i64 c, .int .i64 n]
theorem may_c (a b c n : Int) (w : World) : Calls Try.prog 9 #[.agg (axV a b c n)] w fun e w' => e = .returned (.bool (Sp.okA c n)) ∧ Below w.heap.size w w' := by
  have HB := Lib.hid ((Below.refl w.heap.size w).alloc (Nat.le_refl _) (.cells (axV a b c n) 24))
  have HC := CsAt.new w 24 (axV a b c n)
  have c2 := HC.cell 2
  have c3 := HC.cell 3
  clear HC
  go_enter Try.func9, Try.ntmps9
  go_upto_region 1 with (fail)
  generalize w.alloc (.cells (axV a b c n) 24) = w1 at *
  go_wp2_with fail
  refine (isSize_c _ _).mono ?_
  rintro e w2 ⟨rfl, rfl⟩
  cases hs : Sp.szB n
  · have H := Lib.hid (show Sp.okA c n = false by
      unfold Sp.szB at hs; unfold Sp.okA; simp at hs ⊢; omega)
    go_wp2_with fail
    go_ret
    exact ⟨sret_b H.out.symm, HB.out⟩
  · unfold Sp.szB at hs
    by_cases h0 : 0 ≤ c
    · have g0 : decide (0 ≤ c) = true := by simpa using h0
      have H := Lib.hid (show Sp.okA c n = decide (c < n) by
        unfold Sp.okA; simp at hs; exact decide_eq_decide.2 (by omega))
      clear hs
      go_wp2_with fail
      go_ret
      exact ⟨sret_b H.out.symm, HB.out⟩
    · have g0 : decide (0 ≤ c) = false := by simpa using h0
      have H := Lib.hid (show Sp.okA c n = false by
        unfold Sp.okA; simp; omega)
      clear hs
      go_wp2_with fail
      go_ret
      exact ⟨sret_b H.out.symm, HB.out⟩
theorem sline_c (a : Int) (w : World) (h0 : 0 ≤ a) (h1 : a < 18446744073709551616) : Calls Try.prog 11 #[.int .u64 a] w fun e w' => e = .returned (.int .u64 (a / 64)) ∧ w = w' := by
  go_enter Try.func11, Try.ntmps11
  go_wp2_with fail
  go_ret
  exact ⟨rfl, rfl⟩
theorem stripe_c (a n : Int) (w : World) (h0 : 0 ≤ a) (h1 : a < 18446744073709551616) (hn : n ≤ 9223372036854775807) :
    Calls Try.prog 12 #[.int .u64 a, .int .i64 n] w fun e w' => e = .returned (.int .i64 (Sp.stripe a n)) ∧ w = w' := by
  by_cases h : n < 1
  · have H := Lib.hid (show Sp.stripe a n = 0 by unfold Sp.stripe; rw [if_pos h])
    go_enter Try.func12, Try.ntmps12
    go_wp2_with fail
    go_ret
    exact ⟨sret_u H.out.symm, rfl⟩
  · have hr := Sp.stripe_range (n := n) h0 h1
    have HE := Lib.hid (show a / 64 % n = Sp.stripe a n by unfold Sp.stripe; rw [if_neg h])
    have e1 : IntKind.u64.wrap n = n := by rw [IntKind.wrap_u64]; omega
    have HR := Lib.hid (show 0 ≤ a / 64 % n ∧ a / 64 % n < 288230376151711744 by rw [HE.out]; exact hr)
    have hq0 : 0 ≤ a / 64 := by omega
    clear hr
    go_enter Try.func12, Try.ntmps12
    go_wp2_with fail
    refine (sline_c _ _ h0 h1).mono ?_
    rintro e w1 ⟨rfl, rfl⟩
    obtain ⟨r0, r1⟩ := HR.out
    go_wp2_with fail
    go_ret
    exact ⟨sret_u HE.out, rfl⟩
end Go.Proofs.Ytldpignnahokdaa
