/-
  The statement BitsKeeps (P1.5): for all words w, n and every pair p of ints, roebucklaw01.BitsKeeps returns true and its arguments read afterwards as before. No condition.
-/
import Derived.Test.YtgkenodiaehnnaaKeeps
namespace Go.Proofs.Ytgkenodiaehnnaa
open Go.ChangeShapes Go.WideShapes Go.ChangeAt Go.RowKit Wd

theorem sra_tests (x n : Int) : decide (wrap64 (wrap64 (sraS x (n % 63)) * 2 ^ (n % 63).toNat) ≤ wrap64 x) = true ∧ decide (wrap64 (wrap64 x - wrap64 (wrap64 (sraS x (n % 63)) * 2 ^ (n % 63).toNat)) < wrap64 (2 ^ (n % 63).toNat)) = true := by
  obtain ⟨F, hF⟩ : ∃ F : Nat, n % 63 = F := ⟨(n % 63).toNat, by omega⟩
  have e6 := sra_i64 (x := x) F (n % 63) (by omega)
  have e7 : ((n % 63).toNat) = F := by omega
  have hy : -9223372036854775808 ≤ wrap64 x ∧ wrap64 x ≤ 9223372036854775807 := by unfold wrap64; omega
  have hp := pow_le (k := F) (by omega)
  obtain ⟨a, b, c, d, e⟩ := sra_floor hy.1 hy.2 F (by omega)
  rw [e6, e7, a, e]
  generalize wrap64 x = y at *
  generalize y / 2 ^ F * 2 ^ F = q at *
  generalize (2 : Int) ^ F = t at *
  refine ⟨decide_eq_true b, decide_eq_true ?_⟩
  have : wrap64 (y - q) = y - q := by unfold wrap64; omega
  rw [this]
  exact c

set_option maxHeartbeats 4000000 in
set_option maxRecDepth 100000 in
theorem keeps_walk (x n p s : Int) (h0 : 0 ≤ x ∧ x ≤ 18446744073709551615) (h1 : 0 ≤ n ∧ n ≤ 18446744073709551615) (h2 : -9223372036854775808 ≤ p ∧ p ≤ 9223372036854775807) (h3 : -9223372036854775808 ≤ s ∧ s ≤ 9223372036854775807) (w : World) :
    Calls Try.prog 7 #[.int .u64 x, .int .u64 n, .agg #[.int .i64 p, .int .i64 s]] w fun e w' => e = .returned (.bool true) ∧ Below w.heap.size w w' := by
  obtain ⟨x0, x1⟩ := h0
  obtain ⟨n0, n1⟩ := h1
  obtain ⟨p0, p1⟩ := h2
  obtain ⟨s0, s1⟩ := h3
  have x2 : x < 18446744073709551616 := by omega
  have n2 : n < 18446744073709551616 := by omega
  have p2 : p < 9223372036854775808 := by omega
  have s2 : s < 9223372036854775808 := by omega
  clear x1 n1 p1 s1
  have E1 := keep_others x p s n x0 x2
  have E2 := keep_back x p s n n2
  have E3 : 0 ≤ p → p < 64 → 0 < s → cutS (putS x p s n) p s = cutS (cutS n 0 s) 0 (64 - p) := fun a b c => keep_cut a b c
  obtain ⟨X0, X2⟩ := putS_range x p s n
  have E4 := keep_sign x s
  have E5 : 0 < s → signS (signS x s) (s + 1) = signS x s := fun a => keep_sign1 a
  obtain ⟨S0, S2⟩ := signS_range x s
  generalize hX : putS x p s n = X at *
  generalize hS : signS x s = S at *
  generalize hC : cutS X p s = C at *
  obtain ⟨C0, C2⟩ : 0 ≤ C ∧ C < 18446744073709551616 := by rw [← hC]; exact cutS_range _ _ _
  obtain ⟨N0, N2⟩ := cutS_range n 0 s
  have t1 : (bits .andNot .u64 X (onesS p s) != bits .andNot .u64 x (onesS p s)) = false := by rw [E1]; simp
  have t2 : (putS X p s C != X) = false := by rw [E2]; simp
  have t4 : (signS S s != S) = false := by rw [E4]; simp
  have HC := Lib.hid hC
  have HX := Lib.hid hX
  have HS := Lib.hid hS
  have HD := Lib.hid (sra_tests x n)
  have hr1 : 0 ≤ n % 63 := by omega
  have hr2 : n % 63 < 18446744073709551616 := by omega
  have hr3 : n % 63 < 64 := by omega
  clear hX hS
  have H1 := Lib.hid (And.intro E1 (And.intro E2 (And.intro E3 (And.intro E4 E5))))
  clear hC E1 E2 E3 E4 E5
  rcases (show (p < 0 ∧ s ≤ 0) ∨ (p < 0 ∧ 0 < s ∧ s < 100) ∨ (p < 0 ∧ 100 ≤ s) ∨ (64 ≤ p ∧ s ≤ 0) ∨ (64 ≤ p ∧ 0 < s ∧ s < 100) ∨ (64 ≤ p ∧ 100 ≤ s) ∨ ((0 ≤ p ∧ p < 64) ∧ s ≤ 0) ∨ ((0 ≤ p ∧ p < 64) ∧ 0 < s ∧ s ≤ 64) ∨ ((0 ≤ p ∧ p < 64) ∧ 64 < s ∧ s < 100) ∨ ((0 ≤ p ∧ p < 64) ∧ 100 ≤ s) from by omega) with ⟨c1, c3⟩ | ⟨c1, c3, c4⟩ | ⟨c1, c3⟩ | ⟨c1, c3⟩ | ⟨c1, c3, c4⟩ | ⟨c1, c3⟩ | ⟨⟨c1, c2⟩, c3⟩ | ⟨⟨c1, c2⟩, c3, c4⟩ | ⟨⟨c1, c2⟩, c3, c4⟩ | ⟨⟨c1, c2⟩, c3⟩
  · have g1 : decide (0 ≤ p) = false := decide_eq_false (by omega)
    have g3 : decide (0 < s) = false := decide_eq_false (by omega)
    go_enter Try.func7, Try.ntmps7
    go_wp2
    go_quiet (fail)
    have hB : Below w.heap.size w ((w.alloc (.cells #[.int .i64 p, .int .i64 s] 23)).drewN nq) := below_dn ((Below.refl _ _).alloc (Nat.le_refl _) _) _
    generalize ((w.alloc (.cells #[.int .i64 p, .int .i64 s] 23)).drewN nq) = wa at *
    go_wp2_with fail
    refine (put_c _ _ _ _ _ x0 x2 p0 p2 s0 s2 n0 n2).mono ?_
    rintro e w' ⟨rfl, rfl⟩
    rw [HX.out]
    go_wp2_with fail
    refine (ones_c _ _ _ p0 p2 s0 s2).mono ?_
    rintro e w' ⟨rfl, rfl⟩
    go_wp2_with fail
    refine (cut_c _ _ _ _ X0 X2 p0 p2).mono ?_
    rintro e w' ⟨rfl, rfl⟩
    rw [HC.out]
    go_wp2_with fail
    refine (put_c _ _ _ _ _ X0 X2 p0 p2 s0 s2 C0 C2).mono ?_
    rintro e w' ⟨rfl, rfl⟩
    go_wp2_with fail
    refine (sign_c _ _ _ x0 x2).mono ?_
    rintro e w' ⟨rfl, rfl⟩
    rw [HS.out]
    go_wp2_with fail
    refine (sign_c _ _ _ S0 S2).mono ?_
    rintro e w' ⟨rfl, rfl⟩
    go_wp2_with fail
    refine (sra_c _ _ _ hr1 hr2).mono ?_
    rintro e w' ⟨rfl, rfl⟩
    obtain ⟨d1, d2⟩ := HD.out
    generalize sraS x (n % 63) = q at *
    go_wp2_with fail
    refine (live1_c _).mono ?_
    rintro e w4 ⟨rfl, hb⟩
    replace hB := hB.trans (hb.mono hB.size)
    clear hb
    go_wp2_with fail
    go_ret
    exact ⟨rfl, hB⟩
  · have g1 : decide (0 ≤ p) = false := decide_eq_false (by omega)
    have g3 : decide (0 < s) = true := decide_eq_true (by omega)
    have g5 : decide (s < 100) = true := decide_eq_true (by omega)
    have t5 : (signS S (s + 1) != S) = false := by rw [H1.out.2.2.2.2 (by omega)]; simp
    go_enter Try.func7, Try.ntmps7
    go_wp2
    go_quiet (fail)
    have hB : Below w.heap.size w ((w.alloc (.cells #[.int .i64 p, .int .i64 s] 23)).drewN nq) := below_dn ((Below.refl _ _).alloc (Nat.le_refl _) _) _
    generalize ((w.alloc (.cells #[.int .i64 p, .int .i64 s] 23)).drewN nq) = wa at *
    go_wp2_with fail
    refine (put_c _ _ _ _ _ x0 x2 p0 p2 s0 s2 n0 n2).mono ?_
    rintro e w' ⟨rfl, rfl⟩
    rw [HX.out]
    go_wp2_with fail
    refine (ones_c _ _ _ p0 p2 s0 s2).mono ?_
    rintro e w' ⟨rfl, rfl⟩
    go_wp2_with fail
    refine (cut_c _ _ _ _ X0 X2 p0 p2).mono ?_
    rintro e w' ⟨rfl, rfl⟩
    rw [HC.out]
    go_wp2_with fail
    refine (put_c _ _ _ _ _ X0 X2 p0 p2 s0 s2 C0 C2).mono ?_
    rintro e w' ⟨rfl, rfl⟩
    go_wp2_with fail
    refine (sign_c _ _ _ x0 x2).mono ?_
    rintro e w' ⟨rfl, rfl⟩
    rw [HS.out]
    go_wp2_with fail
    refine (sign_c _ _ _ S0 S2).mono ?_
    rintro e w' ⟨rfl, rfl⟩
    go_wp2_with fail
    refine (sign_c _ _ _ S0 S2).mono ?_
    rintro e w' ⟨rfl, rfl⟩
    go_wp2_with fail
    refine (sra_c _ _ _ hr1 hr2).mono ?_
    rintro e w' ⟨rfl, rfl⟩
    obtain ⟨d1, d2⟩ := HD.out
    generalize sraS x (n % 63) = q at *
    go_wp2_with fail
    refine (live1_c _).mono ?_
    rintro e w4 ⟨rfl, hb⟩
    replace hB := hB.trans (hb.mono hB.size)
    clear hb
    go_wp2_with fail
    go_ret
    exact ⟨rfl, hB⟩
  · have g1 : decide (0 ≤ p) = false := decide_eq_false (by omega)
    have g3 : decide (0 < s) = true := decide_eq_true (by omega)
    have g5 : decide (s < 100) = false := decide_eq_false (by omega)
    go_enter Try.func7, Try.ntmps7
    go_wp2
    go_quiet (fail)
    have hB : Below w.heap.size w ((w.alloc (.cells #[.int .i64 p, .int .i64 s] 23)).drewN nq) := below_dn ((Below.refl _ _).alloc (Nat.le_refl _) _) _
    generalize ((w.alloc (.cells #[.int .i64 p, .int .i64 s] 23)).drewN nq) = wa at *
    go_wp2_with fail
    refine (put_c _ _ _ _ _ x0 x2 p0 p2 s0 s2 n0 n2).mono ?_
    rintro e w' ⟨rfl, rfl⟩
    rw [HX.out]
    go_wp2_with fail
    refine (ones_c _ _ _ p0 p2 s0 s2).mono ?_
    rintro e w' ⟨rfl, rfl⟩
    go_wp2_with fail
    refine (cut_c _ _ _ _ X0 X2 p0 p2).mono ?_
    rintro e w' ⟨rfl, rfl⟩
    rw [HC.out]
    go_wp2_with fail
    refine (put_c _ _ _ _ _ X0 X2 p0 p2 s0 s2 C0 C2).mono ?_
    rintro e w' ⟨rfl, rfl⟩
    go_wp2_with fail
    refine (sign_c _ _ _ x0 x2).mono ?_
    rintro e w' ⟨rfl, rfl⟩
    rw [HS.out]
    go_wp2_with fail
    refine (sign_c _ _ _ S0 S2).mono ?_
    rintro e w' ⟨rfl, rfl⟩
    go_wp2_with fail
    refine (sra_c _ _ _ hr1 hr2).mono ?_
    rintro e w' ⟨rfl, rfl⟩
    obtain ⟨d1, d2⟩ := HD.out
    generalize sraS x (n % 63) = q at *
    go_wp2_with fail
    refine (live1_c _).mono ?_
    rintro e w4 ⟨rfl, hb⟩
    replace hB := hB.trans (hb.mono hB.size)
    clear hb
    go_wp2_with fail
    go_ret
    exact ⟨rfl, hB⟩
  · have g1 : decide (0 ≤ p) = true := decide_eq_true (by omega)
    have g2 : decide (p < 64) = false := decide_eq_false (by omega)
    have g3 : decide (0 < s) = false := decide_eq_false (by omega)
    go_enter Try.func7, Try.ntmps7
    go_wp2
    go_quiet (fail)
    have hB : Below w.heap.size w ((w.alloc (.cells #[.int .i64 p, .int .i64 s] 23)).drewN nq) := below_dn ((Below.refl _ _).alloc (Nat.le_refl _) _) _
    generalize ((w.alloc (.cells #[.int .i64 p, .int .i64 s] 23)).drewN nq) = wa at *
    go_wp2_with fail
    refine (put_c _ _ _ _ _ x0 x2 p0 p2 s0 s2 n0 n2).mono ?_
    rintro e w' ⟨rfl, rfl⟩
    rw [HX.out]
    go_wp2_with fail
    refine (ones_c _ _ _ p0 p2 s0 s2).mono ?_
    rintro e w' ⟨rfl, rfl⟩
    go_wp2_with fail
    refine (cut_c _ _ _ _ X0 X2 p0 p2).mono ?_
    rintro e w' ⟨rfl, rfl⟩
    rw [HC.out]
    go_wp2_with fail
    refine (put_c _ _ _ _ _ X0 X2 p0 p2 s0 s2 C0 C2).mono ?_
    rintro e w' ⟨rfl, rfl⟩
    go_wp2_with fail
    refine (sign_c _ _ _ x0 x2).mono ?_
    rintro e w' ⟨rfl, rfl⟩
    rw [HS.out]
    go_wp2_with fail
    refine (sign_c _ _ _ S0 S2).mono ?_
    rintro e w' ⟨rfl, rfl⟩
    go_wp2_with fail
    refine (sra_c _ _ _ hr1 hr2).mono ?_
    rintro e w' ⟨rfl, rfl⟩
    obtain ⟨d1, d2⟩ := HD.out
    generalize sraS x (n % 63) = q at *
    go_wp2_with fail
    refine (live1_c _).mono ?_
    rintro e w4 ⟨rfl, hb⟩
    replace hB := hB.trans (hb.mono hB.size)
    clear hb
    go_wp2_with fail
    go_ret
    exact ⟨rfl, hB⟩
  · have g1 : decide (0 ≤ p) = true := decide_eq_true (by omega)
    have g2 : decide (p < 64) = false := decide_eq_false (by omega)
    have g3 : decide (0 < s) = true := decide_eq_true (by omega)
    have g5 : decide (s < 100) = true := decide_eq_true (by omega)
    have t5 : (signS S (s + 1) != S) = false := by rw [H1.out.2.2.2.2 (by omega)]; simp
    go_enter Try.func7, Try.ntmps7
    go_wp2
    go_quiet (fail)
    have hB : Below w.heap.size w ((w.alloc (.cells #[.int .i64 p, .int .i64 s] 23)).drewN nq) := below_dn ((Below.refl _ _).alloc (Nat.le_refl _) _) _
    generalize ((w.alloc (.cells #[.int .i64 p, .int .i64 s] 23)).drewN nq) = wa at *
    go_wp2_with fail
    refine (put_c _ _ _ _ _ x0 x2 p0 p2 s0 s2 n0 n2).mono ?_
    rintro e w' ⟨rfl, rfl⟩
    rw [HX.out]
    go_wp2_with fail
    refine (ones_c _ _ _ p0 p2 s0 s2).mono ?_
    rintro e w' ⟨rfl, rfl⟩
    go_wp2_with fail
    refine (cut_c _ _ _ _ X0 X2 p0 p2).mono ?_
    rintro e w' ⟨rfl, rfl⟩
    rw [HC.out]
    go_wp2_with fail
    refine (put_c _ _ _ _ _ X0 X2 p0 p2 s0 s2 C0 C2).mono ?_
    rintro e w' ⟨rfl, rfl⟩
    go_wp2_with fail
    refine (sign_c _ _ _ x0 x2).mono ?_
    rintro e w' ⟨rfl, rfl⟩
    rw [HS.out]
    go_wp2_with fail
    refine (sign_c _ _ _ S0 S2).mono ?_
    rintro e w' ⟨rfl, rfl⟩
    go_wp2_with fail
    refine (sign_c _ _ _ S0 S2).mono ?_
    rintro e w' ⟨rfl, rfl⟩
    go_wp2_with fail
    refine (sra_c _ _ _ hr1 hr2).mono ?_
    rintro e w' ⟨rfl, rfl⟩
    obtain ⟨d1, d2⟩ := HD.out
    generalize sraS x (n % 63) = q at *
    go_wp2_with fail
    refine (live1_c _).mono ?_
    rintro e w4 ⟨rfl, hb⟩
    replace hB := hB.trans (hb.mono hB.size)
    clear hb
    go_wp2_with fail
    go_ret
    exact ⟨rfl, hB⟩
  · have g1 : decide (0 ≤ p) = true := decide_eq_true (by omega)
    have g2 : decide (p < 64) = false := decide_eq_false (by omega)
    have g3 : decide (0 < s) = true := decide_eq_true (by omega)
    have g5 : decide (s < 100) = false := decide_eq_false (by omega)
    go_enter Try.func7, Try.ntmps7
    go_wp2
    go_quiet (fail)
    have hB : Below w.heap.size w ((w.alloc (.cells #[.int .i64 p, .int .i64 s] 23)).drewN nq) := below_dn ((Below.refl _ _).alloc (Nat.le_refl _) _) _
    generalize ((w.alloc (.cells #[.int .i64 p, .int .i64 s] 23)).drewN nq) = wa at *
    go_wp2_with fail
    refine (put_c _ _ _ _ _ x0 x2 p0 p2 s0 s2 n0 n2).mono ?_
    rintro e w' ⟨rfl, rfl⟩
    rw [HX.out]
    go_wp2_with fail
    refine (ones_c _ _ _ p0 p2 s0 s2).mono ?_
    rintro e w' ⟨rfl, rfl⟩
    go_wp2_with fail
    refine (cut_c _ _ _ _ X0 X2 p0 p2).mono ?_
    rintro e w' ⟨rfl, rfl⟩
    rw [HC.out]
    go_wp2_with fail
    refine (put_c _ _ _ _ _ X0 X2 p0 p2 s0 s2 C0 C2).mono ?_
    rintro e w' ⟨rfl, rfl⟩
    go_wp2_with fail
    refine (sign_c _ _ _ x0 x2).mono ?_
    rintro e w' ⟨rfl, rfl⟩
    rw [HS.out]
    go_wp2_with fail
    refine (sign_c _ _ _ S0 S2).mono ?_
    rintro e w' ⟨rfl, rfl⟩
    go_wp2_with fail
    refine (sra_c _ _ _ hr1 hr2).mono ?_
    rintro e w' ⟨rfl, rfl⟩
    obtain ⟨d1, d2⟩ := HD.out
    generalize sraS x (n % 63) = q at *
    go_wp2_with fail
    refine (live1_c _).mono ?_
    rintro e w4 ⟨rfl, hb⟩
    replace hB := hB.trans (hb.mono hB.size)
    clear hb
    go_wp2_with fail
    go_ret
    exact ⟨rfl, hB⟩
  · have g1 : decide (0 ≤ p) = true := decide_eq_true (by omega)
    have g2 : decide (p < 64) = true := decide_eq_true (by omega)
    have g3 : decide (0 < s) = false := decide_eq_false (by omega)
    go_enter Try.func7, Try.ntmps7
    go_wp2
    go_quiet (fail)
    have hB : Below w.heap.size w ((w.alloc (.cells #[.int .i64 p, .int .i64 s] 23)).drewN nq) := below_dn ((Below.refl _ _).alloc (Nat.le_refl _) _) _
    generalize ((w.alloc (.cells #[.int .i64 p, .int .i64 s] 23)).drewN nq) = wa at *
    go_wp2_with fail
    refine (put_c _ _ _ _ _ x0 x2 p0 p2 s0 s2 n0 n2).mono ?_
    rintro e w' ⟨rfl, rfl⟩
    rw [HX.out]
    go_wp2_with fail
    refine (ones_c _ _ _ p0 p2 s0 s2).mono ?_
    rintro e w' ⟨rfl, rfl⟩
    go_wp2_with fail
    refine (cut_c _ _ _ _ X0 X2 p0 p2).mono ?_
    rintro e w' ⟨rfl, rfl⟩
    rw [HC.out]
    go_wp2_with fail
    refine (put_c _ _ _ _ _ X0 X2 p0 p2 s0 s2 C0 C2).mono ?_
    rintro e w' ⟨rfl, rfl⟩
    go_wp2_with fail
    refine (sign_c _ _ _ x0 x2).mono ?_
    rintro e w' ⟨rfl, rfl⟩
    rw [HS.out]
    go_wp2_with fail
    refine (sign_c _ _ _ S0 S2).mono ?_
    rintro e w' ⟨rfl, rfl⟩
    go_wp2_with fail
    refine (sra_c _ _ _ hr1 hr2).mono ?_
    rintro e w' ⟨rfl, rfl⟩
    obtain ⟨d1, d2⟩ := HD.out
    generalize sraS x (n % 63) = q at *
    go_wp2_with fail
    refine (live1_c _).mono ?_
    rintro e w4 ⟨rfl, hb⟩
    replace hB := hB.trans (hb.mono hB.size)
    clear hb
    go_wp2_with fail
    go_ret
    exact ⟨rfl, hB⟩
  · have t3 : (C != cutS (cutS n 0 s) 0 (64 - p)) = false := by rw [H1.out.2.2.1 c1 c2 c3]; simp
    have c5 : s < 100 := by omega
    have t5 : (signS S (s + 1) != S) = false := by rw [H1.out.2.2.2.2 (by omega)]; simp
    go_enter Try.func7, Try.ntmps7
    go_wp2
    go_quiet (fail)
    have hB : Below w.heap.size w ((w.alloc (.cells #[.int .i64 p, .int .i64 s] 23)).drewN nq) := below_dn ((Below.refl _ _).alloc (Nat.le_refl _) _) _
    generalize ((w.alloc (.cells #[.int .i64 p, .int .i64 s] 23)).drewN nq) = wa at *
    go_wp2_with fail
    refine (put_c _ _ _ _ _ x0 x2 p0 p2 s0 s2 n0 n2).mono ?_
    rintro e w' ⟨rfl, rfl⟩
    rw [HX.out]
    go_wp2_with fail
    refine (ones_c _ _ _ p0 p2 s0 s2).mono ?_
    rintro e w' ⟨rfl, rfl⟩
    go_wp2_with fail
    refine (cut_c _ _ _ _ X0 X2 p0 p2).mono ?_
    rintro e w' ⟨rfl, rfl⟩
    rw [HC.out]
    go_wp2_with fail
    refine (put_c _ _ _ _ _ X0 X2 p0 p2 s0 s2 C0 C2).mono ?_
    rintro e w' ⟨rfl, rfl⟩
    go_wp2_with fail
    refine (cut_c _ _ _ _ X0 X2 p0 p2).mono ?_
    rintro e w' ⟨rfl, rfl⟩
    rw [HC.out]
    go_wp2_with fail
    refine (low_c _ _ _ n0 n2).mono ?_
    rintro e w' ⟨rfl, rfl⟩
    go_wp2_with fail
    refine (low_c _ _ _ N0 N2).mono ?_
    rintro e w' ⟨rfl, rfl⟩
    go_wp2_with fail
    refine (sign_c _ _ _ x0 x2).mono ?_
    rintro e w' ⟨rfl, rfl⟩
    rw [HS.out]
    go_wp2_with fail
    refine (sign_c _ _ _ S0 S2).mono ?_
    rintro e w' ⟨rfl, rfl⟩
    go_wp2_with fail
    refine (sign_c _ _ _ S0 S2).mono ?_
    rintro e w' ⟨rfl, rfl⟩
    go_wp2_with fail
    refine (sra_c _ _ _ hr1 hr2).mono ?_
    rintro e w' ⟨rfl, rfl⟩
    obtain ⟨d1, d2⟩ := HD.out
    generalize sraS x (n % 63) = q at *
    go_wp2_with fail
    refine (live1_c _).mono ?_
    rintro e w4 ⟨rfl, hb⟩
    replace hB := hB.trans (hb.mono hB.size)
    clear hb
    go_wp2_with fail
    go_ret
    exact ⟨rfl, hB⟩
  · have g1 : decide (0 ≤ p) = true := decide_eq_true (by omega)
    have g2 : decide (p < 64) = true := decide_eq_true (by omega)
    have g3 : decide (0 < s) = true := decide_eq_true (by omega)
    have g4 : decide (s ≤ 64) = false := decide_eq_false (by omega)
    have g5 : decide (s < 100) = true := decide_eq_true (by omega)
    have c5 : 0 < s := by omega
    have t5 : (signS S (s + 1) != S) = false := by rw [H1.out.2.2.2.2 (by omega)]; simp
    go_enter Try.func7, Try.ntmps7
    go_wp2
    go_quiet (fail)
    have hB : Below w.heap.size w ((w.alloc (.cells #[.int .i64 p, .int .i64 s] 23)).drewN nq) := below_dn ((Below.refl _ _).alloc (Nat.le_refl _) _) _
    generalize ((w.alloc (.cells #[.int .i64 p, .int .i64 s] 23)).drewN nq) = wa at *
    go_wp2_with fail
    refine (put_c _ _ _ _ _ x0 x2 p0 p2 s0 s2 n0 n2).mono ?_
    rintro e w' ⟨rfl, rfl⟩
    rw [HX.out]
    go_wp2_with fail
    refine (ones_c _ _ _ p0 p2 s0 s2).mono ?_
    rintro e w' ⟨rfl, rfl⟩
    go_wp2_with fail
    refine (cut_c _ _ _ _ X0 X2 p0 p2).mono ?_
    rintro e w' ⟨rfl, rfl⟩
    rw [HC.out]
    go_wp2_with fail
    refine (put_c _ _ _ _ _ X0 X2 p0 p2 s0 s2 C0 C2).mono ?_
    rintro e w' ⟨rfl, rfl⟩
    go_wp2_with fail
    refine (sign_c _ _ _ x0 x2).mono ?_
    rintro e w' ⟨rfl, rfl⟩
    rw [HS.out]
    go_wp2_with fail
    refine (sign_c _ _ _ S0 S2).mono ?_
    rintro e w' ⟨rfl, rfl⟩
    go_wp2_with fail
    refine (sign_c _ _ _ S0 S2).mono ?_
    rintro e w' ⟨rfl, rfl⟩
    go_wp2_with fail
    refine (sra_c _ _ _ hr1 hr2).mono ?_
    rintro e w' ⟨rfl, rfl⟩
    obtain ⟨d1, d2⟩ := HD.out
    generalize sraS x (n % 63) = q at *
    go_wp2_with fail
    refine (live1_c _).mono ?_
    rintro e w4 ⟨rfl, hb⟩
    replace hB := hB.trans (hb.mono hB.size)
    clear hb
    go_wp2_with fail
    go_ret
    exact ⟨rfl, hB⟩
  · have g1 : decide (0 ≤ p) = true := decide_eq_true (by omega)
    have g2 : decide (p < 64) = true := decide_eq_true (by omega)
    have g3 : decide (0 < s) = true := decide_eq_true (by omega)
    have g4 : decide (s ≤ 64) = false := decide_eq_false (by omega)
    have g5 : decide (s < 100) = false := decide_eq_false (by omega)
    go_enter Try.func7, Try.ntmps7
    go_wp2
    go_quiet (fail)
    have hB : Below w.heap.size w ((w.alloc (.cells #[.int .i64 p, .int .i64 s] 23)).drewN nq) := below_dn ((Below.refl _ _).alloc (Nat.le_refl _) _) _
    generalize ((w.alloc (.cells #[.int .i64 p, .int .i64 s] 23)).drewN nq) = wa at *
    go_wp2_with fail
    refine (put_c _ _ _ _ _ x0 x2 p0 p2 s0 s2 n0 n2).mono ?_
    rintro e w' ⟨rfl, rfl⟩
    rw [HX.out]
    go_wp2_with fail
    refine (ones_c _ _ _ p0 p2 s0 s2).mono ?_
    rintro e w' ⟨rfl, rfl⟩
    go_wp2_with fail
    refine (cut_c _ _ _ _ X0 X2 p0 p2).mono ?_
    rintro e w' ⟨rfl, rfl⟩
    rw [HC.out]
    go_wp2_with fail
    refine (put_c _ _ _ _ _ X0 X2 p0 p2 s0 s2 C0 C2).mono ?_
    rintro e w' ⟨rfl, rfl⟩
    go_wp2_with fail
    refine (sign_c _ _ _ x0 x2).mono ?_
    rintro e w' ⟨rfl, rfl⟩
    rw [HS.out]
    go_wp2_with fail
    refine (sign_c _ _ _ S0 S2).mono ?_
    rintro e w' ⟨rfl, rfl⟩
    go_wp2_with fail
    refine (sra_c _ _ _ hr1 hr2).mono ?_
    rintro e w' ⟨rfl, rfl⟩
    obtain ⟨d1, d2⟩ := HD.out
    generalize sraS x (n % 63) = q at *
    go_wp2_with fail
    refine (live1_c _).mono ?_
    rintro e w4 ⟨rfl, hb⟩
    replace hB := hB.trans (hb.mono hB.size)
    clear hb
    go_wp2_with fail
    go_ret
    exact ⟨rfl, hB⟩

set_option maxRecDepth 100000 in
theorem keeps_lifted (os : Os) (started : os.Started) (H : Type) (enc : TypeId × Value → H) :
    ReturnsInHanded {} Try.checked os 7 .any (Rows.bitsKeepsSpec.pre6 enc Try.prog Try.f7 Rows.bitsKeepsRow.domain false) (Rows.bitsKeepsSpec.post enc Try.prog Try.f7 false true false false) := by
  refine returnsInHanded_of_change (C := Try.checked) own started (by kernel_rfl) Try.func7
    (ChangeSpec.witness6 (enc := enc) (C := Try.checked) false ⟨#[], #[.int .u64 0, .int .u64 0, .agg #[.int .i64 0, .int .i64 0]], []⟩ 8 (by kernel_rfl) (by kernel_rfl) (by kernel_rfl) (by kernel_rfl)) ?_
  intro W base args ds gs before hval0 hW hcnd _
  have hval : ∀ (j : Nat) t v, Try.f7.params[j]? = some t → args[j]? = some v → Value.okWide Try.prog W .any base t v := hval0
  have hW' := hW
  obtain ⟨p, q, hA0, hV, rfl, hfz, hnd⟩ := hW
  have hA : DataW.TrodAll enc Try.prog W 0 (fun _ => true) true Try.f7.params.toList args.toList ds p := hA0
  rw [Try.params7] at hA hval
  obtain ⟨v0, vs0, d0, ds0, p0, q0, hargs, rfl, rfl, h0, r0⟩ := trodAll_cons hA
  obtain ⟨v1, vs1, d1, ds1, p1, q1, rfl, rfl, rfl, h1, r1⟩ := trodAll_cons r0
  obtain ⟨v2, vs2, d2, ds2, p2, q2, rfl, rfl, rfl, h2, r2⟩ := trodAll_cons r1
  obtain ⟨rfl, rfl, rfl⟩ := trodAll_nil r2
  obtain rfl : args = #[v0, v1, v2] := by cases args; simp_all
  obtain ⟨rfl, rfl⟩ := trodVars_none hV
  obtain ⟨a0, rfl, rfl, rfl, w0⟩ := open_int Try.underlying22 (hval 0 22 v0 rfl rfl) h0
  obtain ⟨a1, rfl, rfl, rfl, w1⟩ := open_int Try.underlying22 (hval 1 22 v1 rfl rfl) h1
  have k2 := h2
  have lt2 : ∀ x ∈ p2, x.block < W.heap.size := by obtain ⟨m, hm⟩ := k2; exact DataW.trod_lt m _ _ _ hm
  obtain ⟨a2, b2, rfl, w2, z2⟩ := open_arr2 Try.underlying23 Try.underlying3 (by kernel_rfl) (by kernel_rfl) (hval 2 23 v2 rfl rfl) h2
  clear hA0 hval0
  refine (keeps_walk a0 a1 a2 b2 (bounds_u64 w0) (bounds_u64 w1) (bounds_i64 w2) (bounds_i64 z2) W).mono fun e W' ⟨he, bel⟩ => ?_
  subst he
  exact ⟨_, rfl, _, _, _, [], _, [], hW', trodAll_mk1 (shut_bool Try.underlying4 _), (trodAll_cons_mk (shut_int Try.underlying22 w0) (trodAll_cons_mk (shut_int Try.underlying22 w1) (trodAll_cons_mk (Below.trod laidOut (by kernel_rfl) (of_decide_eq_true (by kernel_rfl)) k2 bel lt2) trodAll_mk0))), rfl, bel.frame _, fun h => by cases h⟩

theorem keeps_over : Rows.bitsKeepsRow.holds Try.pinned (OpenSpec.ofChange Rows.bitsKeepsSpec) :=
  OpenClaim.holds_of_wide 7 Try.f7 rfl rfl rfl rfl rfl rfl rfl ⟨rfl, rfl, rfl, rfl, rfl⟩ rfl rfl rfl rfl rfl (by kernel_rfl) Try.func7 (by kernel_rfl)
    (of_decide_eq_true (by kernel_rfl)) (by unfold Func.isWrapper; first | (rw [if_pos (by decide +kernel)]; kernel_rfl) | (rw [if_neg (by decide +kernel)]; exact ⟨rfl, rfl⟩))
    (fun os started H enc _ => keeps_lifted os started H enc)

theorem keeps_said : Rows.BitsKeepsSaid := keeps_over
end Go.Proofs.Ytgkenodiaehnnaa
