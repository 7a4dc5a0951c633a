/-
  Contracts of package amo (layer 8).
-/
import Derived.Test.YtgfdielipbcfeaaSgn
import Derived.Test.YtgfdielipbcfeaaKind
namespace Go.Proofs.Ytgfdielipbcfeaa
open Go.ChangeShapes Go.WideShapes Go.ChangeAt Go.RowKit Wd

def linkB (op : Int) : Bool := op == 67 || op == 78
def condB (op : Int) : Bool := op == 68 || op == 79
def isB (op : Int) : Bool := classS op == 7 && !linkB op && !condB op
theorem link_c (op : Int) (w : World) : Calls Try.prog 9 #[.int .i64 op] w fun e w' => e = .returned (.bool (linkB op)) ∧ w = w' := by
  cases h : (op == 67)
  · have HS := Lib.hid (show (op == 78) = linkB op by simp only [linkB, h, Bool.false_or])
    go_enter Try.func9, Try.ntmps9
    go_wp2
    go_ret
    exact ⟨ret_b HS.out, rfl⟩
  · have HS := Lib.hid (show true = linkB op by simp only [linkB, h, Bool.true_or])
    go_enter Try.func9, Try.ntmps9
    go_wp2
    go_ret
    exact ⟨ret_b HS.out, rfl⟩
theorem cond_c (op : Int) (w : World) : Calls Try.prog 10 #[.int .i64 op] w fun e w' => e = .returned (.bool (condB op)) ∧ w = w' := by
  cases h : (op == 68)
  · have HS := Lib.hid (show (op == 79) = condB op by simp only [condB, h, Bool.false_or])
    go_enter Try.func10, Try.ntmps10
    go_wp2
    go_ret
    exact ⟨ret_b HS.out, rfl⟩
  · have HS := Lib.hid (show true = condB op by simp only [condB, h, Bool.true_or])
    go_enter Try.func10, Try.ntmps10
    go_wp2
    go_ret
    exact ⟨ret_b HS.out, rfl⟩
set_option maxHeartbeats 1000000 in
theorem is_c (op : Int) (w : World) : Calls Try.prog 8 #[.int .i64 op] w fun e w' => e = .returned (.bool (isB op)) ∧ w = w' := by
  cases h : (classS op == 7)
  · have HS := Lib.hid (show false = isB op by simp only [isB, h, Bool.false_and])
    go_enter Try.func8, Try.ntmps8
    go_wp2_with (first | (go_at_call 25; refine (class_c _ _).mono ?_; rintro e w' ⟨rfl, rfl⟩) | (go_at_call 9; refine (link_c _ _).mono ?_; rintro e w' ⟨rfl, rfl⟩) | (go_at_call 10; refine (cond_c _ _).mono ?_; rintro e w' ⟨rfl, rfl⟩))
    go_ret
    exact ⟨ret_b HS.out, rfl⟩
  · cases hl : linkB op
    · have HS := Lib.hid (show (!condB op) = isB op by simp only [isB, h, hl, Bool.true_and, Bool.not_false])
      go_enter Try.func8, Try.ntmps8
      go_wp2_with (first | (go_at_call 25; refine (class_c _ _).mono ?_; rintro e w' ⟨rfl, rfl⟩) | (go_at_call 9; refine (link_c _ _).mono ?_; rintro e w' ⟨rfl, rfl⟩) | (go_at_call 10; refine (cond_c _ _).mono ?_; rintro e w' ⟨rfl, rfl⟩))
      go_ret
      exact ⟨ret_b HS.out, rfl⟩
    · have HS := Lib.hid (show false = isB op by simp only [isB, h, hl, Bool.true_and, Bool.not_true, Bool.false_and])
      go_enter Try.func8, Try.ntmps8
      go_wp2_with (first | (go_at_call 25; refine (class_c _ _).mono ?_; rintro e w' ⟨rfl, rfl⟩) | (go_at_call 9; refine (link_c _ _).mono ?_; rintro e w' ⟨rfl, rfl⟩) | (go_at_call 10; refine (cond_c _ _).mono ?_; rintro e w' ⟨rfl, rfl⟩))
      go_ret
      exact ⟨ret_b HS.out, rfl⟩
theorem least_i64_y (m x : Int) (w : World) (h : x < m) : Calls Try.prog 27 #[.int .i64 m, .int .i64 x] w fun e w' => e = .returned (.int .i64 x) ∧ w = w' := by
  go_enter Try.func27, Try.ntmps27
  go_wp2
  go_ret
  exact ⟨rfl, rfl⟩
theorem least_i64_n (m x : Int) (w : World) (h : m ≤ x) : Calls Try.prog 27 #[.int .i64 m, .int .i64 x] w fun e w' => e = .returned (.int .i64 m) ∧ w = w' := by
  go_enter Try.func27, Try.ntmps27
  go_wp2
  go_ret
  exact ⟨rfl, rfl⟩
theorem least_u64_y (m x : Int) (w : World) (h : x < m) : Calls Try.prog 29 #[.int .u64 m, .int .u64 x] w fun e w' => e = .returned (.int .u64 x) ∧ w = w' := by
  go_enter Try.func29, Try.ntmps29
  go_wp2
  go_ret
  exact ⟨rfl, rfl⟩
theorem least_u64_n (m x : Int) (w : World) (h : m ≤ x) : Calls Try.prog 29 #[.int .u64 m, .int .u64 x] w fun e w' => e = .returned (.int .u64 m) ∧ w = w' := by
  go_enter Try.func29, Try.ntmps29
  go_wp2
  go_ret
  exact ⟨rfl, rfl⟩
theorem greatest_i64_y (m x : Int) (w : World) (h : m < x) : Calls Try.prog 28 #[.int .i64 m, .int .i64 x] w fun e w' => e = .returned (.int .i64 x) ∧ w = w' := by
  go_enter Try.func28, Try.ntmps28
  go_wp2
  go_ret
  exact ⟨rfl, rfl⟩
theorem greatest_i64_n (m x : Int) (w : World) (h : x ≤ m) : Calls Try.prog 28 #[.int .i64 m, .int .i64 x] w fun e w' => e = .returned (.int .i64 m) ∧ w = w' := by
  go_enter Try.func28, Try.ntmps28
  go_wp2
  go_ret
  exact ⟨rfl, rfl⟩
theorem greatest_u64_y (m x : Int) (w : World) (h : m < x) : Calls Try.prog 30 #[.int .u64 m, .int .u64 x] w fun e w' => e = .returned (.int .u64 x) ∧ w = w' := by
  go_enter Try.func30, Try.ntmps30
  go_wp2
  go_ret
  exact ⟨rfl, rfl⟩
theorem greatest_u64_n (m x : Int) (w : World) (h : x ≤ m) : Calls Try.prog 30 #[.int .u64 m, .int .u64 x] w fun e w' => e = .returned (.int .u64 m) ∧ w = w' := by
  go_enter Try.func30, Try.ntmps30
  go_wp2
  go_ret
  exact ⟨rfl, rfl⟩
def amoG : Nat → Int → Int → Int
  | 0, _, x => x
  | 1, m, x => IntKind.u64.wrap (m + x)
  | 2, m, x => bits .xor .u64 m x
  | 3, m, x => bits .and .u64 m x
  | 4, m, x => bits .or .u64 m x
  | 5, m, x => if wrap64 x < wrap64 m then x else m
  | 6, m, x => if wrap64 m < wrap64 x then x else m
  | 7, m, x => if x < m then x else m
  | _, m, x => if m < x then x else m
theorem back_u64 {x : Int} (h0 : 0 ≤ x) (h : x < 18446744073709551616) : IntKind.u64.wrap (wrap64 x) = x := by rw [wrap_wrap64, IntKind.wrap_u64]; omega
theorem pick_u64 {m x : Int} (c : Prop) [Decidable c] (hm0 : 0 ≤ m) (hm : m < 18446744073709551616) (hx0 : 0 ≤ x) (hx : x < 18446744073709551616) : IntKind.u64.wrap (if c then wrap64 x else wrap64 m) = if c then x else m := by
  split
  · exact back_u64 hx0 hx
  · exact back_u64 hm0 hm
theorem change_0 (m x : Int) (w : World) (_hm0 : 0 ≤ m) (_hm : m < 18446744073709551616) (_hx0 : 0 ≤ x) (_hx : x < 18446744073709551616) : Calls Try.prog 16 #[.int .i64 80, .int .u64 m, .int .u64 x] w fun e w' => e = .returned (.int .u64 (amoG 0 m x)) ∧ w = w' := by
  go_enter Try.func16, Try.ntmps16
  go_wp2_with fail
  go_ret
  exact ⟨rfl, rfl⟩
theorem change_1 (m x : Int) (w : World) (_hm0 : 0 ≤ m) (_hm : m < 18446744073709551616) (_hx0 : 0 ≤ x) (_hx : x < 18446744073709551616) : Calls Try.prog 16 #[.int .i64 81, .int .u64 m, .int .u64 x] w fun e w' => e = .returned (.int .u64 (amoG 1 m x)) ∧ w = w' := by
  go_enter Try.func16, Try.ntmps16
  go_wp2_with fail
  go_ret
  exact ⟨rfl, rfl⟩
theorem change_2 (m x : Int) (w : World) (_hm0 : 0 ≤ m) (_hm : m < 18446744073709551616) (_hx0 : 0 ≤ x) (_hx : x < 18446744073709551616) : Calls Try.prog 16 #[.int .i64 82, .int .u64 m, .int .u64 x] w fun e w' => e = .returned (.int .u64 (amoG 2 m x)) ∧ w = w' := by
  go_enter Try.func16, Try.ntmps16
  go_wp2_with fail
  go_ret
  exact ⟨rfl, rfl⟩
theorem change_3 (m x : Int) (w : World) (_hm0 : 0 ≤ m) (_hm : m < 18446744073709551616) (_hx0 : 0 ≤ x) (_hx : x < 18446744073709551616) : Calls Try.prog 16 #[.int .i64 83, .int .u64 m, .int .u64 x] w fun e w' => e = .returned (.int .u64 (amoG 3 m x)) ∧ w = w' := by
  go_enter Try.func16, Try.ntmps16
  go_wp2_with fail
  go_ret
  exact ⟨rfl, rfl⟩
theorem change_4 (m x : Int) (w : World) (_hm0 : 0 ≤ m) (_hm : m < 18446744073709551616) (_hx0 : 0 ≤ x) (_hx : x < 18446744073709551616) : Calls Try.prog 16 #[.int .i64 84, .int .u64 m, .int .u64 x] w fun e w' => e = .returned (.int .u64 (amoG 4 m x)) ∧ w = w' := by
  go_enter Try.func16, Try.ntmps16
  go_wp2_with fail
  go_ret
  exact ⟨rfl, rfl⟩
theorem change_5 (m x : Int) (w : World) (hm0 : 0 ≤ m) (hm : m < 18446744073709551616) (hx0 : 0 ≤ x) (hx : x < 18446744073709551616) : Calls Try.prog 16 #[.int .i64 85, .int .u64 m, .int .u64 x] w fun e w' => e = .returned (.int .u64 (amoG 5 m x)) ∧ w = w' := by
  by_cases c : wrap64 x < wrap64 m
  · have HV := Lib.hid (show IntKind.u64.wrap (wrap64 x) = amoG 5 m x from by rw [back_u64 hx0 hx]; show x = if wrap64 x < wrap64 m then x else m; rw [if_pos c])
    have HC := Lib.hid (c)
    clear c
    go_enter Try.func16, Try.ntmps16
    go_wp2_with fail
    refine (least_i64_y _ _ _ HC.out).mono ?_
    rintro e w' ⟨rfl, rfl⟩
    go_wp2_with fail
    go_ret
    exact ⟨ret_u HV.out, rfl⟩
  · have HV := Lib.hid (show IntKind.u64.wrap (wrap64 m) = amoG 5 m x from by rw [back_u64 hm0 hm]; show m = if wrap64 x < wrap64 m then x else m; rw [if_neg c])
    have HC := Lib.hid (Int.not_lt.1 c)
    clear c
    go_enter Try.func16, Try.ntmps16
    go_wp2_with fail
    refine (least_i64_n _ _ _ HC.out).mono ?_
    rintro e w' ⟨rfl, rfl⟩
    go_wp2_with fail
    go_ret
    exact ⟨ret_u HV.out, rfl⟩
theorem change_6 (m x : Int) (w : World) (hm0 : 0 ≤ m) (hm : m < 18446744073709551616) (hx0 : 0 ≤ x) (hx : x < 18446744073709551616) : Calls Try.prog 16 #[.int .i64 86, .int .u64 m, .int .u64 x] w fun e w' => e = .returned (.int .u64 (amoG 6 m x)) ∧ w = w' := by
  by_cases c : wrap64 m < wrap64 x
  · have HV := Lib.hid (show IntKind.u64.wrap (wrap64 x) = amoG 6 m x from by rw [back_u64 hx0 hx]; show x = if wrap64 m < wrap64 x then x else m; rw [if_pos c])
    have HC := Lib.hid (c)
    clear c
    go_enter Try.func16, Try.ntmps16
    go_wp2_with fail
    refine (greatest_i64_y _ _ _ HC.out).mono ?_
    rintro e w' ⟨rfl, rfl⟩
    go_wp2_with fail
    go_ret
    exact ⟨ret_u HV.out, rfl⟩
  · have HV := Lib.hid (show IntKind.u64.wrap (wrap64 m) = amoG 6 m x from by rw [back_u64 hm0 hm]; show m = if wrap64 m < wrap64 x then x else m; rw [if_neg c])
    have HC := Lib.hid (Int.not_lt.1 c)
    clear c
    go_enter Try.func16, Try.ntmps16
    go_wp2_with fail
    refine (greatest_i64_n _ _ _ HC.out).mono ?_
    rintro e w' ⟨rfl, rfl⟩
    go_wp2_with fail
    go_ret
    exact ⟨ret_u HV.out, rfl⟩
theorem change_7 (m x : Int) (w : World) (_hm0 : 0 ≤ m) (_hm : m < 18446744073709551616) (_hx0 : 0 ≤ x) (_hx : x < 18446744073709551616) : Calls Try.prog 16 #[.int .i64 87, .int .u64 m, .int .u64 x] w fun e w' => e = .returned (.int .u64 (amoG 7 m x)) ∧ w = w' := by
  by_cases c : x < m
  · have HV := Lib.hid (show x = amoG 7 m x from by show x = if x < m then x else m; rw [if_pos c])
    have HC := Lib.hid (c)
    clear c
    go_enter Try.func16, Try.ntmps16
    go_wp2_with fail
    refine (least_u64_y _ _ _ HC.out).mono ?_
    rintro e w' ⟨rfl, rfl⟩
    go_wp2_with fail
    go_ret
    exact ⟨ret_u HV.out, rfl⟩
  · have HV := Lib.hid (show m = amoG 7 m x from by show m = if x < m then x else m; rw [if_neg c])
    have HC := Lib.hid (Int.not_lt.1 c)
    clear c
    go_enter Try.func16, Try.ntmps16
    go_wp2_with fail
    refine (least_u64_n _ _ _ HC.out).mono ?_
    rintro e w' ⟨rfl, rfl⟩
    go_wp2_with fail
    go_ret
    exact ⟨ret_u HV.out, rfl⟩
theorem change_8 (m x : Int) (w : World) (_hm0 : 0 ≤ m) (_hm : m < 18446744073709551616) (_hx0 : 0 ≤ x) (_hx : x < 18446744073709551616) : Calls Try.prog 16 #[.int .i64 88, .int .u64 m, .int .u64 x] w fun e w' => e = .returned (.int .u64 (amoG 8 m x)) ∧ w = w' := by
  by_cases c : m < x
  · have HV := Lib.hid (show x = amoG 8 m x from by show x = if m < x then x else m; rw [if_pos c])
    have HC := Lib.hid (c)
    clear c
    go_enter Try.func16, Try.ntmps16
    go_wp2_with fail
    refine (greatest_u64_y _ _ _ HC.out).mono ?_
    rintro e w' ⟨rfl, rfl⟩
    go_wp2_with fail
    go_ret
    exact ⟨ret_u HV.out, rfl⟩
  · have HV := Lib.hid (show m = amoG 8 m x from by show m = if m < x then x else m; rw [if_neg c])
    have HC := Lib.hid (Int.not_lt.1 c)
    clear c
    go_enter Try.func16, Try.ntmps16
    go_wp2_with fail
    refine (greatest_u64_n _ _ _ HC.out).mono ?_
    rintro e w' ⟨rfl, rfl⟩
    go_wp2_with fail
    go_ret
    exact ⟨ret_u HV.out, rfl⟩
theorem amo_long (op : Int) (w : World) (h0 : 67 ≤ op) (h1 : op ≤ 88) : Calls Try.prog 17 #[.int .i64 op] w fun e w' => e = .returned (.int .i64 (op + 11)) ∧ w = w' := by
  have h := Lib.hid (show op - 67 + 78 = op + 11 from by omega)
  go_enter Try.func17, Try.ntmps17
  go_wp2
  go_ret
  exact ⟨ret_u h.out, rfl⟩
set_option maxHeartbeats 1000000 in
theorem amo_d0 (m x : Int) (w : World) (hm0 : 0 ≤ m) (hm : m < 18446744073709551616) (hx0 : 0 ≤ x) (hx : x < 18446744073709551616) : Calls Try.prog 5 #[.int .i64 80, .int .u64 m, .int .u64 x] w fun e w' => e = .returned (.tuple #[.int .u64 (amoG 0 m x), .bool true]) ∧ w = w' := by
  have hi : isB 80 = true := by decide +kernel
  have hs : sizeS 80 = 8 := by decide +kernel
  go_enter Try.func5, Try.ntmps5
  go_wp2_with fail
  refine (is_c _ _).mono ?_
  rintro e w' ⟨rfl, rfl⟩
  rw [hi]
  go_wp2_with fail
  refine (size_c _ _).mono ?_
  rintro e w' ⟨rfl, rfl⟩
  rw [hs]
  go_wp2_with fail
  refine (change_0 _ _ _ hm0 hm hx0 hx).mono ?_
  rintro e w' ⟨rfl, rfl⟩
  go_wp2_with fail
  go_ret2
  exact ⟨rfl, rfl⟩
set_option maxHeartbeats 1000000 in
theorem amo_w0 (m x : Int) (w : World) (hm0 : 0 ≤ m) (hm : m < 18446744073709551616) (hx0 : 0 ≤ x) (hx : x < 18446744073709551616) : Calls Try.prog 5 #[.int .i64 69, .int .u64 m, .int .u64 x] w fun e w' => e = .returned (.tuple #[.int .u64 (amoG 0 (signS m 32) (signS x 32) % 4294967296), .bool true]) ∧ w = w' := by
  have hi : isB 69 = true := by decide +kernel
  have hs : sizeS 69 = 4 := by decide +kernel
  obtain ⟨p0, p1⟩ := signS_range m 32
  obtain ⟨q0, q1⟩ := signS_range x 32
  generalize hP : signS m 32 = P at *
  generalize hQ : signS x 32 = Q at *
  have HP := Lib.hid (And.intro hP hQ)
  clear hP hQ
  go_enter Try.func5, Try.ntmps5
  go_wp2_with fail
  refine (is_c _ _).mono ?_
  rintro e w' ⟨rfl, rfl⟩
  rw [hi]
  go_wp2_with fail
  refine (size_c _ _).mono ?_
  rintro e w' ⟨rfl, rfl⟩
  rw [hs]
  go_wp2_with fail
  refine (amo_long _ _ (by omega) (by omega)).mono ?_
  rintro e w' ⟨rfl, rfl⟩
  go_wp2_with fail
  refine (word_c _ _ hm0 hm).mono ?_
  rintro e w' ⟨rfl, rfl⟩
  rw [HP.out.1]
  go_wp2_with fail
  refine (word_c _ _ hx0 hx).mono ?_
  rintro e w' ⟨rfl, rfl⟩
  rw [HP.out.2]
  go_wp2_with fail
  refine (change_0 _ _ _ p0 p1 q0 q1).mono ?_
  rintro e w' ⟨rfl, rfl⟩
  go_wp2_with fail
  go_ret2
  exact ⟨rfl, rfl⟩
set_option maxHeartbeats 1000000 in
theorem amo_d1 (m x : Int) (w : World) (hm0 : 0 ≤ m) (hm : m < 18446744073709551616) (hx0 : 0 ≤ x) (hx : x < 18446744073709551616) : Calls Try.prog 5 #[.int .i64 81, .int .u64 m, .int .u64 x] w fun e w' => e = .returned (.tuple #[.int .u64 (amoG 1 m x), .bool true]) ∧ w = w' := by
  have hi : isB 81 = true := by decide +kernel
  have hs : sizeS 81 = 8 := by decide +kernel
  go_enter Try.func5, Try.ntmps5
  go_wp2_with fail
  refine (is_c _ _).mono ?_
  rintro e w' ⟨rfl, rfl⟩
  rw [hi]
  go_wp2_with fail
  refine (size_c _ _).mono ?_
  rintro e w' ⟨rfl, rfl⟩
  rw [hs]
  go_wp2_with fail
  refine (change_1 _ _ _ hm0 hm hx0 hx).mono ?_
  rintro e w' ⟨rfl, rfl⟩
  go_wp2_with fail
  go_ret2
  exact ⟨rfl, rfl⟩
set_option maxHeartbeats 1000000 in
theorem amo_w1 (m x : Int) (w : World) (hm0 : 0 ≤ m) (hm : m < 18446744073709551616) (hx0 : 0 ≤ x) (hx : x < 18446744073709551616) : Calls Try.prog 5 #[.int .i64 70, .int .u64 m, .int .u64 x] w fun e w' => e = .returned (.tuple #[.int .u64 (amoG 1 (signS m 32) (signS x 32) % 4294967296), .bool true]) ∧ w = w' := by
  have hi : isB 70 = true := by decide +kernel
  have hs : sizeS 70 = 4 := by decide +kernel
  obtain ⟨p0, p1⟩ := signS_range m 32
  obtain ⟨q0, q1⟩ := signS_range x 32
  generalize hP : signS m 32 = P at *
  generalize hQ : signS x 32 = Q at *
  have HP := Lib.hid (And.intro hP hQ)
  clear hP hQ
  go_enter Try.func5, Try.ntmps5
  go_wp2_with fail
  refine (is_c _ _).mono ?_
  rintro e w' ⟨rfl, rfl⟩
  rw [hi]
  go_wp2_with fail
  refine (size_c _ _).mono ?_
  rintro e w' ⟨rfl, rfl⟩
  rw [hs]
  go_wp2_with fail
  refine (amo_long _ _ (by omega) (by omega)).mono ?_
  rintro e w' ⟨rfl, rfl⟩
  go_wp2_with fail
  refine (word_c _ _ hm0 hm).mono ?_
  rintro e w' ⟨rfl, rfl⟩
  rw [HP.out.1]
  go_wp2_with fail
  refine (word_c _ _ hx0 hx).mono ?_
  rintro e w' ⟨rfl, rfl⟩
  rw [HP.out.2]
  go_wp2_with fail
  refine (change_1 _ _ _ p0 p1 q0 q1).mono ?_
  rintro e w' ⟨rfl, rfl⟩
  go_wp2_with fail
  go_ret2
  exact ⟨rfl, rfl⟩
set_option maxHeartbeats 1000000 in
theorem amo_d2 (m x : Int) (w : World) (hm0 : 0 ≤ m) (hm : m < 18446744073709551616) (hx0 : 0 ≤ x) (hx : x < 18446744073709551616) : Calls Try.prog 5 #[.int .i64 82, .int .u64 m, .int .u64 x] w fun e w' => e = .returned (.tuple #[.int .u64 (amoG 2 m x), .bool true]) ∧ w = w' := by
  have hi : isB 82 = true := by decide +kernel
  have hs : sizeS 82 = 8 := by decide +kernel
  go_enter Try.func5, Try.ntmps5
  go_wp2_with fail
  refine (is_c _ _).mono ?_
  rintro e w' ⟨rfl, rfl⟩
  rw [hi]
  go_wp2_with fail
  refine (size_c _ _).mono ?_
  rintro e w' ⟨rfl, rfl⟩
  rw [hs]
  go_wp2_with fail
  refine (change_2 _ _ _ hm0 hm hx0 hx).mono ?_
  rintro e w' ⟨rfl, rfl⟩
  go_wp2_with fail
  go_ret2
  exact ⟨rfl, rfl⟩
set_option maxHeartbeats 1000000 in
theorem amo_w2 (m x : Int) (w : World) (hm0 : 0 ≤ m) (hm : m < 18446744073709551616) (hx0 : 0 ≤ x) (hx : x < 18446744073709551616) : Calls Try.prog 5 #[.int .i64 71, .int .u64 m, .int .u64 x] w fun e w' => e = .returned (.tuple #[.int .u64 (amoG 2 (signS m 32) (signS x 32) % 4294967296), .bool true]) ∧ w = w' := by
  have hi : isB 71 = true := by decide +kernel
  have hs : sizeS 71 = 4 := by decide +kernel
  obtain ⟨p0, p1⟩ := signS_range m 32
  obtain ⟨q0, q1⟩ := signS_range x 32
  generalize hP : signS m 32 = P at *
  generalize hQ : signS x 32 = Q at *
  have HP := Lib.hid (And.intro hP hQ)
  clear hP hQ
  go_enter Try.func5, Try.ntmps5
  go_wp2_with fail
  refine (is_c _ _).mono ?_
  rintro e w' ⟨rfl, rfl⟩
  rw [hi]
  go_wp2_with fail
  refine (size_c _ _).mono ?_
  rintro e w' ⟨rfl, rfl⟩
  rw [hs]
  go_wp2_with fail
  refine (amo_long _ _ (by omega) (by omega)).mono ?_
  rintro e w' ⟨rfl, rfl⟩
  go_wp2_with fail
  refine (word_c _ _ hm0 hm).mono ?_
  rintro e w' ⟨rfl, rfl⟩
  rw [HP.out.1]
  go_wp2_with fail
  refine (word_c _ _ hx0 hx).mono ?_
  rintro e w' ⟨rfl, rfl⟩
  rw [HP.out.2]
  go_wp2_with fail
  refine (change_2 _ _ _ p0 p1 q0 q1).mono ?_
  rintro e w' ⟨rfl, rfl⟩
  go_wp2_with fail
  go_ret2
  exact ⟨rfl, rfl⟩
set_option maxHeartbeats 1000000 in
theorem amo_d3 (m x : Int) (w : World) (hm0 : 0 ≤ m) (hm : m < 18446744073709551616) (hx0 : 0 ≤ x) (hx : x < 18446744073709551616) : Calls Try.prog 5 #[.int .i64 83, .int .u64 m, .int .u64 x] w fun e w' => e = .returned (.tuple #[.int .u64 (amoG 3 m x), .bool true]) ∧ w = w' := by
  have hi : isB 83 = true := by decide +kernel
  have hs : sizeS 83 = 8 := by decide +kernel
  go_enter Try.func5, Try.ntmps5
  go_wp2_with fail
  refine (is_c _ _).mono ?_
  rintro e w' ⟨rfl, rfl⟩
  rw [hi]
  go_wp2_with fail
  refine (size_c _ _).mono ?_
  rintro e w' ⟨rfl, rfl⟩
  rw [hs]
  go_wp2_with fail
  refine (change_3 _ _ _ hm0 hm hx0 hx).mono ?_
  rintro e w' ⟨rfl, rfl⟩
  go_wp2_with fail
  go_ret2
  exact ⟨rfl, rfl⟩
set_option maxHeartbeats 1000000 in
theorem amo_w3 (m x : Int) (w : World) (hm0 : 0 ≤ m) (hm : m < 18446744073709551616) (hx0 : 0 ≤ x) (hx : x < 18446744073709551616) : Calls Try.prog 5 #[.int .i64 72, .int .u64 m, .int .u64 x] w fun e w' => e = .returned (.tuple #[.int .u64 (amoG 3 (signS m 32) (signS x 32) % 4294967296), .bool true]) ∧ w = w' := by
  have hi : isB 72 = true := by decide +kernel
  have hs : sizeS 72 = 4 := by decide +kernel
  obtain ⟨p0, p1⟩ := signS_range m 32
  obtain ⟨q0, q1⟩ := signS_range x 32
  generalize hP : signS m 32 = P at *
  generalize hQ : signS x 32 = Q at *
  have HP := Lib.hid (And.intro hP hQ)
  clear hP hQ
  go_enter Try.func5, Try.ntmps5
  go_wp2_with fail
  refine (is_c _ _).mono ?_
  rintro e w' ⟨rfl, rfl⟩
  rw [hi]
  go_wp2_with fail
  refine (size_c _ _).mono ?_
  rintro e w' ⟨rfl, rfl⟩
  rw [hs]
  go_wp2_with fail
  refine (amo_long _ _ (by omega) (by omega)).mono ?_
  rintro e w' ⟨rfl, rfl⟩
  go_wp2_with fail
  refine (word_c _ _ hm0 hm).mono ?_
  rintro e w' ⟨rfl, rfl⟩
  rw [HP.out.1]
  go_wp2_with fail
  refine (word_c _ _ hx0 hx).mono ?_
  rintro e w' ⟨rfl, rfl⟩
  rw [HP.out.2]
  go_wp2_with fail
  refine (change_3 _ _ _ p0 p1 q0 q1).mono ?_
  rintro e w' ⟨rfl, rfl⟩
  go_wp2_with fail
  go_ret2
  exact ⟨rfl, rfl⟩
set_option maxHeartbeats 1000000 in
theorem amo_d4 (m x : Int) (w : World) (hm0 : 0 ≤ m) (hm : m < 18446744073709551616) (hx0 : 0 ≤ x) (hx : x < 18446744073709551616) : Calls Try.prog 5 #[.int .i64 84, .int .u64 m, .int .u64 x] w fun e w' => e = .returned (.tuple #[.int .u64 (amoG 4 m x), .bool true]) ∧ w = w' := by
  have hi : isB 84 = true := by decide +kernel
  have hs : sizeS 84 = 8 := by decide +kernel
  go_enter Try.func5, Try.ntmps5
  go_wp2_with fail
  refine (is_c _ _).mono ?_
  rintro e w' ⟨rfl, rfl⟩
  rw [hi]
  go_wp2_with fail
  refine (size_c _ _).mono ?_
  rintro e w' ⟨rfl, rfl⟩
  rw [hs]
  go_wp2_with fail
  refine (change_4 _ _ _ hm0 hm hx0 hx).mono ?_
  rintro e w' ⟨rfl, rfl⟩
  go_wp2_with fail
  go_ret2
  exact ⟨rfl, rfl⟩
set_option maxHeartbeats 1000000 in
theorem amo_w4 (m x : Int) (w : World) (hm0 : 0 ≤ m) (hm : m < 18446744073709551616) (hx0 : 0 ≤ x) (hx : x < 18446744073709551616) : Calls Try.prog 5 #[.int .i64 73, .int .u64 m, .int .u64 x] w fun e w' => e = .returned (.tuple #[.int .u64 (amoG 4 (signS m 32) (signS x 32) % 4294967296), .bool true]) ∧ w = w' := by
  have hi : isB 73 = true := by decide +kernel
  have hs : sizeS 73 = 4 := by decide +kernel
  obtain ⟨p0, p1⟩ := signS_range m 32
  obtain ⟨q0, q1⟩ := signS_range x 32
  generalize hP : signS m 32 = P at *
  generalize hQ : signS x 32 = Q at *
  have HP := Lib.hid (And.intro hP hQ)
  clear hP hQ
  go_enter Try.func5, Try.ntmps5
  go_wp2_with fail
  refine (is_c _ _).mono ?_
  rintro e w' ⟨rfl, rfl⟩
  rw [hi]
  go_wp2_with fail
  refine (size_c _ _).mono ?_
  rintro e w' ⟨rfl, rfl⟩
  rw [hs]
  go_wp2_with fail
  refine (amo_long _ _ (by omega) (by omega)).mono ?_
  rintro e w' ⟨rfl, rfl⟩
  go_wp2_with fail
  refine (word_c _ _ hm0 hm).mono ?_
  rintro e w' ⟨rfl, rfl⟩
  rw [HP.out.1]
  go_wp2_with fail
  refine (word_c _ _ hx0 hx).mono ?_
  rintro e w' ⟨rfl, rfl⟩
  rw [HP.out.2]
  go_wp2_with fail
  refine (change_4 _ _ _ p0 p1 q0 q1).mono ?_
  rintro e w' ⟨rfl, rfl⟩
  go_wp2_with fail
  go_ret2
  exact ⟨rfl, rfl⟩
set_option maxHeartbeats 1000000 in
theorem amo_d5 (m x : Int) (w : World) (hm0 : 0 ≤ m) (hm : m < 18446744073709551616) (hx0 : 0 ≤ x) (hx : x < 18446744073709551616) : Calls Try.prog 5 #[.int .i64 85, .int .u64 m, .int .u64 x] w fun e w' => e = .returned (.tuple #[.int .u64 (amoG 5 m x), .bool true]) ∧ w = w' := by
  have hi : isB 85 = true := by decide +kernel
  have hs : sizeS 85 = 8 := by decide +kernel
  go_enter Try.func5, Try.ntmps5
  go_wp2_with fail
  refine (is_c _ _).mono ?_
  rintro e w' ⟨rfl, rfl⟩
  rw [hi]
  go_wp2_with fail
  refine (size_c _ _).mono ?_
  rintro e w' ⟨rfl, rfl⟩
  rw [hs]
  go_wp2_with fail
  refine (change_5 _ _ _ hm0 hm hx0 hx).mono ?_
  rintro e w' ⟨rfl, rfl⟩
  go_wp2_with fail
  go_ret2
  exact ⟨rfl, rfl⟩
set_option maxHeartbeats 1000000 in
theorem amo_w5 (m x : Int) (w : World) (hm0 : 0 ≤ m) (hm : m < 18446744073709551616) (hx0 : 0 ≤ x) (hx : x < 18446744073709551616) : Calls Try.prog 5 #[.int .i64 74, .int .u64 m, .int .u64 x] w fun e w' => e = .returned (.tuple #[.int .u64 (amoG 5 (signS m 32) (signS x 32) % 4294967296), .bool true]) ∧ w = w' := by
  have hi : isB 74 = true := by decide +kernel
  have hs : sizeS 74 = 4 := by decide +kernel
  obtain ⟨p0, p1⟩ := signS_range m 32
  obtain ⟨q0, q1⟩ := signS_range x 32
  generalize hP : signS m 32 = P at *
  generalize hQ : signS x 32 = Q at *
  have HP := Lib.hid (And.intro hP hQ)
  clear hP hQ
  go_enter Try.func5, Try.ntmps5
  go_wp2_with fail
  refine (is_c _ _).mono ?_
  rintro e w' ⟨rfl, rfl⟩
  rw [hi]
  go_wp2_with fail
  refine (size_c _ _).mono ?_
  rintro e w' ⟨rfl, rfl⟩
  rw [hs]
  go_wp2_with fail
  refine (amo_long _ _ (by omega) (by omega)).mono ?_
  rintro e w' ⟨rfl, rfl⟩
  go_wp2_with fail
  refine (word_c _ _ hm0 hm).mono ?_
  rintro e w' ⟨rfl, rfl⟩
  rw [HP.out.1]
  go_wp2_with fail
  refine (word_c _ _ hx0 hx).mono ?_
  rintro e w' ⟨rfl, rfl⟩
  rw [HP.out.2]
  go_wp2_with fail
  refine (change_5 _ _ _ p0 p1 q0 q1).mono ?_
  rintro e w' ⟨rfl, rfl⟩
  go_wp2_with fail
  go_ret2
  exact ⟨rfl, rfl⟩
set_option maxHeartbeats 1000000 in
theorem amo_d6 (m x : Int) (w : World) (hm0 : 0 ≤ m) (hm : m < 18446744073709551616) (hx0 : 0 ≤ x) (hx : x < 18446744073709551616) : Calls Try.prog 5 #[.int .i64 86, .int .u64 m, .int .u64 x] w fun e w' => e = .returned (.tuple #[.int .u64 (amoG 6 m x), .bool true]) ∧ w = w' := by
  have hi : isB 86 = true := by decide +kernel
  have hs : sizeS 86 = 8 := by decide +kernel
  go_enter Try.func5, Try.ntmps5
  go_wp2_with fail
  refine (is_c _ _).mono ?_
  rintro e w' ⟨rfl, rfl⟩
  rw [hi]
  go_wp2_with fail
  refine (size_c _ _).mono ?_
  rintro e w' ⟨rfl, rfl⟩
  rw [hs]
  go_wp2_with fail
  refine (change_6 _ _ _ hm0 hm hx0 hx).mono ?_
  rintro e w' ⟨rfl, rfl⟩
  go_wp2_with fail
  go_ret2
  exact ⟨rfl, rfl⟩
set_option maxHeartbeats 1000000 in
theorem amo_w6 (m x : Int) (w : World) (hm0 : 0 ≤ m) (hm : m < 18446744073709551616) (hx0 : 0 ≤ x) (hx : x < 18446744073709551616) : Calls Try.prog 5 #[.int .i64 75, .int .u64 m, .int .u64 x] w fun e w' => e = .returned (.tuple #[.int .u64 (amoG 6 (signS m 32) (signS x 32) % 4294967296), .bool true]) ∧ w = w' := by
  have hi : isB 75 = true := by decide +kernel
  have hs : sizeS 75 = 4 := by decide +kernel
  obtain ⟨p0, p1⟩ := signS_range m 32
  obtain ⟨q0, q1⟩ := signS_range x 32
  generalize hP : signS m 32 = P at *
  generalize hQ : signS x 32 = Q at *
  have HP := Lib.hid (And.intro hP hQ)
  clear hP hQ
  go_enter Try.func5, Try.ntmps5
  go_wp2_with fail
  refine (is_c _ _).mono ?_
  rintro e w' ⟨rfl, rfl⟩
  rw [hi]
  go_wp2_with fail
  refine (size_c _ _).mono ?_
  rintro e w' ⟨rfl, rfl⟩
  rw [hs]
  go_wp2_with fail
  refine (amo_long _ _ (by omega) (by omega)).mono ?_
  rintro e w' ⟨rfl, rfl⟩
  go_wp2_with fail
  refine (word_c _ _ hm0 hm).mono ?_
  rintro e w' ⟨rfl, rfl⟩
  rw [HP.out.1]
  go_wp2_with fail
  refine (word_c _ _ hx0 hx).mono ?_
  rintro e w' ⟨rfl, rfl⟩
  rw [HP.out.2]
  go_wp2_with fail
  refine (change_6 _ _ _ p0 p1 q0 q1).mono ?_
  rintro e w' ⟨rfl, rfl⟩
  go_wp2_with fail
  go_ret2
  exact ⟨rfl, rfl⟩
set_option maxHeartbeats 1000000 in
theorem amo_d7 (m x : Int) (w : World) (hm0 : 0 ≤ m) (hm : m < 18446744073709551616) (hx0 : 0 ≤ x) (hx : x < 18446744073709551616) : Calls Try.prog 5 #[.int .i64 87, .int .u64 m, .int .u64 x] w fun e w' => e = .returned (.tuple #[.int .u64 (amoG 7 m x), .bool true]) ∧ w = w' := by
  have hi : isB 87 = true := by decide +kernel
  have hs : sizeS 87 = 8 := by decide +kernel
  go_enter Try.func5, Try.ntmps5
  go_wp2_with fail
  refine (is_c _ _).mono ?_
  rintro e w' ⟨rfl, rfl⟩
  rw [hi]
  go_wp2_with fail
  refine (size_c _ _).mono ?_
  rintro e w' ⟨rfl, rfl⟩
  rw [hs]
  go_wp2_with fail
  refine (change_7 _ _ _ hm0 hm hx0 hx).mono ?_
  rintro e w' ⟨rfl, rfl⟩
  go_wp2_with fail
  go_ret2
  exact ⟨rfl, rfl⟩
set_option maxHeartbeats 1000000 in
theorem amo_w7 (m x : Int) (w : World) (hm0 : 0 ≤ m) (hm : m < 18446744073709551616) (hx0 : 0 ≤ x) (hx : x < 18446744073709551616) : Calls Try.prog 5 #[.int .i64 76, .int .u64 m, .int .u64 x] w fun e w' => e = .returned (.tuple #[.int .u64 (amoG 7 (signS m 32) (signS x 32) % 4294967296), .bool true]) ∧ w = w' := by
  have hi : isB 76 = true := by decide +kernel
  have hs : sizeS 76 = 4 := by decide +kernel
  obtain ⟨p0, p1⟩ := signS_range m 32
  obtain ⟨q0, q1⟩ := signS_range x 32
  generalize hP : signS m 32 = P at *
  generalize hQ : signS x 32 = Q at *
  have HP := Lib.hid (And.intro hP hQ)
  clear hP hQ
  go_enter Try.func5, Try.ntmps5
  go_wp2_with fail
  refine (is_c _ _).mono ?_
  rintro e w' ⟨rfl, rfl⟩
  rw [hi]
  go_wp2_with fail
  refine (size_c _ _).mono ?_
  rintro e w' ⟨rfl, rfl⟩
  rw [hs]
  go_wp2_with fail
  refine (amo_long _ _ (by omega) (by omega)).mono ?_
  rintro e w' ⟨rfl, rfl⟩
  go_wp2_with fail
  refine (word_c _ _ hm0 hm).mono ?_
  rintro e w' ⟨rfl, rfl⟩
  rw [HP.out.1]
  go_wp2_with fail
  refine (word_c _ _ hx0 hx).mono ?_
  rintro e w' ⟨rfl, rfl⟩
  rw [HP.out.2]
  go_wp2_with fail
  refine (change_7 _ _ _ p0 p1 q0 q1).mono ?_
  rintro e w' ⟨rfl, rfl⟩
  go_wp2_with fail
  go_ret2
  exact ⟨rfl, rfl⟩
set_option maxHeartbeats 1000000 in
theorem amo_d8 (m x : Int) (w : World) (hm0 : 0 ≤ m) (hm : m < 18446744073709551616) (hx0 : 0 ≤ x) (hx : x < 18446744073709551616) : Calls Try.prog 5 #[.int .i64 88, .int .u64 m, .int .u64 x] w fun e w' => e = .returned (.tuple #[.int .u64 (amoG 8 m x), .bool true]) ∧ w = w' := by
  have hi : isB 88 = true := by decide +kernel
  have hs : sizeS 88 = 8 := by decide +kernel
  go_enter Try.func5, Try.ntmps5
  go_wp2_with fail
  refine (is_c _ _).mono ?_
  rintro e w' ⟨rfl, rfl⟩
  rw [hi]
  go_wp2_with fail
  refine (size_c _ _).mono ?_
  rintro e w' ⟨rfl, rfl⟩
  rw [hs]
  go_wp2_with fail
  refine (change_8 _ _ _ hm0 hm hx0 hx).mono ?_
  rintro e w' ⟨rfl, rfl⟩
  go_wp2_with fail
  go_ret2
  exact ⟨rfl, rfl⟩
set_option maxHeartbeats 1000000 in
theorem amo_w8 (m x : Int) (w : World) (hm0 : 0 ≤ m) (hm : m < 18446744073709551616) (hx0 : 0 ≤ x) (hx : x < 18446744073709551616) : Calls Try.prog 5 #[.int .i64 77, .int .u64 m, .int .u64 x] w fun e w' => e = .returned (.tuple #[.int .u64 (amoG 8 (signS m 32) (signS x 32) % 4294967296), .bool true]) ∧ w = w' := by
  have hi : isB 77 = true := by decide +kernel
  have hs : sizeS 77 = 4 := by decide +kernel
  obtain ⟨p0, p1⟩ := signS_range m 32
  obtain ⟨q0, q1⟩ := signS_range x 32
  generalize hP : signS m 32 = P at *
  generalize hQ : signS x 32 = Q at *
  have HP := Lib.hid (And.intro hP hQ)
  clear hP hQ
  go_enter Try.func5, Try.ntmps5
  go_wp2_with fail
  refine (is_c _ _).mono ?_
  rintro e w' ⟨rfl, rfl⟩
  rw [hi]
  go_wp2_with fail
  refine (size_c _ _).mono ?_
  rintro e w' ⟨rfl, rfl⟩
  rw [hs]
  go_wp2_with fail
  refine (amo_long _ _ (by omega) (by omega)).mono ?_
  rintro e w' ⟨rfl, rfl⟩
  go_wp2_with fail
  refine (word_c _ _ hm0 hm).mono ?_
  rintro e w' ⟨rfl, rfl⟩
  rw [HP.out.1]
  go_wp2_with fail
  refine (word_c _ _ hx0 hx).mono ?_
  rintro e w' ⟨rfl, rfl⟩
  rw [HP.out.2]
  go_wp2_with fail
  refine (change_8 _ _ _ p0 p1 q0 q1).mono ?_
  rintro e w' ⟨rfl, rfl⟩
  go_wp2_with fail
  go_ret2
  exact ⟨rfl, rfl⟩
theorem amo_no (op m x : Int) (w : World) (h : isB op = false) : Calls Try.prog 5 #[.int .i64 op, .int .u64 m, .int .u64 x] w fun e w' => e = .returned (.tuple #[.int .u64 0, .bool false]) ∧ w = w' := by
  go_enter Try.func5, Try.ntmps5
  go_wp2_with fail
  refine (is_c _ _).mono ?_
  rintro e w' ⟨rfl, rfl⟩
  rw [h]
  go_wp2_with fail
  go_ret2
  exact ⟨rfl, rfl⟩
def loadedS (op m : Int) : Int := if classS op = 7 then if sizeS op = 4 then signS m 32 else m else 0
set_option maxHeartbeats 1000000 in
theorem loaded_c (op m : Int) (w : World) (hm0 : 0 ≤ m) (hm : m < 18446744073709551616) : Calls Try.prog 11 #[.int .i64 op, .int .u64 m] w fun e w' => e = .returned (.int .u64 (loadedS op m)) ∧ w = w' := by
  by_cases h7 : classS op = 7
  · by_cases h4 : sizeS op = 4
    · have HS := Lib.hid (show signS m 32 = loadedS op m by unfold loadedS; rw [if_pos h7, if_pos h4])
      go_enter Try.func11, Try.ntmps11
      go_wp2_with fail
      refine (class_c _ _).mono ?_
      rintro e w' ⟨rfl, rfl⟩
      rw [h7]
      go_wp2_with fail
      refine (size_c _ _).mono ?_
      rintro e w' ⟨rfl, rfl⟩
      rw [h4]
      go_wp2_with fail
      refine (word_c _ _ hm0 hm).mono ?_
      rintro e w' ⟨rfl, rfl⟩
      go_wp2_with fail
      go_ret
      exact ⟨ret_u HS.out, rfl⟩
    · have HS := Lib.hid (show m = loadedS op m by unfold loadedS; rw [if_pos h7, if_neg h4])
      have e4 : (sizeS op == 4) = false := by simpa using h4
      clear h4
      go_enter Try.func11, Try.ntmps11
      go_wp2_with fail
      refine (class_c _ _).mono ?_
      rintro e w' ⟨rfl, rfl⟩
      rw [h7]
      go_wp2_with fail
      refine (size_c _ _).mono ?_
      rintro e w' ⟨rfl, rfl⟩
      go_wp2_with fail
      go_ret
      exact ⟨ret_u HS.out, rfl⟩
  · have HS := Lib.hid (show 0 = loadedS op m by unfold loadedS; rw [if_neg h7])
    have e7 : (classS op != 7) = true := by simpa using h7
    clear h7
    go_enter Try.func11, Try.ntmps11
    go_wp2_with fail
    refine (class_c _ _).mono ?_
    rintro e w' ⟨rfl, rfl⟩
    go_wp2_with fail
    go_ret
    exact ⟨ret_u HS.out, rfl⟩
end Go.Proofs.Ytgfdielipbcfeaa
