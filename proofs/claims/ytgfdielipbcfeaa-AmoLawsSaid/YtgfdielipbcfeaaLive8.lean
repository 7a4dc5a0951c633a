/-
  The chapter's examples of layer 8 (live), law.do, and what package amo and the reference come to.
-/
import Derived.Test.YtgfdielipbcfeaaAmoB
import Derived.Test.YtgfdielipbcfeaaAmoB1
import Derived.Test.YtgfdielipbcfeaaFrame
namespace Go.Proofs.Ytgfdielipbcfeaa
open Go.ChangeShapes Go.WideShapes Go.ChangeAt Go.RowKit Wd

theorem live_add : amoG 1 (signS 4294967295 32) (signS 2 32) % 4294967296 = 1 := by decide +kernel
theorem live_max : amoG 6 (signS 2147483648 32) (signS 1 32) % 4294967296 = 1 := by decide +kernel
theorem live_or : loadedS 73 2147483648 = 18446744071562067968 := by decide +kernel
set_option maxHeartbeats 1000000 in
theorem live8_c (w : World) : Calls Try.prog 13 #[] w fun e w' => e = .returned (.bool true) ∧ w = w' := by
  have h1 := live_add
  have h2 := live_max
  have h3 := live_or
  go_enter Try.func13, Try.ntmps13
  go_wp2_with fail
  refine (amo_w1 _ _ _ (by omega) (by omega) (by omega) (by omega)).mono ?_
  rintro e w' ⟨rfl, rfl⟩
  simp only [h1]
  go_wp2_with fail
  refine (amo_w6 _ _ _ (by omega) (by omega) (by omega) (by omega)).mono ?_
  rintro e w' ⟨rfl, rfl⟩
  simp only [h2]
  go_wp2_with fail
  refine (loaded_c _ _ _ (by omega) (by omega)).mono ?_
  rintro e w' ⟨rfl, rfl⟩
  rw [h3]
  go_wp2_with fail
  go_ret
  exact ⟨rfl, rfl⟩
def AmoIs (op m x v : Int) (ok : Bool) : Prop := ∀ w : World, Calls Try.prog 5 #[.int .i64 op, .int .u64 m, .int .u64 x] w fun e w' => e = .returned (.tuple #[.int .u64 v, .bool ok]) ∧ w = w'
def AmoRef (op m x v : Int) (ok : Bool) : Prop := ∀ w : World, Calls Try.prog 6 #[.int .i64 op, .int .u64 m, .int .u64 x] w fun e w' => e = .returned (.tuple #[.int .u64 v, .bool ok]) ∧ Below w.heap.size w w'
theorem ldo8 {op m x v : Int} {ok : Bool} (h : AmoIs op m x v ok) (w : World) : Calls Try.prog 14 #[.int .i64 op, .int .u64 m, .int .u64 x] w fun e w' => e = .returned (.int .u64 v) ∧ w = w' := by
  go_enter Try.func14, Try.ntmps14
  go_wp2_with fail
  refine (h _).mono ?_
  rintro e w1 ⟨rfl, rfl⟩
  go_wp2_with fail
  go_ret
  exact ⟨rfl, rfl⟩
theorem refAmo_no (op m x k : Int) (w : World) (hi : ∀ w : World, Calls Try.prog 7 #[.int .i64 op] w fun e w' => e = .returned (.int .i64 k) ∧ Below w.heap.size w w') (hk : ¬ k = 1) :
    Calls Try.prog 6 #[.int .i64 op, .int .u64 m, .int .u64 x] w fun e w' => e = .returned (.tuple #[.int .u64 0, .bool false]) ∧ Below w.heap.size w w' := by
  have e1 : (k != 1) = true := by simpa using hk
  clear hk
  go_enter Try.func6, Try.ntmps6
  go_wp2_with fail
  refine (hi _).mono ?_
  rintro e w1 ⟨rfl, hb⟩
  have HB := Lib.hid hb
  clear hb
  go_wp2_with fail
  go_ret2
  exact ⟨rfl, HB.out⟩
theorem class_seven {op : Int} : classS op = 7 ↔ (67 ≤ op ∧ op ≤ 88) := by
  have l : ∀ k : Fin 99, classL.getD k.val 0 = 7 ↔ (67 ≤ k.val ∧ k.val ≤ 88) := by decide +kernel
  unfold classS
  split
  · have := l ⟨op.toNat, by omega⟩
    simp only at this
    omega
  · omega
/-- What is asked of an op: 1 an AMO, 2 a link, 3 a conditional, 0 none. -/
def kindN (op : Int) : Int := if classS op = 7 then if op = 67 ∨ op = 78 then 2 else if op = 68 ∨ op = 79 then 3 else 1 else 0
theorem refIs_c (op : Int) (w : World) : Calls Try.prog 7 #[.int .i64 op] w fun e w' => e = .returned (.int .i64 (kindN op)) ∧ Below w.heap.size w w' := by
  by_cases h : classS op = 7
  · have hr := class_seven.1 h
    have : op = 67 ∨ op = 68 ∨ op = 69 ∨ op = 70 ∨ op = 71 ∨ op = 72 ∨ op = 73 ∨ op = 74 ∨ op = 75 ∨ op = 76 ∨ op = 77 ∨ op = 78 ∨ op = 79 ∨ op = 80 ∨ op = 81 ∨ op = 82 ∨ op = 83 ∨ op = 84 ∨ op = 85 ∨ op = 86 ∨ op = 87 ∨ op = 88 := by omega
    rcases this with rfl | rfl | rfl | rfl | rfl | rfl | rfl | rfl | rfl | rfl | rfl | rfl | rfl | rfl | rfl | rfl | rfl | rfl | rfl | rfl | rfl | rfl
    · exact (show kindN 67 = 2 by decide +kernel) ▸ refIs_67 w
    · exact (show kindN 68 = 3 by decide +kernel) ▸ refIs_68 w
    · exact (show kindN 69 = 1 by decide +kernel) ▸ refIs_69 w
    · exact (show kindN 70 = 1 by decide +kernel) ▸ refIs_70 w
    · exact (show kindN 71 = 1 by decide +kernel) ▸ refIs_71 w
    · exact (show kindN 72 = 1 by decide +kernel) ▸ refIs_72 w
    · exact (show kindN 73 = 1 by decide +kernel) ▸ refIs_73 w
    · exact (show kindN 74 = 1 by decide +kernel) ▸ refIs_74 w
    · exact (show kindN 75 = 1 by decide +kernel) ▸ refIs_75 w
    · exact (show kindN 76 = 1 by decide +kernel) ▸ refIs_76 w
    · exact (show kindN 77 = 1 by decide +kernel) ▸ refIs_77 w
    · exact (show kindN 78 = 2 by decide +kernel) ▸ refIs_78 w
    · exact (show kindN 79 = 3 by decide +kernel) ▸ refIs_79 w
    · exact (show kindN 80 = 1 by decide +kernel) ▸ refIs_80 w
    · exact (show kindN 81 = 1 by decide +kernel) ▸ refIs_81 w
    · exact (show kindN 82 = 1 by decide +kernel) ▸ refIs_82 w
    · exact (show kindN 83 = 1 by decide +kernel) ▸ refIs_83 w
    · exact (show kindN 84 = 1 by decide +kernel) ▸ refIs_84 w
    · exact (show kindN 85 = 1 by decide +kernel) ▸ refIs_85 w
    · exact (show kindN 86 = 1 by decide +kernel) ▸ refIs_86 w
    · exact (show kindN 87 = 1 by decide +kernel) ▸ refIs_87 w
    · exact (show kindN 88 = 1 by decide +kernel) ▸ refIs_88 w
  · have e : kindN op = 0 := by unfold kindN; rw [if_neg h]
    rw [e]
    exact refIs_no op h w
theorem isB_one (op : Int) : isB op = (kindN op == 1) := by
  unfold isB kindN linkB condB
  by_cases h : classS op = 7
  · by_cases h1 : op = 67 ∨ op = 78
    · rcases h1 with rfl | rfl <;> decide +kernel
    · by_cases h2 : op = 68 ∨ op = 79
      · rcases h2 with rfl | rfl <;> decide +kernel
      · have e1 : (op == 67) = false := by simp; omega
        have e2 : (op == 78) = false := by simp; omega
        have e3 : (op == 68) = false := by simp; omega
        have e4 : (op == 79) = false := by simp; omega
        rw [if_pos h, if_neg h1, if_neg h2, h, e1, e2, e3, e4]
        rfl
  · have e : (classS op == 7) = false := by simpa using h
    rw [if_neg h, e]
    rfl
theorem linkB_two (op : Int) : linkB op = (kindN op == 2) := by
  unfold linkB kindN
  by_cases h1 : op = 67 ∨ op = 78
  · rcases h1 with rfl | rfl <;> decide +kernel
  · have e1 : (op == 67) = false := by simp; omega
    have e2 : (op == 78) = false := by simp; omega
    rw [e1, e2, if_neg h1]
    split
    · split <;> rfl
    · rfl
theorem condB_three (op : Int) : condB op = (kindN op == 3) := by
  unfold condB kindN
  by_cases h1 : op = 68 ∨ op = 79
  · rcases h1 with rfl | rfl <;> decide +kernel
  · have e1 : (op == 68) = false := by simp; omega
    have e2 : (op == 79) = false := by simp; omega
    rw [e1, e2, if_neg h1]
    split
    · split <;> rfl
    · rfl
theorem amo_both (op m x : Int) (hm0 : 0 ≤ m) (hm : m < 18446744073709551616) (hx0 : 0 ≤ x) (hx : x < 18446744073709551616) : ∃ v ok, AmoIs op m x v ok ∧ AmoRef op m x v ok := by
  by_cases h : isB op = true
  · have hk : kindN op = 1 := by rw [isB_one] at h; simpa using h
    have hr : 67 ≤ op ∧ op ≤ 88 ∧ op ≠ 67 ∧ op ≠ 78 ∧ op ≠ 68 ∧ op ≠ 79 := by
      unfold kindN at hk
      split at hk
      · rename_i h7
        have := class_seven.1 h7
        split at hk
        · omega
        · split at hk
          · omega
          · omega
      · omega
    have : op = 69 ∨ op = 70 ∨ op = 71 ∨ op = 72 ∨ op = 73 ∨ op = 74 ∨ op = 75 ∨ op = 76 ∨ op = 77 ∨ op = 80 ∨ op = 81 ∨ op = 82 ∨ op = 83 ∨ op = 84 ∨ op = 85 ∨ op = 86 ∨ op = 87 ∨ op = 88 := by omega
    rcases this with rfl | rfl | rfl | rfl | rfl | rfl | rfl | rfl | rfl | rfl | rfl | rfl | rfl | rfl | rfl | rfl | rfl | rfl
    · exact ⟨_, _, fun w => amo_w0 m x w hm0 hm hx0 hx, fun w => refAmo_69 m x w hm0 hm hx0 hx⟩
    · exact ⟨_, _, fun w => amo_w1 m x w hm0 hm hx0 hx, fun w => refAmo_70 m x w hm0 hm hx0 hx⟩
    · exact ⟨_, _, fun w => amo_w2 m x w hm0 hm hx0 hx, fun w => refAmo_71 m x w hm0 hm hx0 hx⟩
    · exact ⟨_, _, fun w => amo_w3 m x w hm0 hm hx0 hx, fun w => refAmo_72 m x w hm0 hm hx0 hx⟩
    · exact ⟨_, _, fun w => amo_w4 m x w hm0 hm hx0 hx, fun w => refAmo_73 m x w hm0 hm hx0 hx⟩
    · exact ⟨_, _, fun w => amo_w5 m x w hm0 hm hx0 hx, fun w => refAmo_74 m x w hm0 hm hx0 hx⟩
    · exact ⟨_, _, fun w => amo_w6 m x w hm0 hm hx0 hx, fun w => refAmo_75 m x w hm0 hm hx0 hx⟩
    · exact ⟨_, _, fun w => amo_w7 m x w hm0 hm hx0 hx, fun w => refAmo_76 m x w hm0 hm hx0 hx⟩
    · exact ⟨_, _, fun w => amo_w8 m x w hm0 hm hx0 hx, fun w => refAmo_77 m x w hm0 hm hx0 hx⟩
    · exact ⟨_, _, fun w => amo_d0 m x w hm0 hm hx0 hx, fun w => refAmo_80 m x w hm0 hm hx0 hx⟩
    · exact ⟨_, _, fun w => amo_d1 m x w hm0 hm hx0 hx, fun w => refAmo_81 m x w hm0 hm hx0 hx⟩
    · exact ⟨_, _, fun w => amo_d2 m x w hm0 hm hx0 hx, fun w => refAmo_82 m x w hm0 hm hx0 hx⟩
    · exact ⟨_, _, fun w => amo_d3 m x w hm0 hm hx0 hx, fun w => refAmo_83 m x w hm0 hm hx0 hx⟩
    · exact ⟨_, _, fun w => amo_d4 m x w hm0 hm hx0 hx, fun w => refAmo_84 m x w hm0 hm hx0 hx⟩
    · exact ⟨_, _, fun w => amo_d5 m x w hm0 hm hx0 hx, fun w => refAmo_85 m x w hm0 hm hx0 hx⟩
    · exact ⟨_, _, fun w => amo_d6 m x w hm0 hm hx0 hx, fun w => refAmo_86 m x w hm0 hm hx0 hx⟩
    · exact ⟨_, _, fun w => amo_d7 m x w hm0 hm hx0 hx, fun w => refAmo_87 m x w hm0 hm hx0 hx⟩
    · exact ⟨_, _, fun w => amo_d8 m x w hm0 hm hx0 hx, fun w => refAmo_88 m x w hm0 hm hx0 hx⟩
  · have h' : isB op = false := by simpa using h
    have hk : ¬ kindN op = 1 := by rw [isB_one] at h'; simpa using h'
    exact ⟨_, _, fun w => amo_no op m x w h', fun w => refAmo_no op m x _ w (refIs_c op) hk⟩
theorem refLoaded_c (op m : Int) (w : World) (hm0 : 0 ≤ m) (hm : m < 18446744073709551616) : Calls Try.prog 12 #[.int .i64 op, .int .u64 m] w fun e w' => e = .returned (.int .u64 (loadedS op m)) ∧ Below w.heap.size w w' := by
  by_cases h7 : classS op = 7
  · have hs : sizeS op = 4 ∨ sizeS op = 8 := by
      have l : ∀ k : Fin 99, classL.getD k.val 0 = 7 → sizeL.getD k.val 0 = 4 ∨ sizeL.getD k.val 0 = 8 := by decide +kernel
      have hr := class_seven.1 h7
      unfold classS at h7
      rw [if_pos (by omega)] at h7
      have := l ⟨op.toNat, by omega⟩ (by simp only; omega)
      unfold sizeS
      rw [if_pos (by omega)]
      simp only at this
      omega
    have hn : ¬ kindN op = 0 := by
      unfold kindN
      rw [if_pos h7]
      split
      · decide
      · split <;> decide
    have e0 : (kindN op == 0) = false := by simpa using hn
    have HV := Lib.hid (show signS m (8 * sizeS op) = loadedS op m by
      unfold loadedS
      rw [if_pos h7]
      rcases hs with h | h
      · rw [h, if_pos rfl]; rfl
      · rw [h, if_neg (by decide)]; exact sgn64 hm0 hm)
    have hs0 : 0 ≤ sizeS op := by omega
    have hs1 : sizeS op ≤ 8 := by omega
    clear hs hn h7
    have HZ := Lib.hid (fun w' => refSize_c op w')
    generalize sizeS op = z at *
    go_enter Try.func12, Try.ntmps12
    go_wp2_with fail
    refine (refIs_c _ _).mono ?_
    rintro e w1 ⟨rfl, hb⟩
    have HB := Lib.hid hb
    clear hb
    go_wp2_with fail
    refine (HZ.out _).mono ?_
    rintro e w2 ⟨rfl, hb⟩
    have HB2 := Lib.hid (HB.out.trans (hb.mono HB.out.size))
    clear hb
    go_wp2_with fail
    refine (refSign_c _ _ _ hm0 hm (by omega)).mono ?_
    rintro e w3 ⟨rfl, hb⟩
    have HB3 := Lib.hid (HB2.out.trans (hb.mono HB2.out.size))
    clear hb
    go_wp2_with fail
    go_ret
    exact ⟨ret_u HV.out, HB3.out⟩
  · have e0 : (kindN op == 0) = true := by unfold kindN; rw [if_neg h7]; rfl
    have HS := Lib.hid (show 0 = loadedS op m by unfold loadedS; rw [if_neg h7])
    go_enter Try.func12, Try.ntmps12
    go_wp2_with fail
    refine (refIs_c _ _).mono ?_
    rintro e w1 ⟨rfl, hb⟩
    have HB := Lib.hid hb
    clear hb
    go_wp2_with fail
    go_ret
    exact ⟨ret_u HS.out, HB.out⟩
end Go.Proofs.Ytgfdielipbcfeaa
