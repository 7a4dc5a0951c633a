/-
  Contracts of the reference of layer 1: Ones, Sign, Cut.
-/
import Derived.Test.YtmieabafiijfjaaDoorRefB
set_option maxRecDepth 4000
namespace Go.Proofs.YtmieabafiijfjaaDoor
open Go.ChangeShapes Go.WideShapes Go.ChangeAt Go.RowKit Wd

theorem one_cell' (n : Int) : ∀ u ∈ [Value.int .u64 n], u.oneCell' = true := by
  intro u hu; simp at hu; subst hu; rfl

theorem signS_pos {x s : Int} (h : 1 ≤ s) : signS x s = word fun i => if (i : Int) < s then tb x i else tb x (s - 1).toNat := by
  unfold signS
  rw [if_neg (by omega)]

/-! ### Cut -/
def hit (x p : Int) (k i : Nat) : Bool := decide (0 ≤ p + k ∧ p + k < i) && tb x (p + k).toNat
theorem hit_zero (x p : Int) (k : Nat) : hit x p k 0 = false := by
  unfold hit
  have : ¬ (0 ≤ p + k ∧ p + k < ((0 : Nat) : Int)) := by omega
  rw [decide_eq_false this, Bool.false_and]
theorem hit_at {x p : Int} {k i : Nat} (hi : i < 64) (h : (i : Int) - p = k) : tbI x i = hit x p k (i + 1) := by
  unfold hit
  have a : 0 ≤ p + k ∧ p + k < ((i + 1 : Nat) : Int) := by omega
  rw [decide_eq_true a, tbI_nat x i hi]
  have : (p + k).toNat = i := by omega
  simp [this]
theorem hit_not {x p : Int} {k i : Nat} (h : ¬ (i : Int) - p = k) : hit x p k i = hit x p k (i + 1) := by
  unfold hit
  congr 1
  apply decide_eq_decide.2
  omega
theorem hit_all {x p : Int} {k : Nat} (hx : x < 18446744073709551616) : hit x p k 64 = (decide (0 ≤ p + k) && tb x (p + k).toNat) := by
  unfold hit
  by_cases c : p + k < ((64 : Nat) : Int)
  · congr 1
    apply decide_eq_decide.2
    omega
  · rw [tb_big hx (by omega), Bool.and_false, Bool.and_false]
theorem inK_eq {p : Int} {k i : Nat} (hk : k < 64) (h : (i : Int) - p = k) : (inK p i == (k : Int)) = true := by
  unfold inK
  rw [if_neg (by omega), beq_iff_eq]
  omega
theorem inK_ne {p : Int} {k i : Nat} (hk : k < 64) (h : ¬ (i : Int) - p = k) : (inK p i == (k : Int)) = false := by
  unfold inK
  rw [beq_eq_false_iff_ne]
  split <;> omega
theorem cut_true {x p s : Int} {k : Nat} (hx : x < 18446744073709551616) (h : (k : Int) < s) : hit x p k 64 = (decide ((k : Int) < s ∧ 0 ≤ p + k) && tb x (p + k).toNat) := by
  rw [hit_all hx]
  congr 1
  apply decide_eq_decide.2
  omega
theorem cut_false {x p s : Int} {k : Nat} (h : ¬ (k : Int) < s) : false = (decide ((k : Int) < s ∧ 0 ≤ p + k) && tb x (p + k).toNat) := by
  have : ¬ ((k : Int) < s ∧ 0 ≤ p + k) := by omega
  rw [decide_eq_false this, Bool.false_and]

set_option maxHeartbeats 1600000 in
theorem refCut_c (x p s : Int) (w : World) (hx0 : 0 ≤ x) (hx : x < 18446744073709551616) (hp0 : -9223372036854775808 ≤ p) (hs : s < 9223372036854775808) :
    Calls Tryd.prog 30 #[.int .u64 x, .int .i64 p, .int .i64 s] w fun e w' => e = .returned (.int .u64 (cutS x p s)) ∧ Below w.heap.size w w' := by
  obtain ⟨i0, hi, hz0, hz1, hz2⟩ := info_parts info_u64
  obtain ⟨f, hf⟩ : ∃ f : Nat → Bool, f = fun (k : Nat) => decide ((k : Int) < s ∧ 0 ≤ p + k) && tb x (p + k).toNat := ⟨_, rfl⟩
  have HF := Lib.hid hf
  clear hf
  go_enter Tryd.func30, Tryd.ntmps30
  go_wp2
  go_loopw [7, 8] (fun v i wr => ∃ k : Nat, k ≤ 64 ∧ i = .int .i64 k ∧ wr.ownsRow w.heap.size 22 1 v k (bl f k) ∧ Below w.heap.size w wr) (fun _ i _ => 64 - (intOf i).toNat)
  case atStart => exact ⟨0, Nat.zero_le _, rfl, World.ownsRow_nil _ _ _ _, Below.refl _ _⟩
  case round =>
    obtain ⟨k, hk, rfl, hown, hnx⟩ := hrel
    have hsz := hnx.size
    have HO := Lib.hid hown
    clear hown
    by_cases hlt : k < 64
    · by_cases hks : (k : Int) < s
      · have hb : hit x p k 64 = f k := by rw [HF.out]; exact cut_true hx hks
        have HB := Lib.hid hb
        clear hb
        have hd1 : decide ((k : Int) < 64) = true := decide_eq_true (by omega)
        have hd2 : decide ((k : Int) < s) = true := decide_eq_true hks
        go_wp2
        clear hd1 hd2
        go_loop [9, 10] (fun t i => ∃ j : Nat, j ≤ 64 ∧ i = .int .i64 j ∧ t = .int .u64 (bi (hit x p k j))) (fun _ i => 64 - (intOf i).toNat)
        case atStart => exact ⟨0, Nat.zero_le _, rfl, by rw [hit_zero]; rfl⟩
        case round =>
          obtain ⟨j, hj, rfl, rfl⟩ := hrel
          by_cases hjl : j < 64
          · by_cases hin : inP p s j = true
            · have HI := Lib.hid hin
              clear hin
              by_cases hjk : (j : Int) - p = k
              · have he := inK_eq hlt hjk
                have HE := Lib.hid (hit_at (x := x) hjl hjk)
                have HJ := Lib.hid hjk
                clear hjk
                go_wp2_with (first
                  | (go_at_call 25; refine (in_yes p s j _ hjl hp0 hs HI.out).mono ?_; rintro e w' ⟨rfl, rfl⟩)
                  | (go_at_call 26; refine (bit_c _ _ _ hx0 hx).mono ?_; rintro e w' ⟨rfl, rfl⟩))
                go_round
                case rel => exact ⟨j + 1, by omega, by go_num, by rw [HE.out]⟩
                case measure => simp [intOf]; omega
              · have he := inK_ne hlt hjk
                have HE := Lib.hid (hit_not (x := x) hjk)
                have HJ := Lib.hid hjk
                clear hjk
                go_wp2_with (first
                  | (go_at_call 25; refine (in_yes p s j _ hjl hp0 hs HI.out).mono ?_; rintro e w' ⟨rfl, rfl⟩)
                  | (go_at_call 26; refine (bit_c _ _ _ hx0 hx).mono ?_; rintro e w' ⟨rfl, rfl⟩))
                go_round
                case rel => exact ⟨j + 1, by omega, by go_num, by rw [HE.out]⟩
                case measure => simp [intOf]; omega
            · have hin' : inP p s j = false := by simpa using hin
              have hjk : ¬ (j : Int) - p = k := by
                have := of_decide_eq_false hin'
                omega
              have HI := Lib.hid hin'
              have HE := Lib.hid (hit_not (x := x) hjk)
              clear hin hin' hjk
              go_wp2_with (go_at_call 25; refine (in_no p s j _ hjl hp0 hs HI.out).mono ?_; rintro e w' ⟨rfl, rfl⟩)
              go_round
              case rel => exact ⟨j + 1, by omega, by go_num, by rw [HE.out]⟩
              case measure => simp [intOf]; omega
          · obtain rfl : j = 64 := by omega
            go_wp2_with (at_builtin; refine wpList_append_own _ rfl _ _ 49 rfl w.heap.size 22 i0 (.int .u64 0) 1 8 Tryd.underlying49 hi hz0 hz1 hz2 rfl (by decide) _ _ _ rfl (HO.out.alloc _) ⟨wr.heap.size, 0, none⟩ 1 1 [.int .u64 (bi (hit x p k 64))] rfl rfl news_one (one_cell _) (by unfold maxLen; omega) (by omega) (by simp; omega) ?_; intro v' w1 hown' hgrow _)
            have R := rel_app hsz HB.out HO.out hown' hgrow hnx
            go_roundw
            case rel => exact ⟨k + 1, by omega, by go_num, R.1, R.2⟩
            case measure => simp [intOf]; omega
      · have hb : false = f k := by rw [HF.out]; exact cut_false hks
        have HB := Lib.hid hb
        clear hb
        go_wp2_with (at_builtin; refine wpList_append_own _ rfl _ _ 49 rfl w.heap.size 22 i0 (.int .u64 0) 1 8 Tryd.underlying49 hi hz0 hz1 hz2 rfl (by decide) _ _ _ rfl (HO.out.alloc _) ⟨wr.heap.size, 0, none⟩ 1 1 [.int .u64 0] rfl rfl news_one (one_cell' _) (by unfold maxLen; omega) (by omega) (by simp; omega) ?_; intro v' w1 hown' hgrow _)
        have R := rel_app (b := false) hsz HB.out HO.out hown' hgrow hnx
        go_roundw
        case rel => exact ⟨k + 1, by omega, by go_num, R.1, R.2⟩
        case measure => simp [intOf]; omega
    · obtain rfl : k = 64 := by omega
      go_wp2_with (go_at_call 27; refine (of_c f 64 _ w.heap.size _ (by omega) (by omega) HO.out).mono ?_; rintro e w' ⟨rfl, rfl⟩)
      go_ret
      exact ⟨by rw [HF.out]; rfl, hnx⟩
end Go.Proofs.YtmieabafiijfjaaDoor
