/-
  Contracts of the reference's Shift (layer 1) at each kind and size, and that the code's shifts come to the same. The contract of bits.Gather: what the parts of a slice of pairs come to; only new memory is made. The contract of the laws' live() of layer 1: the chapter's examples come out; only new memory is made.
-/
import Derived.Test.YtjeolfcefeglpabGreatXac
import Derived.Deep.QuietTactic
import Derived.BigQuiet
set_option maxRecDepth 20000
namespace Go.Proofs.YtjeolfcefeglpabGreat
open Go.ChangeShapes Go.WideShapes Go.ChangeAt Go.RowKit Wd

def shF1 (x : Int) (F : Nat) (_size : Nat) (i : Nat) : Bool := decide (F ≤ i) && tb x (i - F)
def shF2 (x : Int) (F : Nat) (size : Nat) (i : Nat) : Bool := decide (i + F < size) && tb x (i + F)
def shF3 (x : Int) (F : Nat) (size : Nat) (i : Nat) : Bool := if i + F < size then tb x (i + F) else tb x (size - 1)
theorem shF1_yes {x : Int} {F size k : Nat} (h : F ≤ k) (hk : k < 64) : tbI x ((k : Int) - F) = shF1 x F size k := by
  have e : (k : Int) - F = ((k - F : Nat) : Int) := by omega
  rw [e, tbI_nat x _ (by omega)]
  unfold shF1
  simp [h]
theorem shF1_no {x : Int} {F size k : Nat} (h : ¬ F ≤ k) : false = shF1 x F size k := by
  unfold shF1
  simp [h]
theorem shF2_yes {x : Int} {F size k : Nat} (h : k + F < size) (hk : size ≤ 64) : tbI x ((k : Int) + F) = shF2 x F size k := by
  have e : (k : Int) + F = ((k + F : Nat) : Int) := by omega
  rw [e, tbI_nat x _ (by omega)]
  unfold shF2
  simp [h]
theorem shF2_no {x : Int} {F size k : Nat} (h : ¬ k + F < size) : false = shF2 x F size k := by
  unfold shF2
  simp [h]
theorem shF3_yes {x : Int} {F size k : Nat} (h : k + F < size) (hk : size ≤ 64) : tbI x ((k : Int) + F) = shF3 x F size k := by
  have e : (k : Int) + F = ((k + F : Nat) : Int) := by omega
  rw [e, tbI_nat x _ (by omega)]
  unfold shF3
  simp [h]
theorem shF3_no_64 {x : Int} {F k : Nat} (h : ¬ k + F < 64) : tbI x 63 = shF3 x F 64 k := by
  have e : tbI x 63 = tb x 63 := tbI_nat x 63 (by omega)
  rw [e]
  unfold shF3
  simp [h]
theorem shF3_no_32 {x : Int} {F k : Nat} (h : ¬ k + F < 32) : tbI x 31 = shF3 x F 32 k := by
  have e : tbI x 31 = tb x 31 := tbI_nat x 31 (by omega)
  rw [e]
  unfold shF3
  simp [h]
theorem sumTo_fits (f : Nat → Bool) (n : Nat) (hn : n ≤ 64) : 0 ≤ ((sumTo f n : Nat) : Int) ∧ ((sumTo f n : Nat) : Int) < 18446744073709551616 := by
  have := of_range f n hn 0
  simpa using this
theorem tb_sumTo (f : Nat → Bool) (n i : Nat) : tb ((sumTo f n : Nat) : Int) i = (decide (i < n) && f i) := by
  unfold tb
  rw [Int.toNat_natCast, testBit_sumTo]
theorem sign_congr {a b : Int} (h : ∀ i, i < 32 → tb a i = tb b i) : signS a 32 = signS b 32 := by
  rw [signS_pos (by omega), signS_pos (by omega)]
  apply word_congr
  intro i hi
  by_cases c : (i : Int) < 32
  · rw [if_pos c, if_pos c, h i (by omega)]
  · rw [if_neg c, if_neg c]
    exact h 31 (by omega)
theorem tb_sign32 (x : Int) (i : Nat) (hi : i < 64) : tb (signS x 32) i = if i < 32 then tb x i else tb x 31 := by
  rw [signS_pos (by omega), tb_word]
  simp only [hi, decide_true, Bool.true_and]
  by_cases c : i < 32
  · rw [if_pos (by omega), if_pos c]
  · rw [if_neg (by omega), if_neg c]
    rfl
theorem toNat_of {n : Int} {z : Int} {F : Nat} (h : n % z = F) : (n % z).toNat = F := by omega

theorem sll_ref {x n : Int} {F : Nat} (hx0 : 0 ≤ x) (hF : n % 64 = F) : sllS x n = signS ((sumTo (shF1 x F 64) 64 : Nat) : Int) 64 := by
  have r := sumTo_fits (shF1 x F 64) 64 (by omega)
  rw [← sign_all r.1 r.2 (by omega)]
  unfold sllS
  rw [toNat_of hF]
  have a := wrap_range (x * 2 ^ F)
  apply eq_word a.1 a.2
  intro i hi
  rw [tb_wrap (mul_nonneg' hx0 _), tb_mul hx0]
  unfold shF1
  simp [hi]
theorem srl_ref {x n : Int} {F : Nat} (hx0 : 0 ≤ x) (hx : x < 18446744073709551616) (hF : n % 64 = F) : srlS x n = signS ((sumTo (shF2 x F 64) 64 : Nat) : Int) 64 := by
  have r := sumTo_fits (shF2 x F 64) 64 (by omega)
  rw [← sign_all r.1 r.2 (by omega)]
  unfold srlS
  rw [toNat_of hF]
  have a := div_range hx0 hx F
  apply eq_word a.1 a.2
  intro i hi
  rw [tb_div hx0]
  unfold shF2
  by_cases c : i + F < 64
  · simp [c]
  · rw [tb_big hx (by omega)]; simp
theorem sra_ref {x n : Int} {F : Nat} (hx0 : 0 ≤ x) (hx : x < 18446744073709551616) (hF : n % 64 = F) : sraS x n = signS ((sumTo (shF3 x F 64) 64 : Nat) : Int) 64 := by
  have r := sumTo_fits (shF3 x F 64) 64 (by omega)
  rw [← sign_all r.1 r.2 (by omega)]
  unfold sraS
  rw [toNat_of hF]
  have a := wrap_range (wrap64 x / 2 ^ F)
  apply eq_word a.1 a.2
  intro i hi
  rw [tb_sra hx0 hx _ _ hi]
  rfl
theorem sllw_ref {x n : Int} {F : Nat} (hx0 : 0 ≤ x) (hF : n % 32 = F) : sllwS x n = signS ((sumTo (shF1 x F 32) 32 : Nat) : Int) 32 := by
  unfold sllwS
  rw [toNat_of hF]
  apply sign_congr
  intro i hi
  rw [tb_wrap (mul_nonneg' hx0 _), tb_mul hx0, tb_sumTo]
  have : i < 64 := by omega
  unfold shF1
  simp [hi, this]
theorem srlw_ref {x n : Int} {F : Nat} (hF : n % 32 = F) (_hFl : F < 32) : srlwS x n = signS ((sumTo (shF2 x F 32) 32 : Nat) : Int) 32 := by
  unfold srlwS
  rw [toNat_of hF]
  apply sign_congr
  intro i hi
  have r := cutS_range x 0 32
  rw [tb_div r.1, tb_sumTo]
  unfold cutS shF2
  rw [tb_word]
  have h1 : i + F < 64 := by omega
  have h2 : (0 : Int) ≤ 0 + ((i + F : Nat) : Int) := by omega
  have h3 : (0 + ((i + F : Nat) : Int)).toNat = i + F := by omega
  rw [h3]
  by_cases c : i + F < 32
  · have c2 : (((i + F : Nat) : Int) < 32 ∧ (0 : Int) ≤ 0 + ((i + F : Nat) : Int)) := ⟨by omega, h2⟩
    rw [decide_eq_true c2, decide_eq_true h1, decide_eq_true hi, decide_eq_true c]
  · have c2 : ¬ (((i + F : Nat) : Int) < 32 ∧ (0 : Int) ≤ 0 + ((i + F : Nat) : Int)) := by omega
    rw [decide_eq_false c2, decide_eq_false c]
    simp
theorem sraw_ref {x n : Int} {F : Nat} (hF : n % 32 = F) (hFl : F < 32) : srawS x n = signS ((sumTo (shF3 x F 32) 32 : Nat) : Int) 32 := by
  unfold srawS sraS
  have e : (n % 32 % 64).toNat = F := by omega
  rw [e]
  have r := signS_range x 32
  have a := wrap_range (wrap64 (signS x 32) / 2 ^ F)
  have b := signS_range ((sumTo (shF3 x F 32) 32 : Nat) : Int) 32
  apply ext a.1 a.2 b.1 b.2
  intro i hi
  rw [tb_sra r.1 r.2 _ _ hi, tb_sign32 _ _ hi, tb_sumTo, tb_sumTo]
  have t31 : shF3 x F 32 31 = tb x 31 := by
    unfold shF3
    by_cases c : 31 + F < 32
    · have : F = 0 := by omega
      subst this
      simp
    · simp [c]
  rw [t31]
  by_cases c : i + F < 64
  · rw [if_pos c, tb_sign32 _ _ c]
    by_cases c2 : i < 32
    · rw [if_pos c2]
      unfold shF3
      simp [c2]
    · have c3 : ¬ i + F < 32 := by omega
      rw [if_neg c2, if_neg c3]
      simp
  · have c2 : ¬ i < 32 := by omega
    rw [if_neg c, if_neg c2, tb_sign32 _ _ (by omega)]
    simp

set_option maxHeartbeats 1600000 in
theorem refShift1_64_c (x n : Int) (F : Nat) (w : World) (hx0 : 0 ≤ x) (hx : x < 18446744073709551616) (hn0 : 0 ≤ n) (hF : n % 64 = F) :
    Calls Tryz.prog 138 #[.int .i64 1, .int .u64 x, .int .u64 n, .int .i64 64] w fun e w' => e = .returned (.int .u64 (signS ((sumTo (shF1 x F 64) 64 : Nat) : Int) 64)) ∧ Below w.heap.size w w' := by
  obtain ⟨i0, hi, hz0, hz1, hz2⟩ := info_parts info_u64
  obtain ⟨f, hf⟩ : ∃ f : Nat → Bool, f = shF1 x F 64 := ⟨_, rfl⟩
  have HF := Lib.hid hf
  clear hf
  have hFlt : F < 64 := by omega
  go_enter Tryz.func138, Tryz.ntmps138
  go_wp2
  clear hF
  go_loopw [10, 11] (fun v i wr => ∃ k : Nat, k ≤ 64 ∧ i = .int .i64 k ∧ wr.ownsRow w.heap.size 38 1 v k (bl f k) ∧ Below w.heap.size w wr) (fun _ i _ => 64 - (intOf i).toNat)
  case atStart => exact ⟨0, Nat.zero_le _, rfl, World.ownsRow_nil _ _ _ _, Below.refl _ _⟩
  case round =>
    obtain ⟨k, hk, rfl, hown, hnx⟩ := hrel
    have hsz := hnx.size
    have HO := Lib.hid hown
    clear hown
    by_cases hlt : k < 64
    · by_cases hc : F ≤ k
      · have hc1 : 0 ≤ (k : Int) - F := by omega
        have hc2 : (k : Int) - F < 64 := by omega
        have HB := Lib.hid (show (tbI x (k - F)) = f k from by rw [HF.out]; exact shF1_yes hc (by omega))
        go_wp2_with (first
          | (go_at_call 135; refine (bit_c _ _ _ hx0 hx).mono ?_; rintro e w' ⟨rfl, rfl⟩)
          | (at_builtin; refine wpList_append_own _ rfl _ _ 148 rfl w.heap.size 38 i0 (.int .u64 0) 1 8 Tryz.underlying148 hi hz0 hz1 hz2 rfl (by decide) _ _ _ rfl (HO.out.alloc _) ⟨wr.heap.size, 0, none⟩ 1 1 [.int .u64 (bi (tbI x (k - F)))] rfl rfl news_one (one_cell' _) (by unfold maxLen; omega) (by omega) (by simp; omega) ?_; intro v' w1 hown' hgrow _))
        have R := rel_app (b := (tbI x (k - F))) hsz HB.out HO.out hown' hgrow hnx
        go_roundw
        case rel => exact ⟨k + 1, by omega, by go_num, R.1, R.2⟩
        case measure => simp [intOf]; omega

      · have hc1 : (k : Int) - F < 0 := by omega
        have HB := Lib.hid (show false = f k from by rw [HF.out]; exact shF1_no hc)
        go_wp2_with (first
          | (go_at_call 135; refine (bit_c _ _ _ hx0 hx).mono ?_; rintro e w' ⟨rfl, rfl⟩)
          | (at_builtin; refine wpList_append_own _ rfl _ _ 148 rfl w.heap.size 38 i0 (.int .u64 0) 1 8 Tryz.underlying148 hi hz0 hz1 hz2 rfl (by decide) _ _ _ rfl (HO.out.alloc _) ⟨wr.heap.size, 0, none⟩ 1 1 [.int .u64 (0)] rfl rfl news_one (one_cell' _) (by unfold maxLen; omega) (by omega) (by simp; omega) ?_; intro v' w1 hown' hgrow _))
        have R := rel_app (b := false) hsz HB.out HO.out hown' hgrow hnx
        go_roundw
        case rel => exact ⟨k + 1, by omega, by go_num, R.1, R.2⟩
        case measure => simp [intOf]; omega

    · obtain rfl : k = 64 := by omega
      have hr := sumTo_fits f 64 (by omega)
      go_wp2_with fail
      refine (of_c f 64 _ w.heap.size _ (by omega) (by omega) HO.out).mono ?_
      rintro e w' ⟨rfl, rfl⟩
      go_wp2_with fail
      refine (refSign_c _ _ _ hr.1 hr.2 (by omega)).mono ?_
      rintro e w2 ⟨rfl, hb⟩
      go_wp2_with fail
      go_ret
      exact ⟨by rw [HF.out]; rfl, hnx.trans (hb.mono hsz)⟩

set_option maxHeartbeats 1600000 in
theorem refShift1_32_c (x n : Int) (F : Nat) (w : World) (hx0 : 0 ≤ x) (hx : x < 18446744073709551616) (hn0 : 0 ≤ n) (hF : n % 32 = F) :
    Calls Tryz.prog 138 #[.int .i64 1, .int .u64 x, .int .u64 n, .int .i64 32] w fun e w' => e = .returned (.int .u64 (signS ((sumTo (shF1 x F 32) 32 : Nat) : Int) 32)) ∧ Below w.heap.size w w' := by
  obtain ⟨i0, hi, hz0, hz1, hz2⟩ := info_parts info_u64
  obtain ⟨f, hf⟩ : ∃ f : Nat → Bool, f = shF1 x F 32 := ⟨_, rfl⟩
  have HF := Lib.hid hf
  clear hf
  have hFlt : F < 32 := by omega
  go_enter Tryz.func138, Tryz.ntmps138
  go_wp2
  clear hF
  go_loopw [10, 11] (fun v i wr => ∃ k : Nat, k ≤ 32 ∧ i = .int .i64 k ∧ wr.ownsRow w.heap.size 38 1 v k (bl f k) ∧ Below w.heap.size w wr) (fun _ i _ => 32 - (intOf i).toNat)
  case atStart => exact ⟨0, Nat.zero_le _, rfl, World.ownsRow_nil _ _ _ _, Below.refl _ _⟩
  case round =>
    obtain ⟨k, hk, rfl, hown, hnx⟩ := hrel
    have hsz := hnx.size
    have HO := Lib.hid hown
    clear hown
    by_cases hlt : k < 32
    · by_cases hc : F ≤ k
      · have hc1 : 0 ≤ (k : Int) - F := by omega
        have hc2 : (k : Int) - F < 32 := by omega
        have HB := Lib.hid (show (tbI x (k - F)) = f k from by rw [HF.out]; exact shF1_yes hc (by omega))
        go_wp2_with (first
          | (go_at_call 135; refine (bit_c _ _ _ hx0 hx).mono ?_; rintro e w' ⟨rfl, rfl⟩)
          | (at_builtin; refine wpList_append_own _ rfl _ _ 148 rfl w.heap.size 38 i0 (.int .u64 0) 1 8 Tryz.underlying148 hi hz0 hz1 hz2 rfl (by decide) _ _ _ rfl (HO.out.alloc _) ⟨wr.heap.size, 0, none⟩ 1 1 [.int .u64 (bi (tbI x (k - F)))] rfl rfl news_one (one_cell' _) (by unfold maxLen; omega) (by omega) (by simp; omega) ?_; intro v' w1 hown' hgrow _))
        have R := rel_app (b := (tbI x (k - F))) hsz HB.out HO.out hown' hgrow hnx
        go_roundw
        case rel => exact ⟨k + 1, by omega, by go_num, R.1, R.2⟩
        case measure => simp [intOf]; omega

      · have hc1 : (k : Int) - F < 0 := by omega
        have HB := Lib.hid (show false = f k from by rw [HF.out]; exact shF1_no hc)
        go_wp2_with (first
          | (go_at_call 135; refine (bit_c _ _ _ hx0 hx).mono ?_; rintro e w' ⟨rfl, rfl⟩)
          | (at_builtin; refine wpList_append_own _ rfl _ _ 148 rfl w.heap.size 38 i0 (.int .u64 0) 1 8 Tryz.underlying148 hi hz0 hz1 hz2 rfl (by decide) _ _ _ rfl (HO.out.alloc _) ⟨wr.heap.size, 0, none⟩ 1 1 [.int .u64 (0)] rfl rfl news_one (one_cell' _) (by unfold maxLen; omega) (by omega) (by simp; omega) ?_; intro v' w1 hown' hgrow _))
        have R := rel_app (b := false) hsz HB.out HO.out hown' hgrow hnx
        go_roundw
        case rel => exact ⟨k + 1, by omega, by go_num, R.1, R.2⟩
        case measure => simp [intOf]; omega

    · obtain rfl : k = 32 := by omega
      have hr := sumTo_fits f 32 (by omega)
      go_wp2_with fail
      refine (of_c f 32 _ w.heap.size _ (by omega) (by omega) HO.out).mono ?_
      rintro e w' ⟨rfl, rfl⟩
      go_wp2_with fail
      refine (refSign_c _ _ _ hr.1 hr.2 (by omega)).mono ?_
      rintro e w2 ⟨rfl, hb⟩
      go_wp2_with fail
      go_ret
      exact ⟨by rw [HF.out]; rfl, hnx.trans (hb.mono hsz)⟩

set_option maxHeartbeats 1600000 in
theorem refShift2_64_c (x n : Int) (F : Nat) (w : World) (hx0 : 0 ≤ x) (hx : x < 18446744073709551616) (hn0 : 0 ≤ n) (hF : n % 64 = F) :
    Calls Tryz.prog 138 #[.int .i64 2, .int .u64 x, .int .u64 n, .int .i64 64] w fun e w' => e = .returned (.int .u64 (signS ((sumTo (shF2 x F 64) 64 : Nat) : Int) 64)) ∧ Below w.heap.size w w' := by
  obtain ⟨i0, hi, hz0, hz1, hz2⟩ := info_parts info_u64
  obtain ⟨f, hf⟩ : ∃ f : Nat → Bool, f = shF2 x F 64 := ⟨_, rfl⟩
  have HF := Lib.hid hf
  clear hf
  have hFlt : F < 64 := by omega
  go_enter Tryz.func138, Tryz.ntmps138
  go_wp2
  clear hF
  go_loopw [10, 11] (fun v i wr => ∃ k : Nat, k ≤ 64 ∧ i = .int .i64 k ∧ wr.ownsRow w.heap.size 38 1 v k (bl f k) ∧ Below w.heap.size w wr) (fun _ i _ => 64 - (intOf i).toNat)
  case atStart => exact ⟨0, Nat.zero_le _, rfl, World.ownsRow_nil _ _ _ _, Below.refl _ _⟩
  case round =>
    obtain ⟨k, hk, rfl, hown, hnx⟩ := hrel
    have hsz := hnx.size
    have HO := Lib.hid hown
    clear hown
    by_cases hlt : k < 64
    · by_cases hc : k + F < 64
      · have hc1 : (k : Int) + F < 64 := by omega
        have HB := Lib.hid (show (tbI x (k + F)) = f k from by rw [HF.out]; exact shF2_yes hc (by omega))
        go_wp2_with (first
          | (go_at_call 135; refine (bit_c _ _ _ hx0 hx).mono ?_; rintro e w' ⟨rfl, rfl⟩)
          | (at_builtin; refine wpList_append_own _ rfl _ _ 148 rfl w.heap.size 38 i0 (.int .u64 0) 1 8 Tryz.underlying148 hi hz0 hz1 hz2 rfl (by decide) _ _ _ rfl (HO.out.alloc _) ⟨wr.heap.size, 0, none⟩ 1 1 [.int .u64 (bi (tbI x (k + F)))] rfl rfl news_one (one_cell' _) (by unfold maxLen; omega) (by omega) (by simp; omega) ?_; intro v' w1 hown' hgrow _))
        have R := rel_app (b := (tbI x (k + F))) hsz HB.out HO.out hown' hgrow hnx
        go_roundw
        case rel => exact ⟨k + 1, by omega, by go_num, R.1, R.2⟩
        case measure => simp [intOf]; omega

      · have hc1 : 64 ≤ (k : Int) + F := by omega
        have HB := Lib.hid (show false = f k from by rw [HF.out]; exact shF2_no hc)
        go_wp2_with (first
          | (go_at_call 135; refine (bit_c _ _ _ hx0 hx).mono ?_; rintro e w' ⟨rfl, rfl⟩)
          | (at_builtin; refine wpList_append_own _ rfl _ _ 148 rfl w.heap.size 38 i0 (.int .u64 0) 1 8 Tryz.underlying148 hi hz0 hz1 hz2 rfl (by decide) _ _ _ rfl (HO.out.alloc _) ⟨wr.heap.size, 0, none⟩ 1 1 [.int .u64 (0)] rfl rfl news_one (one_cell' _) (by unfold maxLen; omega) (by omega) (by simp; omega) ?_; intro v' w1 hown' hgrow _))
        have R := rel_app (b := false) hsz HB.out HO.out hown' hgrow hnx
        go_roundw
        case rel => exact ⟨k + 1, by omega, by go_num, R.1, R.2⟩
        case measure => simp [intOf]; omega

    · obtain rfl : k = 64 := by omega
      have hr := sumTo_fits f 64 (by omega)
      go_wp2_with fail
      refine (of_c f 64 _ w.heap.size _ (by omega) (by omega) HO.out).mono ?_
      rintro e w' ⟨rfl, rfl⟩
      go_wp2_with fail
      refine (refSign_c _ _ _ hr.1 hr.2 (by omega)).mono ?_
      rintro e w2 ⟨rfl, hb⟩
      go_wp2_with fail
      go_ret
      exact ⟨by rw [HF.out]; rfl, hnx.trans (hb.mono hsz)⟩

set_option maxHeartbeats 1600000 in
theorem refShift2_32_c (x n : Int) (F : Nat) (w : World) (hx0 : 0 ≤ x) (hx : x < 18446744073709551616) (hn0 : 0 ≤ n) (hF : n % 32 = F) :
    Calls Tryz.prog 138 #[.int .i64 2, .int .u64 x, .int .u64 n, .int .i64 32] w fun e w' => e = .returned (.int .u64 (signS ((sumTo (shF2 x F 32) 32 : Nat) : Int) 32)) ∧ Below w.heap.size w w' := by
  obtain ⟨i0, hi, hz0, hz1, hz2⟩ := info_parts info_u64
  obtain ⟨f, hf⟩ : ∃ f : Nat → Bool, f = shF2 x F 32 := ⟨_, rfl⟩
  have HF := Lib.hid hf
  clear hf
  have hFlt : F < 32 := by omega
  go_enter Tryz.func138, Tryz.ntmps138
  go_wp2
  clear hF
  go_loopw [10, 11] (fun v i wr => ∃ k : Nat, k ≤ 32 ∧ i = .int .i64 k ∧ wr.ownsRow w.heap.size 38 1 v k (bl f k) ∧ Below w.heap.size w wr) (fun _ i _ => 32 - (intOf i).toNat)
  case atStart => exact ⟨0, Nat.zero_le _, rfl, World.ownsRow_nil _ _ _ _, Below.refl _ _⟩
  case round =>
    obtain ⟨k, hk, rfl, hown, hnx⟩ := hrel
    have hsz := hnx.size
    have HO := Lib.hid hown
    clear hown
    by_cases hlt : k < 32
    · by_cases hc : k + F < 32
      · have hc1 : (k : Int) + F < 32 := by omega
        have HB := Lib.hid (show (tbI x (k + F)) = f k from by rw [HF.out]; exact shF2_yes hc (by omega))
        go_wp2_with (first
          | (go_at_call 135; refine (bit_c _ _ _ hx0 hx).mono ?_; rintro e w' ⟨rfl, rfl⟩)
          | (at_builtin; refine wpList_append_own _ rfl _ _ 148 rfl w.heap.size 38 i0 (.int .u64 0) 1 8 Tryz.underlying148 hi hz0 hz1 hz2 rfl (by decide) _ _ _ rfl (HO.out.alloc _) ⟨wr.heap.size, 0, none⟩ 1 1 [.int .u64 (bi (tbI x (k + F)))] rfl rfl news_one (one_cell' _) (by unfold maxLen; omega) (by omega) (by simp; omega) ?_; intro v' w1 hown' hgrow _))
        have R := rel_app (b := (tbI x (k + F))) hsz HB.out HO.out hown' hgrow hnx
        go_roundw
        case rel => exact ⟨k + 1, by omega, by go_num, R.1, R.2⟩
        case measure => simp [intOf]; omega

      · have hc1 : 32 ≤ (k : Int) + F := by omega
        have HB := Lib.hid (show false = f k from by rw [HF.out]; exact shF2_no hc)
        go_wp2_with (first
          | (go_at_call 135; refine (bit_c _ _ _ hx0 hx).mono ?_; rintro e w' ⟨rfl, rfl⟩)
          | (at_builtin; refine wpList_append_own _ rfl _ _ 148 rfl w.heap.size 38 i0 (.int .u64 0) 1 8 Tryz.underlying148 hi hz0 hz1 hz2 rfl (by decide) _ _ _ rfl (HO.out.alloc _) ⟨wr.heap.size, 0, none⟩ 1 1 [.int .u64 (0)] rfl rfl news_one (one_cell' _) (by unfold maxLen; omega) (by omega) (by simp; omega) ?_; intro v' w1 hown' hgrow _))
        have R := rel_app (b := false) hsz HB.out HO.out hown' hgrow hnx
        go_roundw
        case rel => exact ⟨k + 1, by omega, by go_num, R.1, R.2⟩
        case measure => simp [intOf]; omega

    · obtain rfl : k = 32 := by omega
      have hr := sumTo_fits f 32 (by omega)
      go_wp2_with fail
      refine (of_c f 32 _ w.heap.size _ (by omega) (by omega) HO.out).mono ?_
      rintro e w' ⟨rfl, rfl⟩
      go_wp2_with fail
      refine (refSign_c _ _ _ hr.1 hr.2 (by omega)).mono ?_
      rintro e w2 ⟨rfl, hb⟩
      go_wp2_with fail
      go_ret
      exact ⟨by rw [HF.out]; rfl, hnx.trans (hb.mono hsz)⟩

set_option maxHeartbeats 1600000 in
theorem refShift3_64_c (x n : Int) (F : Nat) (w : World) (hx0 : 0 ≤ x) (hx : x < 18446744073709551616) (hn0 : 0 ≤ n) (hF : n % 64 = F) :
    Calls Tryz.prog 138 #[.int .i64 3, .int .u64 x, .int .u64 n, .int .i64 64] w fun e w' => e = .returned (.int .u64 (signS ((sumTo (shF3 x F 64) 64 : Nat) : Int) 64)) ∧ Below w.heap.size w w' := by
  obtain ⟨i0, hi, hz0, hz1, hz2⟩ := info_parts info_u64
  obtain ⟨f, hf⟩ : ∃ f : Nat → Bool, f = shF3 x F 64 := ⟨_, rfl⟩
  have HF := Lib.hid hf
  clear hf
  have hFlt : F < 64 := by omega
  go_enter Tryz.func138, Tryz.ntmps138
  go_wp2
  clear hF
  go_loopw [10, 11] (fun v i wr => ∃ k : Nat, k ≤ 64 ∧ i = .int .i64 k ∧ wr.ownsRow w.heap.size 38 1 v k (bl f k) ∧ Below w.heap.size w wr) (fun _ i _ => 64 - (intOf i).toNat)
  case atStart => exact ⟨0, Nat.zero_le _, rfl, World.ownsRow_nil _ _ _ _, Below.refl _ _⟩
  case round =>
    obtain ⟨k, hk, rfl, hown, hnx⟩ := hrel
    have hsz := hnx.size
    have HO := Lib.hid hown
    clear hown
    by_cases hlt : k < 64
    · by_cases hc : k + F < 64
      · have hc1 : (k : Int) + F < 64 := by omega
        have HB := Lib.hid (show (tbI x (k + F)) = f k from by rw [HF.out]; exact shF3_yes hc (by omega))
        go_wp2_with (first
          | (go_at_call 135; refine (bit_c _ _ _ hx0 hx).mono ?_; rintro e w' ⟨rfl, rfl⟩)
          | (at_builtin; refine wpList_append_own _ rfl _ _ 148 rfl w.heap.size 38 i0 (.int .u64 0) 1 8 Tryz.underlying148 hi hz0 hz1 hz2 rfl (by decide) _ _ _ rfl (HO.out.alloc _) ⟨wr.heap.size, 0, none⟩ 1 1 [.int .u64 (bi (tbI x (k + F)))] rfl rfl news_one (one_cell' _) (by unfold maxLen; omega) (by omega) (by simp; omega) ?_; intro v' w1 hown' hgrow _))
        have R := rel_app (b := (tbI x (k + F))) hsz HB.out HO.out hown' hgrow hnx
        go_roundw
        case rel => exact ⟨k + 1, by omega, by go_num, R.1, R.2⟩
        case measure => simp [intOf]; omega

      · have hc1 : 64 ≤ (k : Int) + F := by omega
        have HB := Lib.hid (show (tbI x 63) = f k from by rw [HF.out]; exact shF3_no_64 hc)
        go_wp2_with (first
          | (go_at_call 135; refine (bit_c _ _ _ hx0 hx).mono ?_; rintro e w' ⟨rfl, rfl⟩)
          | (at_builtin; refine wpList_append_own _ rfl _ _ 148 rfl w.heap.size 38 i0 (.int .u64 0) 1 8 Tryz.underlying148 hi hz0 hz1 hz2 rfl (by decide) _ _ _ rfl (HO.out.alloc _) ⟨wr.heap.size, 0, none⟩ 1 1 [.int .u64 (bi (tbI x 63))] rfl rfl news_one (one_cell' _) (by unfold maxLen; omega) (by omega) (by simp; omega) ?_; intro v' w1 hown' hgrow _))
        have R := rel_app (b := (tbI x 63)) hsz HB.out HO.out hown' hgrow hnx
        go_roundw
        case rel => exact ⟨k + 1, by omega, by go_num, R.1, R.2⟩
        case measure => simp [intOf]; omega

    · obtain rfl : k = 64 := by omega
      have hr := sumTo_fits f 64 (by omega)
      go_wp2_with fail
      refine (of_c f 64 _ w.heap.size _ (by omega) (by omega) HO.out).mono ?_
      rintro e w' ⟨rfl, rfl⟩
      go_wp2_with fail
      refine (refSign_c _ _ _ hr.1 hr.2 (by omega)).mono ?_
      rintro e w2 ⟨rfl, hb⟩
      go_wp2_with fail
      go_ret
      exact ⟨by rw [HF.out]; rfl, hnx.trans (hb.mono hsz)⟩

set_option maxHeartbeats 1600000 in
theorem refShift3_32_c (x n : Int) (F : Nat) (w : World) (hx0 : 0 ≤ x) (hx : x < 18446744073709551616) (hn0 : 0 ≤ n) (hF : n % 32 = F) :
    Calls Tryz.prog 138 #[.int .i64 3, .int .u64 x, .int .u64 n, .int .i64 32] w fun e w' => e = .returned (.int .u64 (signS ((sumTo (shF3 x F 32) 32 : Nat) : Int) 32)) ∧ Below w.heap.size w w' := by
  obtain ⟨i0, hi, hz0, hz1, hz2⟩ := info_parts info_u64
  obtain ⟨f, hf⟩ : ∃ f : Nat → Bool, f = shF3 x F 32 := ⟨_, rfl⟩
  have HF := Lib.hid hf
  clear hf
  have hFlt : F < 32 := by omega
  go_enter Tryz.func138, Tryz.ntmps138
  go_wp2
  clear hF
  go_loopw [10, 11] (fun v i wr => ∃ k : Nat, k ≤ 32 ∧ i = .int .i64 k ∧ wr.ownsRow w.heap.size 38 1 v k (bl f k) ∧ Below w.heap.size w wr) (fun _ i _ => 32 - (intOf i).toNat)
  case atStart => exact ⟨0, Nat.zero_le _, rfl, World.ownsRow_nil _ _ _ _, Below.refl _ _⟩
  case round =>
    obtain ⟨k, hk, rfl, hown, hnx⟩ := hrel
    have hsz := hnx.size
    have HO := Lib.hid hown
    clear hown
    by_cases hlt : k < 32
    · by_cases hc : k + F < 32
      · have hc1 : (k : Int) + F < 32 := by omega
        have HB := Lib.hid (show (tbI x (k + F)) = f k from by rw [HF.out]; exact shF3_yes hc (by omega))
        go_wp2_with (first
          | (go_at_call 135; refine (bit_c _ _ _ hx0 hx).mono ?_; rintro e w' ⟨rfl, rfl⟩)
          | (at_builtin; refine wpList_append_own _ rfl _ _ 148 rfl w.heap.size 38 i0 (.int .u64 0) 1 8 Tryz.underlying148 hi hz0 hz1 hz2 rfl (by decide) _ _ _ rfl (HO.out.alloc _) ⟨wr.heap.size, 0, none⟩ 1 1 [.int .u64 (bi (tbI x (k + F)))] rfl rfl news_one (one_cell' _) (by unfold maxLen; omega) (by omega) (by simp; omega) ?_; intro v' w1 hown' hgrow _))
        have R := rel_app (b := (tbI x (k + F))) hsz HB.out HO.out hown' hgrow hnx
        go_roundw
        case rel => exact ⟨k + 1, by omega, by go_num, R.1, R.2⟩
        case measure => simp [intOf]; omega

      · have hc1 : 32 ≤ (k : Int) + F := by omega
        have HB := Lib.hid (show (tbI x 31) = f k from by rw [HF.out]; exact shF3_no_32 hc)
        go_wp2_with (first
          | (go_at_call 135; refine (bit_c _ _ _ hx0 hx).mono ?_; rintro e w' ⟨rfl, rfl⟩)
          | (at_builtin; refine wpList_append_own _ rfl _ _ 148 rfl w.heap.size 38 i0 (.int .u64 0) 1 8 Tryz.underlying148 hi hz0 hz1 hz2 rfl (by decide) _ _ _ rfl (HO.out.alloc _) ⟨wr.heap.size, 0, none⟩ 1 1 [.int .u64 (bi (tbI x 31))] rfl rfl news_one (one_cell' _) (by unfold maxLen; omega) (by omega) (by simp; omega) ?_; intro v' w1 hown' hgrow _))
        have R := rel_app (b := (tbI x 31)) hsz HB.out HO.out hown' hgrow hnx
        go_roundw
        case rel => exact ⟨k + 1, by omega, by go_num, R.1, R.2⟩
        case measure => simp [intOf]; omega

    · obtain rfl : k = 32 := by omega
      have hr := sumTo_fits f 32 (by omega)
      go_wp2_with fail
      refine (of_c f 32 _ w.heap.size _ (by omega) (by omega) HO.out).mono ?_
      rintro e w' ⟨rfl, rfl⟩
      go_wp2_with fail
      refine (refSign_c _ _ _ hr.1 hr.2 (by omega)).mono ?_
      rintro e w2 ⟨rfl, hb⟩
      go_wp2_with fail
      go_ret
      exact ⟨by rw [HF.out]; rfl, hnx.trans (hb.mono hsz)⟩

end Go.Proofs.YtjeolfcefeglpabGreat
set_option maxRecDepth 20000
namespace Go.Proofs.YtjeolfcefeglpabGreat
open Go.ChangeShapes Go.WideShapes Go.ChangeAt Go.RowKit Wd

theorem below_dn {B : Nat} {a w : World} (h : Below B a w) (n : Nat) : Below B a (w.drewN n) := h.trans ⟨rfl, rfl, rfl, Nat.le_refl _, fun _ _ => rfl⟩

def gstep (x acc : Int) (q : Int × Int) : Int := bits .or .u64 (raiseS acc (if q.2 < 0 then 0 else q.2)) (cutS x q.1 q.2)
def gatherS (x : Int) (ps : List (Int × Int)) : Int := ps.foldl (gstep x) 0
theorem gstep_range (x acc : Int) (q : Int × Int) : 0 ≤ gstep x acc q ∧ gstep x acc q < 18446744073709551616 := by
  have a := raiseS_range acc (if q.2 < 0 then 0 else q.2)
  have b := cutS_range x q.1 q.2
  exact or_range a.1 a.2 b.1 b.2
theorem gatherS_succ (x : Int) (ps : List (Int × Int)) (k : Nat) (h : k < ps.length) : gatherS x (ps.take (k + 1)) = gstep x (gatherS x (ps.take k)) (ps.getD k (0, 0)) := by
  unfold gatherS
  rw [List.take_succ_eq_append_getElem h, List.foldl_append]
  simp [List.getD, h]
theorem gatherS_range (x : Int) (ps : List (Int × Int)) (k : Nat) (hk : k ≤ ps.length) : 0 ≤ gatherS x (ps.take k) ∧ gatherS x (ps.take k) < 18446744073709551616 := by
  rcases k with _ | k
  · simp [gatherS]
  · rw [gatherS_succ x ps k (by omega)]; exact gstep_range _ _ _
theorem gstep_neg {x acc p s : Int} (h : s < 0) : bits .or .u64 (raiseS acc 0) (cutS x p s) = gstep x acc (p, s) := by
  unfold gstep
  simp [h]
theorem gstep_pos {x acc p s : Int} (h : 0 ≤ s) : bits .or .u64 (raiseS acc s) (cutS x p s) = gstep x acc (p, s) := by
  unfold gstep
  rw [if_neg (by simp; omega)]

def FitAll (ps : List (Int × Int)) : Prop := ∀ j, -9223372036854775808 ≤ (ps.getD j (0, 0)).1 ∧ (ps.getD j (0, 0)).1 < 9223372036854775808 ∧ -9223372036854775808 ≤ (ps.getD j (0, 0)).2 ∧ (ps.getD j (0, 0)).2 < 9223372036854775808
def Pairs (w : World) (b off : Nat) (ps : List (Int × Int)) : Prop :=
  ∀ j, j < ps.length → w.cell? ⟨b, off + j * 2, none⟩ = some (.int .i64 (ps.getD j (0, 0)).1) ∧ w.cell? ⟨b, off + j * 2 + 1, none⟩ = some (.int .i64 (ps.getD j (0, 0)).2)

end Go.Proofs.YtjeolfcefeglpabGreat
set_option maxRecDepth 20000
namespace Go.Proofs.YtjeolfcefeglpabGreat
open Go.ChangeShapes Go.WideShapes Go.ChangeAt Go.RowKit Wd

theorem live_fit : FitAll [(1, 1), (4, 1)] := by
  intro j
  match j with
  | 0 => simp
  | 1 => simp
  | j + 2 => simp

end Go.Proofs.YtjeolfcefeglpabGreat
