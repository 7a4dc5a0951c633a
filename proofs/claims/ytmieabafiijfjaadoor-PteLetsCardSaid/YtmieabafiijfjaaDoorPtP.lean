/-
  Plain numbers: a leaf that is marked is the same leaf; where it leads.
-/
import Derived.Test.YtmieabafiijfjaaDoorPtS
set_option maxRecDepth 4000
namespace Go.Proofs.YtmieabafiijfjaaDoor
open Go.RowKit Wd Csr Sta

theorem mark_rng (p acc : Int) : W64 (markS p acc) := by
  unfold markS
  split <;> exact putS_range _ _ _ _
theorem tb_mark (p acc : Int) {i : Nat} (hi : i < 64) : tb (markS p acc) i = (tb p i || decide (i = 6) || (decide (acc = 2) && decide (i = 7))) := by
  unfold markS
  by_cases h : acc = 2
  · rw [if_pos h, decide_eq_true h]
    show tb (putS (putS p ((6 : Nat) : Int) 1 1) ((7 : Nat) : Int) 1 1) i = _
    rw [tb_p1 _ _ _ hi, tb_p1 _ _ _ hi, tb_1]
    by_cases h7 : i = 7
    · subst h7; simp
    · by_cases h6 : i = 6
      · subst h6; simp
      · simp [h7, h6]
  · rw [if_neg h, decide_eq_false h]
    show tb (putS p ((6 : Nat) : Int) 1 1) i = _
    rw [tb_p1 _ _ _ hi, tb_1]
    by_cases h6 : i = 6
    · subst h6; simp
    · simp [h6]
theorem mark_low (p acc : Int) {i : Nat} (hi : i < 64) (h6 : i ≠ 6) (h7 : i ≠ 7) : tb (markS p acc) i = tb p i := by rw [tb_mark _ _ hi]; simp [h6, h7]
theorem mark_again (p acc : Int) : markS (markS p acc) acc = markS p acc := by
  have a := mark_rng (markS p acc) acc
  have b := mark_rng p acc
  apply Wd.ext a.1 a.2 b.1 b.2
  intro i hi
  rw [tb_mark _ _ hi, tb_mark _ _ hi]
  cases tb p i <;> cases decide (i = 6) <;> cases decide (acc = 2) <;> cases decide (i = 7) <;> rfl
theorem mark_lets (p acc acc' priv : Int) (sum mxr : Bool) : letsE (markS p acc) acc' priv sum mxr = letsE p acc' priv sum mxr := by
  unfold letsE hasE
  rw [mark_low p acc (i := 1) (by omega) (by omega) (by omega), mark_low p acc (i := 2) (by omega) (by omega) (by omega), mark_low p acc (i := 3) (by omega) (by omega) (by omega), mark_low p acc (i := 4) (by omega) (by omega) (by omega)]
theorem cut_same {x y : Int} (p s : Nat) (_hps : p + s ≤ 64) (h : ∀ i, p ≤ i → i < p + s → tb x i = tb y i) : cutS x p s = cutS y p s := by
  unfold cutS
  refine word_congr (fun k _ => ?_)
  by_cases hk : (k : Int) < (s : Int) ∧ 0 ≤ (p : Int) + k
  · rw [decide_eq_true hk, show ((p : Int) + k).toNat = p + k by omega, h (p + k) (by omega) (by omega)]
  · rw [decide_eq_false hk]; rfl
theorem mark_ppn (p acc : Int) : cutS (markS p acc) 10 44 = cutS p 10 44 := cut_same 10 44 (by omega) (fun i h1 h2 => mark_low p acc (by omega) (by omega) (by omega))
theorem mark_top (p acc : Int) : cutS (markS p acc) 54 10 = cutS p 54 10 := cut_same 54 10 (by omega) (fun i h1 h2 => mark_low p acc (by omega) (by omega) (by omega))
/-- A leaf, by its parts. -/
theorem leaf_parts {p l : Int} (h : kindS p l = 2) : (0 ≤ l ∧ l ≤ 2) ∧ tb p 0 = true ∧ (tb p 2 = true → tb p 1 = true) ∧ cutS p 54 10 = 0 ∧ (tb p 1 = true ∨ tb p 3 = true) ∧ cutS (cutS p 10 44) 0 (9 * l) = 0 := by
  unfold kindS at h
  by_cases h1 : (decide (l < 0) || decide (l > 2) || !tb p 0 || (tb p 2 && !tb p 1) || (cutS p 54 10 != 0)) = true
  · rw [if_pos h1] at h; cases h
  · rw [if_neg h1] at h
    simp only [Bool.or_eq_true, decide_eq_true_eq, Bool.not_eq_true', Bool.and_eq_true, bne_iff_ne, ne_eq, not_or, Decidable.not_not] at h1
    obtain ⟨⟨⟨⟨a, b⟩, c⟩, d⟩, e⟩ := h1
    by_cases h2 : (tb p 1 || tb p 3) = true
    · rw [if_pos h2] at h
      by_cases h3 : (cutS (cutS p 10 44) 0 (9 * l) != 0) = true
      · rw [if_pos h3] at h; cases h
      · refine ⟨by omega, by simpa using c, fun t => ?_, e, by simpa using h2, by simpa using h3⟩
        cases t1 : tb p 1
        · exact absurd ⟨t, t1⟩ d
        · rfl
    · rw [if_neg h2] at h
      split at h <;> cases h
theorem leaf_of {p l : Int} (h : (0 ≤ l ∧ l ≤ 2) ∧ tb p 0 = true ∧ (tb p 2 = true → tb p 1 = true) ∧ cutS p 54 10 = 0 ∧ (tb p 1 = true ∨ tb p 3 = true) ∧ cutS (cutS p 10 44) 0 (9 * l) = 0) : kindS p l = 2 := by
  obtain ⟨a, b, c, d, e, f⟩ := h
  unfold kindS
  rw [decide_eq_false (show ¬ l < 0 by omega), decide_eq_false (show ¬ l > 2 by omega), b, d, f]
  have hc : (tb p 2 && !tb p 1) = false := by
    cases t2 : tb p 2
    · rfl
    · rw [c t2]; rfl
  have he : (tb p 1 || tb p 3) = true := by simpa using e
  rw [hc, he]
  rfl
theorem mark_kind {p l : Int} (acc : Int) (h : kindS p l = 2) : kindS (markS p acc) l = 2 := by
  obtain ⟨a, b, c, d, e, f⟩ := leaf_parts h
  refine leaf_of ⟨a, ?_, ?_, ?_, ?_, ?_⟩
  · rw [mark_low p acc (by omega) (by omega) (by omega)]; exact b
  · rw [mark_low p acc (by omega) (by omega) (by omega), mark_low p acc (by omega) (by omega) (by omega)]; exact c
  · rw [mark_top]; exact d
  · rw [mark_low p acc (by omega) (by omega) (by omega), mark_low p acc (by omega) (by omega) (by omega)]; exact e
  · rw [mark_ppn]; exact f
/-! ### where it leads -/
def pgBits (l : Int) : Nat := (12 + 9 * l).toNat
theorem ppn_lt (p : Int) : 0 ≤ cutS p 10 44 ∧ cutS p 10 44 < 17592186044416 := by
  have a := cutS_range p 10 44
  have b : cutS p 10 44 < 2 ^ 44 := ecut_lt 44 (by omega)
  exact ⟨a.1, b⟩
theorem frame_64 (p : Int) : W64 (cutS p 10 44 * 4096) := by
  have h := ppn_lt p
  constructor <;> omega
theorem tb_page {x : Int} (h0 : 0 ≤ x) (i : Nat) : tb (x * 4096) i = if i < 12 then false else tb x (i - 12) := by
  obtain ⟨m, rfl⟩ := Int.eq_ofNat_of_zero_le h0
  unfold tb
  rw [show ((m : Int) * 4096).toNat = m * 2 ^ 12 by omega, Nat.testBit_mul_two_pow, show ((m : Nat) : Int).toNat = m by omega]
  by_cases h : i < 12
  · rw [if_pos h, decide_eq_false (by omega)]; rfl
  · rw [if_neg h, decide_eq_true (by omega)]; rfl
theorem frame_rng (p l v : Int) : W64 (frameS p l v) := by
  unfold frameS
  split
  · exact putS_range _ _ _ _
  · exact ⟨by omega, by omega⟩
theorem tb_frame (p v : Int) {l : Int} (hl : 0 ≤ l ∧ l ≤ 2) {i : Nat} (hi : i < 64) : tb (frameS p l v) i = if i < pgBits l then tb v i else tb (cutS p 10 44 * 4096) i := by
  unfold frameS pgBits
  rw [if_pos hl, cput _ _ _ _ hi]
  unfold inP
  by_cases h : i < (12 + 9 * l).toNat
  · rw [if_pos h, if_pos (by simp; omega), show ((i : Int) - 0).toNat = i by omega]
  · rw [if_neg h, if_neg (by simp; omega)]
theorem mask_64 {l : Int} (hl : 0 ≤ l ∧ l ≤ 2) : W64 (2 ^ pgBits l - 1) := by
  obtain rfl | rfl | rfl : l = 0 ∨ l = 1 ∨ l = 2 := by omega
  all_goals decide
theorem frame_lo (p v : Int) {l : Int} (hv : W64 v) (hl : 0 ≤ l ∧ l ≤ 2) : bits .and .u64 (frameS p l v) (2 ^ pgBits l - 1) = bits .and .u64 v (2 ^ pgBits l - 1) := by
  have f := frame_rng p l v
  have m := mask_64 hl
  have a := and_range f.1 f.2 m.1 m.2
  have b := and_range hv.1 hv.2 m.1 m.2
  apply Wd.ext a.1 a.2 b.1 b.2
  intro i hi
  rw [tb_and f.1 f.2 m.1 m.2, tb_and hv.1 hv.2 m.1 m.2, tb_pow_sub_one, tb_frame p v hl hi]
  by_cases h : i < pgBits l
  · rw [if_pos h]
  · rw [decide_eq_false h]; simp
theorem frame_hi {p l : Int} (v : Int) (h : kindS p l = 2) : bits .andNot .u64 (frameS p l v) (2 ^ pgBits l - 1) = cutS p 10 44 * 4096 := by
  obtain ⟨hl, -, -, -, -, hz⟩ := leaf_parts h
  have f := frame_rng p l v
  have m := mask_64 hl
  have g := frame_64 p
  have a := andNot_range f.1 f.2 m.1 m.2
  apply Wd.ext a.1 a.2 g.1 g.2
  intro i hi
  rw [tb_andNot f.1 f.2 m.1 m.2, tb_pow_sub_one, tb_frame p v hl hi]
  by_cases hb : i < pgBits l
  · rw [decide_eq_true hb, tb_page (ppn_lt p).1]
    by_cases h12 : i < 12
    · rw [if_pos h12]; simp
    · rw [if_neg h12]
      have t : tb (cutS (cutS p 10 44) 0 (9 * l)) (i - 12) = tb (cutS p 10 44) (i - 12) := by
        unfold pgBits at hb
        rw [ccut _ _ _ (by omega), decide_eq_true (by omega), show ((0 : Int) + ((i - 12 : Nat) : Int)).toNat = i - 12 by omega]
        rfl
      rw [hz, tb_zero] at t
      rw [← t]; simp
  · rw [decide_eq_false hb, if_neg hb]; simp
end Go.Proofs.YtmieabafiijfjaaDoor
