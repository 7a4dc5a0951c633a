/-
  For InsnBack: what is decoded is encoded as it was (plain numbers).
-/
import Derived.Test.YteknlcigfjdmdaaDoorBack1
namespace Go.Proofs.YteknlcigfjdmdaaDoor
open Go.ChangeShapes Go.WideShapes Go.ChangeAt Go.RowKit Wd

theorem wrap_back {y : Int} (h0 : 0 ≤ y) (h1 : y < 18446744073709551616) : IntKind.u64.wrap (wrap64 y) = y := by
  rw [IntKind.wrap_u64]; unfold wrap64; omega
theorem last_ok : ∀ f : Fin 15, ∀ i : Fin 32, (match lastJ f.val (placesOf f.val).length i.val with | some j => decide (j < (placesOf f.val).length) && decide ((placesOf f.val).getD j (-1) = (i.val : Int)) && (placesOf f.val).contains (i.val : Int) | none => !(placesOf f.val).contains (i.val : Int)) = true := by decide +kernel
theorem tb_imm (f : Nat) (hf : f < 15) (X : Int) (j : Nat) (hj : j < (placesOf f).length) : tb (IntKind.u64.wrap (immD f X)) j = pbit f X j := by
  obtain ⟨r0, r1⟩ := immN_range f hf X
  have hl := places_len ⟨f, hf⟩
  simp only at hl
  have hN : tb (immN f X) j = pbit f X j := by
    unfold immN tb
    rw [Int.toNat_natCast, testBit_sumTo]
    simp [hj]
  rw [immD_eq f hf]
  unfold immS
  cases hs : signedOf f
  · rw [if_neg Bool.false_ne_true, wrap_back r0 r1]; exact hN
  · obtain ⟨s0, s1⟩ := signS_range (immN f X) (placesOf f).length
    rw [if_pos rfl, wrap_back s0 s1, signS_pos (by omega), tb_word]
    have e1 : decide (j < 64) = true := by simp; omega
    rw [e1, Bool.true_and, if_pos (by omega)]
    exact hN
/-- The number's bits in the word. -/
theorem tb_lay (f : Nat) (hf : f < 15) (n : Int) (i : Nat) (hi : i < 64) : tb (layD f n) i = match lastJ f (placesOf f).length i with | some j => tb (IntKind.u64.wrap n) j | none => false := by
  have hl := places_len ⟨f, hf⟩
  simp only at hl
  rw [layD_eq f hf]
  exact lay_last f hf _ _ i (by omega) hi
theorem lay_of_imm (f : Nat) (hf : f < 15) (X : Int) (i : Nat) (hi : i < 32) : tb (layD f (immD f X)) i = ((placesOf f).contains (i : Int) && tb X i) := by
  have h := last_ok ⟨f, hf⟩ ⟨i, hi⟩
  simp only at h
  rw [tb_lay f hf _ i (by omega)]
  cases hj : lastJ f (placesOf f).length i with
  | none =>
    rw [hj] at h
    have : (placesOf f).contains (i : Int) = false := by simpa using h
    rw [this]; rfl
  | some j =>
    rw [hj] at h
    simp only [Bool.and_eq_true, decide_eq_true_eq] at h
    obtain ⟨⟨h1, h2⟩, h3⟩ := h
    simp only
    rw [tb_imm f hf X j h1, h3, Bool.true_and]
    unfold pbit
    rw [h2, tbI_nat X i (by omega)]
theorem tb_field (f : Nat) (what X : Int) (p s i : Nat) (hs : s ≤ 12) (hp : p < 32) : (decide (p ≤ i) && tb (fieldS f what X p s) (i - p)) = ((!lacksB f what && decide (p ≤ i ∧ i < p + s)) && tb X i) := by
  unfold fieldS
  cases lacksB f what
  · rw [if_neg Bool.false_ne_true, Bool.not_false, Bool.true_and]
    by_cases h : p ≤ i
    · unfold cutS
      rw [tb_word]
      by_cases h2 : i < p + s
      · have e1 : decide (p ≤ i) = true := decide_eq_true h
        have e2 : decide (i - p < 64) = true := decide_eq_true (by omega)
        have e3 : decide (((i - p : Nat) : Int) < (s : Int) ∧ 0 ≤ (p : Int) + ((i - p : Nat) : Int)) = true := decide_eq_true (by omega)
        have e4 : ((p : Int) + ((i - p : Nat) : Int)).toNat = i := by omega
        have e5 : decide (p ≤ i ∧ i < p + s) = true := decide_eq_true ⟨h, h2⟩
        rw [e1, e2, e3, e4, e5]; simp
      · have e3 : decide (((i - p : Nat) : Int) < (s : Int) ∧ 0 ≤ (p : Int) + ((i - p : Nat) : Int)) = false := decide_eq_false (by omega)
        have e5 : decide (p ≤ i ∧ i < p + s) = false := decide_eq_false (by omega)
        rw [e3, e5]; simp
    · have e1 : decide (p ≤ i) = false := decide_eq_false h
      have e5 : decide (p ≤ i ∧ i < p + s) = false := decide_eq_false (by omega)
      rw [e1, e5, Bool.false_and, Bool.false_and]
  · rw [if_pos rfl, Bool.not_true, Bool.false_and, Bool.false_and, tb_zero, Bool.and_false]
theorem field_one (f : Nat) (X : Int) (p : Nat) (hp : p < 32) : (fieldS f 16 X p 1 == 1) = (!lacksB f 16 && tb X p) := by
  have h := tb_field f 16 X p 1 p (by decide) hp
  have e : decide (p ≤ p) = true := decide_eq_true (Nat.le_refl _)
  have e2 : decide (p ≤ p ∧ p < p + 1) = true := decide_eq_true (by omega)
  rw [e, Bool.true_and, e2, Bool.and_true, Nat.sub_self] at h
  rw [← h]
  have hr : 0 ≤ fieldS f 16 X p 1 ∧ fieldS f 16 X p 1 < 2 := by
    unfold fieldS
    split
    · decide
    · have := cutS_lt X p 1 (by decide); simpa using this
  obtain h0 | h0 : fieldS f 16 X p 1 = 0 ∨ fieldS f 16 X p 1 = 1 := by omega
  · have : fieldS f 16 X ((p : Nat) : Int) ((1 : Nat) : Int) = 0 := h0
    rw [h0, this]; rfl
  · have : fieldS f 16 X ((p : Nat) : Int) ((1 : Nat) : Int) = 1 := h0
    rw [h0, this]; rfl
theorem owner_le : ∀ f : Fin 15, ∀ i : Fin 32, ownerB f.val i.val ≤ 7 := by decide +kernel
/-- WHAT IS DECODED IS ENCODED AS IT WAS: the word. -/
theorem enc_of_dec (X k : Nat) (hX : X < 4294967296) (h1 : 1 ≤ k) (h2 : k ≤ 98) (hm : matchN X k = true) :
    encI (fixV (k : Nat)) (layD (fmtN (k : Nat) : Nat) (immD (fmtN (k : Nat) : Nat) (X : Nat))) (fieldS (fmtN (k : Nat)) 1 (X : Nat) 7 5) (fieldS (fmtN (k : Nat)) 2 (X : Nat) 15 5) (fieldS (fmtN (k : Nat)) 4 (X : Nat) 20 5) (fieldS (fmtN (k : Nat)) 8 (X : Nat) 20 12)
      (fieldS (fmtN (k : Nat)) 16 (X : Nat) 26 1 == 1) (fieldS (fmtN (k : Nat)) 16 (X : Nat) 25 1 == 1) = (X : Nat) := by
  have hfl := fmtN_lt (k : Nat)
  have hf0 : fmtN (k : Nat) ≠ 0 := fun e => (fmt_zero (k : Nat)).1 e (by omega)
  have hmask : ∀ i, i < 32 → (maskN k).testBit i = (ownerB (fmtN (k : Nat)) i == 0) := fun i hi => owner_mask ⟨k, by omega⟩ h1 ⟨i, hi⟩
  have hv : fixV (k : Nat) = ((X &&& maskN k : Nat) : Int) := by
    have e : X &&& maskN k = valN k := by simpa [matchN] using hm
    rw [e]; rfl
  have hvl : X &&& maskN k < 4294967296 := Nat.lt_of_le_of_lt Nat.and_le_left hX
  have fr : ∀ (what : Int) (p s : Nat), s ≤ 12 → 0 ≤ fieldS (fmtN (k : Nat)) what (X : Nat) p s ∧ fieldS (fmtN (k : Nat)) what (X : Nat) p s < 2 ^ s := fun what p s hs => by
    unfold fieldS
    split
    · exact ⟨by decide, Int.pow_pos (by decide)⟩
    · exact cutS_lt _ _ s hs
  generalize fmtN (k : Nat) = f at *
  obtain ⟨l0, l1⟩ := layD_lt (f : Nat) (immD (f : Nat) (X : Nat))
  have q1 := fr 1 7 5 (by decide)
  have q2 := fr 2 15 5 (by decide)
  have q3 := fr 4 20 5 (by decide)
  have q4 := fr 8 20 12 (by decide)
  rw [hv]
  obtain ⟨⟨z0, z1⟩, z⟩ := enc_bits (v := ((X &&& maskN k : Nat) : Int)) (la := layD (f : Nat) (immD (f : Nat) (X : Nat))) (rd := fieldS f 1 (X : Nat) 7 5) (rs1 := fieldS f 2 (X : Nat) 15 5) (rs2 := fieldS f 4 (X : Nat) 20 5) (csr := fieldS f 8 (X : Nat) 20 12)
    (aq := fieldS f 16 (X : Nat) 26 1 == 1) (rl := fieldS f 16 (X : Nat) 25 1 == 1) (by omega) (by omega) l0 l1 q1.1 q1.2 q2.1 q2.2 q3.1 q3.2 q4.1 q4.2
  refine ext z0 (by omega) (by omega) (by omega) fun i _ => ?_
  by_cases hi : i < 32
  · rw [z i]
    obtain ⟨o1, o2, o3, o4, o5, o6, o7⟩ := owner_one ⟨f, hfl⟩ ⟨i, hi⟩ hf0
    have ol := owner_le ⟨f, hfl⟩ ⟨i, hi⟩
    have om := hmask i hi
    simp only at o1 o2 o3 o4 o5 o6 o7 ol
    have t1 : (decide (7 ≤ i) && tb (fieldS f 1 (X : Nat) 7 5) (i - 7)) = ((ownerB f i == 2) && tb (X : Nat) i) := by rw [← o2]; exact tb_field f 1 (X : Nat) 7 5 i (by decide) (by decide)
    have t2 : (decide (15 ≤ i) && tb (fieldS f 2 (X : Nat) 15 5) (i - 15)) = ((ownerB f i == 3) && tb (X : Nat) i) := by rw [← o3]; exact tb_field f 2 (X : Nat) 15 5 i (by decide) (by decide)
    have t3 : (decide (20 ≤ i) && tb (fieldS f 4 (X : Nat) 20 5) (i - 20)) = ((ownerB f i == 4) && tb (X : Nat) i) := by rw [← o4]; exact tb_field f 4 (X : Nat) 20 5 i (by decide) (by decide)
    have t4 : (decide (20 ≤ i) && tb (fieldS f 8 (X : Nat) 20 12) (i - 20)) = ((ownerB f i == 5) && tb (X : Nat) i) := by rw [← o5]; exact tb_field f 8 (X : Nat) 20 12 i (by decide) (by decide)
    have t5 : ((fieldS f 16 (X : Nat) 26 1 == 1) && decide (i = 26)) = ((ownerB f i == 6) && tb (X : Nat) i) := by
      rw [← o6, show (fieldS f 16 (X : Nat) 26 1 == 1) = (!lacksB f 16 && tb (X : Nat) 26) from field_one f (X : Nat) 26 (by decide)]
      by_cases e : i = 26
      · subst e; simp
      · simp [e]
    have t6 : ((fieldS f 16 (X : Nat) 25 1 == 1) && decide (i = 25)) = ((ownerB f i == 7) && tb (X : Nat) i) := by
      rw [← o7, show (fieldS f 16 (X : Nat) 25 1 == 1) = (!lacksB f 16 && tb (X : Nat) 25) from field_one f (X : Nat) 25 (by decide)]
      by_cases e : i = 25
      · subst e; simp
      · simp [e]
    have t7 : tb (layD (f : Nat) (immD (f : Nat) (X : Nat))) i = ((ownerB f i == 1) && tb (X : Nat) i) := by rw [lay_of_imm f hfl _ i hi, o1]
    have t8 : tb ((X &&& maskN k : Nat) : Int) i = ((ownerB f i == 0) && tb (X : Nat) i) := by
      unfold tb; rw [Int.toNat_natCast, Int.toNat_natCast, Nat.testBit_and, om, Bool.and_comm]
    rw [t1, t2, t3, t4, t5, t6, t7, t8]
    generalize tb (X : Nat) i = b
    obtain h | h | h | h | h | h | h | h : ownerB f i = 0 ∨ ownerB f i = 1 ∨ ownerB f i = 2 ∨ ownerB f i = 3 ∨ ownerB f i = 4 ∨ ownerB f i = 5 ∨ ownerB f i = 6 ∨ ownerB f i = 7 := by omega
    all_goals rw [h]; simp
  · have big : ∀ n : Int, 0 ≤ n → n < 4294967296 → tb n i = false := fun n h0 hn => by
      unfold tb
      exact Nat.testBit_lt_two_pow (Nat.lt_of_lt_of_le (show n.toNat < 2 ^ 32 by omega) (Nat.pow_le_pow_right (by decide) (by omega)))
    rw [big _ z0 z1, big _ (by omega) (by omega)]
end Go.Proofs.YteknlcigfjdmdaaDoor
