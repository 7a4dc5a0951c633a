/-
  For InsnBack: what is decoded has a word (plain numbers).
-/
import Derived.Test.YteknlcigfjdmdaaDoorBack2
namespace Go.Proofs.YteknlcigfjdmdaaDoor
open Go.ChangeShapes Go.WideShapes Go.ChangeAt Go.RowKit Wd

theorem sumTo_congr {f g : Nat → Bool} (n : Nat) (h : ∀ j, j < n → f j = g j) : sumTo f n = sumTo g n := by
  apply Nat.eq_of_testBit_eq
  intro i
  rw [testBit_sumTo, testBit_sumTo]
  by_cases hi : i < n
  · rw [h i hi]
  · simp [hi]
theorem immD_congr (f : Nat) (hf : f < 15) (x y : Int) (h : ∀ j, j < (placesOf f).length → 0 ≤ (placesOf f).getD j (-1) → tb x ((placesOf f).getD j (-1)).toNat = tb y ((placesOf f).getD j (-1)).toNat) : immD f x = immD f y := by
  rw [immD_eq f hf, immD_eq f hf]
  have e : immN f x = immN f y := by
    unfold immN
    rw [sumTo_congr (placesOf f).length fun j hj => ?_]
    unfold pbit tbI
    have := (getD_range f hf j)
    by_cases h0 : 0 ≤ (placesOf f).getD j (-1)
    · rw [h j hj h0]
    · have e : decide (0 ≤ (placesOf f).getD j (-1) ∧ (placesOf f).getD j (-1) ≤ 63) = false := decide_eq_false (by omega)
      rw [e, Bool.false_and, Bool.false_and]
  unfold immS
  rw [e]
theorem place_in (f j : Nat) (hj : j < (placesOf f).length) : (placesOf f).contains ((placesOf f).getD j (-1)) = true := by
  have e : (placesOf f).getD j (-1) = (placesOf f)[j] := by simp [List.getD, hj]
  rw [e]
  exact List.contains_iff_mem.2 (List.getElem_mem hj)
theorem imm_again (f : Nat) (hf : f < 15) (X : Int) : immD f (layD f (immD f X)) = immD f X := by
  refine immD_congr f hf _ _ fun j hj h0 => ?_
  have hr := (getD_range f hf j).2
  have hp := place_in f j hj
  have e : (((placesOf f).getD j (-1)).toNat : Int) = (placesOf f).getD j (-1) := by omega
  rw [lay_of_imm f hf X _ (by omega), e, hp, Bool.true_and]
theorem parts_none : ∀ f : Fin 15, (partsL (f.val : Nat)).isEmpty = true → ¬ (2 ≤ f.val ∧ f.val ≤ 8) := by decide +kernel
theorem lack_zero {f : Nat} {what X p s : Int} : (lacksB f what && (fieldS f what X p s != 0)) = false := by
  cases h : lacksB f what
  · rfl
  · simp [fieldS, h]
theorem chk_of_dec (X k : Nat) (h1 : 1 ≤ k) (h2 : k ≤ 98) :
    checkS (k : Nat) (fieldS (fmtN (k : Nat)) 1 (X : Nat) 7 5) (fieldS (fmtN (k : Nat)) 2 (X : Nat) 15 5) (fieldS (fmtN (k : Nat)) 4 (X : Nat) 20 5) (immD (fmtN (k : Nat) : Nat) (X : Nat)) (fieldS (fmtN (k : Nat)) 8 (X : Nat) 20 12)
      (fieldS (fmtN (k : Nat)) 16 (X : Nat) 26 1 == 1) (fieldS (fmtN (k : Nat)) 16 (X : Nat) 25 1 == 1) = 0 := by
  have hfl := fmtN_lt (k : Nat)
  have hf0 : fmtN (k : Nat) ≠ 0 := fun e => (fmt_zero (k : Nat)).1 e (by omega)
  have fr : ∀ (what : Int) (p s : Nat), s ≤ 12 → 0 ≤ fieldS (fmtN (k : Nat)) what (X : Nat) p s ∧ fieldS (fmtN (k : Nat)) what (X : Nat) p s < 2 ^ s := fun what p s hs => by
    unfold fieldS
    split
    · exact ⟨by decide, Int.pow_pos (by decide)⟩
    · exact cutS_lt _ _ s hs
  unfold checkS
  generalize fmtN (k : Nat) = f at *
  have q1 : inF (fieldS f 1 (X : Nat) 7 5) 32 = true := inF_iff.2 (fr 1 7 5 (by decide))
  have q2 : inF (fieldS f 2 (X : Nat) 15 5) 32 = true := inF_iff.2 (fr 2 15 5 (by decide))
  have q3 : inF (fieldS f 4 (X : Nat) 20 5) 32 = true := inF_iff.2 (fr 4 20 5 (by decide))
  have q4 : inF (fieldS f 8 (X : Nat) 20 12) 4096 = true := inF_iff.2 (fr 8 20 12 (by decide))
  have hfo : foreignS f (fieldS f 1 (X : Nat) 7 5) (fieldS f 2 (X : Nat) 15 5) (fieldS f 4 (X : Nat) 20 5) (immD (f : Nat) (X : Nat)) (fieldS f 8 (X : Nat) 20 12) (fieldS f 16 (X : Nat) 26 1 == 1) (fieldS f 16 (X : Nat) 25 1 == 1) = false := by
    unfold foreignS
    rw [lack_zero, lack_zero, lack_zero, lack_zero]
    have e1 : (lacksB f 16 && ((fieldS f 16 (X : Nat) 26 1 == 1) || (fieldS f 16 (X : Nat) 25 1 == 1))) = false := by
      cases h : lacksB f 16
      · rfl
      · simp [fieldS, h]
    have e2 : ((partsL (f : Nat)).isEmpty && (immD (f : Nat) (X : Nat) != 0)) = false := by
      cases h : (partsL (f : Nat)).isEmpty
      · rfl
      · rw [immD_no _ _ (fun q => parts_none ⟨f, hfl⟩ h (by simp only; omega))]; rfl
    rw [e1, e2]; rfl
  rw [if_neg hf0, if_neg (by rw [hfo]; exact Bool.false_ne_true), if_neg (by unfold rangeB; simp [q1, q2, q3, q4]), if_pos (imm_again f hfl _)]
end Go.Proofs.YteknlcigfjdmdaaDoor
