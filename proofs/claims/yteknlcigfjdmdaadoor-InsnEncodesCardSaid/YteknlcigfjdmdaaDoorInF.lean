/-
  What insn.Imm and insn.Lay reckon is what the chapter says, bit by bit (plain numbers).
-/
import Derived.Test.YteknlcigfjdmdaaDoorInE
namespace Go.Proofs.YteknlcigfjdmdaaDoor
open Go.ChangeShapes Go.WideShapes Go.ChangeAt Go.RowKit Wd

def srcs (L : List Part) (j : Nat) : List Int := L.filterMap fun p => if p.2.2 ≤ (j : Int) ∧ (j : Int) < p.2.2 + p.2.1 then some (p.1 + j - p.2.2) else none
theorem acc_srcs (x : Int) (L : List Part) (j : Nat) : accB x L j = (srcs L j).any fun i => tb x i.toNat := by
  unfold accB srcs
  induction L with
  | nil => rfl
  | cons p L ih =>
    rw [List.any_cons, ih, List.filterMap_cons]
    by_cases h : p.2.2 ≤ (j : Int) ∧ (j : Int) < p.2.2 + p.2.1
    · rw [if_pos h]; simp [h]
    · rw [if_neg h]; simp [h]
theorem srcs_ok : ∀ f : Fin 15, ∀ j : Fin 64, srcs (partsL (f.val : Nat)) j.val = if 0 ≤ (placesOf f.val).getD j.val (-1) then [(placesOf f.val).getD j.val (-1)] else [] := by decide +kernel
theorem places_lt : ∀ f : Fin 15, ∀ j : Fin 64, (placesOf f.val).getD j.val (-1) ≤ 31 ∧ ((placesOf f.val).length ≤ j.val → (placesOf f.val).getD j.val (-1) = -1) := by decide +kernel
theorem acc_pbit (f : Nat) (hf : f < 15) (x : Int) (j : Nat) (hj : j < 64) : accB x (partsL (f : Int)) j = pbit f x j := by
  have h := srcs_ok ⟨f, hf⟩ ⟨j, hj⟩
  have h2 := (places_lt ⟨f, hf⟩ ⟨j, hj⟩).1
  simp only at h h2
  rw [acc_srcs, h]
  unfold pbit tbI
  by_cases h0 : 0 ≤ (placesOf f).getD j (-1)
  · have e : decide (0 ≤ (placesOf f).getD j (-1) ∧ (placesOf f).getD j (-1) ≤ 63) = true := decide_eq_true (by omega)
    rw [if_pos h0, e]; simp
  · have e : decide (0 ≤ (placesOf f).getD j (-1) ∧ (placesOf f).getD j (-1) ≤ 63) = false := decide_eq_false (by omega)
    rw [if_neg h0, e]; simp
theorem acc_immN (f : Nat) (hf : f < 15) (x : Int) : accW x (partsL (f : Int)) = immN f x := by
  obtain ⟨r0, r1⟩ := immN_range f hf x
  symm
  refine eq_word r0 r1 fun i hi => ?_
  rw [acc_pbit f hf x i hi]
  unfold immN tb
  rw [Int.toNat_natCast, testBit_sumTo]
  by_cases h : i < (placesOf f).length
  · simp [h]
  · have e := (places_lt ⟨f, hf⟩ ⟨i, hi⟩).2 (by simp only; omega)
    simp only at e
    unfold pbit
    rw [e]
    simp [tbI]
def immD (f x : Int) : Int := wrap64 (signS (accW x (partsL f)) (sizeOfSign f))
theorem sign_ok : ∀ f : Fin 15, (signedOf f.val = true → sizeOfSign (f.val : Nat) = ((placesOf f.val).length : Nat)) ∧ (signedOf f.val = false → sizeOfSign (f.val : Nat) = 64) := by decide +kernel
theorem immD_eq (f : Nat) (hf : f < 15) (x : Int) : immD f x = immS f x := by
  obtain ⟨r0, r1⟩ := immN_range f hf x
  obtain ⟨s1, s2⟩ := sign_ok ⟨f, hf⟩
  simp only at s1 s2
  unfold immD immS
  rw [acc_immN f hf]
  cases hs : signedOf f
  · rw [s2 hs, ← sign_all r0 r1 (by decide)]; rfl
  · rw [s1 hs]; rfl
theorem partsL_no (f : Int) (h : ¬ (2 ≤ f ∧ f ≤ 8)) : partsL f = [] := by
  unfold partsL
  rw [if_neg (by omega), if_neg (by omega), if_neg (by omega), if_neg (by omega), if_neg (by omega), if_neg (by omega), if_neg (by omega)]
theorem sizeOfSign_no (f : Int) (h : ¬ (2 ≤ f ∧ f ≤ 8)) : sizeOfSign f = 64 := by
  unfold sizeOfSign
  rw [if_neg (by omega), if_neg (by omega), if_neg (by omega), if_neg (by omega), if_neg (by omega)]
theorem immD_no (f x : Int) (h : ¬ (2 ≤ f ∧ f ≤ 8)) : immD f x = 0 := by
  unfold immD
  rw [partsL_no f h, sizeOfSign_no f h, acc_nil, ← sign_all (by decide) (by decide) (by decide)]
  exact wrap64_small (by decide) (by decide)

def layD (f n : Int) : Int := accW (IntKind.u64.wrap n) ((partsL f).map swapP)
def lastJ (f : Nat) : Nat → Nat → Option Nat
  | 0, _ => none
  | k + 1, i => if (placesOf f).getD k (-1) = (i : Int) then some k else lastJ f k i
theorem lay_last (f : Nat) (hf : f < 15) (x : Int) (k i : Nat) (hk : k ≤ 64) (hi : i < 64) : tb (layW f x k) i = match lastJ f k i with | some j => tb x j | none => false := by
  induction k with
  | zero => simp [layW, lastJ, tb_zero]
  | succ k ih =>
    have ih := ih (by omega)
    have hr := (getD_range f hf k)
    unfold lastJ layW
    by_cases h0 : 0 ≤ (placesOf f).getD k (-1)
    · rw [if_pos h0]
      unfold putS
      rw [tb_word]
      simp only [hi, decide_true, Bool.true_and]
      by_cases hp : (placesOf f).getD k (-1) = (i : Int)
      · rw [if_pos hp]
        have e : inP ((placesOf f).getD k (-1)) 1 i = true := by unfold inP; exact decide_eq_true (by omega)
        rw [e, if_pos rfl]
        have e2 : ((i : Int) - (placesOf f).getD k (-1)).toNat = 0 := by omega
        rw [e2]
        have e3 : tbI x k = tb x k := tbI_nat x k (by omega)
        rw [e3]
        show tb (bi (tb x k)) 0 = tb x k
        cases tb x k <;> decide
      · rw [if_neg hp]
        have e : inP ((placesOf f).getD k (-1)) 1 i = false := by unfold inP; exact decide_eq_false (by omega)
        rw [e]
        simpa using ih
    · rw [if_neg h0, if_neg (by omega)]
      exact ih
theorem lay_srcs : ∀ f : Fin 15, ∀ i : Fin 64, srcs ((partsL (f.val : Nat)).map swapP) i.val = (lastJ f.val (placesOf f.val).length i.val).toList.map fun j => ((j : Nat) : Int) := by decide +kernel
theorem layD_eq (f : Nat) (hf : f < 15) (n : Int) : layD f n = layS f n := by
  obtain ⟨r0, r1⟩ := layS_range f n
  symm
  refine eq_word r0 r1 fun i hi => ?_
  have h := lay_srcs ⟨f, hf⟩ ⟨i, hi⟩
  simp only at h
  rw [acc_srcs, h]
  unfold layS
  have hl := places_len ⟨f, hf⟩
  simp only at hl
  rw [lay_last f hf _ _ i (by omega) hi]
  cases lastJ f (placesOf f).length i <;> simp
theorem layD_no (f n : Int) (h : ¬ (2 ≤ f ∧ f ≤ 8)) : layD f n = 0 := by
  unfold layD
  rw [partsL_no f h]
  exact acc_nil _
theorem lay_small : ∀ f : Fin 15, ∀ i : Fin 64, 32 ≤ i.val → srcs ((partsL (f.val : Nat)).map swapP) i.val = [] := by decide +kernel
theorem layD_lt (f n : Int) : 0 ≤ layD f n ∧ layD f n < 4294967296 := by
  by_cases h : 2 ≤ f ∧ f ≤ 8
  · have hb : ∀ i, 32 ≤ i → i < 64 → accB (IntKind.u64.wrap n) ((partsL f).map swapP) i = false := fun i h1 h2 => by
      have := lay_small ⟨f.toNat, by omega⟩ ⟨i, h2⟩ h1
      simp only at this
      rw [show ((f.toNat : Nat) : Int) = f by omega] at this
      rw [acc_srcs, this]; rfl
    refine ⟨word_nonneg _, ?_⟩
    have e : layD f n = ((sumTo (accB (IntKind.u64.wrap n) ((partsL f).map swapP)) 32 : Nat) : Int) := by
      symm
      have hl := sumTo_lt (accB (IntKind.u64.wrap n) ((partsL f).map swapP)) 32
      refine eq_word (by omega) (by omega) fun i hi => ?_
      unfold tb
      rw [Int.toNat_natCast, testBit_sumTo]
      by_cases h32 : i < 32
      · simp [h32]
      · rw [hb i (by omega) hi]; simp
    have hl := sumTo_lt (accB (IntKind.u64.wrap n) ((partsL f).map swapP)) 32
    rw [e]
    omega
  · rw [layD_no f n h]; decide
end Go.Proofs.YteknlcigfjdmdaaDoor
