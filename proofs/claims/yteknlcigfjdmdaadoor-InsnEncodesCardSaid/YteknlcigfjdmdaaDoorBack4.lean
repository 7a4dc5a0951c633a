/-
  For InsnBack: what is encoded is decoded as it was (plain numbers).
-/
import Derived.Test.YteknlcigfjdmdaaDoorBack3
namespace Go.Proofs.YteknlcigfjdmdaaDoor
open Go.ChangeShapes Go.WideShapes Go.ChangeAt Go.RowKit Wd

theorem tb_small {n : Int} (m : Nat) (h0 : 0 ≤ n) (h : n < 2 ^ m) {i : Nat} (hi : m ≤ i) : tb n i = false := by
  unfold tb
  refine Nat.testBit_lt_two_pow (Nat.lt_of_lt_of_le (show n.toNat < 2 ^ m from ?_) (Nat.pow_le_pow_right (by decide) hi))
  have : ((2 ^ m : Nat) : Int) = 2 ^ m := by simp
  omega
/-- A field's bits, where it is 0 if the format lacks it. -/
theorem part_own (f : Nat) (what r : Int) (p s i o : Nat) (r0 : 0 ≤ r) (r1 : r < 2 ^ s) (hz : lacksB f what = true → r = 0) (ho : (!lacksB f what && decide (p ≤ i ∧ i < p + s)) = (ownerB f i == o)) :
    (decide (p ≤ i) && tb r (i - p)) = ((ownerB f i == o) && tb r (i - p)) := by
  rw [← ho]
  cases hl : lacksB f what
  · by_cases h : p ≤ i
    · by_cases h2 : i < p + s
      · simp [h, h2]
      · rw [tb_small s r0 r1 (by omega)]; simp
    · simp [h]
  · rw [hz hl, tb_zero]; simp
/-- The bits of an encoded word, by what they belong to. -/
theorem enc_own (k : Nat) (h1 : 1 ≤ k) (h2 : k ≤ 98) (rd rs1 rs2 imm csr : Int) (aq rl : Bool) (hc : checkS (k : Nat) rd rs1 rs2 imm csr aq rl = 0) (i : Nat) (hi : i < 32) :
    tb (encI (fixV (k : Nat)) (layD (fmtN (k : Nat) : Nat) imm) rd rs1 rs2 csr aq rl) i =
      (((((((((ownerB (fmtN (k : Nat)) i == 0) && (valN k).testBit i) || ((ownerB (fmtN (k : Nat)) i == 1) && tb (layD (fmtN (k : Nat) : Nat) imm) i)) || ((ownerB (fmtN (k : Nat)) i == 2) && tb rd (i - 7))) || ((ownerB (fmtN (k : Nat)) i == 3) && tb rs1 (i - 15))) || ((ownerB (fmtN (k : Nat)) i == 4) && tb rs2 (i - 20))) || ((ownerB (fmtN (k : Nat)) i == 5) && tb csr (i - 20))) || ((ownerB (fmtN (k : Nat)) i == 6) && aq)) || ((ownerB (fmtN (k : Nat)) i == 7) && rl)) := by
  obtain ⟨-, hfo, ⟨⟨a0, a1⟩, ⟨b0, b1⟩, ⟨c0, c1⟩, d0, d1⟩, -⟩ := check_ok hc
  have hfl := fmtN_lt (k : Nat)
  have hf0 : fmtN (k : Nat) ≠ 0 := fun e => (fmt_zero (k : Nat)).1 e (by omega)
  have hmask := owner_mask ⟨k, by omega⟩ h1 ⟨i, hi⟩
  have hval := val_within ⟨k, by omega⟩ ⟨i, hi⟩
  have hvl := (tabs_ok ⟨k, by omega⟩ h1).2.2
  simp only at hmask hval hvl
  have hv : fixV (k : Nat) = ((valN k : Nat) : Int) := rfl
  rw [hv]
  generalize fmtN (k : Nat) = f at *
  obtain ⟨l0, l1⟩ := layD_lt (f : Nat) imm
  obtain ⟨-, z⟩ := enc_bits (v := ((valN k : Nat) : Int)) (aq := aq) (rl := rl) (by omega) (by omega) l0 l1 a0 a1 b0 b1 c0 c1 d0 d1
  rw [z i]
  obtain ⟨o1, o2, o3, o4, o5, o6, o7⟩ := owner_one ⟨f, hfl⟩ ⟨i, hi⟩ hf0
  simp only at o1 o2 o3 o4 o5 o6 o7
  unfold foreignS at hfo
  simp only [Bool.or_eq_false_iff, Bool.and_eq_false_iff] at hfo
  obtain ⟨⟨⟨⟨⟨g1, g2⟩, g3⟩, g4⟩, g5⟩, -⟩ := hfo
  have nz : ∀ {what r : Int}, (lacksB f what = false ∨ (r != 0) = false) → lacksB f what = true → r = 0 := fun h hl => by
    rcases h with h | h
    · rw [hl] at h; cases h
    · simpa using h
  rw [part_own f 1 rd 7 5 i 2 a0 a1 (nz g1) o2, part_own f 2 rs1 15 5 i 3 b0 b1 (nz g2) o3, part_own f 4 rs2 20 5 i 4 c0 c1 (nz g3) o4, part_own f 8 csr 20 12 i 5 d0 d1 (nz g4) o5]
  have t8 : tb ((valN k : Nat) : Int) i = ((ownerB f i == 0) && (valN k).testBit i) := by
    unfold tb
    rw [Int.toNat_natCast]
    cases hb : (valN k).testBit i
    · simp
    · rw [hval hb] at hmask; rw [← hmask]; rfl
  have t7 : tb (layD (f : Nat) imm) i = ((ownerB f i == 1) && tb (layD (f : Nat) imm) i) := by
    rw [← o1]
    have hl := last_ok ⟨f, hfl⟩ ⟨i, hi⟩
    simp only at hl
    have hb := tb_lay f hfl imm i (by omega)
    cases hj : lastJ f (placesOf f).length i with
    | none => rw [hj] at hb; simp only at hb; rw [hb]; simp
    | some j =>
      rw [hj] at hl
      simp only [Bool.and_eq_true] at hl
      rw [hl.2, Bool.true_and]
  have t5 : (aq && decide (i = 26)) = ((ownerB f i == 6) && aq) := by
    rw [← o6]
    rcases g5 with h | h
    · rw [h]; simp [Bool.and_comm]
    · rw [h.1]; simp
  have t6 : (rl && decide (i = 25)) = ((ownerB f i == 7) && rl) := by
    rw [← o7]
    rcases g5 with h | h
    · rw [h]; simp [Bool.and_comm]
    · rw [h.2]; simp
  rw [t8, t7, t5, t6]
  simp only [Bool.or_assoc, Bool.and_self_left]
end Go.Proofs.YteknlcigfjdmdaaDoor
