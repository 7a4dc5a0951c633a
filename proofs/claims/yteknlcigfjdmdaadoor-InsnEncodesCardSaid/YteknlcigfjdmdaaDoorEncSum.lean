/-
  Sums of numbers whose bits are apart are their ors; the sum by which the reference encodes.
-/
import Derived.Test.YteknlcigfjdmdaaDoorBack5
namespace Go.Proofs.YteknlcigfjdmdaaDoor
open Go.ChangeShapes Go.WideShapes Go.ChangeAt Go.RowKit Wd

theorem add_or : ∀ (n a b : Nat), a < 2 ^ n → (∀ i, ¬ (a.testBit i = true ∧ b.testBit i = true)) → a + b = a ||| b
  | 0, a, b, h, _ => by
    obtain rfl : a = 0 := by simpa using h
    simp
  | n + 1, a, b, h, hd => by
    have ih := add_or n (a / 2) (b / 2) (by rw [Nat.pow_succ] at h; omega) (fun i hi => hd (i + 1) (by simpa [Nat.testBit_succ] using hi))
    have h0 := hd 0
    simp only [Nat.testBit_zero, decide_eq_true_eq] at h0
    have h1 := Nat.or_div_two (a := a) (b := b)
    have h2 := Nat.or_mod_two_eq_one (a := a) (b := b)
    by_cases ha : a % 2 = 1
    · have hb : ¬ b % 2 = 1 := fun e => h0 ⟨ha, e⟩
      have h3 := h2.2 (.inl ha)
      omega
    · by_cases hb : b % 2 = 1
      · have h3 := h2.2 (.inr hb)
        omega
      · have h3 : ¬ (a ||| b) % 2 = 1 := fun e => by rcases h2.1 e with h | h <;> contradiction
        omega
theorem or_step (own : Nat → Nat) (j n X A : Nat) (hn : X < 2 ^ n) (hX : ∀ i, X.testBit i = true → own i < j) (hA : ∀ i, A.testBit i = true → own i = j) :
    X + A = X ||| A ∧ ∀ i, (X ||| A).testBit i = true → own i < j + 1 := by
  refine ⟨add_or n X A hn fun i h => by have := hX i h.1; have := hA i h.2; omega, fun i h => ?_⟩
  rw [Nat.testBit_or, Bool.or_eq_true] at h
  rcases h with h | h
  · have := hX i h; omega
  · have := hA i h; omega
/-- Eight numbers whose bits belong to eight owners. -/
theorem sum8 (own : Nat → Nat) (A0 A1 A2 A3 A4 A5 A6 A7 : Nat) (b0 : A0 < 2 ^ 32) (b1 : A1 < 2 ^ 32) (b2 : A2 < 2 ^ 32) (b3 : A3 < 2 ^ 32) (b4 : A4 < 2 ^ 32) (b5 : A5 < 2 ^ 32) (b6 : A6 < 2 ^ 32)
    (h0 : ∀ i, A0.testBit i = true → own i = 0) (h1 : ∀ i, A1.testBit i = true → own i = 1) (h2 : ∀ i, A2.testBit i = true → own i = 2) (h3 : ∀ i, A3.testBit i = true → own i = 3)
    (h4 : ∀ i, A4.testBit i = true → own i = 4) (h5 : ∀ i, A5.testBit i = true → own i = 5) (h6 : ∀ i, A6.testBit i = true → own i = 6) (h7 : ∀ i, A7.testBit i = true → own i = 7) :
    A0 + A1 + A2 + A3 + A4 + A5 + A6 + A7 = A0 ||| A1 ||| A2 ||| A3 ||| A4 ||| A5 ||| A6 ||| A7 := by
  obtain ⟨e1, k1⟩ := or_step own 1 32 A0 A1 b0 (fun i h => by have := h0 i h; omega) h1
  have c1 := Nat.or_lt_two_pow b0 b1
  obtain ⟨e2, k2⟩ := or_step own 2 32 _ A2 c1 k1 h2
  have c2 := Nat.or_lt_two_pow c1 b2
  obtain ⟨e3, k3⟩ := or_step own 3 32 _ A3 c2 k2 h3
  have c3 := Nat.or_lt_two_pow c2 b3
  obtain ⟨e4, k4⟩ := or_step own 4 32 _ A4 c3 k3 h4
  have c4 := Nat.or_lt_two_pow c3 b4
  obtain ⟨e5, k5⟩ := or_step own 5 32 _ A5 c4 k4 h5
  have c5 := Nat.or_lt_two_pow c4 b5
  obtain ⟨e6, k6⟩ := or_step own 6 32 _ A6 c5 k5 h6
  have c6 := Nat.or_lt_two_pow c5 b6
  obtain ⟨e7, -⟩ := or_step own 7 32 _ A7 c6 k6 h7
  rw [e1, e2, e3, e4, e5, e6, e7]
/-- Each part's bits belong to it. -/
theorem enc_comps (k : Nat) (h1 : 1 ≤ k) (h2 : k ≤ 98) (rd rs1 rs2 imm csr : Int) (aq rl : Bool) (hc : checkS (k : Nat) rd rs1 rs2 imm csr aq rl = 0) (i : Nat) (hi : i < 32) :
    (tb ((valN k : Nat) : Int) i = true → ownerB (fmtN (k : Nat)) i = 0) ∧ (tb (layD (fmtN (k : Nat) : Nat) imm) i = true → ownerB (fmtN (k : Nat)) i = 1) ∧ (tb (rd * 2 ^ 7) i = true → ownerB (fmtN (k : Nat)) i = 2) ∧ (tb (rs1 * 2 ^ 15) i = true → ownerB (fmtN (k : Nat)) i = 3) ∧
    (tb (rs2 * 2 ^ 20) i = true → ownerB (fmtN (k : Nat)) i = 4) ∧ (tb (csr * 2 ^ 20) i = true → ownerB (fmtN (k : Nat)) i = 5) ∧ (tb (flagS aq ((2 ^ 26 : Nat) : Int)) i = true → ownerB (fmtN (k : Nat)) i = 6) ∧ (tb (flagS rl ((2 ^ 25 : Nat) : Int)) i = true → ownerB (fmtN (k : Nat)) i = 7) := by
  obtain ⟨-, hfo, ⟨⟨a0, a1⟩, ⟨b0, b1⟩, ⟨c0, c1⟩, d0, d1⟩, -⟩ := check_ok hc
  have hfl := fmtN_lt (k : Nat)
  have hf0 : fmtN (k : Nat) ≠ 0 := fun e => (fmt_zero (k : Nat)).1 e (by omega)
  have hmask := owner_mask ⟨k, by omega⟩ h1 ⟨i, hi⟩
  have hval := val_within ⟨k, by omega⟩ ⟨i, hi⟩
  simp only at hmask hval
  generalize fmtN (k : Nat) = f at *
  obtain ⟨o1, o2, o3, o4, o5, o6, o7⟩ := owner_one ⟨f, hfl⟩ ⟨i, hi⟩ hf0
  simp only at o1 o2 o3 o4 o5 o6 o7
  unfold foreignS at hfo
  simp only [Bool.or_eq_false_iff, Bool.and_eq_false_iff] at hfo
  obtain ⟨⟨⟨⟨⟨g1, g2⟩, g3⟩, g4⟩, g5⟩, -⟩ := hfo
  have nz : ∀ {what r : Int}, (lacksB f what = false ∨ (r != 0) = false) → lacksB f what = true → r = 0 := fun h hl => by
    rcases h with h | h
    · rw [hl] at h; cases h
    · simpa using h
  refine ⟨fun h => ?_, fun h => ?_, fun h => ?_, fun h => ?_, fun h => ?_, fun h => ?_, fun h => ?_, fun h => ?_⟩
  · have hb : (valN k).testBit i = true := by simpa [tb] using h
    rw [hval hb] at hmask
    simpa using hmask.symm
  · have hl := last_ok ⟨f, hfl⟩ ⟨i, hi⟩
    simp only at hl
    have hb := tb_lay f hfl imm i (by omega)
    cases hj : lastJ f (placesOf f).length i with
    | none => rw [hj] at hb; simp only at hb; rw [hb] at h; cases h
    | some j =>
      rw [hj] at hl
      simp only [Bool.and_eq_true] at hl
      rw [hl.2] at o1
      simpa using o1.symm
  · rw [tb_shift a0, part_own f 1 rd 7 5 i 2 a0 a1 (nz g1) o2] at h; simp at h; exact h.1
  · rw [tb_shift b0, part_own f 2 rs1 15 5 i 3 b0 b1 (nz g2) o3] at h; simp at h; exact h.1
  · rw [tb_shift c0, part_own f 4 rs2 20 5 i 4 c0 c1 (nz g3) o4] at h; simp at h; exact h.1
  · rw [tb_shift d0, part_own f 8 csr 20 12 i 5 d0 d1 (nz g4) o5] at h; simp at h; exact h.1
  · rw [tb_flag] at h
    simp only [Bool.and_eq_true, decide_eq_true_eq] at h
    rcases g5 with g | g
    · rw [g, decide_eq_true h.2] at o6; simpa using o6.symm
    · rw [g.1] at h; cases h.1
  · rw [tb_flag] at h
    simp only [Bool.and_eq_true, decide_eq_true_eq] at h
    rcases g5 with g | g
    · rw [g, decide_eq_true h.2] at o7; simpa using o7.symm
    · rw [g.2] at h; cases h.1
/-- The sum is the word that Encode puts together. -/
theorem enc_sum (k : Nat) (h1 : 1 ≤ k) (h2 : k ≤ 98) (rd rs1 rs2 imm csr : Int) (aq rl : Bool) (hc : checkS (k : Nat) rd rs1 rs2 imm csr aq rl = 0) :
    fixV (k : Nat) + layD (fmtN (k : Nat) : Nat) imm + 128 * rd + 32768 * rs1 + 1048576 * rs2 + 1048576 * csr + flagS aq 67108864 + flagS rl 33554432 = encI (fixV (k : Nat)) (layD (fmtN (k : Nat) : Nat) imm) rd rs1 rs2 csr aq rl := by
  have hcomp := enc_comps k h1 h2 rd rs1 rs2 imm csr aq rl hc
  obtain ⟨-, -, ⟨⟨a0, a1⟩, ⟨b0, b1⟩, ⟨c0, c1⟩, d0, d1⟩, -⟩ := check_ok hc
  have hvl := (tabs_ok ⟨k, by omega⟩ h1).2.2
  simp only at hvl
  have hv : fixV (k : Nat) = ((valN k : Nat) : Int) := rfl
  rw [hv]
  obtain ⟨l0, l1⟩ := layD_lt (fmtN (k : Nat) : Nat) imm
  obtain ⟨⟨x0, x1⟩, z⟩ := enc_bits (v := ((valN k : Nat) : Int)) (aq := aq) (rl := rl) (by omega) (by omega) l0 l1 a0 a1 b0 b1 c0 c1 d0 d1
  generalize layD (fmtN (k : Nat) : Nat) imm = la at *
  generalize valN k = v at *
  have f6 : 0 ≤ flagS aq 67108864 ∧ flagS aq 67108864 < 4294967296 := by cases aq <;> simp [flagS]
  have f7 : 0 ≤ flagS rl 33554432 ∧ flagS rl 33554432 < 4294967296 := by cases rl <;> simp [flagS]
  have p7 : ((2 : Int) ^ 7) = 128 := by decide
  have p15 : ((2 : Int) ^ 15) = 32768 := by decide
  have p20 : ((2 : Int) ^ 20) = 1048576 := by decide
  have p26 : (((2 ^ 26 : Nat)) : Int) = 67108864 := by decide
  have p25 : (((2 ^ 25 : Nat)) : Int) = 33554432 := by decide
  rw [p7, p15, p20, p26, p25] at hcomp
  have big : ∀ {A i : Nat}, A < 2 ^ 32 → A.testBit i = true → i < 32 := fun {A i} hA h => by
    apply Classical.byContradiction
    intro hn
    rw [Nat.testBit_lt_two_pow (Nat.lt_of_lt_of_le hA (Nat.pow_le_pow_right (by decide) (by omega)))] at h
    cases h
  have n1 : la.toNat < 2 ^ 32 := by omega
  have n2 : (rd * 128).toNat < 2 ^ 32 := by omega
  have n3 : (rs1 * 32768).toNat < 2 ^ 32 := by omega
  have n4 : (rs2 * 1048576).toNat < 2 ^ 32 := by omega
  have n5 : (csr * 1048576).toNat < 2 ^ 32 := by omega
  have n6 : (flagS aq 67108864).toNat < 2 ^ 32 := by omega
  have n7 : (flagS rl 33554432).toNat < 2 ^ 32 := by omega
  have hs := sum8 (fun i => ownerB (fmtN (k : Nat)) i) v la.toNat (rd * 128).toNat (rs1 * 32768).toNat (rs2 * 1048576).toNat (csr * 1048576).toNat (flagS aq 67108864).toNat (flagS rl 33554432).toNat (by omega) n1 n2 n3 n4 n5 n6
    (fun i h => (hcomp i (big (by omega) h)).1 (by simpa [tb] using h)) (fun i h => (hcomp i (big n1 h)).2.1 h) (fun i h => (hcomp i (big n2 h)).2.2.1 h) (fun i h => (hcomp i (big n3 h)).2.2.2.1 h)
    (fun i h => (hcomp i (big n4 h)).2.2.2.2.1 h) (fun i h => (hcomp i (big n5 h)).2.2.2.2.2.1 h) (fun i h => (hcomp i (big n6 h)).2.2.2.2.2.2.1 h) (fun i h => (hcomp i (big n7 h)).2.2.2.2.2.2.2 h)
  have he : (encI ((v : Nat) : Int) la rd rs1 rs2 csr aq rl).toNat = v ||| la.toNat ||| (rd * 128).toNat ||| (rs1 * 32768).toNat ||| (rs2 * 1048576).toNat ||| (csr * 1048576).toNat ||| (flagS aq 67108864).toNat ||| (flagS rl 33554432).toNat := by
    apply Nat.eq_of_testBit_eq
    intro i
    have zi := z i
    rw [← tb_shift a0 7 i, ← tb_shift b0 15 i, ← tb_shift c0 20 i, ← tb_shift d0 20 i, ← tb_flag aq 26 i, ← tb_flag rl 25 i, p7, p15, p20, p26, p25] at zi
    unfold tb at zi
    rw [zi, Int.toNat_natCast]
    simp only [Nat.testBit_or, Bool.or_assoc]
  omega
end Go.Proofs.YteknlcigfjdmdaaDoor
