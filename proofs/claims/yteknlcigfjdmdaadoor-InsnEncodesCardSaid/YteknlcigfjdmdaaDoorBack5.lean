/-
  For InsnBack: what is encoded is decoded as it was (plain numbers).
-/
import Derived.Test.YteknlcigfjdmdaaDoorBack4
namespace Go.Proofs.YteknlcigfjdmdaaDoor
open Go.ChangeShapes Go.WideShapes Go.ChangeAt Go.RowKit Wd

theorem apartN : ∀ i j : Fin 99, 1 ≤ i.val → 1 ≤ j.val → i ≠ j → ((valN i.val ^^^ valN j.val) &&& maskN i.val) &&& maskN j.val ≠ 0 := by decide +kernel
theorem one_match {V i j : Nat} (hi : 1 ≤ i ∧ i ≤ 98) (hj : 1 ≤ j ∧ j ≤ 98) (h : matchN V i = true) (h' : matchN V j = true) : i = j := by
  apply Classical.byContradiction
  intro hne
  have e : V &&& maskN i = valN i := by simpa [matchN] using h
  have e' : V &&& maskN j = valN j := by simpa [matchN] using h'
  refine apartN ⟨i, by omega⟩ ⟨j, by omega⟩ hi.1 hj.1 (fun q => hne (Fin.mk.inj q)) ?_
  simp only
  apply Nat.eq_of_testBit_eq
  intro n
  rw [Nat.testBit_and, Nat.testBit_and, Nat.testBit_xor, ← e, ← e', Nat.testBit_and, Nat.testBit_and, Nat.zero_testBit]
  cases V.testBit n <;> cases (maskN i).testBit n <;> cases (maskN j).testBit n <;> rfl
theorem mem_opsTo {k m : Nat} : k ∈ opsTo m ↔ 1 ≤ k ∧ k ≤ m := by
  simp only [opsTo, List.mem_map, List.mem_range]
  exact ⟨fun ⟨a, h, e⟩ => by omega, fun ⟨h1, h2⟩ => ⟨k - 1, by omega, by omega⟩⟩
theorem dec_only {V k : Nat} (hk : 1 ≤ k ∧ k ≤ 98) (h : matchN V k = true) : decN V = some k := by
  unfold decN
  cases hf : (opsTo 98).find? (matchN V) with
  | none => exact absurd h (List.find?_eq_none.1 hf k (mem_opsTo.2 hk))
  | some m => rw [one_match (mem_opsTo.1 (List.mem_of_find?_eq_some hf)) hk (List.find?_some hf) h]
theorem field_back (f : Nat) (what r : Int) (V p s o : Nat) (hs : s ≤ 12) (r0 : 0 ≤ r) (r1 : r < 2 ^ s) (hz : lacksB f what = true → r = 0) (hb : lacksB f what = false → ∀ j, j < s → tb (V : Nat) (p + j) = tb r j) (_ho : o = o) : fieldS f what (V : Nat) p s = r := by
  unfold fieldS
  cases hl : lacksB f what
  · rw [if_neg Bool.false_ne_true]
    symm
    have hp : (2 : Int) ^ s ≤ 4096 := by
      have : 2 ^ s ≤ 2 ^ 12 := Nat.pow_le_pow_right (by decide) hs
      have e : ((2 ^ s : Nat) : Int) = 2 ^ s := by simp
      omega
    refine eq_word r0 (by omega) fun i _ => ?_
    by_cases h : i < s
    · have e3 : decide ((i : Int) < (s : Int) ∧ 0 ≤ (p : Int) + (i : Int)) = true := decide_eq_true (by omega)
      have e4 : ((p : Int) + (i : Int)).toNat = p + i := by omega
      rw [e3, Bool.true_and, e4, hb hl i h]
    · have e3 : decide ((i : Int) < (s : Int) ∧ 0 ≤ (p : Int) + (i : Int)) = false := decide_eq_false (by omega)
      rw [e3, Bool.false_and, tb_small s r0 r1 (by omega)]
  · rw [if_pos rfl, hz hl]
/-- WHAT IS ENCODED IS DECODED AS IT WAS. -/
theorem dec_of_enc (k : Nat) (h1 : 1 ≤ k) (h2 : k ≤ 98) (rd rs1 rs2 imm csr : Int) (aq rl : Bool) (hc : checkS (k : Nat) rd rs1 rs2 imm csr aq rl = 0) :
    ∃ V : Nat, V < 4294967296 ∧ encI (fixV (k : Nat)) (layD (fmtN (k : Nat) : Nat) imm) rd rs1 rs2 csr aq rl = (V : Nat) ∧ decV V = .tuple #[.agg #[.int .i64 (k : Nat), .int .i64 rd, .int .i64 rs1, .int .i64 rs2, .int .i64 imm, .int .i64 csr, .bool aq, .bool rl], .bool true] := by
  have hown := enc_own k h1 h2 rd rs1 rs2 imm csr aq rl hc
  obtain ⟨-, hfo, ⟨⟨a0, a1⟩, ⟨b0, b1⟩, ⟨c0, c1⟩, d0, d1⟩, him⟩ := check_ok hc
  have hfl := fmtN_lt (k : Nat)
  have hf0 : fmtN (k : Nat) ≠ 0 := fun e => (fmt_zero (k : Nat)).1 e (by omega)
  have hvl := (tabs_ok ⟨k, by omega⟩ h1).2.2
  simp only at hvl
  obtain ⟨l0, l1⟩ := layD_lt (fmtN (k : Nat) : Nat) imm
  obtain ⟨⟨z0, z1⟩, -⟩ := enc_bits (v := fixV (k : Nat)) (aq := aq) (rl := rl) (show 0 ≤ ((valN k : Nat) : Int) by omega) (show ((valN k : Nat) : Int) < _ by omega) l0 l1 a0 a1 b0 b1 c0 c1 d0 d1
  obtain ⟨V, hV⟩ := Int.eq_ofNat_of_zero_le z0
  rw [hV] at hown z1
  refine ⟨V, by omega, hV, ?_⟩
  have hbit : ∀ i, tb (V : Nat) i = V.testBit i := fun i => by unfold tb; rw [Int.toNat_natCast]
  have hmatch : matchN V k = true := by
    have e : V &&& maskN k = valN k := by
      apply Nat.eq_of_testBit_eq
      intro i
      rw [Nat.testBit_and]
      by_cases hi : i < 32
      · have hm := owner_mask ⟨k, by omega⟩ h1 ⟨i, hi⟩
        have hw := val_within ⟨k, by omega⟩ ⟨i, hi⟩
        simp only at hm hw
        rw [← hbit, hown i hi, hm]
        rw [hm] at hw
        by_cases ho : ownerB (fmtN (k : Nat)) i = 0
        · rw [ho]; simp
        · have e0 : (ownerB (fmtN (k : Nat)) i == 0) = false := by simpa using ho
          rw [e0] at hw ⊢
          cases hb : (valN k).testBit i
          · simp
          · exact absurd (hw hb) Bool.false_ne_true
      · have big : ∀ n : Nat, n < 4294967296 → n.testBit i = false := fun n hn => Nat.testBit_lt_two_pow (Nat.lt_of_lt_of_le (show n < 2 ^ 32 by omega) (Nat.pow_le_pow_right (by decide) (by omega)))
        rw [big V (by omega), big (valN k) (by omega), Bool.false_and]
    simp [matchN, e]
  unfold decV
  rw [dec_only ⟨h1, h2⟩ hmatch]
  simp only
  unfold readV
  clear hmatch hV z0 z1 hc
  generalize fmtN (k : Nat) = f at *
  unfold foreignS at hfo
  simp only [Bool.or_eq_false_iff, Bool.and_eq_false_iff] at hfo
  obtain ⟨⟨⟨⟨⟨g1, g2⟩, g3⟩, g4⟩, g5⟩, -⟩ := hfo
  have nz : ∀ {what r : Int}, (lacksB f what = false ∨ (r != 0) = false) → lacksB f what = true → r = 0 := fun h hl => by
    rcases h with h | h
    · rw [hl] at h; cases h
    · simpa using h
  have own := fun (i : Nat) (hi : i < 32) => owner_one ⟨f, hfl⟩ ⟨i, hi⟩ hf0
  have r1 : fieldS f 1 (V : Nat) 7 5 = rd := field_back f 1 rd V 7 5 2 (by decide) a0 a1 (nz g1) (fun hl j hj => by
    have o := (own (7 + j) (by omega)).2.1
    simp only [hl, Bool.not_false, Bool.true_and] at o
    rw [decide_eq_true (show 7 ≤ 7 + j ∧ 7 + j < 12 by omega)] at o
    have o' : ownerB f (7 + j) = 2 := by simpa using o.symm
    rw [hown (7 + j) (by omega), o', show 7 + j - 7 = j by omega]; simp) rfl
  have r2 : fieldS f 2 (V : Nat) 15 5 = rs1 := field_back f 2 rs1 V 15 5 3 (by decide) b0 b1 (nz g2) (fun hl j hj => by
    have o := (own (15 + j) (by omega)).2.2.1
    simp only [hl, Bool.not_false, Bool.true_and] at o
    rw [decide_eq_true (show 15 ≤ 15 + j ∧ 15 + j < 20 by omega)] at o
    have o' : ownerB f (15 + j) = 3 := by simpa using o.symm
    rw [hown (15 + j) (by omega), o', show 15 + j - 15 = j by omega]; simp) rfl
  have r3 : fieldS f 4 (V : Nat) 20 5 = rs2 := field_back f 4 rs2 V 20 5 4 (by decide) c0 c1 (nz g3) (fun hl j hj => by
    have o := (own (20 + j) (by omega)).2.2.2.1
    simp only [hl, Bool.not_false, Bool.true_and] at o
    rw [decide_eq_true (show 20 ≤ 20 + j ∧ 20 + j < 25 by omega)] at o
    have o' : ownerB f (20 + j) = 4 := by simpa using o.symm
    rw [hown (20 + j) (by omega), o', show 20 + j - 20 = j by omega]; simp) rfl
  have r4 : fieldS f 8 (V : Nat) 20 12 = csr := field_back f 8 csr V 20 12 5 (by decide) d0 d1 (nz g4) (fun hl j hj => by
    have o := (own (20 + j) (by omega)).2.2.2.2.1
    simp only [hl, Bool.not_false, Bool.true_and] at o
    rw [decide_eq_true (show 20 ≤ 20 + j ∧ 20 + j < 32 by omega)] at o
    have o' : ownerB f (20 + j) = 5 := by simpa using o.symm
    rw [hown (20 + j) (by omega), o', show 20 + j - 20 = j by omega]; simp) rfl
  have r5 : (fieldS f 16 (V : Nat) 26 1 == 1) = aq := by
    rw [show (fieldS f 16 (V : Nat) 26 1 == 1) = (!lacksB f 16 && tb (V : Nat) 26) from field_one f (V : Nat) 26 (by decide)]
    have o := (own 26 (by decide)).2.2.2.2.2.1
    simp only [decide_true, Bool.and_true] at o
    cases hl : lacksB f 16
    · rw [hl] at o
      have o' : ownerB f 26 = 6 := by simpa using o.symm
      rw [hown 26 (by decide), o']; simp
    · rcases g5 with h | h
      · rw [hl] at h; cases h
      · rw [h.1]; rfl
  have r6 : (fieldS f 16 (V : Nat) 25 1 == 1) = rl := by
    rw [show (fieldS f 16 (V : Nat) 25 1 == 1) = (!lacksB f 16 && tb (V : Nat) 25) from field_one f (V : Nat) 25 (by decide)]
    have o := (own 25 (by decide)).2.2.2.2.2.2
    simp only [decide_true, Bool.and_true] at o
    cases hl : lacksB f 16
    · rw [hl] at o
      have o' : ownerB f 25 = 7 := by simpa using o.symm
      rw [hown 25 (by decide), o']; simp
    · rcases g5 with h | h
      · rw [hl] at h; cases h
      · rw [h.2]; rfl
  have r7 : immD (f : Nat) (V : Nat) = imm := by
    rw [← him]
    refine immD_congr f hfl _ _ fun j hj hp0 => ?_
    have hr := (getD_range f hfl j).2
    have hp := place_in f j hj
    have e : (((placesOf f).getD j (-1)).toNat : Int) = (placesOf f).getD j (-1) := by omega
    have o := (own ((placesOf f).getD j (-1)).toNat (by omega)).1
    simp only [e, hp] at o
    have o' : ownerB f ((placesOf f).getD j (-1)).toNat = 1 := by simpa using o.symm
    rw [hown _ (by omega), o']; simp
  rw [r1, r2, r3, r4, r5, r6, r7]
end Go.Proofs.YteknlcigfjdmdaaDoor
