/-
  For InsnBack: an encoded word, bit by bit; which bit of a word belongs to what (plain numbers).
-/
import Derived.Test.YteknlcigfjdmdaaDoorInO
namespace Go.Proofs.YteknlcigfjdmdaaDoor
open Go.ChangeShapes Go.WideShapes Go.ChangeAt Go.RowKit Wd

theorem or32 {x y : Int} (hx0 : 0 ≤ x) (hx : x < 4294967296) (hy0 : 0 ≤ y) (hy : y < 4294967296) : (0 ≤ bits .or .u32 x y ∧ bits .or .u32 x y < 4294967296) ∧ ∀ i, tb (bits .or .u32 x y) i = (tb x i || tb y i) := by
  rw [u32_or x y hx0 hx hy0 hy]
  have : x.toNat ||| y.toNat < 2 ^ 32 := Nat.or_lt_two_pow (by omega) (by omega)
  refine ⟨by omega, fun i => ?_⟩
  unfold tb
  rw [Int.toNat_natCast, Nat.testBit_or]
theorem tb_shift {x : Int} (h0 : 0 ≤ x) (k i : Nat) : tb (x * 2 ^ k) i = (decide (k ≤ i) && tb x (i - k)) := tb_mul h0 k i
theorem tb_flag (on : Bool) (k i : Nat) : tb (flagS on ((2 ^ k : Nat) : Int)) i = (on && decide (i = k)) := by
  cases on
  · simp [flagS, tb_zero]
  · unfold flagS tb
    rw [if_pos rfl, Int.toNat_natCast, Nat.testBit_two_pow]
    simp [eq_comm]
/-- The bits of the word that Encode puts together. -/
theorem enc_bits {v la rd rs1 rs2 csr : Int} {aq rl : Bool} (v0 : 0 ≤ v) (v1 : v < 4294967296) (l0 : 0 ≤ la) (l1 : la < 4294967296) (a0 : 0 ≤ rd) (a1 : rd < 32) (b0 : 0 ≤ rs1) (b1 : rs1 < 32) (c0 : 0 ≤ rs2) (c1 : rs2 < 32) (d0 : 0 ≤ csr) (d1 : csr < 4096) :
    (0 ≤ encI v la rd rs1 rs2 csr aq rl ∧ encI v la rd rs1 rs2 csr aq rl < 4294967296) ∧ ∀ i, tb (encI v la rd rs1 rs2 csr aq rl) i =
      (((tb v i || tb la i) || ((((decide (7 ≤ i) && tb rd (i - 7)) || (decide (15 ≤ i) && tb rs1 (i - 15))) || (decide (20 ≤ i) && tb rs2 (i - 20))) || (decide (20 ≤ i) && tb csr (i - 20)))) || ((aq && decide (i = 26)) || (rl && decide (i = 25)))) := by
  have fq : ∀ (on : Bool) (n : Int), 0 ≤ n → n < 4294967296 → 0 ≤ flagS on n ∧ flagS on n < 4294967296 := fun on n h0 h1 => by cases on <;> simp [flagS] <;> omega
  have f26 := fq aq 67108864 (by decide) (by decide)
  have f25 := fq rl 33554432 (by decide) (by decide)
  obtain ⟨⟨p0, p1⟩, p⟩ := or32 v0 v1 l0 l1
  obtain ⟨⟨q0, q1⟩, q⟩ := or32 (x := rd * 128) (y := rs1 * 32768) (by omega) (by omega) (by omega) (by omega)
  obtain ⟨⟨r0, r1⟩, r⟩ := or32 (y := rs2 * 1048576) q0 q1 (by omega) (by omega)
  obtain ⟨⟨s0, s1⟩, s⟩ := or32 (y := csr * 1048576) r0 r1 (by omega) (by omega)
  obtain ⟨⟨t0, t1⟩, t⟩ := or32 p0 p1 s0 s1
  obtain ⟨⟨u0, u1⟩, u⟩ := or32 f26.1 f26.2 f25.1 f25.2
  obtain ⟨x, z⟩ := or32 t0 t1 u0 u1
  refine ⟨x, fun i => ?_⟩
  unfold encI
  rw [z, t, u, p, s, r, q]
  have e7 := tb_shift a0 7 i
  have e15 := tb_shift b0 15 i
  have e20 := tb_shift c0 20 i
  have e20' := tb_shift d0 20 i
  have g26 := tb_flag aq 26 i
  have g25 := tb_flag rl 25 i
  rw [show ((2 : Int) ^ 7) = 128 by decide] at e7
  rw [show ((2 : Int) ^ 15) = 32768 by decide] at e15
  rw [show ((2 : Int) ^ 20) = 1048576 by decide] at e20 e20'
  rw [show (((2 ^ 26 : Nat)) : Int) = 67108864 by decide] at g26
  rw [show (((2 ^ 25 : Nat)) : Int) = 33554432 by decide] at g25
  rw [e7, e15, e20, e20', g26, g25]
/-- What a bit of a word belongs to, by a format: 1 the number, 2 rd, 3 rs1, 4 rs2, 5 the CSR, 6 Aq, 7 Rl; 0: it is fixed. -/
def ownerB (f i : Nat) : Nat :=
  if (placesOf f).contains (i : Int) then 1 else if !lacksB f 1 && decide (7 ≤ i ∧ i < 12) then 2 else if !lacksB f 2 && decide (15 ≤ i ∧ i < 20) then 3 else if !lacksB f 4 && decide (20 ≤ i ∧ i < 25) then 4 else
  if !lacksB f 8 && decide (20 ≤ i ∧ i < 32) then 5 else if !lacksB f 16 && decide (i = 26) then 6 else if !lacksB f 16 && decide (i = 25) then 7 else 0
/-- Each bit of a word is fixed, or belongs to one thing. -/
theorem owner_mask : ∀ k : Fin 99, 1 ≤ k.val → ∀ i : Fin 32, (maskN k.val).testBit i.val = (ownerB (fmtN (k.val : Nat)) i.val == 0) := by decide +kernel
theorem owner_one : ∀ f : Fin 15, ∀ i : Fin 32, (f.val ≠ 0) → ((placesOf f.val).contains (i.val : Int) = (ownerB f.val i.val == 1)) ∧ ((!lacksB f.val 1 && decide (7 ≤ i.val ∧ i.val < 12)) = (ownerB f.val i.val == 2)) ∧ ((!lacksB f.val 2 && decide (15 ≤ i.val ∧ i.val < 20)) = (ownerB f.val i.val == 3)) ∧
    ((!lacksB f.val 4 && decide (20 ≤ i.val ∧ i.val < 25)) = (ownerB f.val i.val == 4)) ∧ ((!lacksB f.val 8 && decide (20 ≤ i.val ∧ i.val < 32)) = (ownerB f.val i.val == 5)) ∧ ((!lacksB f.val 16 && decide (i.val = 26)) = (ownerB f.val i.val == 6)) ∧ ((!lacksB f.val 16 && decide (i.val = 25)) = (ownerB f.val i.val == 7)) := by decide +kernel
theorem val_within : ∀ k : Fin 99, ∀ i : Fin 32, (valN k.val).testBit i.val = true → (maskN k.val).testBit i.val = true := by decide +kernel
end Go.Proofs.YteknlcigfjdmdaaDoor
