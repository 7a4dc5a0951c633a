/-
  The contract of insn.foreign. The contract of insn.Check. How far an immediate can be from 0 (layers 3 and 6); plain numbers.
-/
import Derived.Test.YthehcplogkgkeaaGreatDoorQd
import Derived.Test.YthehcplogkgkeaaGreatDoorQe
import Derived.Test.YthehcplogkgkeaaGreatDoorQf
import Derived.Test.YthehcplogkgkeaaGreatDoorQg
import Derived.Test.YthehcplogkgkeaaGreatDoorQh
import Derived.Test.YthehcplogkgkeaaGreatDoorQc
import Derived.Deep.RegionHeld3
set_option maxRecDepth 4000
namespace Go.Proofs.YthehcplogkgkeaaGreatDoor
open Go.ChangeShapes Go.WideShapes Go.ChangeAt Go.RowKit Wd

theorem lacks_land : ∀ f : Fin 15, lacksB f.val 1 = ((fldL.getD f.val 0) &&& 1 == 0) ∧ lacksB f.val 2 = ((fldL.getD f.val 0) &&& 2 == 0) ∧ lacksB f.val 4 = ((fldL.getD f.val 0) &&& 4 == 0) ∧ lacksB f.val 8 = ((fldL.getD f.val 0) &&& 8 == 0) ∧ lacksB f.val 16 = ((fldL.getD f.val 0) &&& 16 == 0) := by decide +kernel
theorem fld_all : ∀ f : Fin 15, (fldL.getD f.val 0 = 7 ∧ partsL (f.val : Nat) = []) ∨ (fldL.getD f.val 0 = 3 ∧ partsL (f.val : Nat) ≠ []) ∨ (fldL.getD f.val 0 = 6 ∧ partsL (f.val : Nat) ≠ []) ∨ (fldL.getD f.val 0 = 1 ∧ partsL (f.val : Nat) ≠ []) ∨
    (fldL.getD f.val 0 = 11 ∧ partsL (f.val : Nat) = []) ∨ (fldL.getD f.val 0 = 23 ∧ partsL (f.val : Nat) = []) ∨ (fldL.getD f.val 0 = 19 ∧ partsL (f.val : Nat) = []) ∨ (fldL.getD f.val 0 = 0 ∧ partsL (f.val : Nat) = []) ∨ (fldL.getD f.val 0 = 6 ∧ partsL (f.val : Nat) = []) := by decide +kernel
theorem foreign_c (f : Nat) (hf : f < 15) (op rd rs1 rs2 imm csr : Int) (aq rl : Bool) (w : World) (hv : FldsAt w) :
    Calls Tryz.prog 54 #[.int .i64 (f : Nat), .agg #[.int .i64 op, .int .i64 rd, .int .i64 rs1, .int .i64 rs2, .int .i64 imm, .int .i64 csr, .bool aq, .bool rl]] w fun e w' => e = .returned (.bool (foreignS f rd rs1 rs2 imm csr aq rl)) ∧ Below w.heap.size w w' := by
  obtain ⟨a, b, c, d, g⟩ := lacks_land ⟨f, hf⟩
  simp only at a b c d g
  rcases fld_all ⟨f, hf⟩ with ⟨h, e⟩ | ⟨h, e⟩ | ⟨h, e⟩ | ⟨h, e⟩ | ⟨h, e⟩ | ⟨h, e⟩ | ⟨h, e⟩ | ⟨h, e⟩ | ⟨h, e⟩
  · simp only at h; rw [h] at a b c d g
    exact foreign_0 f hf op rd rs1 rs2 imm csr aq rl w hv a b c d g e
  · simp only at h; rw [h] at a b c d g
    exact foreign_1 f hf op rd rs1 rs2 imm csr aq rl w hv a b c d g e
  · simp only at h; rw [h] at a b c d g
    exact foreign_2 f hf op rd rs1 rs2 imm csr aq rl w hv a b c d g e
  · simp only at h; rw [h] at a b c d g
    exact foreign_3 f hf op rd rs1 rs2 imm csr aq rl w hv a b c d g e
  · simp only at h; rw [h] at a b c d g
    exact foreign_4 f hf op rd rs1 rs2 imm csr aq rl w hv a b c d g e
  · simp only at h; rw [h] at a b c d g
    exact foreign_5 f hf op rd rs1 rs2 imm csr aq rl w hv a b c d g e
  · simp only at h; rw [h] at a b c d g
    exact foreign_6 f hf op rd rs1 rs2 imm csr aq rl w hv a b c d g e
  · simp only at h; rw [h] at a b c d g
    exact foreign_7 f hf op rd rs1 rs2 imm csr aq rl w hv a b c d g e
  · simp only at h; rw [h] at a b c d g
    exact foreign_8 f hf op rd rs1 rs2 imm csr aq rl w hv a b c d g e
end Go.Proofs.YthehcplogkgkeaaGreatDoor
set_option maxRecDepth 4000
namespace Go.Proofs.YthehcplogkgkeaaGreatDoor
open Go.ChangeShapes Go.WideShapes Go.ChangeAt Go.RowKit Wd

def rangeB (rd rs1 rs2 csr : Int) : Bool := inF rd 32 && inF rs1 32 && inF rs2 32 && inF csr 4096
def checkS (op rd rs1 rs2 imm csr : Int) (aq rl : Bool) : Int :=
  if fmtN op = 0 then 1 else if foreignS (fmtN op) rd rs1 rs2 imm csr aq rl = true then 2 else if rangeB rd rs1 rs2 csr = false then 3 else if immD (fmtN op : Nat) (layD (fmtN op : Nat) imm) = imm then 0 else 3
structure InsAt (w : World) (b : Nat) (op rd rs1 rs2 imm csr : Int) (aq rl : Bool) : Prop where
  c : w.cell? ⟨b, 0, none⟩ = some (.int .i64 op) ∧ w.cell? ⟨b, 1, none⟩ = some (.int .i64 rd) ∧ w.cell? ⟨b, 2, none⟩ = some (.int .i64 rs1) ∧ w.cell? ⟨b, 3, none⟩ = some (.int .i64 rs2) ∧ w.cell? ⟨b, 4, none⟩ = some (.int .i64 imm) ∧ w.cell? ⟨b, 5, none⟩ = some (.int .i64 csr) ∧ w.cell? ⟨b, 6, none⟩ = some (.bool aq) ∧ w.cell? ⟨b, 7, none⟩ = some (.bool rl)
theorem insAt_new (w : World) (t : TypeId) (op rd rs1 rs2 imm csr : Int) (aq rl : Bool) : InsAt (w.alloc (.cells #[.int .i64 op, .int .i64 rd, .int .i64 rs1, .int .i64 rs2, .int .i64 imm, .int .i64 csr, .bool aq, .bool rl] t)) w.heap.size op rd rs1 rs2 imm csr aq rl := by
  constructor
  refine ⟨?_, ?_, ?_, ?_, ?_, ?_, ?_, ?_⟩ <;> simp [go_sem]
theorem InsAt.on {w w' : World} {b : Nat} {op rd rs1 rs2 imm csr : Int} {aq rl : Bool} (h : InsAt w b op rd rs1 rs2 imm csr aq rl) (hb : Below w.heap.size w w') : InsAt w' b op rd rs1 rs2 imm csr aq rl := by
  obtain ⟨⟨c0, c1, c2, c3, c4, c5, c6, c7⟩⟩ := h
  have hl := lt_cell c0
  exact ⟨⟨(hb.cell (p := ⟨b, 0, none⟩) hl).trans c0, (hb.cell (p := ⟨b, 1, none⟩) hl).trans c1, (hb.cell (p := ⟨b, 2, none⟩) hl).trans c2, (hb.cell (p := ⟨b, 3, none⟩) hl).trans c3, (hb.cell (p := ⟨b, 4, none⟩) hl).trans c4, (hb.cell (p := ⟨b, 5, none⟩) hl).trans c5, (hb.cell (p := ⟨b, 6, none⟩) hl).trans c6, (hb.cell (p := ⟨b, 7, none⟩) hl).trans c7⟩⟩
abbrev CS (w : World) (b : Nat) (imm : Int) (w' : World) : Prop := Below w.heap.size w w' ∧ w'.cell? ⟨b, 4, none⟩ = some (.int .i64 imm)
theorem CS.on {w w' w2 : World} {b : Nat} {imm : Int} (h : CS w b imm w') (hb : Below w'.heap.size w' w2) : CS w b imm w2 :=
  ⟨h.1.trans (hb.mono h.1.size), (hb.cell (p := ⟨b, 4, none⟩) (lt_cell h.2)).trans h.2⟩
theorem CS.drew {w w' : World} {b : Nat} {imm : Int} (h : CS w b imm w') : CS w b imm w'.drew := h.on ((Below.refl _ _).drew)
set_option maxHeartbeats 4000000 in
theorem check_c (op rd rs1 rs2 imm csr : Int) (aq rl : Bool) (w : World) (hv : FldsAt w) :
    Calls Tryz.prog 19 #[.agg #[.int .i64 op, .int .i64 rd, .int .i64 rs1, .int .i64 rs2, .int .i64 imm, .int .i64 csr, .bool aq, .bool rl]] w fun e w' => e = .returned (.int .i64 (checkS op rd rs1 rs2 imm csr aq rl)) ∧ Below w.heap.size w w' := by
  generalize hr : checkS op rd rs1 rs2 imm csr aq rl = r
  unfold checkS at hr
  have HR := Lib.hid hr
  have HV := Lib.hid hv
  have hfl := fmtN_lt op
  clear hr hv
  go_enter Tryz.func19, Tryz.ntmps19
  go_wp2_with fail
  have HB0 := Lib.hid (show Below w.heap.size w (w.alloc (.cells #[.int .i64 op, .int .i64 rd, .int .i64 rs1, .int .i64 rs2, .int .i64 imm, .int .i64 csr, .bool aq, .bool rl] 24)) from (Below.refl _ _).alloc (Nat.le_refl _) _)
  have HI0 := Lib.hid (insAt_new w 24 op rd rs1 rs2 imm csr aq rl)
  generalize (w.alloc (.cells #[.int .i64 op, .int .i64 rd, .int .i64 rs1, .int .i64 rs2, .int .i64 imm, .int .i64 csr, .bool aq, .bool rl] 24)) = wa at *
  refine (formatOf_c _ _).mono ?_
  rintro e w1 ⟨rfl, hb⟩
  have HI1 := Lib.hid (HI0.out.on hb)
  have HB1 := Lib.hid (HB0.out.trans (hb.mono HB0.out.size))
  clear hb HI0 HB0
  generalize hff : fmtN op = f at *
  clear hff
  by_cases h0 : f = 0
  · have e0 : (((f : Nat) : Int) == 0) = true := by rw [h0]; rfl
    have HX := Lib.hid (show (1 : Int) = r by rw [← HR.out, if_pos h0])
    clear h0 HR
    generalize ((f : Nat) : Int) = fi at *
    go_wp2_with fail
    go_ret
    exact ⟨ret_u HX.out, HB1.out⟩
  have e0 : (((f : Nat) : Int) == 0) = false := by simpa using h0
  have hr1 := HR.out
  rw [if_neg h0] at hr1
  have HR1 := Lib.hid hr1
  clear hr1 HR h0
  obtain ⟨c0, c1, c2, c3, c4, c5, c6, c7⟩ := HI1.out.c
  go_wp2_with fail
  refine (foreign_c f hfl op rd rs1 rs2 imm csr aq rl _ (HV.out.low HB1.out)).mono ?_
  rintro e w2 ⟨rfl, hb⟩
  have HI2 := Lib.hid (HI1.out.on hb)
  have HB2 := Lib.hid (HB1.out.trans (hb.mono HB1.out.size))
  clear hb c0 c1 c2 c3 c4 c5 c6 c7 HI1 HB1
  obtain ⟨c0, c1, c2, c3, c4, c5, c6, c7⟩ := HI2.out.c
  cases hfo : foreignS f rd rs1 rs2 imm csr aq rl
  rotate_left
  · have HX := Lib.hid (show (2 : Int) = r by rw [← HR1.out, if_pos hfo])
    clear hfo HR1
    go_wp2_with fail
    go_ret
    exact ⟨ret_u HX.out, HB2.out⟩
  have hr1 := HR1.out
  rw [if_neg (by rw [hfo]; exact Bool.false_ne_true)] at hr1
  have HR2 := Lib.hid hr1
  clear hr1 HR1 hfo
  cases i1 : inF rd 32
  · have HX := Lib.hid (show (3 : Int) = r by rw [← HR2.out, if_pos (by unfold rangeB; simp [i1])])
    go_wp2_with fail
    refine (isField5_c rd _ i1 _).mono ?_
    rintro e wz ⟨rfl, rfl⟩
    go_wp2_with fail
    go_ret
    exact ⟨ret_u HX.out, HB2.out⟩
  cases i2 : inF rs1 32
  · have HX := Lib.hid (show (3 : Int) = r by rw [← HR2.out, if_pos (by unfold rangeB; simp [i1, i2])])
    go_wp2_with fail
    refine (isField5_c rd _ i1 _).mono ?_
    rintro e wz ⟨rfl, rfl⟩
    go_wp2_with fail
    refine (isField5_c rs1 _ i2 _).mono ?_
    rintro e wz ⟨rfl, rfl⟩
    go_wp2_with fail
    go_ret
    exact ⟨ret_u HX.out, HB2.out⟩
  cases i3 : inF rs2 32
  · have HX := Lib.hid (show (3 : Int) = r by rw [← HR2.out, if_pos (by unfold rangeB; simp [i1, i2, i3])])
    go_wp2_with fail
    refine (isField5_c rd _ i1 _).mono ?_
    rintro e wz ⟨rfl, rfl⟩
    go_wp2_with fail
    refine (isField5_c rs1 _ i2 _).mono ?_
    rintro e wz ⟨rfl, rfl⟩
    go_wp2_with fail
    refine (isField5_c rs2 _ i3 _).mono ?_
    rintro e wz ⟨rfl, rfl⟩
    go_wp2_with fail
    go_ret
    exact ⟨ret_u HX.out, HB2.out⟩
  cases i4 : inF csr 4096
  · have HX := Lib.hid (show (3 : Int) = r by rw [← HR2.out, if_pos (by unfold rangeB; simp [i1, i2, i3, i4])])
    go_wp2_with fail
    refine (isField5_c rd _ i1 _).mono ?_
    rintro e wz ⟨rfl, rfl⟩
    go_wp2_with fail
    refine (isField5_c rs1 _ i2 _).mono ?_
    rintro e wz ⟨rfl, rfl⟩
    go_wp2_with fail
    refine (isField5_c rs2 _ i3 _).mono ?_
    rintro e wz ⟨rfl, rfl⟩
    go_wp2_with fail
    refine (isField12_c csr _ i4 _).mono ?_
    rintro e wz ⟨rfl, rfl⟩
    go_wp2_with fail
    go_ret
    exact ⟨ret_u HX.out, HB2.out⟩
  have hr1 := HR2.out
  rw [if_neg (by unfold rangeB; simp [i1, i2, i3, i4])] at hr1
  have HR3 := Lib.hid hr1
  clear hr1 HR2
  go_wp2_with fail
  refine (isField5_c rd _ i1 _).mono ?_
  rintro e wz ⟨rfl, rfl⟩
  go_wp2_with fail
  refine (isField5_c rs1 _ i2 _).mono ?_
  rintro e wz ⟨rfl, rfl⟩
  go_wp2_with fail
  refine (isField5_c rs2 _ i3 _).mono ?_
  rintro e wz ⟨rfl, rfl⟩
  go_wp2_with fail
  refine (isField12_c csr _ i4 _).mono ?_
  rintro e wz ⟨rfl, rfl⟩
  go_wp2_with fail
  clear i1 i2 i3 i4
  have HS0 := Lib.hid (show CS w w.heap.size imm w2 from ⟨HB2.out, c4⟩)
  have hll := layD_lt (f : Nat) imm
  clear c0 c1 c2 c3 c4 c5 c6 c7
  go_region_held3 (fun w' => Below w.heap.size w w' ∧ w'.cell? ⟨w.heap.size, 4, none⟩ = some (.int .i64 imm))
    (first | with_reducible exact HS0.out.drew | with_reducible exact CS.on (by assumption) (by assumption) | with_reducible assumption)
    (first
      | (go_at_call 57; refine (lay_c _ _ _).mono ?_; rintro e wn ⟨rfl, hb⟩)
      | (go_at_call 56; refine (imm_c _ _ _ hll.1 hll.2).mono ?_; rintro e wm ⟨rfl, hb2⟩))
  have HE := Lib.hid (CS.on (CS.on HS0.out.drew hb) hb2)
  rename_i hHeldEnd
  clear hb hb2 HS0 hHeldEnd
  by_cases hq : immD (f : Nat) (layD (f : Nat) imm) = imm
  · have q1 : (immD (f : Nat) (layD (f : Nat) imm) != imm) = false := by simp [hq]
    have HX := Lib.hid (show (0 : Int) = r by rw [← HR3.out, if_pos hq])
    clear hq HR3
    generalize immD (f : Nat) (layD (f : Nat) imm) = im at *
    go_wp2_with fail
    go_ret
    exact ⟨ret_u HX.out, HE.out.1⟩
  · have q1 : (immD (f : Nat) (layD (f : Nat) imm) != imm) = true := by simpa using hq
    have HX := Lib.hid (show (3 : Int) = r by rw [← HR3.out, if_neg hq])
    clear hq HR3
    generalize immD (f : Nat) (layD (f : Nat) imm) = im at *
    go_wp2_with fail
    go_ret
    exact ⟨ret_u HX.out, HE.out.1⟩
end Go.Proofs.YthehcplogkgkeaaGreatDoor
set_option maxRecDepth 4000
namespace Go.Proofs.YthehcplogkgkeaaGreatDoor
open Go.ChangeShapes Go.WideShapes Go.ChangeAt Go.RowKit Wd

theorem word_small {f : Nat → Bool} {s : Nat} (h : ∀ i, s ≤ i → i < 64 → f i = false) : word f < ((2 ^ s : Nat) : Int) := by
  have h1 : (word f).toNat < 2 ^ s := by
    apply Nat.lt_pow_two_of_testBit
    intro i hi
    show tb (word f) i = false
    rw [tb_word]
    by_cases h64 : i < 64
    · rw [h i hi h64]; simp
    · simp [h64]
  have := word_nonneg f
  omega
theorem word_great {f : Nat → Bool} {s : Nat} (h : ∀ i, s ≤ i → i < 64 → f i = true) : 18446744073709551616 - ((2 ^ s : Nat) : Int) ≤ word f := by
  have h0 := word_nonneg f
  have h1 := word_lt f
  have h2 : (18446744073709551615 - word f).toNat < 2 ^ s := by
    apply Nat.lt_pow_two_of_testBit
    intro i hi
    show tb (18446744073709551615 - word f) i = false
    rw [tb_not h0 h1, tb_word]
    by_cases h64 : i < 64
    · rw [h i hi h64]; simp [h64]
    · simp [h64]
  omega
theorem sign_bound (x : Int) (s : Nat) (h1 : 1 ≤ s) (h2 : s ≤ 63) : -((2 ^ (s - 1) : Nat) : Int) ≤ wrap64 (signS x s) ∧ wrap64 (signS x s) < ((2 ^ (s - 1) : Nat) : Int) := by
  have hp : 2 ^ (s - 1) ≤ 2 ^ 62 := Nat.pow_le_pow_right (by decide) (by omega)
  rw [signS_pos (by omega)]
  have e1 : ((s : Int) - 1).toNat = s - 1 := by omega
  rw [e1]
  cases hb : tb x (s - 1)
  · have h := word_small (f := fun i : Nat => if (i : Int) < s then tb x i else false) (s := s - 1) (fun i hi _ => by
      by_cases hlt : (i : Int) < s
      · obtain rfl : i = s - 1 := by omega
        simp [hb]
      · simp [hlt])
    have h0 := word_nonneg (fun i : Nat => if (i : Int) < s then tb x i else false)
    rw [wrap64_small h0 (by omega)]
    omega
  · have h := word_great (f := fun i : Nat => if (i : Int) < s then tb x i else true) (s := s - 1) (fun i hi _ => by
      by_cases hlt : (i : Int) < s
      · obtain rfl : i = s - 1 := by omega
        simp [hb]
      · simp [hlt])
    have h0 := word_lt (fun i : Nat => if (i : Int) < s then tb x i else true)
    rw [wrap64_great (by omega) h0]
    omega
theorem imm_in (f : Nat) (hf : f < 15) (x : Int) : (-2147483648 ≤ immD f x ∧ immD f x < 2147483648) ∧ (f ≠ 5 → -1048576 ≤ immD f x ∧ immD f x ≤ 1048576) := by
  rw [immD_eq f hf]
  unfold immS
  have : f = 2 ∨ f = 3 ∨ f = 4 ∨ f = 5 ∨ f = 6 ∨ f = 7 ∨ f = 8 ∨ (placesOf f).length = 0 ∧ signedOf f = false := by
    have l : ∀ f : Fin 15, f.val = 2 ∨ f.val = 3 ∨ f.val = 4 ∨ f.val = 5 ∨ f.val = 6 ∨ f.val = 7 ∨ f.val = 8 ∨ (placesOf f.val).length = 0 ∧ signedOf f.val = false := by decide +kernel
    exact l ⟨f, hf⟩
  rcases this with rfl | rfl | rfl | rfl | rfl | rfl | rfl | ⟨h1, h2⟩
  · have := sign_bound (immN 2 x) 12 (by decide) (by decide)
    simp only [signedOf, placesOf, if_true, List.length_cons, List.length_nil] at this ⊢
    simp only [Nat.reduceAdd, Nat.reduceSub, Nat.reducePow] at this ⊢
    omega
  · have := sign_bound (immN 3 x) 12 (by decide) (by decide)
    simp only [signedOf, placesOf, if_true, List.length_cons, List.length_nil] at this ⊢
    simp only [Nat.reduceAdd, Nat.reduceSub, Nat.reducePow] at this ⊢
    omega
  · have := sign_bound (immN 4 x) 13 (by decide) (by decide)
    simp only [signedOf, placesOf, if_true, List.length_cons, List.length_nil] at this ⊢
    simp only [Nat.reduceAdd, Nat.reduceSub, Nat.reducePow] at this ⊢
    omega
  · have := sign_bound (immN 5 x) 32 (by decide) (by decide)
    simp only [signedOf, placesOf, if_true, List.length_cons, List.length_nil] at this ⊢
    simp only [Nat.reduceAdd, Nat.reduceSub, Nat.reducePow] at this ⊢
    omega
  · have := sign_bound (immN 6 x) 21 (by decide) (by decide)
    simp only [signedOf, placesOf, if_true, List.length_cons, List.length_nil] at this ⊢
    simp only [Nat.reduceAdd, Nat.reduceSub, Nat.reducePow] at this ⊢
    omega
  · have h := sumTo_lt (pbit 7 x) 6
    have e : immN 7 x = ((sumTo (pbit 7 x) 6 : Nat) : Int) := rfl
    simp only [signedOf, Bool.false_eq_true, if_false]
    rw [e]
    simp only [Nat.reducePow] at h
    rw [wrap64_small (by omega) (by omega)]
    omega
  · have h := sumTo_lt (pbit 8 x) 5
    have e : immN 8 x = ((sumTo (pbit 8 x) 5 : Nat) : Int) := rfl
    simp only [signedOf, Bool.false_eq_true, if_false]
    rw [e]
    simp only [Nat.reducePow] at h
    rw [wrap64_small (by omega) (by omega)]
    omega
  · rw [h2]
    simp only [Bool.false_eq_true, if_false]
    unfold immN
    rw [h1]
    rw [show sumTo (pbit f x) 0 = 0 from rfl, wrap64_small (by decide) (by decide)]
    exact ⟨⟨by decide, by decide⟩, fun _ => ⟨by decide, by decide⟩⟩
theorem check_imm {op rd rs1 rs2 imm csr : Int} {aq rl : Bool} (h : checkS op rd rs1 rs2 imm csr aq rl = 0) : (-2147483648 ≤ imm ∧ imm < 2147483648) ∧ (fmtN op ≠ 5 → -1048576 ≤ imm ∧ imm ≤ 1048576) := by
  unfold checkS at h
  split at h
  · cases h
  split at h
  · cases h
  split at h
  · cases h
  split at h
  · rename_i he
    have hf : fmtN op < 15 := by
      have := fmtN_lt op
      exact this
    have := imm_in (fmtN op) hf (layD (fmtN op : Nat) imm)
    rw [he] at this
    exact this
  · cases h
end Go.Proofs.YthehcplogkgkeaaGreatDoor
