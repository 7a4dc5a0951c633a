/-
  The contract of insn.Encode. For InsnBack: an encoded word, bit by bit; which bit of a word belongs to what (plain numbers). For InsnBack: what is decoded is encoded as it was (plain numbers). For InsnBack: what is decoded has a word (plain numbers). For InsnBack: what is encoded is decoded as it was (plain numbers). For InsnBack: what is encoded is decoded as it was (plain numbers). How Decode answers; the eight cells of an instruction. Sums of numbers whose bits are apart are their ors; the sum by which the reference encodes.
-/
import Derived.Test.YthehcplogkgkeaaGreatDoorQi
import Derived.Test.YthehcplogkgkeaaGreatDoorQm
set_option maxRecDepth 4000
namespace Go.Proofs.YthehcplogkgkeaaGreatDoor
open Go.ChangeShapes Go.WideShapes Go.ChangeAt Go.RowKit Wd

theorem check_ok {op rd rs1 rs2 imm csr : Int} {aq rl : Bool} (h : checkS op rd rs1 rs2 imm csr aq rl = 0) : (1 ≤ op ∧ op ≤ 98) ∧ foreignS (fmtN op) rd rs1 rs2 imm csr aq rl = false ∧ ((0 ≤ rd ∧ rd < 32) ∧ (0 ≤ rs1 ∧ rs1 < 32) ∧ (0 ≤ rs2 ∧ rs2 < 32) ∧ 0 ≤ csr ∧ csr < 4096) ∧ immD (fmtN op : Nat) (layD (fmtN op : Nat) imm) = imm := by
  unfold checkS at h
  by_cases h0 : fmtN op = 0
  · rw [if_pos h0] at h; omega
  rw [if_neg h0] at h
  have hop : 1 ≤ op ∧ op ≤ 98 := Classical.byContradiction fun hn => h0 ((fmt_zero op).2 hn)
  cases hf : foreignS (fmtN op) rd rs1 rs2 imm csr aq rl
  rotate_left
  · rw [if_pos hf] at h; omega
  rw [if_neg (by rw [hf]; exact Bool.false_ne_true)] at h
  cases hr : rangeB rd rs1 rs2 csr
  · rw [if_pos hr] at h; omega
  rw [if_neg (by rw [hr]; exact Bool.noConfusion)] at h
  by_cases hi : immD (fmtN op : Nat) (layD (fmtN op : Nat) imm) = imm
  rotate_left
  · rw [if_neg hi] at h; omega
  refine ⟨hop, rfl, ?_, hi⟩
  unfold rangeB at hr
  simp only [Bool.and_eq_true, inF_iff] at hr
  exact ⟨hr.1.1.1, hr.1.1.2, hr.1.2, hr.2⟩
/-- The word that Encode puts together. -/
def encI (v la rd rs1 rs2 csr : Int) (aq rl : Bool) : Int := bits .or .u32 (bits .or .u32 (bits .or .u32 v la) (bits .or .u32 (bits .or .u32 (bits .or .u32 (rd * 128) (rs1 * 32768)) (rs2 * 1048576)) (csr * 1048576))) (bits .or .u32 (flagS aq 67108864) (flagS rl 33554432))
abbrev ES (w : World) (b : Nat) (op imm : Int) (k : Nat) (v : Int) (w' : World) : Prop := Below w.heap.size w w' ∧ w'.cell? ⟨b, 0, none⟩ = some (.int .i64 op) ∧ w'.cell? ⟨b, 4, none⟩ = some (.int .i64 imm) ∧ w'.cell? ⟨1, k, none⟩ = some (.int .u32 v)
theorem ES.on {w w' w2 : World} {b : Nat} {op imm : Int} {k : Nat} {v : Int} (h : ES w b op imm k v w') (hb : Below w'.heap.size w' w2) : ES w b op imm k v w2 :=
  ⟨h.1.trans (hb.mono h.1.size), (hb.cell (p := ⟨b, 0, none⟩) (lt_cell h.2.1)).trans h.2.1, (hb.cell (p := ⟨b, 4, none⟩) (lt_cell h.2.2.1)).trans h.2.2.1, (hb.cell (p := ⟨1, k, none⟩) (lt_cell h.2.2.2)).trans h.2.2.2⟩
theorem ES.drew {w w' : World} {b : Nat} {op imm : Int} {k : Nat} {v : Int} (h : ES w b op imm k v w') : ES w b op imm k v w'.drew := h.on ((Below.refl _ _).drew)
set_option maxHeartbeats 4000000 in
theorem encode_no (op rd rs1 rs2 imm csr : Int) (aq rl : Bool) (w : World) (hv : VarsAt w) (he : checkS op rd rs1 rs2 imm csr aq rl ≠ 0) :
    Calls Tryz.prog 40 #[.agg #[.int .i64 op, .int .i64 rd, .int .i64 rs1, .int .i64 rs2, .int .i64 imm, .int .i64 csr, .bool aq, .bool rl]] w fun e w' => e = .returned (.tuple #[.int .u32 0, .int .i64 (checkS op rd rs1 rs2 imm csr aq rl)]) ∧ Below w.heap.size w w' := by
  have q1 : (checkS op rd rs1 rs2 imm csr aq rl != 0) = true := by simpa using he
  have HV := Lib.hid hv
  clear hv he
  go_enter Tryz.func40, Tryz.ntmps40
  go_wp2_with fail
  have HB0 := Lib.hid (show Below w.heap.size w (w.alloc (.cells #[.int .i64 op, .int .i64 rd, .int .i64 rs1, .int .i64 rs2, .int .i64 imm, .int .i64 csr, .bool aq, .bool rl] 24)) from (Below.refl _ _).alloc (Nat.le_refl _) _)
  refine (check_c op rd rs1 rs2 imm csr aq rl _ (HV.out.low HB0.out)).mono ?_
  rintro e w1 ⟨rfl, hb⟩
  have HB1 := Lib.hid (HB0.out.trans (hb.mono HB0.out.size))
  clear hb HB0
  generalize hcc : checkS op rd rs1 rs2 imm csr aq rl = c at *
  have HCC := Lib.hid hcc
  clear hcc
  go_wp2_with fail
  go_ret2
  exact ⟨by rw [HCC.out]; rfl, HB1.out⟩
set_option maxHeartbeats 4000000 in
theorem encode_yes (op rd rs1 rs2 imm csr : Int) (aq rl : Bool) (w : World) (hv : VarsAt w) (he : checkS op rd rs1 rs2 imm csr aq rl = 0) :
    Calls Tryz.prog 40 #[.agg #[.int .i64 op, .int .i64 rd, .int .i64 rs1, .int .i64 rs2, .int .i64 imm, .int .i64 csr, .bool aq, .bool rl]] w fun e w' => e = .returned (.tuple #[.int .u32 (encI (fixV op) (layD (fmtN op : Nat) imm) rd rs1 rs2 csr aq rl), .int .i64 0]) ∧ Below w.heap.size w w' := by
  obtain ⟨⟨o1, o2⟩, hfo, ⟨⟨a0, a1⟩, ⟨b0, b1⟩, ⟨d0, d1⟩, g0, g1⟩, him⟩ := check_ok he
  obtain ⟨k, rfl⟩ : ∃ k : Nat, op = (k : Int) := ⟨op.toNat, by omega⟩
  have hk : k < 99 := by omega
  have hk2 : (k : Int) < 99 := by omega
  have HV := Lib.hid hv
  have HE := Lib.hid he
  clear hv he hfo him
  go_enter Tryz.func40, Tryz.ntmps40
  go_wp2_with fail
  have HB0 := Lib.hid (show Below w.heap.size w (w.alloc (.cells #[.int .i64 (k : Int), .int .i64 rd, .int .i64 rs1, .int .i64 rs2, .int .i64 imm, .int .i64 csr, .bool aq, .bool rl] 24)) from (Below.refl _ _).alloc (Nat.le_refl _) _)
  have HI0 := Lib.hid (insAt_new w 24 (k : Int) rd rs1 rs2 imm csr aq rl)
  refine (check_c (k : Int) rd rs1 rs2 imm csr aq rl _ (HV.out.low HB0.out)).mono ?_
  rintro e w1 ⟨rfl, hb⟩
  have HB1 := Lib.hid (HB0.out.trans (hb.mono HB0.out.size))
  have HI1 := Lib.hid (HI0.out.on hb)
  clear hb HB0 HI0
  rw [HE.out]
  have HS0 := Lib.hid (show ES w w.heap.size (k : Int) imm k (valN k : Nat) w1 from ⟨HB1.out, HI1.out.c.1, HI1.out.c.2.2.2.2.1, (HV.out.low HB1.out).vals k hk⟩)
  go_wp2_with fail
  go_region_held3 (fun w' => Below w.heap.size w w' ∧ w'.cell? ⟨w.heap.size, 0, none⟩ = some (.int .i64 (k : Int)) ∧ w'.cell? ⟨w.heap.size, 4, none⟩ = some (.int .i64 imm) ∧ w'.cell? ⟨1, k, none⟩ = some (.int .u32 ((valN k : Nat) : Int)))
    (first | with_reducible exact HS0.out.drew | with_reducible exact ES.on (by assumption) (by assumption) | with_reducible assumption)
    (first
      | (go_at_call 22; refine (formatOf_c _ _).mono ?_; rintro e wn ⟨rfl, hb⟩)
      | (go_at_call 57; refine (lay_c _ _ _).mono ?_; rintro e wm ⟨rfl, hb2⟩))
  rename_i hHeldEnd
  have HI2 := Lib.hid ((HI1.out.on ((Below.refl _ _).drew)).on hb)
  have HI3 := Lib.hid (HI2.out.on hb2)
  have HB3 := Lib.hid hHeldEnd.1
  clear hb hb2 hHeldEnd HS0 HI1 HI2 HB1
  obtain ⟨c0, c1, c2, c3, c4, c5, c6, c7⟩ := HI3.out.c
  have hll := layD_lt (fmtN (k : Int) : Nat) imm
  generalize hla : layD (fmtN (k : Int) : Nat) imm = la at *
  have HLA := Lib.hid hla
  clear hla
  obtain ⟨l0, l1⟩ := hll
  have hvl := (tabs_ok ⟨k, hk⟩ (by simp only; omega)).2.2
  simp only at hvl
  go_wp2_with fail
  refine wp_region_still_lit (by kernel_rfl) (by kernel_rfl) ?_
  simp only [drew_eq]
  have c6' : wm.drew.cell? ⟨w.heap.size, 6, none⟩ = some (.bool aq) := c6
  have c7' : wm.drew.cell? ⟨w.heap.size, 7, none⟩ = some (.bool rl) := c7
  have HB4 := Lib.hid (HB3.out.drew)
  have HCU := Lib.hid (fun w' => Calls.turn (flag26_c aq w'))
  have HCV := Lib.hid (fun w' => Calls.turn (flag25_c rl w'))
  clear c0 c1 c2 c3 c4 c5 c6 c7 l0 l1 hvl
  generalize wm.drew = wq at *
  generalize hw5 : bits .or .u32 (bits .or .u32 ((valN k : Nat) : Int) la) (bits .or .u32 (bits .or .u32 (bits .or .u32 (rd * 128) (rs1 * 32768)) (rs2 * 1048576)) (csr * 1048576)) = w5 at *
  have HW5 := Lib.hid hw5
  clear hw5
  iterate 3 still_step
  still_call (HCU.out _)
  iterate 2 still_step
  still_call (HCV.out _)
  iterate 3 still_step
  refine wpStill_nil ?_
  go_wp2_with fail
  go_ret2
  exact ⟨by rw [← HW5.out, ← HLA.out]; rfl, HB4.out⟩
end Go.Proofs.YthehcplogkgkeaaGreatDoor
set_option maxRecDepth 4000
namespace Go.Proofs.YthehcplogkgkeaaGreatDoor
open Go.ChangeShapes Go.WideShapes Go.ChangeAt Go.RowKit Wd

theorem or32 {x y : Int} (hx0 : 0 ≤ x) (hx : x < 4294967296) (hy0 : 0 ≤ y) (hy : y < 4294967296) : (0 ≤ bits .or .u32 x y ∧ bits .or .u32 x y < 4294967296) ∧ ∀ i, tb (bits .or .u32 x y) i = (tb x i || tb y i) := by
  rw [u32_or x y hx0 hx hy0 hy]
  have : x.toNat ||| y.toNat < 2 ^ 32 := Nat.or_lt_two_pow (by omega) (by omega)
  refine ⟨by omega, fun i => ?_⟩
  unfold tb
  rw [Int.toNat_natCast, Nat.testBit_or]
theorem tb_shift {x : Int} (h0 : 0 ≤ x) (k i : Nat) : tb (x * 2 ^ k) i = (decide (k ≤ i) && tb x (i - k)) := tb_mul h0 k i
theorem tb_flag (on : Bool) (k i : Nat) : tb (flagS on ((2 ^ k : Nat) : Int)) i = (on && decide (i = k)) := by
  cases on
  · simp [flagS, tb_zero]
  · unfold flagS tb
    rw [if_pos rfl, Int.toNat_natCast, Nat.testBit_two_pow]
    simp [eq_comm]
/-- The bits of the word that Encode puts together. -/
theorem enc_bits {v la rd rs1 rs2 csr : Int} {aq rl : Bool} (v0 : 0 ≤ v) (v1 : v < 4294967296) (l0 : 0 ≤ la) (l1 : la < 4294967296) (a0 : 0 ≤ rd) (a1 : rd < 32) (b0 : 0 ≤ rs1) (b1 : rs1 < 32) (c0 : 0 ≤ rs2) (c1 : rs2 < 32) (d0 : 0 ≤ csr) (d1 : csr < 4096) :
    (0 ≤ encI v la rd rs1 rs2 csr aq rl ∧ encI v la rd rs1 rs2 csr aq rl < 4294967296) ∧ ∀ i, tb (encI v la rd rs1 rs2 csr aq rl) i =
      (((tb v i || tb la i) || ((((decide (7 ≤ i) && tb rd (i - 7)) || (decide (15 ≤ i) && tb rs1 (i - 15))) || (decide (20 ≤ i) && tb rs2 (i - 20))) || (decide (20 ≤ i) && tb csr (i - 20)))) || ((aq && decide (i = 26)) || (rl && decide (i = 25)))) := by
  have fq : ∀ (on : Bool) (n : Int), 0 ≤ n → n < 4294967296 → 0 ≤ flagS on n ∧ flagS on n < 4294967296 := fun on n h0 h1 => by cases on <;> simp [flagS] <;> omega
  have f26 := fq aq 67108864 (by decide) (by decide)
  have f25 := fq rl 33554432 (by decide) (by decide)
  obtain ⟨⟨p0, p1⟩, p⟩ := or32 v0 v1 l0 l1
  obtain ⟨⟨q0, q1⟩, q⟩ := or32 (x := rd * 128) (y := rs1 * 32768) (by omega) (by omega) (by omega) (by omega)
  obtain ⟨⟨r0, r1⟩, r⟩ := or32 (y := rs2 * 1048576) q0 q1 (by omega) (by omega)
  obtain ⟨⟨s0, s1⟩, s⟩ := or32 (y := csr * 1048576) r0 r1 (by omega) (by omega)
  obtain ⟨⟨t0, t1⟩, t⟩ := or32 p0 p1 s0 s1
  obtain ⟨⟨u0, u1⟩, u⟩ := or32 f26.1 f26.2 f25.1 f25.2
  obtain ⟨x, z⟩ := or32 t0 t1 u0 u1
  refine ⟨x, fun i => ?_⟩
  unfold encI
  rw [z, t, u, p, s, r, q]
  have e7 := tb_shift a0 7 i
  have e15 := tb_shift b0 15 i
  have e20 := tb_shift c0 20 i
  have e20' := tb_shift d0 20 i
  have g26 := tb_flag aq 26 i
  have g25 := tb_flag rl 25 i
  rw [show ((2 : Int) ^ 7) = 128 by decide] at e7
  rw [show ((2 : Int) ^ 15) = 32768 by decide] at e15
  rw [show ((2 : Int) ^ 20) = 1048576 by decide] at e20 e20'
  rw [show (((2 ^ 26 : Nat)) : Int) = 67108864 by decide] at g26
  rw [show (((2 ^ 25 : Nat)) : Int) = 33554432 by decide] at g25
  rw [e7, e15, e20, e20', g26, g25]
/-- What a bit of a word belongs to, by a format: 1 the number, 2 rd, 3 rs1, 4 rs2, 5 the CSR, 6 Aq, 7 Rl; 0: it is fixed. -/
def ownerB (f i : Nat) : Nat :=
  if (placesOf f).contains (i : Int) then 1 else if !lacksB f 1 && decide (7 ≤ i ∧ i < 12) then 2 else if !lacksB f 2 && decide (15 ≤ i ∧ i < 20) then 3 else if !lacksB f 4 && decide (20 ≤ i ∧ i < 25) then 4 else
  if !lacksB f 8 && decide (20 ≤ i ∧ i < 32) then 5 else if !lacksB f 16 && decide (i = 26) then 6 else if !lacksB f 16 && decide (i = 25) then 7 else 0
/-- Each bit of a word is fixed, or belongs to one thing. -/
theorem owner_mask : ∀ k : Fin 99, 1 ≤ k.val → ∀ i : Fin 32, (maskN k.val).testBit i.val = (ownerB (fmtN (k.val : Nat)) i.val == 0) := by decide +kernel
theorem owner_one : ∀ f : Fin 15, ∀ i : Fin 32, (f.val ≠ 0) → ((placesOf f.val).contains (i.val : Int) = (ownerB f.val i.val == 1)) ∧ ((!lacksB f.val 1 && decide (7 ≤ i.val ∧ i.val < 12)) = (ownerB f.val i.val == 2)) ∧ ((!lacksB f.val 2 && decide (15 ≤ i.val ∧ i.val < 20)) = (ownerB f.val i.val == 3)) ∧
    ((!lacksB f.val 4 && decide (20 ≤ i.val ∧ i.val < 25)) = (ownerB f.val i.val == 4)) ∧ ((!lacksB f.val 8 && decide (20 ≤ i.val ∧ i.val < 32)) = (ownerB f.val i.val == 5)) ∧ ((!lacksB f.val 16 && decide (i.val = 26)) = (ownerB f.val i.val == 6)) ∧ ((!lacksB f.val 16 && decide (i.val = 25)) = (ownerB f.val i.val == 7)) := by decide +kernel
theorem val_within : ∀ k : Fin 99, ∀ i : Fin 32, (valN k.val).testBit i.val = true → (maskN k.val).testBit i.val = true := by decide +kernel
end Go.Proofs.YthehcplogkgkeaaGreatDoor
set_option maxRecDepth 4000
namespace Go.Proofs.YthehcplogkgkeaaGreatDoor
open Go.ChangeShapes Go.WideShapes Go.ChangeAt Go.RowKit Wd

theorem wrap_back {y : Int} (h0 : 0 ≤ y) (h1 : y < 18446744073709551616) : IntKind.u64.wrap (wrap64 y) = y := by
  rw [IntKind.wrap_u64]; unfold wrap64; omega
theorem last_ok : ∀ f : Fin 15, ∀ i : Fin 32, (match lastJ f.val (placesOf f.val).length i.val with | some j => decide (j < (placesOf f.val).length) && decide ((placesOf f.val).getD j (-1) = (i.val : Int)) && (placesOf f.val).contains (i.val : Int) | none => !(placesOf f.val).contains (i.val : Int)) = true := by decide +kernel
theorem tb_imm (f : Nat) (hf : f < 15) (X : Int) (j : Nat) (hj : j < (placesOf f).length) : tb (IntKind.u64.wrap (immD f X)) j = pbit f X j := by
  obtain ⟨r0, r1⟩ := immN_range f hf X
  have hl := places_len ⟨f, hf⟩
  simp only at hl
  have hN : tb (immN f X) j = pbit f X j := by
    unfold immN tb
    rw [Int.toNat_natCast, testBit_sumTo]
    simp [hj]
  rw [immD_eq f hf]
  unfold immS
  cases hs : signedOf f
  · rw [if_neg Bool.false_ne_true, wrap_back r0 r1]; exact hN
  · obtain ⟨s0, s1⟩ := signS_range (immN f X) (placesOf f).length
    rw [if_pos rfl, wrap_back s0 s1, signS_pos (by omega), tb_word]
    have e1 : decide (j < 64) = true := by simp; omega
    rw [e1, Bool.true_and, if_pos (by omega)]
    exact hN
/-- The number's bits in the word. -/
theorem tb_lay (f : Nat) (hf : f < 15) (n : Int) (i : Nat) (hi : i < 64) : tb (layD f n) i = match lastJ f (placesOf f).length i with | some j => tb (IntKind.u64.wrap n) j | none => false := by
  have hl := places_len ⟨f, hf⟩
  simp only at hl
  rw [layD_eq f hf]
  exact lay_last f hf _ _ i (by omega) hi
theorem lay_of_imm (f : Nat) (hf : f < 15) (X : Int) (i : Nat) (hi : i < 32) : tb (layD f (immD f X)) i = ((placesOf f).contains (i : Int) && tb X i) := by
  have h := last_ok ⟨f, hf⟩ ⟨i, hi⟩
  simp only at h
  rw [tb_lay f hf _ i (by omega)]
  cases hj : lastJ f (placesOf f).length i with
  | none =>
    rw [hj] at h
    have : (placesOf f).contains (i : Int) = false := by simpa using h
    rw [this]; rfl
  | some j =>
    rw [hj] at h
    simp only [Bool.and_eq_true, decide_eq_true_eq] at h
    obtain ⟨⟨h1, h2⟩, h3⟩ := h
    simp only
    rw [tb_imm f hf X j h1, h3, Bool.true_and]
    unfold pbit
    rw [h2, tbI_nat X i (by omega)]
theorem tb_field (f : Nat) (what X : Int) (p s i : Nat) (hs : s ≤ 12) (hp : p < 32) : (decide (p ≤ i) && tb (fieldS f what X p s) (i - p)) = ((!lacksB f what && decide (p ≤ i ∧ i < p + s)) && tb X i) := by
  unfold fieldS
  cases lacksB f what
  · rw [if_neg Bool.false_ne_true, Bool.not_false, Bool.true_and]
    by_cases h : p ≤ i
    · unfold cutS
      rw [tb_word]
      by_cases h2 : i < p + s
      · have e1 : decide (p ≤ i) = true := decide_eq_true h
        have e2 : decide (i - p < 64) = true := decide_eq_true (by omega)
        have e3 : decide (((i - p : Nat) : Int) < (s : Int) ∧ 0 ≤ (p : Int) + ((i - p : Nat) : Int)) = true := decide_eq_true (by omega)
        have e4 : ((p : Int) + ((i - p : Nat) : Int)).toNat = i := by omega
        have e5 : decide (p ≤ i ∧ i < p + s) = true := decide_eq_true ⟨h, h2⟩
        rw [e1, e2, e3, e4, e5]; simp
      · have e3 : decide (((i - p : Nat) : Int) < (s : Int) ∧ 0 ≤ (p : Int) + ((i - p : Nat) : Int)) = false := decide_eq_false (by omega)
        have e5 : decide (p ≤ i ∧ i < p + s) = false := decide_eq_false (by omega)
        rw [e3, e5]; simp
    · have e1 : decide (p ≤ i) = false := decide_eq_false h
      have e5 : decide (p ≤ i ∧ i < p + s) = false := decide_eq_false (by omega)
      rw [e1, e5, Bool.false_and, Bool.false_and]
  · rw [if_pos rfl, Bool.not_true, Bool.false_and, Bool.false_and, tb_zero, Bool.and_false]
theorem field_one (f : Nat) (X : Int) (p : Nat) (hp : p < 32) : (fieldS f 16 X p 1 == 1) = (!lacksB f 16 && tb X p) := by
  have h := tb_field f 16 X p 1 p (by decide) hp
  have e : decide (p ≤ p) = true := decide_eq_true (Nat.le_refl _)
  have e2 : decide (p ≤ p ∧ p < p + 1) = true := decide_eq_true (by omega)
  rw [e, Bool.true_and, e2, Bool.and_true, Nat.sub_self] at h
  rw [← h]
  have hr : 0 ≤ fieldS f 16 X p 1 ∧ fieldS f 16 X p 1 < 2 := by
    unfold fieldS
    split
    · decide
    · have := cutS_lt X p 1 (by decide); simpa using this
  obtain h0 | h0 : fieldS f 16 X p 1 = 0 ∨ fieldS f 16 X p 1 = 1 := by omega
  · have : fieldS f 16 X ((p : Nat) : Int) ((1 : Nat) : Int) = 0 := h0
    rw [h0, this]; rfl
  · have : fieldS f 16 X ((p : Nat) : Int) ((1 : Nat) : Int) = 1 := h0
    rw [h0, this]; rfl
theorem owner_le : ∀ f : Fin 15, ∀ i : Fin 32, ownerB f.val i.val ≤ 7 := by decide +kernel
/-- WHAT IS DECODED IS ENCODED AS IT WAS: the word. -/
theorem enc_of_dec (X k : Nat) (hX : X < 4294967296) (h1 : 1 ≤ k) (h2 : k ≤ 98) (hm : matchN X k = true) :
    encI (fixV (k : Nat)) (layD (fmtN (k : Nat) : Nat) (immD (fmtN (k : Nat) : Nat) (X : Nat))) (fieldS (fmtN (k : Nat)) 1 (X : Nat) 7 5) (fieldS (fmtN (k : Nat)) 2 (X : Nat) 15 5) (fieldS (fmtN (k : Nat)) 4 (X : Nat) 20 5) (fieldS (fmtN (k : Nat)) 8 (X : Nat) 20 12)
      (fieldS (fmtN (k : Nat)) 16 (X : Nat) 26 1 == 1) (fieldS (fmtN (k : Nat)) 16 (X : Nat) 25 1 == 1) = (X : Nat) := by
  have hfl := fmtN_lt (k : Nat)
  have hf0 : fmtN (k : Nat) ≠ 0 := fun e => (fmt_zero (k : Nat)).1 e (by omega)
  have hmask : ∀ i, i < 32 → (maskN k).testBit i = (ownerB (fmtN (k : Nat)) i == 0) := fun i hi => owner_mask ⟨k, by omega⟩ h1 ⟨i, hi⟩
  have hv : fixV (k : Nat) = ((X &&& maskN k : Nat) : Int) := by
    have e : X &&& maskN k = valN k := by simpa [matchN] using hm
    rw [e]; rfl
  have hvl : X &&& maskN k < 4294967296 := Nat.lt_of_le_of_lt Nat.and_le_left hX
  have fr : ∀ (what : Int) (p s : Nat), s ≤ 12 → 0 ≤ fieldS (fmtN (k : Nat)) what (X : Nat) p s ∧ fieldS (fmtN (k : Nat)) what (X : Nat) p s < 2 ^ s := fun what p s hs => by
    unfold fieldS
    split
    · exact ⟨by decide, Int.pow_pos (by decide)⟩
    · exact cutS_lt _ _ s hs
  generalize fmtN (k : Nat) = f at *
  obtain ⟨l0, l1⟩ := layD_lt (f : Nat) (immD (f : Nat) (X : Nat))
  have q1 := fr 1 7 5 (by decide)
  have q2 := fr 2 15 5 (by decide)
  have q3 := fr 4 20 5 (by decide)
  have q4 := fr 8 20 12 (by decide)
  rw [hv]
  obtain ⟨⟨z0, z1⟩, z⟩ := enc_bits (v := ((X &&& maskN k : Nat) : Int)) (la := layD (f : Nat) (immD (f : Nat) (X : Nat))) (rd := fieldS f 1 (X : Nat) 7 5) (rs1 := fieldS f 2 (X : Nat) 15 5) (rs2 := fieldS f 4 (X : Nat) 20 5) (csr := fieldS f 8 (X : Nat) 20 12)
    (aq := fieldS f 16 (X : Nat) 26 1 == 1) (rl := fieldS f 16 (X : Nat) 25 1 == 1) (by omega) (by omega) l0 l1 q1.1 q1.2 q2.1 q2.2 q3.1 q3.2 q4.1 q4.2
  refine ext z0 (by omega) (by omega) (by omega) fun i _ => ?_
  by_cases hi : i < 32
  · rw [z i]
    obtain ⟨o1, o2, o3, o4, o5, o6, o7⟩ := owner_one ⟨f, hfl⟩ ⟨i, hi⟩ hf0
    have ol := owner_le ⟨f, hfl⟩ ⟨i, hi⟩
    have om := hmask i hi
    simp only at o1 o2 o3 o4 o5 o6 o7 ol
    have t1 : (decide (7 ≤ i) && tb (fieldS f 1 (X : Nat) 7 5) (i - 7)) = ((ownerB f i == 2) && tb (X : Nat) i) := by rw [← o2]; exact tb_field f 1 (X : Nat) 7 5 i (by decide) (by decide)
    have t2 : (decide (15 ≤ i) && tb (fieldS f 2 (X : Nat) 15 5) (i - 15)) = ((ownerB f i == 3) && tb (X : Nat) i) := by rw [← o3]; exact tb_field f 2 (X : Nat) 15 5 i (by decide) (by decide)
    have t3 : (decide (20 ≤ i) && tb (fieldS f 4 (X : Nat) 20 5) (i - 20)) = ((ownerB f i == 4) && tb (X : Nat) i) := by rw [← o4]; exact tb_field f 4 (X : Nat) 20 5 i (by decide) (by decide)
    have t4 : (decide (20 ≤ i) && tb (fieldS f 8 (X : Nat) 20 12) (i - 20)) = ((ownerB f i == 5) && tb (X : Nat) i) := by rw [← o5]; exact tb_field f 8 (X : Nat) 20 12 i (by decide) (by decide)
    have t5 : ((fieldS f 16 (X : Nat) 26 1 == 1) && decide (i = 26)) = ((ownerB f i == 6) && tb (X : Nat) i) := by
      rw [← o6, show (fieldS f 16 (X : Nat) 26 1 == 1) = (!lacksB f 16 && tb (X : Nat) 26) from field_one f (X : Nat) 26 (by decide)]
      by_cases e : i = 26
      · subst e; simp
      · simp [e]
    have t6 : ((fieldS f 16 (X : Nat) 25 1 == 1) && decide (i = 25)) = ((ownerB f i == 7) && tb (X : Nat) i) := by
      rw [← o7, show (fieldS f 16 (X : Nat) 25 1 == 1) = (!lacksB f 16 && tb (X : Nat) 25) from field_one f (X : Nat) 25 (by decide)]
      by_cases e : i = 25
      · subst e; simp
      · simp [e]
    have t7 : tb (layD (f : Nat) (immD (f : Nat) (X : Nat))) i = ((ownerB f i == 1) && tb (X : Nat) i) := by rw [lay_of_imm f hfl _ i hi, o1]
    have t8 : tb ((X &&& maskN k : Nat) : Int) i = ((ownerB f i == 0) && tb (X : Nat) i) := by
      unfold tb; rw [Int.toNat_natCast, Int.toNat_natCast, Nat.testBit_and, om, Bool.and_comm]
    rw [t1, t2, t3, t4, t5, t6, t7, t8]
    generalize tb (X : Nat) i = b
    obtain h | h | h | h | h | h | h | h : ownerB f i = 0 ∨ ownerB f i = 1 ∨ ownerB f i = 2 ∨ ownerB f i = 3 ∨ ownerB f i = 4 ∨ ownerB f i = 5 ∨ ownerB f i = 6 ∨ ownerB f i = 7 := by omega
    all_goals rw [h]; simp
  · have big : ∀ n : Int, 0 ≤ n → n < 4294967296 → tb n i = false := fun n h0 hn => by
      unfold tb
      exact Nat.testBit_lt_two_pow (Nat.lt_of_lt_of_le (show n.toNat < 2 ^ 32 by omega) (Nat.pow_le_pow_right (by decide) (by omega)))
    rw [big _ z0 z1, big _ (by omega) (by omega)]
end Go.Proofs.YthehcplogkgkeaaGreatDoor
set_option maxRecDepth 4000
namespace Go.Proofs.YthehcplogkgkeaaGreatDoor
open Go.ChangeShapes Go.WideShapes Go.ChangeAt Go.RowKit Wd

theorem sumTo_congr {f g : Nat → Bool} (n : Nat) (h : ∀ j, j < n → f j = g j) : sumTo f n = sumTo g n := by
  apply Nat.eq_of_testBit_eq
  intro i
  rw [testBit_sumTo, testBit_sumTo]
  by_cases hi : i < n
  · rw [h i hi]
  · simp [hi]
theorem immD_congr (f : Nat) (hf : f < 15) (x y : Int) (h : ∀ j, j < (placesOf f).length → 0 ≤ (placesOf f).getD j (-1) → tb x ((placesOf f).getD j (-1)).toNat = tb y ((placesOf f).getD j (-1)).toNat) : immD f x = immD f y := by
  rw [immD_eq f hf, immD_eq f hf]
  have e : immN f x = immN f y := by
    unfold immN
    rw [sumTo_congr (placesOf f).length fun j hj => ?_]
    unfold pbit tbI
    have := (getD_range f hf j)
    by_cases h0 : 0 ≤ (placesOf f).getD j (-1)
    · rw [h j hj h0]
    · have e : decide (0 ≤ (placesOf f).getD j (-1) ∧ (placesOf f).getD j (-1) ≤ 63) = false := decide_eq_false (by omega)
      rw [e, Bool.false_and, Bool.false_and]
  unfold immS
  rw [e]
theorem place_in (f j : Nat) (hj : j < (placesOf f).length) : (placesOf f).contains ((placesOf f).getD j (-1)) = true := by
  have e : (placesOf f).getD j (-1) = (placesOf f)[j] := by simp [List.getD, hj]
  rw [e]
  exact List.contains_iff_mem.2 (List.getElem_mem hj)
theorem imm_again (f : Nat) (hf : f < 15) (X : Int) : immD f (layD f (immD f X)) = immD f X := by
  refine immD_congr f hf _ _ fun j hj h0 => ?_
  have hr := (getD_range f hf j).2
  have hp := place_in f j hj
  have e : (((placesOf f).getD j (-1)).toNat : Int) = (placesOf f).getD j (-1) := by omega
  rw [lay_of_imm f hf X _ (by omega), e, hp, Bool.true_and]
theorem parts_none : ∀ f : Fin 15, (partsL (f.val : Nat)).isEmpty = true → ¬ (2 ≤ f.val ∧ f.val ≤ 8) := by decide +kernel
theorem lack_zero {f : Nat} {what X p s : Int} : (lacksB f what && (fieldS f what X p s != 0)) = false := by
  cases h : lacksB f what
  · rfl
  · simp [fieldS, h]
theorem chk_of_dec (X k : Nat) (h1 : 1 ≤ k) (h2 : k ≤ 98) :
    checkS (k : Nat) (fieldS (fmtN (k : Nat)) 1 (X : Nat) 7 5) (fieldS (fmtN (k : Nat)) 2 (X : Nat) 15 5) (fieldS (fmtN (k : Nat)) 4 (X : Nat) 20 5) (immD (fmtN (k : Nat) : Nat) (X : Nat)) (fieldS (fmtN (k : Nat)) 8 (X : Nat) 20 12)
      (fieldS (fmtN (k : Nat)) 16 (X : Nat) 26 1 == 1) (fieldS (fmtN (k : Nat)) 16 (X : Nat) 25 1 == 1) = 0 := by
  have hfl := fmtN_lt (k : Nat)
  have hf0 : fmtN (k : Nat) ≠ 0 := fun e => (fmt_zero (k : Nat)).1 e (by omega)
  have fr : ∀ (what : Int) (p s : Nat), s ≤ 12 → 0 ≤ fieldS (fmtN (k : Nat)) what (X : Nat) p s ∧ fieldS (fmtN (k : Nat)) what (X : Nat) p s < 2 ^ s := fun what p s hs => by
    unfold fieldS
    split
    · exact ⟨by decide, Int.pow_pos (by decide)⟩
    · exact cutS_lt _ _ s hs
  unfold checkS
  generalize fmtN (k : Nat) = f at *
  have q1 : inF (fieldS f 1 (X : Nat) 7 5) 32 = true := inF_iff.2 (fr 1 7 5 (by decide))
  have q2 : inF (fieldS f 2 (X : Nat) 15 5) 32 = true := inF_iff.2 (fr 2 15 5 (by decide))
  have q3 : inF (fieldS f 4 (X : Nat) 20 5) 32 = true := inF_iff.2 (fr 4 20 5 (by decide))
  have q4 : inF (fieldS f 8 (X : Nat) 20 12) 4096 = true := inF_iff.2 (fr 8 20 12 (by decide))
  have hfo : foreignS f (fieldS f 1 (X : Nat) 7 5) (fieldS f 2 (X : Nat) 15 5) (fieldS f 4 (X : Nat) 20 5) (immD (f : Nat) (X : Nat)) (fieldS f 8 (X : Nat) 20 12) (fieldS f 16 (X : Nat) 26 1 == 1) (fieldS f 16 (X : Nat) 25 1 == 1) = false := by
    unfold foreignS
    rw [lack_zero, lack_zero, lack_zero, lack_zero]
    have e1 : (lacksB f 16 && ((fieldS f 16 (X : Nat) 26 1 == 1) || (fieldS f 16 (X : Nat) 25 1 == 1))) = false := by
      cases h : lacksB f 16
      · rfl
      · simp [fieldS, h]
    have e2 : ((partsL (f : Nat)).isEmpty && (immD (f : Nat) (X : Nat) != 0)) = false := by
      cases h : (partsL (f : Nat)).isEmpty
      · rfl
      · rw [immD_no _ _ (fun q => parts_none ⟨f, hfl⟩ h (by simp only; omega))]; rfl
    rw [e1, e2]; rfl
  rw [if_neg hf0, if_neg (by rw [hfo]; exact Bool.false_ne_true), if_neg (by unfold rangeB; simp [q1, q2, q3, q4]), if_pos (imm_again f hfl _)]
end Go.Proofs.YthehcplogkgkeaaGreatDoor
set_option maxRecDepth 4000
namespace Go.Proofs.YthehcplogkgkeaaGreatDoor
open Go.ChangeShapes Go.WideShapes Go.ChangeAt Go.RowKit Wd

theorem tb_small {n : Int} (m : Nat) (h0 : 0 ≤ n) (h : n < 2 ^ m) {i : Nat} (hi : m ≤ i) : tb n i = false := by
  unfold tb
  refine Nat.testBit_lt_two_pow (Nat.lt_of_lt_of_le (show n.toNat < 2 ^ m from ?_) (Nat.pow_le_pow_right (by decide) hi))
  have : ((2 ^ m : Nat) : Int) = 2 ^ m := by simp
  omega
/-- A field's bits, where it is 0 if the format lacks it. -/
theorem part_own (f : Nat) (what r : Int) (p s i o : Nat) (r0 : 0 ≤ r) (r1 : r < 2 ^ s) (hz : lacksB f what = true → r = 0) (ho : (!lacksB f what && decide (p ≤ i ∧ i < p + s)) = (ownerB f i == o)) :
    (decide (p ≤ i) && tb r (i - p)) = ((ownerB f i == o) && tb r (i - p)) := by
  rw [← ho]
  cases hl : lacksB f what
  · by_cases h : p ≤ i
    · by_cases h2 : i < p + s
      · simp [h, h2]
      · rw [tb_small s r0 r1 (by omega)]; simp
    · simp [h]
  · rw [hz hl, tb_zero]; simp
/-- The bits of an encoded word, by what they belong to. -/
theorem enc_own (k : Nat) (h1 : 1 ≤ k) (h2 : k ≤ 98) (rd rs1 rs2 imm csr : Int) (aq rl : Bool) (hc : checkS (k : Nat) rd rs1 rs2 imm csr aq rl = 0) (i : Nat) (hi : i < 32) :
    tb (encI (fixV (k : Nat)) (layD (fmtN (k : Nat) : Nat) imm) rd rs1 rs2 csr aq rl) i =
      (((((((((ownerB (fmtN (k : Nat)) i == 0) && (valN k).testBit i) || ((ownerB (fmtN (k : Nat)) i == 1) && tb (layD (fmtN (k : Nat) : Nat) imm) i)) || ((ownerB (fmtN (k : Nat)) i == 2) && tb rd (i - 7))) || ((ownerB (fmtN (k : Nat)) i == 3) && tb rs1 (i - 15))) || ((ownerB (fmtN (k : Nat)) i == 4) && tb rs2 (i - 20))) || ((ownerB (fmtN (k : Nat)) i == 5) && tb csr (i - 20))) || ((ownerB (fmtN (k : Nat)) i == 6) && aq)) || ((ownerB (fmtN (k : Nat)) i == 7) && rl)) := by
  obtain ⟨-, hfo, ⟨⟨a0, a1⟩, ⟨b0, b1⟩, ⟨c0, c1⟩, d0, d1⟩, -⟩ := check_ok hc
  have hfl := fmtN_lt (k : Nat)
  have hf0 : fmtN (k : Nat) ≠ 0 := fun e => (fmt_zero (k : Nat)).1 e (by omega)
  have hmask := owner_mask ⟨k, by omega⟩ h1 ⟨i, hi⟩
  have hval := val_within ⟨k, by omega⟩ ⟨i, hi⟩
  have hvl := (tabs_ok ⟨k, by omega⟩ h1).2.2
  simp only at hmask hval hvl
  have hv : fixV (k : Nat) = ((valN k : Nat) : Int) := rfl
  rw [hv]
  generalize fmtN (k : Nat) = f at *
  obtain ⟨l0, l1⟩ := layD_lt (f : Nat) imm
  obtain ⟨-, z⟩ := enc_bits (v := ((valN k : Nat) : Int)) (aq := aq) (rl := rl) (by omega) (by omega) l0 l1 a0 a1 b0 b1 c0 c1 d0 d1
  rw [z i]
  obtain ⟨o1, o2, o3, o4, o5, o6, o7⟩ := owner_one ⟨f, hfl⟩ ⟨i, hi⟩ hf0
  simp only at o1 o2 o3 o4 o5 o6 o7
  unfold foreignS at hfo
  simp only [Bool.or_eq_false_iff, Bool.and_eq_false_iff] at hfo
  obtain ⟨⟨⟨⟨⟨g1, g2⟩, g3⟩, g4⟩, g5⟩, -⟩ := hfo
  have nz : ∀ {what r : Int}, (lacksB f what = false ∨ (r != 0) = false) → lacksB f what = true → r = 0 := fun h hl => by
    rcases h with h | h
    · rw [hl] at h; cases h
    · simpa using h
  rw [part_own f 1 rd 7 5 i 2 a0 a1 (nz g1) o2, part_own f 2 rs1 15 5 i 3 b0 b1 (nz g2) o3, part_own f 4 rs2 20 5 i 4 c0 c1 (nz g3) o4, part_own f 8 csr 20 12 i 5 d0 d1 (nz g4) o5]
  have t8 : tb ((valN k : Nat) : Int) i = ((ownerB f i == 0) && (valN k).testBit i) := by
    unfold tb
    rw [Int.toNat_natCast]
    cases hb : (valN k).testBit i
    · simp
    · rw [hval hb] at hmask; rw [← hmask]; rfl
  have t7 : tb (layD (f : Nat) imm) i = ((ownerB f i == 1) && tb (layD (f : Nat) imm) i) := by
    rw [← o1]
    have hl := last_ok ⟨f, hfl⟩ ⟨i, hi⟩
    simp only at hl
    have hb := tb_lay f hfl imm i (by omega)
    cases hj : lastJ f (placesOf f).length i with
    | none => rw [hj] at hb; simp only at hb; rw [hb]; simp
    | some j =>
      rw [hj] at hl
      simp only [Bool.and_eq_true] at hl
      rw [hl.2, Bool.true_and]
  have t5 : (aq && decide (i = 26)) = ((ownerB f i == 6) && aq) := by
    rw [← o6]
    rcases g5 with h | h
    · rw [h]; simp [Bool.and_comm]
    · rw [h.1]; simp
  have t6 : (rl && decide (i = 25)) = ((ownerB f i == 7) && rl) := by
    rw [← o7]
    rcases g5 with h | h
    · rw [h]; simp [Bool.and_comm]
    · rw [h.2]; simp
  rw [t8, t7, t5, t6]
  simp only [Bool.or_assoc, Bool.and_self_left]
end Go.Proofs.YthehcplogkgkeaaGreatDoor
set_option maxRecDepth 4000
namespace Go.Proofs.YthehcplogkgkeaaGreatDoor
open Go.ChangeShapes Go.WideShapes Go.ChangeAt Go.RowKit Wd

theorem apartN : ∀ i j : Fin 99, 1 ≤ i.val → 1 ≤ j.val → i ≠ j → ((valN i.val ^^^ valN j.val) &&& maskN i.val) &&& maskN j.val ≠ 0 := by decide +kernel
theorem one_match {V i j : Nat} (hi : 1 ≤ i ∧ i ≤ 98) (hj : 1 ≤ j ∧ j ≤ 98) (h : matchN V i = true) (h' : matchN V j = true) : i = j := by
  apply Classical.byContradiction
  intro hne
  have e : V &&& maskN i = valN i := by simpa [matchN] using h
  have e' : V &&& maskN j = valN j := by simpa [matchN] using h'
  refine apartN ⟨i, by omega⟩ ⟨j, by omega⟩ hi.1 hj.1 (fun q => hne (Fin.mk.inj q)) ?_
  simp only
  apply Nat.eq_of_testBit_eq
  intro n
  rw [Nat.testBit_and, Nat.testBit_and, Nat.testBit_xor, ← e, ← e', Nat.testBit_and, Nat.testBit_and, Nat.zero_testBit]
  cases V.testBit n <;> cases (maskN i).testBit n <;> cases (maskN j).testBit n <;> rfl
theorem mem_opsTo {k m : Nat} : k ∈ opsTo m ↔ 1 ≤ k ∧ k ≤ m := by
  simp only [opsTo, List.mem_map, List.mem_range]
  exact ⟨fun ⟨a, h, e⟩ => by omega, fun ⟨h1, h2⟩ => ⟨k - 1, by omega, by omega⟩⟩
theorem dec_only {V k : Nat} (hk : 1 ≤ k ∧ k ≤ 98) (h : matchN V k = true) : decN V = some k := by
  unfold decN
  cases hf : (opsTo 98).find? (matchN V) with
  | none => exact absurd h (List.find?_eq_none.1 hf k (mem_opsTo.2 hk))
  | some m => rw [one_match (mem_opsTo.1 (List.mem_of_find?_eq_some hf)) hk (List.find?_some hf) h]
theorem field_back (f : Nat) (what r : Int) (V p s o : Nat) (hs : s ≤ 12) (r0 : 0 ≤ r) (r1 : r < 2 ^ s) (hz : lacksB f what = true → r = 0) (hb : lacksB f what = false → ∀ j, j < s → tb (V : Nat) (p + j) = tb r j) (_ho : o = o) : fieldS f what (V : Nat) p s = r := by
  unfold fieldS
  cases hl : lacksB f what
  · rw [if_neg Bool.false_ne_true]
    symm
    have hp : (2 : Int) ^ s ≤ 4096 := by
      have : 2 ^ s ≤ 2 ^ 12 := Nat.pow_le_pow_right (by decide) hs
      have e : ((2 ^ s : Nat) : Int) = 2 ^ s := by simp
      omega
    refine eq_word r0 (by omega) fun i _ => ?_
    by_cases h : i < s
    · have e3 : decide ((i : Int) < (s : Int) ∧ 0 ≤ (p : Int) + (i : Int)) = true := decide_eq_true (by omega)
      have e4 : ((p : Int) + (i : Int)).toNat = p + i := by omega
      rw [e3, Bool.true_and, e4, hb hl i h]
    · have e3 : decide ((i : Int) < (s : Int) ∧ 0 ≤ (p : Int) + (i : Int)) = false := decide_eq_false (by omega)
      rw [e3, Bool.false_and, tb_small s r0 r1 (by omega)]
  · rw [if_pos rfl, hz hl]
/-- WHAT IS ENCODED IS DECODED AS IT WAS. -/
theorem dec_of_enc (k : Nat) (h1 : 1 ≤ k) (h2 : k ≤ 98) (rd rs1 rs2 imm csr : Int) (aq rl : Bool) (hc : checkS (k : Nat) rd rs1 rs2 imm csr aq rl = 0) :
    ∃ V : Nat, V < 4294967296 ∧ encI (fixV (k : Nat)) (layD (fmtN (k : Nat) : Nat) imm) rd rs1 rs2 csr aq rl = (V : Nat) ∧ decV V = .tuple #[.agg #[.int .i64 (k : Nat), .int .i64 rd, .int .i64 rs1, .int .i64 rs2, .int .i64 imm, .int .i64 csr, .bool aq, .bool rl], .bool true] := by
  have hown := enc_own k h1 h2 rd rs1 rs2 imm csr aq rl hc
  obtain ⟨-, hfo, ⟨⟨a0, a1⟩, ⟨b0, b1⟩, ⟨c0, c1⟩, d0, d1⟩, him⟩ := check_ok hc
  have hfl := fmtN_lt (k : Nat)
  have hf0 : fmtN (k : Nat) ≠ 0 := fun e => (fmt_zero (k : Nat)).1 e (by omega)
  have hvl := (tabs_ok ⟨k, by omega⟩ h1).2.2
  simp only at hvl
  obtain ⟨l0, l1⟩ := layD_lt (fmtN (k : Nat) : Nat) imm
  obtain ⟨⟨z0, z1⟩, -⟩ := enc_bits (v := fixV (k : Nat)) (aq := aq) (rl := rl) (show 0 ≤ ((valN k : Nat) : Int) by omega) (show ((valN k : Nat) : Int) < _ by omega) l0 l1 a0 a1 b0 b1 c0 c1 d0 d1
  obtain ⟨V, hV⟩ := Int.eq_ofNat_of_zero_le z0
  rw [hV] at hown z1
  refine ⟨V, by omega, hV, ?_⟩
  have hbit : ∀ i, tb (V : Nat) i = V.testBit i := fun i => by unfold tb; rw [Int.toNat_natCast]
  have hmatch : matchN V k = true := by
    have e : V &&& maskN k = valN k := by
      apply Nat.eq_of_testBit_eq
      intro i
      rw [Nat.testBit_and]
      by_cases hi : i < 32
      · have hm := owner_mask ⟨k, by omega⟩ h1 ⟨i, hi⟩
        have hw := val_within ⟨k, by omega⟩ ⟨i, hi⟩
        simp only at hm hw
        rw [← hbit, hown i hi, hm]
        rw [hm] at hw
        by_cases ho : ownerB (fmtN (k : Nat)) i = 0
        · rw [ho]; simp
        · have e0 : (ownerB (fmtN (k : Nat)) i == 0) = false := by simpa using ho
          rw [e0] at hw ⊢
          cases hb : (valN k).testBit i
          · simp
          · exact absurd (hw hb) Bool.false_ne_true
      · have big : ∀ n : Nat, n < 4294967296 → n.testBit i = false := fun n hn => Nat.testBit_lt_two_pow (Nat.lt_of_lt_of_le (show n < 2 ^ 32 by omega) (Nat.pow_le_pow_right (by decide) (by omega)))
        rw [big V (by omega), big (valN k) (by omega), Bool.false_and]
    simp [matchN, e]
  unfold decV
  rw [dec_only ⟨h1, h2⟩ hmatch]
  simp only
  unfold readV
  clear hmatch hV z0 z1 hc
  generalize fmtN (k : Nat) = f at *
  unfold foreignS at hfo
  simp only [Bool.or_eq_false_iff, Bool.and_eq_false_iff] at hfo
  obtain ⟨⟨⟨⟨⟨g1, g2⟩, g3⟩, g4⟩, g5⟩, -⟩ := hfo
  have nz : ∀ {what r : Int}, (lacksB f what = false ∨ (r != 0) = false) → lacksB f what = true → r = 0 := fun h hl => by
    rcases h with h | h
    · rw [hl] at h; cases h
    · simpa using h
  have own := fun (i : Nat) (hi : i < 32) => owner_one ⟨f, hfl⟩ ⟨i, hi⟩ hf0
  have r1 : fieldS f 1 (V : Nat) 7 5 = rd := field_back f 1 rd V 7 5 2 (by decide) a0 a1 (nz g1) (fun hl j hj => by
    have o := (own (7 + j) (by omega)).2.1
    simp only [hl, Bool.not_false, Bool.true_and] at o
    rw [decide_eq_true (show 7 ≤ 7 + j ∧ 7 + j < 12 by omega)] at o
    have o' : ownerB f (7 + j) = 2 := by simpa using o.symm
    rw [hown (7 + j) (by omega), o', show 7 + j - 7 = j by omega]; simp) rfl
  have r2 : fieldS f 2 (V : Nat) 15 5 = rs1 := field_back f 2 rs1 V 15 5 3 (by decide) b0 b1 (nz g2) (fun hl j hj => by
    have o := (own (15 + j) (by omega)).2.2.1
    simp only [hl, Bool.not_false, Bool.true_and] at o
    rw [decide_eq_true (show 15 ≤ 15 + j ∧ 15 + j < 20 by omega)] at o
    have o' : ownerB f (15 + j) = 3 := by simpa using o.symm
    rw [hown (15 + j) (by omega), o', show 15 + j - 15 = j by omega]; simp) rfl
  have r3 : fieldS f 4 (V : Nat) 20 5 = rs2 := field_back f 4 rs2 V 20 5 4 (by decide) c0 c1 (nz g3) (fun hl j hj => by
    have o := (own (20 + j) (by omega)).2.2.2.1
    simp only [hl, Bool.not_false, Bool.true_and] at o
    rw [decide_eq_true (show 20 ≤ 20 + j ∧ 20 + j < 25 by omega)] at o
    have o' : ownerB f (20 + j) = 4 := by simpa using o.symm
    rw [hown (20 + j) (by omega), o', show 20 + j - 20 = j by omega]; simp) rfl
  have r4 : fieldS f 8 (V : Nat) 20 12 = csr := field_back f 8 csr V 20 12 5 (by decide) d0 d1 (nz g4) (fun hl j hj => by
    have o := (own (20 + j) (by omega)).2.2.2.2.1
    simp only [hl, Bool.not_false, Bool.true_and] at o
    rw [decide_eq_true (show 20 ≤ 20 + j ∧ 20 + j < 32 by omega)] at o
    have o' : ownerB f (20 + j) = 5 := by simpa using o.symm
    rw [hown (20 + j) (by omega), o', show 20 + j - 20 = j by omega]; simp) rfl
  have r5 : (fieldS f 16 (V : Nat) 26 1 == 1) = aq := by
    rw [show (fieldS f 16 (V : Nat) 26 1 == 1) = (!lacksB f 16 && tb (V : Nat) 26) from field_one f (V : Nat) 26 (by decide)]
    have o := (own 26 (by decide)).2.2.2.2.2.1
    simp only [decide_true, Bool.and_true] at o
    cases hl : lacksB f 16
    · rw [hl] at o
      have o' : ownerB f 26 = 6 := by simpa using o.symm
      rw [hown 26 (by decide), o']; simp
    · rcases g5 with h | h
      · rw [hl] at h; cases h
      · rw [h.1]; rfl
  have r6 : (fieldS f 16 (V : Nat) 25 1 == 1) = rl := by
    rw [show (fieldS f 16 (V : Nat) 25 1 == 1) = (!lacksB f 16 && tb (V : Nat) 25) from field_one f (V : Nat) 25 (by decide)]
    have o := (own 25 (by decide)).2.2.2.2.2.2
    simp only [decide_true, Bool.and_true] at o
    cases hl : lacksB f 16
    · rw [hl] at o
      have o' : ownerB f 25 = 7 := by simpa using o.symm
      rw [hown 25 (by decide), o']; simp
    · rcases g5 with h | h
      · rw [hl] at h; cases h
      · rw [h.2]; rfl
  have r7 : immD (f : Nat) (V : Nat) = imm := by
    rw [← him]
    refine immD_congr f hfl _ _ fun j hj hp0 => ?_
    have hr := (getD_range f hfl j).2
    have hp := place_in f j hj
    have e : (((placesOf f).getD j (-1)).toNat : Int) = (placesOf f).getD j (-1) := by omega
    have o := (own ((placesOf f).getD j (-1)).toNat (by omega)).1
    simp only [e, hp] at o
    have o' : ownerB f ((placesOf f).getD j (-1)).toNat = 1 := by simpa using o.symm
    rw [hown _ (by omega), o']; simp
  rw [r1, r2, r3, r4, r5, r6, r7]
end Go.Proofs.YthehcplogkgkeaaGreatDoor
set_option maxRecDepth 4000
namespace Go.Proofs.YthehcplogkgkeaaGreatDoor
open Go.ChangeShapes Go.WideShapes Go.ChangeAt Go.RowKit Wd

/-- How Decode answers, as six integers and two bools. -/
theorem dec_shape (X : Nat) (hX : X < 4294967296) : (decV X = .tuple #[.agg #[.int .i64 0, .int .i64 0, .int .i64 0, .int .i64 0, .int .i64 0, .int .i64 0, .bool false, .bool false], .bool false]) ∨
    ∃ (op rd rs1 rs2 imm csr : Int) (aq rl : Bool), decV X = .tuple #[.agg #[.int .i64 op, .int .i64 rd, .int .i64 rs1, .int .i64 rs2, .int .i64 imm, .int .i64 csr, .bool aq, .bool rl], .bool true] ∧ checkS op rd rs1 rs2 imm csr aq rl = 0 ∧ encI (fixV op) (layD (fmtN op : Nat) imm) rd rs1 rs2 csr aq rl = (X : Nat) := by
  unfold decV
  cases h : decN X with
  | none => exact .inl rfl
  | some k =>
    have hk := mem_opsTo.1 (List.mem_of_find?_eq_some h)
    exact .inr ⟨_, _, _, _, _, _, _, _, rfl, chk_of_dec X k hk.1 hk.2, enc_of_dec X k hX hk.1 hk.2 (List.find?_some h)⟩
/-- The eight cells of an instruction. -/
def insV (op rd rs1 rs2 imm csr : Int) (aq rl : Bool) : Array Value := #[.int .i64 op, .int .i64 rd, .int .i64 rs1, .int .i64 rs2, .int .i64 imm, .int .i64 csr, .bool aq, .bool rl]
theorem insV_one (op rd rs1 rs2 imm csr : Int) (aq rl : Bool) : (insV op rd rs1 rs2 imm csr aq rl).all (·.oneCell') = true := by kernel_rfl
theorem insI (op rd rs1 rs2 imm csr : Int) (aq rl : Bool) : (Tryz.prog.info? 24).map (·.size) = some (insV op rd rs1 rs2 imm csr aq rl).size := by kernel_rfl
theorem ins_cells {w : World} {b : Nat} {t : TypeId} {op rd rs1 rs2 imm csr : Int} {aq rl : Bool} (h : CsAt w b t (insV op rd rs1 rs2 imm csr aq rl)) :
    w.cell? ⟨b, 0, none⟩ = some (.int .i64 op) ∧ w.cell? ⟨b, 1, none⟩ = some (.int .i64 rd) ∧ w.cell? ⟨b, 2, none⟩ = some (.int .i64 rs1) ∧ w.cell? ⟨b, 3, none⟩ = some (.int .i64 rs2) ∧ w.cell? ⟨b, 4, none⟩ = some (.int .i64 imm) ∧ w.cell? ⟨b, 5, none⟩ = some (.int .i64 csr) ∧ w.cell? ⟨b, 6, none⟩ = some (.bool aq) ∧ w.cell? ⟨b, 7, none⟩ = some (.bool rl) :=
  ⟨h.cell 0, h.cell 1, h.cell 2, h.cell 3, h.cell 4, h.cell 5, h.cell 6, h.cell 7⟩
end Go.Proofs.YthehcplogkgkeaaGreatDoor
set_option maxRecDepth 4000
namespace Go.Proofs.YthehcplogkgkeaaGreatDoor
open Go.ChangeShapes Go.WideShapes Go.ChangeAt Go.RowKit Wd

theorem add_or : ∀ (n a b : Nat), a < 2 ^ n → (∀ i, ¬ (a.testBit i = true ∧ b.testBit i = true)) → a + b = a ||| b
  | 0, a, b, h, _ => by
    obtain rfl : a = 0 := by simpa using h
    simp
  | n + 1, a, b, h, hd => by
    have ih := add_or n (a / 2) (b / 2) (by rw [Nat.pow_succ] at h; omega) (fun i hi => hd (i + 1) (by simpa [Nat.testBit_succ] using hi))
    have h0 := hd 0
    simp only [Nat.testBit_zero, decide_eq_true_eq] at h0
    have h1 := Nat.or_div_two (a := a) (b := b)
    have h2 := Nat.or_mod_two_eq_one (a := a) (b := b)
    by_cases ha : a % 2 = 1
    · have hb : ¬ b % 2 = 1 := fun e => h0 ⟨ha, e⟩
      have h3 := h2.2 (.inl ha)
      omega
    · by_cases hb : b % 2 = 1
      · have h3 := h2.2 (.inr hb)
        omega
      · have h3 : ¬ (a ||| b) % 2 = 1 := fun e => by rcases h2.1 e with h | h <;> contradiction
        omega
theorem or_step (own : Nat → Nat) (j n X A : Nat) (hn : X < 2 ^ n) (hX : ∀ i, X.testBit i = true → own i < j) (hA : ∀ i, A.testBit i = true → own i = j) :
    X + A = X ||| A ∧ ∀ i, (X ||| A).testBit i = true → own i < j + 1 := by
  refine ⟨add_or n X A hn fun i h => by have := hX i h.1; have := hA i h.2; omega, fun i h => ?_⟩
  rw [Nat.testBit_or, Bool.or_eq_true] at h
  rcases h with h | h
  · have := hX i h; omega
  · have := hA i h; omega
/-- Eight numbers whose bits belong to eight owners. -/
theorem sum8 (own : Nat → Nat) (A0 A1 A2 A3 A4 A5 A6 A7 : Nat) (b0 : A0 < 2 ^ 32) (b1 : A1 < 2 ^ 32) (b2 : A2 < 2 ^ 32) (b3 : A3 < 2 ^ 32) (b4 : A4 < 2 ^ 32) (b5 : A5 < 2 ^ 32) (b6 : A6 < 2 ^ 32)
    (h0 : ∀ i, A0.testBit i = true → own i = 0) (h1 : ∀ i, A1.testBit i = true → own i = 1) (h2 : ∀ i, A2.testBit i = true → own i = 2) (h3 : ∀ i, A3.testBit i = true → own i = 3)
    (h4 : ∀ i, A4.testBit i = true → own i = 4) (h5 : ∀ i, A5.testBit i = true → own i = 5) (h6 : ∀ i, A6.testBit i = true → own i = 6) (h7 : ∀ i, A7.testBit i = true → own i = 7) :
    A0 + A1 + A2 + A3 + A4 + A5 + A6 + A7 = A0 ||| A1 ||| A2 ||| A3 ||| A4 ||| A5 ||| A6 ||| A7 := by
  obtain ⟨e1, k1⟩ := or_step own 1 32 A0 A1 b0 (fun i h => by have := h0 i h; omega) h1
  have c1 := Nat.or_lt_two_pow b0 b1
  obtain ⟨e2, k2⟩ := or_step own 2 32 _ A2 c1 k1 h2
  have c2 := Nat.or_lt_two_pow c1 b2
  obtain ⟨e3, k3⟩ := or_step own 3 32 _ A3 c2 k2 h3
  have c3 := Nat.or_lt_two_pow c2 b3
  obtain ⟨e4, k4⟩ := or_step own 4 32 _ A4 c3 k3 h4
  have c4 := Nat.or_lt_two_pow c3 b4
  obtain ⟨e5, k5⟩ := or_step own 5 32 _ A5 c4 k4 h5
  have c5 := Nat.or_lt_two_pow c4 b5
  obtain ⟨e6, k6⟩ := or_step own 6 32 _ A6 c5 k5 h6
  have c6 := Nat.or_lt_two_pow c5 b6
  obtain ⟨e7, -⟩ := or_step own 7 32 _ A7 c6 k6 h7
  rw [e1, e2, e3, e4, e5, e6, e7]
/-- Each part's bits belong to it. -/
theorem enc_comps (k : Nat) (h1 : 1 ≤ k) (h2 : k ≤ 98) (rd rs1 rs2 imm csr : Int) (aq rl : Bool) (hc : checkS (k : Nat) rd rs1 rs2 imm csr aq rl = 0) (i : Nat) (hi : i < 32) :
    (tb ((valN k : Nat) : Int) i = true → ownerB (fmtN (k : Nat)) i = 0) ∧ (tb (layD (fmtN (k : Nat) : Nat) imm) i = true → ownerB (fmtN (k : Nat)) i = 1) ∧ (tb (rd * 2 ^ 7) i = true → ownerB (fmtN (k : Nat)) i = 2) ∧ (tb (rs1 * 2 ^ 15) i = true → ownerB (fmtN (k : Nat)) i = 3) ∧
    (tb (rs2 * 2 ^ 20) i = true → ownerB (fmtN (k : Nat)) i = 4) ∧ (tb (csr * 2 ^ 20) i = true → ownerB (fmtN (k : Nat)) i = 5) ∧ (tb (flagS aq ((2 ^ 26 : Nat) : Int)) i = true → ownerB (fmtN (k : Nat)) i = 6) ∧ (tb (flagS rl ((2 ^ 25 : Nat) : Int)) i = true → ownerB (fmtN (k : Nat)) i = 7) := by
  obtain ⟨-, hfo, ⟨⟨a0, a1⟩, ⟨b0, b1⟩, ⟨c0, c1⟩, d0, d1⟩, -⟩ := check_ok hc
  have hfl := fmtN_lt (k : Nat)
  have hf0 : fmtN (k : Nat) ≠ 0 := fun e => (fmt_zero (k : Nat)).1 e (by omega)
  have hmask := owner_mask ⟨k, by omega⟩ h1 ⟨i, hi⟩
  have hval := val_within ⟨k, by omega⟩ ⟨i, hi⟩
  simp only at hmask hval
  generalize fmtN (k : Nat) = f at *
  obtain ⟨o1, o2, o3, o4, o5, o6, o7⟩ := owner_one ⟨f, hfl⟩ ⟨i, hi⟩ hf0
  simp only at o1 o2 o3 o4 o5 o6 o7
  unfold foreignS at hfo
  simp only [Bool.or_eq_false_iff, Bool.and_eq_false_iff] at hfo
  obtain ⟨⟨⟨⟨⟨g1, g2⟩, g3⟩, g4⟩, g5⟩, -⟩ := hfo
  have nz : ∀ {what r : Int}, (lacksB f what = false ∨ (r != 0) = false) → lacksB f what = true → r = 0 := fun h hl => by
    rcases h with h | h
    · rw [hl] at h; cases h
    · simpa using h
  refine ⟨fun h => ?_, fun h => ?_, fun h => ?_, fun h => ?_, fun h => ?_, fun h => ?_, fun h => ?_, fun h => ?_⟩
  · have hb : (valN k).testBit i = true := by simpa [tb] using h
    rw [hval hb] at hmask
    simpa using hmask.symm
  · have hl := last_ok ⟨f, hfl⟩ ⟨i, hi⟩
    simp only at hl
    have hb := tb_lay f hfl imm i (by omega)
    cases hj : lastJ f (placesOf f).length i with
    | none => rw [hj] at hb; simp only at hb; rw [hb] at h; cases h
    | some j =>
      rw [hj] at hl
      simp only [Bool.and_eq_true] at hl
      rw [hl.2] at o1
      simpa using o1.symm
  · rw [tb_shift a0, part_own f 1 rd 7 5 i 2 a0 a1 (nz g1) o2] at h; simp at h; exact h.1
  · rw [tb_shift b0, part_own f 2 rs1 15 5 i 3 b0 b1 (nz g2) o3] at h; simp at h; exact h.1
  · rw [tb_shift c0, part_own f 4 rs2 20 5 i 4 c0 c1 (nz g3) o4] at h; simp at h; exact h.1
  · rw [tb_shift d0, part_own f 8 csr 20 12 i 5 d0 d1 (nz g4) o5] at h; simp at h; exact h.1
  · rw [tb_flag] at h
    simp only [Bool.and_eq_true, decide_eq_true_eq] at h
    rcases g5 with g | g
    · rw [g, decide_eq_true h.2] at o6; simpa using o6.symm
    · rw [g.1] at h; cases h.1
  · rw [tb_flag] at h
    simp only [Bool.and_eq_true, decide_eq_true_eq] at h
    rcases g5 with g | g
    · rw [g, decide_eq_true h.2] at o7; simpa using o7.symm
    · rw [g.2] at h; cases h.1
/-- The sum is the word that Encode puts together. -/
theorem enc_sum (k : Nat) (h1 : 1 ≤ k) (h2 : k ≤ 98) (rd rs1 rs2 imm csr : Int) (aq rl : Bool) (hc : checkS (k : Nat) rd rs1 rs2 imm csr aq rl = 0) :
    fixV (k : Nat) + layD (fmtN (k : Nat) : Nat) imm + 128 * rd + 32768 * rs1 + 1048576 * rs2 + 1048576 * csr + flagS aq 67108864 + flagS rl 33554432 = encI (fixV (k : Nat)) (layD (fmtN (k : Nat) : Nat) imm) rd rs1 rs2 csr aq rl := by
  have hcomp := enc_comps k h1 h2 rd rs1 rs2 imm csr aq rl hc
  obtain ⟨-, -, ⟨⟨a0, a1⟩, ⟨b0, b1⟩, ⟨c0, c1⟩, d0, d1⟩, -⟩ := check_ok hc
  have hvl := (tabs_ok ⟨k, by omega⟩ h1).2.2
  simp only at hvl
  have hv : fixV (k : Nat) = ((valN k : Nat) : Int) := rfl
  rw [hv]
  obtain ⟨l0, l1⟩ := layD_lt (fmtN (k : Nat) : Nat) imm
  obtain ⟨⟨x0, x1⟩, z⟩ := enc_bits (v := ((valN k : Nat) : Int)) (aq := aq) (rl := rl) (by omega) (by omega) l0 l1 a0 a1 b0 b1 c0 c1 d0 d1
  generalize layD (fmtN (k : Nat) : Nat) imm = la at *
  generalize valN k = v at *
  have f6 : 0 ≤ flagS aq 67108864 ∧ flagS aq 67108864 < 4294967296 := by cases aq <;> simp [flagS]
  have f7 : 0 ≤ flagS rl 33554432 ∧ flagS rl 33554432 < 4294967296 := by cases rl <;> simp [flagS]
  have p7 : ((2 : Int) ^ 7) = 128 := by decide
  have p15 : ((2 : Int) ^ 15) = 32768 := by decide
  have p20 : ((2 : Int) ^ 20) = 1048576 := by decide
  have p26 : (((2 ^ 26 : Nat)) : Int) = 67108864 := by decide
  have p25 : (((2 ^ 25 : Nat)) : Int) = 33554432 := by decide
  rw [p7, p15, p20, p26, p25] at hcomp
  have big : ∀ {A i : Nat}, A < 2 ^ 32 → A.testBit i = true → i < 32 := fun {A i} hA h => by
    apply Classical.byContradiction
    intro hn
    rw [Nat.testBit_lt_two_pow (Nat.lt_of_lt_of_le hA (Nat.pow_le_pow_right (by decide) (by omega)))] at h
    cases h
  have n1 : la.toNat < 2 ^ 32 := by omega
  have n2 : (rd * 128).toNat < 2 ^ 32 := by omega
  have n3 : (rs1 * 32768).toNat < 2 ^ 32 := by omega
  have n4 : (rs2 * 1048576).toNat < 2 ^ 32 := by omega
  have n5 : (csr * 1048576).toNat < 2 ^ 32 := by omega
  have n6 : (flagS aq 67108864).toNat < 2 ^ 32 := by omega
  have n7 : (flagS rl 33554432).toNat < 2 ^ 32 := by omega
  have hs := sum8 (fun i => ownerB (fmtN (k : Nat)) i) v la.toNat (rd * 128).toNat (rs1 * 32768).toNat (rs2 * 1048576).toNat (csr * 1048576).toNat (flagS aq 67108864).toNat (flagS rl 33554432).toNat (by omega) n1 n2 n3 n4 n5 n6
    (fun i h => (hcomp i (big (by omega) h)).1 (by simpa [tb] using h)) (fun i h => (hcomp i (big n1 h)).2.1 h) (fun i h => (hcomp i (big n2 h)).2.2.1 h) (fun i h => (hcomp i (big n3 h)).2.2.2.1 h)
    (fun i h => (hcomp i (big n4 h)).2.2.2.2.1 h) (fun i h => (hcomp i (big n5 h)).2.2.2.2.2.1 h) (fun i h => (hcomp i (big n6 h)).2.2.2.2.2.2.1 h) (fun i h => (hcomp i (big n7 h)).2.2.2.2.2.2.2 h)
  have he : (encI ((v : Nat) : Int) la rd rs1 rs2 csr aq rl).toNat = v ||| la.toNat ||| (rd * 128).toNat ||| (rs1 * 32768).toNat ||| (rs2 * 1048576).toNat ||| (csr * 1048576).toNat ||| (flagS aq 67108864).toNat ||| (flagS rl 33554432).toNat := by
    apply Nat.eq_of_testBit_eq
    intro i
    have zi := z i
    rw [← tb_shift a0 7 i, ← tb_shift b0 15 i, ← tb_shift c0 20 i, ← tb_shift d0 20 i, ← tb_flag aq 26 i, ← tb_flag rl 25 i, p7, p15, p20, p26, p25] at zi
    unfold tb at zi
    rw [zi, Int.toNat_natCast]
    simp only [Nat.testBit_or, Bool.or_assoc]
  omega
end Go.Proofs.YthehcplogkgkeaaGreatDoor
