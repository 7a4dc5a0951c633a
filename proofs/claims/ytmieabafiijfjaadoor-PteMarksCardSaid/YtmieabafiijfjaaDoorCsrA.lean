/-
  Plain numbers, no program: the table of control and status registers, and what a register becomes when a word is written into it.
-/
import Derived.Test.YtmieabafiijfjaaDoorSpec
namespace Go.Proofs.YtmieabafiijfjaaDoor.Csr
open Go.RowKit Wd

/-- (number, name, the bits that can be written) -/
def rowsC : List (Nat × List UInt8 × Nat) := [(256, [115, 115, 116, 97, 116, 117, 115], 786722), (260, [115, 105, 101], 546), (261, [115, 116, 118, 101, 99], 18446744073709551613), (262, [115, 99, 111, 117, 110, 116, 101, 114, 101, 110], 7), (320, [115, 115, 99, 114, 97, 116, 99, 104], 18446744073709551615), (321, [115, 101, 112, 99], 18446744073709551612), (322, [115, 99, 97, 117, 115, 101], 18446744073709551615), (323, [115, 116, 118, 97, 108], 18446744073709551615), (324, [115, 105, 112], 2), (384, [115, 97, 116, 112], 18446744073709551615), (768, [109, 115, 116, 97, 116, 117, 115], 8264106), (769, [109, 105, 115, 97], 0), (770, [109, 101, 100, 101, 108, 101, 103], 46079), (771, [109, 105, 100, 101, 108, 101, 103], 546), (772, [109, 105, 101], 2730), (773, [109, 116, 118, 101, 99], 18446744073709551613), (774, [109, 99, 111, 117, 110, 116, 101, 114, 101, 110], 7), (832, [109, 115, 99, 114, 97, 116, 99, 104], 18446744073709551615), (833, [109, 101, 112, 99], 18446744073709551612), (834, [109, 99, 97, 117, 115, 101], 18446744073709551615), (835, [109, 116, 118, 97, 108], 18446744073709551615), (836, [109, 105, 112], 546), (1472, [115, 104, 111, 111, 116, 118, 97], 18446744073709551615), (1473, [115, 104, 111, 111, 116, 97, 115, 105, 100], 65535), (1474, [115, 104, 111, 111, 116], 1023), (2816, [109, 99, 121, 99, 108, 101], 18446744073709551615), (2818, [109, 105, 110, 115, 116, 114, 101, 116], 18446744073709551615), (3072, [99, 121, 99, 108, 101], 0), (3073, [116, 105, 109, 101], 0), (3074, [105, 110, 115, 116, 114, 101, 116], 0), (3857, [109, 118, 101, 110, 100, 111, 114, 105, 100], 0), (3858, [109, 97, 114, 99, 104, 105, 100], 0), (3859, [109, 105, 109, 112, 105, 100], 0), (3860, [109, 104, 97, 114, 116, 105, 100], 0)]
abbrev RowC := Nat × List UInt8 × Nat
def noRow : RowC := (0, [], 0)
def rowC (k : Nat) : RowC := rowsC.getD k noRow
theorem rowsC_len : rowsC.length = 34 := rfl
theorem rowC_get {k : Nat} (h : k < 34) : rowsC[k]? = some (rowC k) := by
  unfold rowC
  rw [List.getD, List.getElem?_eq_getElem (show k < rowsC.length from h)]; rfl
/-- The first row that a test accepts. -/
def fstC (p : RowC → Bool) : Option RowC := rowsC.find? p
theorem fst_hit {p : RowC → Bool} {k : Nat} (hk : k < 34) (hb : ∀ j, j < k → p (rowC j) = false) (h : p (rowC k) = true) : fstC p = some (rowC k) := by
  unfold fstC
  have e : rowsC = rowsC.take k ++ rowC k :: rowsC.drop (k + 1) := by
    have h1 : rowsC.drop k = rowC k :: rowsC.drop (k + 1) := by
      rw [List.drop_eq_getElem_cons (show k < rowsC.length from hk)]
      congr 1
      have := rowC_get hk
      rw [List.getElem?_eq_getElem (show k < rowsC.length from hk)] at this
      exact Option.some.inj this
    rw [← h1, List.take_append_drop]
  rw [e, List.find?_append]
  have hn : (rowsC.take k).find? p = none := by
    rw [List.find?_eq_none]
    intro x hx
    obtain ⟨j, hj, rfl⟩ := List.mem_iff_getElem.1 hx
    have hj' : j < k := by simp at hj; omega
    have := hb j hj'
    have e2 : (rowsC.take k)[j] = rowC j := by
      have h3 := rowC_get (show j < 34 by omega)
      rw [List.getElem?_eq_getElem (show j < rowsC.length by rw [rowsC_len]; omega)] at h3
      rw [List.getElem_take]
      exact Option.some.inj h3
    rw [e2, this]; simp
  rw [hn]
  simp [h]
theorem fst_none {p : RowC → Bool} (hb : ∀ j, j < 34 → p (rowC j) = false) : fstC p = none := by
  unfold fstC
  rw [List.find?_eq_none]
  intro x hx
  obtain ⟨j, hj, rfl⟩ := List.mem_iff_getElem.1 hx
  have hj' : j < 34 := hj
  have h3 := rowC_get hj'
  rw [List.getElem?_eq_getElem hj] at h3
  rw [Option.some.inj h3, hb j hj']; simp
/-- Which row a number, and a name, has. -/
def isNum (n : Int) (r : RowC) : Bool := ((r.1 : Nat) : Int) == n
def isNam (s : ByteArray) (r : RowC) : Bool := r.2.1 == s.toList
def ofN (n : Int) : RowC := (fstC (isNum n)).getD noRow
def known (n : Int) : Bool := (fstC (isNum n)).isSome
theorem row_pos : ∀ k : Fin 34, (rowC k.val).1 ≠ 0 := by decide +kernel
theorem fst_mem {p : RowC → Bool} {r : RowC} (h : fstC p = some r) : ∃ k, k < 34 ∧ r = rowC k ∧ p r = true := by
  have hm := List.mem_of_find?_eq_some h
  obtain ⟨j, hj, rfl⟩ := List.mem_iff_getElem.1 hm
  have h3 := rowC_get (show j < 34 from hj)
  rw [List.getElem?_eq_getElem hj] at h3
  exact ⟨j, hj, Option.some.inj h3, List.find?_some h⟩
theorem fst_cases (p : RowC → Bool) : fstC p = none ∨ ∃ k, k < 34 ∧ fstC p = some (rowC k) ∧ p (rowC k) = true := by
  cases h : fstC p with
  | none => exact .inl rfl
  | some r => obtain ⟨k, hk, rfl, hp⟩ := fst_mem h; exact .inr ⟨k, hk, rfl, hp⟩
/-- A number that a row has: its row is that one, and it is none of the rest. -/
theorem of_known {n : Int} : known n = true → ∃ k, k < 34 ∧ n = ((rowC k).1 : Nat) ∧ ofN n = rowC k := by
  intro h
  unfold known at h
  rcases fst_cases (isNum n) with e | ⟨k, hk, e, hp⟩
  · rw [e] at h; cases h
  · refine ⟨k, hk, ?_, ?_⟩
    · have := eq_of_beq hp; exact this.symm
    · unfold ofN; rw [e]; rfl
theorem of_unknown {n : Int} : known n = false → ofN n = noRow := by
  intro h
  unfold known at h
  unfold ofN
  cases e : fstC (isNum n) with
  | none => rfl
  | some r => rw [e] at h; cases h
theorem known_iff (n : Int) : known n = ((((ofN n).1 : Nat) : Int) != 0) := by
  cases h : known n
  · rw [of_unknown h]; rfl
  · obtain ⟨k, hk, -, e⟩ := of_known h
    rw [e]
    have := row_pos ⟨k, hk⟩
    simp only at this
    exact (by simpa using this : _ = _).symm
/-! ### what a register becomes -/
def maskC (n : Int) : Int := ((ofN n).2.2 : Nat)
theorem masks_fit : ∀ k : Fin 34, (rowC k.val).2.2 < 18446744073709551616 := by decide +kernel
theorem mask_range (n : Int) : 0 ≤ maskC n ∧ maskC n < 18446744073709551616 := by
  refine ⟨by unfold maskC; omega, ?_⟩
  unfold maskC
  cases h : known n
  · rw [of_unknown h]; decide
  · obtain ⟨k, hk, -, e⟩ := of_known h
    rw [e]
    have := masks_fit ⟨k, hk⟩
    simp only at this
    omega
def nextS (m old v : Int) : Int := word fun i => if tb m i then tb v i else tb old i
theorem nextS_range (m old v : Int) : 0 ≤ nextS m old v ∧ nextS m old v < 18446744073709551616 := ⟨word_nonneg _, word_lt _⟩
theorem tb_next (m old v : Int) {i : Nat} (hi : i < 64) : tb (nextS m old v) i = if tb m i then tb v i else tb old i := by
  unfold nextS; rw [tb_word]; simp [hi]
theorem next_or {m old v : Int} (hm : 0 ≤ m ∧ m < 18446744073709551616) (ho : 0 ≤ old ∧ old < 18446744073709551616) (hv : 0 ≤ v ∧ v < 18446744073709551616) :
    bits .or .u64 (bits .andNot .u64 old m) (bits .and .u64 v m) = nextS m old v := by
  have a := andNot_range ho.1 ho.2 hm.1 hm.2
  have b := and_range hv.1 hv.2 hm.1 hm.2
  have c := or_range a.1 a.2 b.1 b.2
  apply eq_word c.1 c.2
  intro i hi
  rw [tb_or a.1 a.2 b.1 b.2, tb_andNot ho.1 ho.2 hm.1 hm.2, tb_and hv.1 hv.2 hm.1 hm.2]
  cases tb m i <;> simp
theorem cput (x p s n : Int) {i : Nat} (hi : i < 64) : tb (putS x p s n) i = if inP p s i then tb n (i - p).toNat else tb x i := by
  unfold putS; rw [tb_word]; simp [hi]
theorem ccut (x p s : Int) {k : Nat} (hk : k < 64) : tb (cutS x p s) k = (decide ((k : Int) < s ∧ 0 ≤ p + k) && tb x (p + k).toNat) := by
  unfold cutS; rw [tb_word]; simp [hk]
theorem tb6144 {i : Nat} (hi : i < 64) : tb 6144 i = decide (i = 11 ∨ i = 12) := (by decide +kernel : ∀ i : Fin 64, tb 6144 i.val = decide (i.val = 11 ∨ i.val = 12)) ⟨i, hi⟩
theorem tb4096 {i : Nat} (hi : i < 64) : tb 4096 i = decide (i = 12) := (by decide +kernel : ∀ i : Fin 64, tb 4096 i.val = decide (i.val = 12)) ⟨i, hi⟩
theorem tb2 {i : Nat} (hi : i < 64) : tb 2 i = decide (i = 1) := (by decide +kernel : ∀ i : Fin 64, tb 2 i.val = decide (i.val = 1)) ⟨i, hi⟩
/-- Both bits of MPP, as the code and as the reference look at them. -/
theorem prev_code {x : Int} (hx : 0 ≤ x ∧ x < 18446744073709551616) : bits .and .u64 x 6144 = 4096 ↔ tb x 11 = false ∧ tb x 12 = true := by
  have b := and_range hx.1 hx.2 (y := 6144) (by omega) (by omega)
  constructor
  · intro h
    have h11 := congrArg (fun y => tb y 11) h
    have h12 := congrArg (fun y => tb y 12) h
    rw [tb_and hx.1 hx.2 (by omega) (by omega), tb6144 (by omega), tb4096 (by omega)] at h11 h12
    exact ⟨by simpa using h11, by simpa using h12⟩
  · rintro ⟨h1, h2⟩
    apply ext b.1 b.2 (by omega) (by omega)
    intro i hi
    rw [tb_and hx.1 hx.2 (by omega) (by omega), tb6144 hi, tb4096 hi]
    by_cases e1 : i = 11
    · subst e1; simp [h1]
    · by_cases e2 : i = 12
      · subst e2; simp [h2]
      · simp [e1, e2]
theorem prev_ref (x : Int) : cutS x 11 2 = 2 ↔ tb x 11 = false ∧ tb x 12 = true := by
  have b := cutS_range x 11 2
  constructor
  · intro h
    have h0 := congrArg (fun y => tb y 0) h
    have h1 := congrArg (fun y => tb y 1) h
    rw [ccut _ _ _ (by omega), tb2 (by omega)] at h0 h1
    exact ⟨by simpa using h0, by simpa using h1⟩
  · rintro ⟨h1, h2⟩
    apply ext b.1 b.2 (by omega) (by omega)
    intro i hi
    rw [ccut _ _ _ hi, tb2 hi]
    by_cases e0 : i = 0
    · subst e0; simp [h1]
    · by_cases e1 : i = 1
      · subst e1; simp [h2]
      · have : ¬ ((i : Int) < 2 ∧ 0 ≤ 11 + (i : Int)) := by omega
        simp [e1, this]
theorem prev_iff {x : Int} (hx : 0 ≤ x ∧ x < 18446744073709551616) : bits .and .u64 x 6144 = 4096 ↔ cutS x 11 2 = 2 := (prev_code hx).trans (prev_ref x).symm
theorem inMpp {i : Nat} : inP 11 2 i = decide (i = 11 ∨ i = 12) := by unfold inP; apply decide_eq_decide.2; omega
theorem tb_pc (x o : Int) {i : Nat} (hi : i < 64) : tb (putS x 11 2 (cutS o 11 2)) i = if i = 11 ∨ i = 12 then tb o i else tb x i := by
  rw [cput _ _ _ _ hi, inMpp]
  by_cases h : i = 11 ∨ i = 12
  · simp only [decide_eq_true h, if_true, if_pos h]
    rw [ccut _ _ _ (by omega)]
    have e1 : (((i - 11 : Int).toNat : Nat) : Int) < 2 ∧ 0 ≤ 11 + (((i - 11 : Int).toNat : Nat) : Int) := by omega
    have e2 : (11 + (((i - 11 : Int).toNat : Nat) : Int)).toNat = i := by omega
    rw [decide_eq_true e1, e2, Bool.true_and]
  · simp only [decide_eq_false h, if_neg h, Bool.false_eq_true, if_false]
theorem prev_put {x o : Int} (hx : 0 ≤ x ∧ x < 18446744073709551616) (ho : 0 ≤ o ∧ o < 18446744073709551616) : bits .or .u64 (bits .andNot .u64 x 6144) (bits .and .u64 o 6144) = putS x 11 2 (cutS o 11 2) := by
  have a := andNot_range hx.1 hx.2 (y := 6144) (by omega) (by omega)
  have b := and_range ho.1 ho.2 (y := 6144) (by omega) (by omega)
  have c := or_range a.1 a.2 b.1 b.2
  have d := putS_range x 11 2 (cutS o 11 2)
  apply ext c.1 c.2 d.1 d.2
  intro i hi
  rw [tb_or a.1 a.2 b.1 b.2, tb_andNot hx.1 hx.2 (by omega) (by omega), tb_and ho.1 ho.2 (by omega) (by omega), tb6144 hi, tb_pc _ _ hi]
  by_cases h : i = 11 ∨ i = 12
  · simp [h]
  · simp [h]
theorem mode_cut {x : Int} (hx : 0 ≤ x ∧ x < 18446744073709551616) : x / 2 ^ 60 = cutS x 60 4 := by
  have a := div_range hx.1 hx.2 60
  apply eq_word a.1 a.2
  intro i hi
  rw [tb_div hx.1]
  have e : (60 + (i : Int)).toNat = i + 60 := by omega
  rw [e]
  by_cases h : (i : Int) < 4 ∧ 0 ≤ 60 + (i : Int)
  · rw [decide_eq_true h, Bool.true_and]
  · rw [decide_eq_false h, tb_big hx.2 (by omega), Bool.false_and]
def badMode (x : Int) : Prop := cutS x 60 4 ≠ 0 ∧ cutS x 60 4 ≠ 8
instance (x : Int) : Decidable (badMode x) := by unfold badMode; exact inferInstance
/-- What a register becomes, which was old, when v is written. -/
def legS (n old v : Int) : Int :=
  if n = 768 ∧ cutS (nextS (maskC n) old v) 11 2 = 2 then putS (nextS (maskC n) old v) 11 2 (cutS old 11 2)
  else if n = 384 ∧ badMode (nextS (maskC n) old v) then old else nextS (maskC n) old v
theorem legS_range {n old v : Int} (ho : 0 ≤ old ∧ old < 18446744073709551616) : 0 ≤ legS n old v ∧ legS n old v < 18446744073709551616 := by
  unfold legS
  split
  · exact putS_range _ _ _ _
  · split
    · exact ho
    · exact nextS_range _ _ _
theorem next_self {m x : Int} (hx : 0 ≤ x ∧ x < 18446744073709551616) : nextS m x x = x := by
  have a := nextS_range m x x
  apply ext a.1 a.2 hx.1 hx.2
  intro i hi
  rw [tb_next _ _ _ hi]; split <;> rfl
theorem put_self {x : Int} (hx : 0 ≤ x ∧ x < 18446744073709551616) {o : Int} (h : tb o 11 = tb x 11 ∧ tb o 12 = tb x 12) : putS x 11 2 (cutS o 11 2) = x := by
  have a := putS_range x 11 2 (cutS o 11 2)
  apply ext a.1 a.2 hx.1 hx.2
  intro i hi
  rw [tb_pc _ _ hi]
  split
  · rename_i hh
    rcases hh with rfl | rfl
    · exact h.1
    · exact h.2
  · rfl
/-- What it became it becomes again. -/
theorem leg_self {n x : Int} (hx : 0 ≤ x ∧ x < 18446744073709551616) : legS n x x = x := by
  unfold legS
  rw [next_self hx]
  split
  · exact put_self hx ⟨rfl, rfl⟩
  · split <;> rfl
theorem masks_11 : tb (maskC 768) 11 = true ∧ tb (maskC 768) 12 = true := by decide +kernel
theorem leg_kept {n old v : Int} (_ho : 0 ≤ old ∧ old < 18446744073709551616) {i : Nat} (hi : i < 64) (hm : tb (maskC n) i = false) : tb (legS n old v) i = tb old i := by
  unfold legS
  split
  · rename_i h
    rw [tb_pc _ _ hi]
    split
    · rfl
    · rw [tb_next _ _ _ hi, hm]; rfl
  · split
    · rfl
    · rw [tb_next _ _ _ hi, hm]; rfl
theorem next_of_kept {n old x : Int} (hx : 0 ≤ x ∧ x < 18446744073709551616) (h : ∀ i, i < 64 → tb (maskC n) i = false → tb x i = tb old i) : nextS (maskC n) old x = x := by
  have a := nextS_range (maskC n) old x
  apply ext a.1 a.2 hx.1 hx.2
  intro i hi
  rw [tb_next _ _ _ hi]
  cases hm : tb (maskC n) i
  · simp only [Bool.false_eq_true, if_false]; exact (h i hi hm).symm
  · rfl
theorem leg_again {n old v : Int} (ho : 0 ≤ old ∧ old < 18446744073709551616) : legS n old (legS n old v) = legS n old v := by
  have hx := legS_range (n := n) (v := v) ho
  have hk : nextS (maskC n) old (legS n old v) = legS n old v := next_of_kept hx (fun i hi hm => leg_kept ho hi hm)
  rw [show legS n old (legS n old v) = if n = 768 ∧ cutS (nextS (maskC n) old (legS n old v)) 11 2 = 2 then putS (nextS (maskC n) old (legS n old v)) 11 2 (cutS old 11 2)
    else if n = 384 ∧ badMode (nextS (maskC n) old (legS n old v)) then old else nextS (maskC n) old (legS n old v) from rfl, hk]
  by_cases h1 : n = 768 ∧ cutS (legS n old v) 11 2 = 2
  · rw [if_pos h1]
    apply put_self hx
    have h2 := h1.2
    unfold legS at h2 ⊢
    by_cases h3 : n = 768 ∧ cutS (nextS (maskC n) old v) 11 2 = 2
    · rw [if_pos h3, tb_pc _ _ (by omega), tb_pc _ _ (by omega)]
      simp
    · rw [if_neg h3, if_neg (by omega)] at h2
      exact absurd ⟨h1.1, h2⟩ h3
  · rw [if_neg h1]
    by_cases h4 : n = 384 ∧ badMode (legS n old v)
    · rw [if_pos h4]
      have h5 := h4.2
      unfold legS at h5 ⊢
      rw [if_neg (by omega)] at h5 ⊢
      by_cases h6 : n = 384 ∧ badMode (nextS (maskC n) old v)
      · rw [if_pos h6]
      · rw [if_neg h6] at h5
        exact absurd ⟨h4.1, h5⟩ h6
    · rw [if_neg h4]
theorem cxor {x y : Int} (hx0 : 0 ≤ x) (hx : x < 18446744073709551616) (hy0 : 0 ≤ y) (hy : y < 18446744073709551616) (i : Nat) : tb (bits .xor .u64 x y) i = (tb x i ^^ tb y i) := by
  unfold tb; rw [u64_xor x y hx0 hx hy0 hy]; simp
theorem cxor_range {x y : Int} (hx0 : 0 ≤ x) (hx : x < 18446744073709551616) (hy0 : 0 ≤ y) (hy : y < 18446744073709551616) : 0 ≤ bits .xor .u64 x y ∧ bits .xor .u64 x y < 18446744073709551616 := by
  rw [u64_xor x y hx0 hx hy0 hy]
  have : x.toNat ^^^ y.toNat < 2 ^ 64 := Nat.xor_lt_two_pow (by omega) (by omega)
  omega
/-- No bit changes that may not be written. -/
theorem leg_none {n old v : Int} (ho : 0 ≤ old ∧ old < 18446744073709551616) : bits .andNot .u64 (bits .xor .u64 (legS n old v) old) (maskC n) = 0 := by
  have hx := legS_range (n := n) (v := v) ho
  have hm := mask_range n
  have a := cxor_range hx.1 hx.2 ho.1 ho.2
  have b := andNot_range a.1 a.2 hm.1 hm.2
  apply ext b.1 b.2 (by omega) (by omega)
  intro i hi
  rw [tb_andNot a.1 a.2 hm.1 hm.2, cxor hx.1 hx.2 ho.1 ho.2, tb_zero]
  cases h : tb (maskC n) i
  · rw [leg_kept ho hi h]; simp
  · simp
end Go.Proofs.YtmieabafiijfjaaDoor.Csr
