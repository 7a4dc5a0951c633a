/-
  Contracts of the reference of layer 1: Bit, Of, in. Plain numbers, no program: the table of control and status registers, and what a register becomes when a word is written into it. Plain numbers, no program: the fields of mstatus; what traps and returns leave; what a supervisor sees.
-/
import Derived.Test.YtkbgmppbkllnmaaDoorUaa
set_option maxRecDepth 20000
namespace Go.Proofs.YtkbgmppbkllnmaaDoor
open Go.ChangeShapes Go.WideShapes Go.ChangeAt Go.RowKit Wd

def bi (b : Bool) : Int := if b then 1 else 0
theorem bi_range (b : Bool) : 0 ≤ bi b ∧ bi b ≤ 1 := by cases b <;> simp [bi]
def tbI (x i : Int) : Bool := decide (0 ≤ i ∧ i ≤ 63) && tb x i.toNat
theorem tbI_nat (x : Int) (k : Nat) (h : k < 64) : tbI x k = tb x k := by
  unfold tbI
  have : (0 : Int) ≤ k ∧ (k : Int) ≤ 63 := by omega
  simp [this]
theorem bi_bit {x : Int} (h0 : 0 ≤ x) (k : Nat) (hk : k < 64) : x / 2 ^ k % 2 = bi (tbI x k) := by
  rw [tbI_nat x k hk]
  unfold tb
  rw [Nat.testBit_eq_decide_div_mod_eq]
  obtain ⟨X, rfl⟩ := Int.eq_ofNat_of_zero_le h0
  rw [Int.toNat_natCast, pow_cast, ← Int.natCast_ediv]
  unfold bi
  generalize X / 2 ^ k = q
  by_cases c : q % 2 = 1
  · simp [c]; omega
  · simp [c]; omega

set_option maxHeartbeats 400000 in
theorem bit_c (x i : Int) (w : World) (hx0 : 0 ≤ x) (hx : x < 18446744073709551616) :
    Calls Tryd.prog 73 #[.int .u64 x, .int .i64 i] w fun e w' => e = .returned (.int .u64 (bi (tbI x i))) ∧ w = w' := by
  by_cases h1 : i < 0
  · have e : bi (tbI x i) = 0 := by
      have : ¬ (0 ≤ i ∧ i ≤ 63) := by omega
      simp [tbI, this, bi]
    have H := Lib.hid e
    clear e
    go_enter Tryd.func73, Tryd.ntmps73
    go_wp2
    go_ret
    exact ⟨ret_u H.out.symm, rfl⟩
  · by_cases h2 : 63 < i
    · have e : bi (tbI x i) = 0 := by
        have : ¬ (0 ≤ i ∧ i ≤ 63) := by omega
        simp [tbI, this, bi]
      have H := Lib.hid e
      clear e
      go_enter Tryd.func73, Tryd.ntmps73
      go_wp2
      go_ret
      exact ⟨ret_u H.out.symm, rfl⟩
    · obtain ⟨n, rfl⟩ := Int.eq_ofNat_of_zero_le (a := i) (by omega)
      have hn : n ≤ 63 := by omega
      have H := Lib.hid (bi_bit hx0 n (by omega))
      clear h1 h2
      go_enter Tryd.func73, Tryd.ntmps73
      go_wp2
      go_loop [0, 5] (fun t i => ∃ k : Nat, k ≤ n ∧ i = .int .i64 k ∧ t = .int .u64 (x / 2 ^ k)) (fun _ i => n - (intOf i).toNat)
      case atStart => exact ⟨0, Nat.zero_le _, rfl, by simp⟩
      case round =>
        obtain ⟨k, hk, rfl, rfl⟩ := hrel
        have hd := div_range hx0 hx k
        obtain ⟨hd0, hd1⟩ := hd
        by_cases hlt : k < n
        · have hE := Lib.hid (show x / 2 ^ k / 2 = x / 2 ^ (k + 1) from by rw [Int.pow_succ, Int.ediv_ediv_of_nonneg (Int.le_of_lt (Int.pow_pos (by decide)))])
          go_wp2
          go_round
          case rel => exact ⟨k + 1, by omega, by go_num, by rw [hE.out]⟩
          case measure => simp [intOf]; omega
        · obtain rfl : n = k := by omega
          go_wp2
          go_ret
          exact ⟨ret_u H.out, rfl⟩

/-! ### Of -/
def bl (f : Nat → Bool) (k : Nat) : List Value := (List.range k).map fun j => Value.int .u64 (bi (f j))
theorem bl_len (f : Nat → Bool) (k : Nat) : (bl f k).length = k := by simp [bl]
theorem bl_succ (f : Nat → Bool) (k : Nat) : bl f (k + 1) = bl f k ++ [.int .u64 (bi (f k))] := by simp [bl, List.range_succ]
theorem bl_at (f : Nat → Bool) (k j : Nat) (h : j < k) : (bl f k)[j]? = some (.int .u64 (bi (f j))) := by simp [bl, h]

theorem of_step (f : Nat → Bool) (n k : Nat) (hk : k < n) : 2 * (((sumTo f n : Nat) : Int) / 2 ^ (k + 1)) + bi (f k) = ((sumTo f n : Nat) : Int) / 2 ^ k := by
  have h := testBit_sumTo f n k
  rw [Nat.testBit_eq_decide_div_mod_eq] at h
  simp only [hk, decide_true, Bool.true_and] at h
  rw [pow_cast, pow_cast, ← Int.natCast_ediv, ← Int.natCast_ediv, Nat.pow_succ, ← Nat.div_div_eq_div_mul]
  generalize sumTo f n / 2 ^ k = q at *
  rw [← h]
  unfold bi
  by_cases c : q % 2 = 1
  · simp [c]; omega
  · simp [c]; omega
theorem of_range (f : Nat → Bool) (n : Nat) (hn : n ≤ 64) (k : Nat) : 0 ≤ ((sumTo f n : Nat) : Int) / 2 ^ k ∧ ((sumTo f n : Nat) : Int) / 2 ^ k < 18446744073709551616 := by
  apply div_range (by omega)
  have a := sumTo_lt f n
  have b : 2 ^ n ≤ 2 ^ 64 := Nat.pow_le_pow_right (by decide) hn
  omega
theorem of_end (f : Nat → Bool) (n : Nat) : ((sumTo f n : Nat) : Int) / 2 ^ n = 0 := by
  have a := sumTo_lt f n
  rw [pow_cast, ← Int.natCast_ediv, Nat.div_eq_of_lt a]
  rfl
theorem of_wrap {a b c : Int} (h : 2 * a + b = c) (h0 : 0 ≤ c) (h1 : c < 18446744073709551616) : IntKind.u64.wrap (IntKind.u64.wrap (2 * a) + b) = c := by
  rw [IntKind.wrap_u64, IntKind.wrap_u64]; omega

set_option maxHeartbeats 400000 in
theorem of_c (f : Nat → Bool) (n : Nat) (v : Value) (base : Nat) (w : World) (h0 : 0 < n) (hn : n ≤ 64) (hown : w.ownsRow base 25 1 v n (bl f n)) :
    Calls Tryd.prog 86 #[v] w fun e w' => e = .returned (.int .u64 ((sumTo f n : Nat) : Int)) ∧ w = w' := by
  obtain ⟨g, cap, cur, rfl, hb, hg, hcap, hmax, hcs, htake⟩ := hown.2.resolve_left (fun h => by omega)
  have hcell : ∀ j, j < n → w.cell? ⟨g, j, none⟩ = some (.int .u64 (bi (f j))) := fun j hj => by
    rw [hown.cellAt j (by omega), bl_at f n j hj]
  have HC := Lib.hid hcell
  clear hcell hg hcs htake hb hmax
  have HO := Lib.hid hown
  clear hown
  go_enter Tryd.func86, Tryd.ntmps86
  go_wp2
  go_loop [3, 4] (fun t i => ∃ k : Nat, k ≤ n ∧ i = .int .i64 ((k : Int) - 1) ∧ t = .int .u64 (((sumTo f n : Nat) : Int) / 2 ^ k)) (fun _ i => ((intOf i) + 1).toNat)
  case atStart => exact ⟨n, Nat.le_refl _, rfl, by rw [of_end]⟩
  case round =>
    obtain ⟨k, hk, rfl, rfl⟩ := hrel
    rcases k with _ | k
    · go_wp2
      go_ret
      exact ⟨ret_u (by simp), rfl⟩
    · have hc := HC.out k (by omega)
      have hs := of_step f n k (by omega)
      obtain ⟨hr0, hr1⟩ := of_range f n hn k
      have hE := Lib.hid (of_wrap hs hr0 hr1)
      clear hs hr0 hr1
      have hi : (((k + 1 : Nat) : Int) - 1) = k := by omega
      rw [hi]
      go_wp2
      go_round
      case rel => exact ⟨k, by omega, rfl, by rw [hE.out]⟩
      case measure => simp [intOf]
end Go.Proofs.YtkbgmppbkllnmaaDoor
namespace Go.Proofs.YtkbgmppbkllnmaaDoor.Csr
open Go.RowKit Wd

/-- (number, name, the bits that can be written) -/
def rowsC : List (Nat × List UInt8 × Nat) := [(256, [115, 115, 116, 97, 116, 117, 115], 786722), (260, [115, 105, 101], 546), (261, [115, 116, 118, 101, 99], 18446744073709551613), (262, [115, 99, 111, 117, 110, 116, 101, 114, 101, 110], 7), (320, [115, 115, 99, 114, 97, 116, 99, 104], 18446744073709551615), (321, [115, 101, 112, 99], 18446744073709551612), (322, [115, 99, 97, 117, 115, 101], 18446744073709551615), (323, [115, 116, 118, 97, 108], 18446744073709551615), (324, [115, 105, 112], 2), (384, [115, 97, 116, 112], 18446744073709551615), (768, [109, 115, 116, 97, 116, 117, 115], 8264106), (769, [109, 105, 115, 97], 0), (770, [109, 101, 100, 101, 108, 101, 103], 46079), (771, [109, 105, 100, 101, 108, 101, 103], 546), (772, [109, 105, 101], 2730), (773, [109, 116, 118, 101, 99], 18446744073709551613), (774, [109, 99, 111, 117, 110, 116, 101, 114, 101, 110], 7), (832, [109, 115, 99, 114, 97, 116, 99, 104], 18446744073709551615), (833, [109, 101, 112, 99], 18446744073709551612), (834, [109, 99, 97, 117, 115, 101], 18446744073709551615), (835, [109, 116, 118, 97, 108], 18446744073709551615), (836, [109, 105, 112], 546), (1472, [115, 104, 111, 111, 116, 118, 97], 18446744073709551615), (1473, [115, 104, 111, 111, 116, 97, 115, 105, 100], 65535), (1474, [115, 104, 111, 111, 116], 1023), (2816, [109, 99, 121, 99, 108, 101], 18446744073709551615), (2818, [109, 105, 110, 115, 116, 114, 101, 116], 18446744073709551615), (3072, [99, 121, 99, 108, 101], 0), (3073, [116, 105, 109, 101], 0), (3074, [105, 110, 115, 116, 114, 101, 116], 0), (3857, [109, 118, 101, 110, 100, 111, 114, 105, 100], 0), (3858, [109, 97, 114, 99, 104, 105, 100], 0), (3859, [109, 105, 109, 112, 105, 100], 0), (3860, [109, 104, 97, 114, 116, 105, 100], 0)]
abbrev RowC := Nat × List UInt8 × Nat
def noRow : RowC := (0, [], 0)
def rowC (k : Nat) : RowC := rowsC.getD k noRow
theorem rowsC_len : rowsC.length = 34 := rfl
theorem rowC_get {k : Nat} (h : k < 34) : rowsC[k]? = some (rowC k) := by
  unfold rowC
  rw [List.getD, List.getElem?_eq_getElem (show k < rowsC.length from h)]; rfl
/-- The first row that a test accepts. -/
def fstC (p : RowC → Bool) : Option RowC := rowsC.find? p
theorem fst_hit {p : RowC → Bool} {k : Nat} (hk : k < 34) (hb : ∀ j, j < k → p (rowC j) = false) (h : p (rowC k) = true) : fstC p = some (rowC k) := by
  unfold fstC
  have e : rowsC = rowsC.take k ++ rowC k :: rowsC.drop (k + 1) := by
    have h1 : rowsC.drop k = rowC k :: rowsC.drop (k + 1) := by
      rw [List.drop_eq_getElem_cons (show k < rowsC.length from hk)]
      congr 1
      have := rowC_get hk
      rw [List.getElem?_eq_getElem (show k < rowsC.length from hk)] at this
      exact Option.some.inj this
    rw [← h1, List.take_append_drop]
  rw [e, List.find?_append]
  have hn : (rowsC.take k).find? p = none := by
    rw [List.find?_eq_none]
    intro x hx
    obtain ⟨j, hj, rfl⟩ := List.mem_iff_getElem.1 hx
    have hj' : j < k := by simp at hj; omega
    have := hb j hj'
    have e2 : (rowsC.take k)[j] = rowC j := by
      have h3 := rowC_get (show j < 34 by omega)
      rw [List.getElem?_eq_getElem (show j < rowsC.length by rw [rowsC_len]; omega)] at h3
      rw [List.getElem_take]
      exact Option.some.inj h3
    rw [e2, this]; simp
  rw [hn]
  simp [h]
theorem fst_none {p : RowC → Bool} (hb : ∀ j, j < 34 → p (rowC j) = false) : fstC p = none := by
  unfold fstC
  rw [List.find?_eq_none]
  intro x hx
  obtain ⟨j, hj, rfl⟩ := List.mem_iff_getElem.1 hx
  have hj' : j < 34 := hj
  have h3 := rowC_get hj'
  rw [List.getElem?_eq_getElem hj] at h3
  rw [Option.some.inj h3, hb j hj']; simp
/-- Which row a number, and a name, has. -/
def isNum (n : Int) (r : RowC) : Bool := ((r.1 : Nat) : Int) == n
def isNam (s : ByteArray) (r : RowC) : Bool := r.2.1 == s.toList
def ofN (n : Int) : RowC := (fstC (isNum n)).getD noRow
def known (n : Int) : Bool := (fstC (isNum n)).isSome
theorem row_pos : ∀ k : Fin 34, (rowC k.val).1 ≠ 0 := by decide +kernel
theorem fst_mem {p : RowC → Bool} {r : RowC} (h : fstC p = some r) : ∃ k, k < 34 ∧ r = rowC k ∧ p r = true := by
  have hm := List.mem_of_find?_eq_some h
  obtain ⟨j, hj, rfl⟩ := List.mem_iff_getElem.1 hm
  have h3 := rowC_get (show j < 34 from hj)
  rw [List.getElem?_eq_getElem hj] at h3
  exact ⟨j, hj, Option.some.inj h3, List.find?_some h⟩
theorem fst_cases (p : RowC → Bool) : fstC p = none ∨ ∃ k, k < 34 ∧ fstC p = some (rowC k) ∧ p (rowC k) = true := by
  cases h : fstC p with
  | none => exact .inl rfl
  | some r => obtain ⟨k, hk, rfl, hp⟩ := fst_mem h; exact .inr ⟨k, hk, rfl, hp⟩
/-- A number that a row has: its row is that one, and it is none of the rest. -/
theorem of_known {n : Int} : known n = true → ∃ k, k < 34 ∧ n = ((rowC k).1 : Nat) ∧ ofN n = rowC k := by
  intro h
  unfold known at h
  rcases fst_cases (isNum n) with e | ⟨k, hk, e, hp⟩
  · rw [e] at h; cases h
  · refine ⟨k, hk, ?_, ?_⟩
    · have := eq_of_beq hp; exact this.symm
    · unfold ofN; rw [e]; rfl
theorem of_unknown {n : Int} : known n = false → ofN n = noRow := by
  intro h
  unfold known at h
  unfold ofN
  cases e : fstC (isNum n) with
  | none => rfl
  | some r => rw [e] at h; cases h
theorem known_iff (n : Int) : known n = ((((ofN n).1 : Nat) : Int) != 0) := by
  cases h : known n
  · rw [of_unknown h]; rfl
  · obtain ⟨k, hk, -, e⟩ := of_known h
    rw [e]
    have := row_pos ⟨k, hk⟩
    simp only at this
    exact (by simpa using this : _ = _).symm
/-! ### what a register becomes -/
def maskC (n : Int) : Int := ((ofN n).2.2 : Nat)
theorem masks_fit : ∀ k : Fin 34, (rowC k.val).2.2 < 18446744073709551616 := by decide +kernel
theorem mask_range (n : Int) : 0 ≤ maskC n ∧ maskC n < 18446744073709551616 := by
  refine ⟨by unfold maskC; omega, ?_⟩
  unfold maskC
  cases h : known n
  · rw [of_unknown h]; decide
  · obtain ⟨k, hk, -, e⟩ := of_known h
    rw [e]
    have := masks_fit ⟨k, hk⟩
    simp only at this
    omega
def nextS (m old v : Int) : Int := word fun i => if tb m i then tb v i else tb old i
theorem nextS_range (m old v : Int) : 0 ≤ nextS m old v ∧ nextS m old v < 18446744073709551616 := ⟨word_nonneg _, word_lt _⟩
theorem tb_next (m old v : Int) {i : Nat} (hi : i < 64) : tb (nextS m old v) i = if tb m i then tb v i else tb old i := by
  unfold nextS; rw [tb_word]; simp [hi]
theorem next_or {m old v : Int} (hm : 0 ≤ m ∧ m < 18446744073709551616) (ho : 0 ≤ old ∧ old < 18446744073709551616) (hv : 0 ≤ v ∧ v < 18446744073709551616) :
    bits .or .u64 (bits .andNot .u64 old m) (bits .and .u64 v m) = nextS m old v := by
  have a := andNot_range ho.1 ho.2 hm.1 hm.2
  have b := and_range hv.1 hv.2 hm.1 hm.2
  have c := or_range a.1 a.2 b.1 b.2
  apply eq_word c.1 c.2
  intro i hi
  rw [tb_or a.1 a.2 b.1 b.2, tb_andNot ho.1 ho.2 hm.1 hm.2, tb_and hv.1 hv.2 hm.1 hm.2]
  cases tb m i <;> simp
theorem cput (x p s n : Int) {i : Nat} (hi : i < 64) : tb (putS x p s n) i = if inP p s i then tb n (i - p).toNat else tb x i := by
  unfold putS; rw [tb_word]; simp [hi]
theorem ccut (x p s : Int) {k : Nat} (hk : k < 64) : tb (cutS x p s) k = (decide ((k : Int) < s ∧ 0 ≤ p + k) && tb x (p + k).toNat) := by
  unfold cutS; rw [tb_word]; simp [hk]
theorem tb6144 {i : Nat} (hi : i < 64) : tb 6144 i = decide (i = 11 ∨ i = 12) := (by decide +kernel : ∀ i : Fin 64, tb 6144 i.val = decide (i.val = 11 ∨ i.val = 12)) ⟨i, hi⟩
theorem tb4096 {i : Nat} (hi : i < 64) : tb 4096 i = decide (i = 12) := (by decide +kernel : ∀ i : Fin 64, tb 4096 i.val = decide (i.val = 12)) ⟨i, hi⟩
theorem tb2 {i : Nat} (hi : i < 64) : tb 2 i = decide (i = 1) := (by decide +kernel : ∀ i : Fin 64, tb 2 i.val = decide (i.val = 1)) ⟨i, hi⟩
/-- Both bits of MPP, as the code and as the reference look at them. -/
theorem prev_code {x : Int} (hx : 0 ≤ x ∧ x < 18446744073709551616) : bits .and .u64 x 6144 = 4096 ↔ tb x 11 = false ∧ tb x 12 = true := by
  have b := and_range hx.1 hx.2 (y := 6144) (by omega) (by omega)
  constructor
  · intro h
    have h11 := congrArg (fun y => tb y 11) h
    have h12 := congrArg (fun y => tb y 12) h
    rw [tb_and hx.1 hx.2 (by omega) (by omega), tb6144 (by omega), tb4096 (by omega)] at h11 h12
    exact ⟨by simpa using h11, by simpa using h12⟩
  · rintro ⟨h1, h2⟩
    apply ext b.1 b.2 (by omega) (by omega)
    intro i hi
    rw [tb_and hx.1 hx.2 (by omega) (by omega), tb6144 hi, tb4096 hi]
    by_cases e1 : i = 11
    · subst e1; simp [h1]
    · by_cases e2 : i = 12
      · subst e2; simp [h2]
      · simp [e1, e2]
theorem prev_ref (x : Int) : cutS x 11 2 = 2 ↔ tb x 11 = false ∧ tb x 12 = true := by
  have b := cutS_range x 11 2
  constructor
  · intro h
    have h0 := congrArg (fun y => tb y 0) h
    have h1 := congrArg (fun y => tb y 1) h
    rw [ccut _ _ _ (by omega), tb2 (by omega)] at h0 h1
    exact ⟨by simpa using h0, by simpa using h1⟩
  · rintro ⟨h1, h2⟩
    apply ext b.1 b.2 (by omega) (by omega)
    intro i hi
    rw [ccut _ _ _ hi, tb2 hi]
    by_cases e0 : i = 0
    · subst e0; simp [h1]
    · by_cases e1 : i = 1
      · subst e1; simp [h2]
      · have : ¬ ((i : Int) < 2 ∧ 0 ≤ 11 + (i : Int)) := by omega
        simp [e1, this]
theorem prev_iff {x : Int} (hx : 0 ≤ x ∧ x < 18446744073709551616) : bits .and .u64 x 6144 = 4096 ↔ cutS x 11 2 = 2 := (prev_code hx).trans (prev_ref x).symm
theorem inMpp {i : Nat} : inP 11 2 i = decide (i = 11 ∨ i = 12) := by unfold inP; apply decide_eq_decide.2; omega
theorem tb_pc (x o : Int) {i : Nat} (hi : i < 64) : tb (putS x 11 2 (cutS o 11 2)) i = if i = 11 ∨ i = 12 then tb o i else tb x i := by
  rw [cput _ _ _ _ hi, inMpp]
  by_cases h : i = 11 ∨ i = 12
  · simp only [decide_eq_true h, if_true, if_pos h]
    rw [ccut _ _ _ (by omega)]
    have e1 : (((i - 11 : Int).toNat : Nat) : Int) < 2 ∧ 0 ≤ 11 + (((i - 11 : Int).toNat : Nat) : Int) := by omega
    have e2 : (11 + (((i - 11 : Int).toNat : Nat) : Int)).toNat = i := by omega
    rw [decide_eq_true e1, e2, Bool.true_and]
  · simp only [decide_eq_false h, if_neg h, Bool.false_eq_true, if_false]
theorem prev_put {x o : Int} (hx : 0 ≤ x ∧ x < 18446744073709551616) (ho : 0 ≤ o ∧ o < 18446744073709551616) : bits .or .u64 (bits .andNot .u64 x 6144) (bits .and .u64 o 6144) = putS x 11 2 (cutS o 11 2) := by
  have a := andNot_range hx.1 hx.2 (y := 6144) (by omega) (by omega)
  have b := and_range ho.1 ho.2 (y := 6144) (by omega) (by omega)
  have c := or_range a.1 a.2 b.1 b.2
  have d := putS_range x 11 2 (cutS o 11 2)
  apply ext c.1 c.2 d.1 d.2
  intro i hi
  rw [tb_or a.1 a.2 b.1 b.2, tb_andNot hx.1 hx.2 (by omega) (by omega), tb_and ho.1 ho.2 (by omega) (by omega), tb6144 hi, tb_pc _ _ hi]
  by_cases h : i = 11 ∨ i = 12
  · simp [h]
  · simp [h]
theorem mode_cut {x : Int} (hx : 0 ≤ x ∧ x < 18446744073709551616) : x / 2 ^ 60 = cutS x 60 4 := by
  have a := div_range hx.1 hx.2 60
  apply eq_word a.1 a.2
  intro i hi
  rw [tb_div hx.1]
  have e : (60 + (i : Int)).toNat = i + 60 := by omega
  rw [e]
  by_cases h : (i : Int) < 4 ∧ 0 ≤ 60 + (i : Int)
  · rw [decide_eq_true h, Bool.true_and]
  · rw [decide_eq_false h, tb_big hx.2 (by omega), Bool.false_and]
def badMode (x : Int) : Prop := cutS x 60 4 ≠ 0 ∧ cutS x 60 4 ≠ 8
instance (x : Int) : Decidable (badMode x) := by unfold badMode; exact inferInstance
/-- What a register becomes, which was old, when v is written. -/
def legS (n old v : Int) : Int :=
  if n = 768 ∧ cutS (nextS (maskC n) old v) 11 2 = 2 then putS (nextS (maskC n) old v) 11 2 (cutS old 11 2)
  else if n = 384 ∧ badMode (nextS (maskC n) old v) then old else nextS (maskC n) old v
theorem legS_range {n old v : Int} (ho : 0 ≤ old ∧ old < 18446744073709551616) : 0 ≤ legS n old v ∧ legS n old v < 18446744073709551616 := by
  unfold legS
  split
  · exact putS_range _ _ _ _
  · split
    · exact ho
    · exact nextS_range _ _ _
theorem next_self {m x : Int} (hx : 0 ≤ x ∧ x < 18446744073709551616) : nextS m x x = x := by
  have a := nextS_range m x x
  apply ext a.1 a.2 hx.1 hx.2
  intro i hi
  rw [tb_next _ _ _ hi]; split <;> rfl
theorem put_self {x : Int} (hx : 0 ≤ x ∧ x < 18446744073709551616) {o : Int} (h : tb o 11 = tb x 11 ∧ tb o 12 = tb x 12) : putS x 11 2 (cutS o 11 2) = x := by
  have a := putS_range x 11 2 (cutS o 11 2)
  apply ext a.1 a.2 hx.1 hx.2
  intro i hi
  rw [tb_pc _ _ hi]
  split
  · rename_i hh
    rcases hh with rfl | rfl
    · exact h.1
    · exact h.2
  · rfl
/-- What it became it becomes again. -/
theorem leg_self {n x : Int} (hx : 0 ≤ x ∧ x < 18446744073709551616) : legS n x x = x := by
  unfold legS
  rw [next_self hx]
  split
  · exact put_self hx ⟨rfl, rfl⟩
  · split <;> rfl
theorem masks_11 : tb (maskC 768) 11 = true ∧ tb (maskC 768) 12 = true := by decide +kernel
theorem leg_kept {n old v : Int} (_ho : 0 ≤ old ∧ old < 18446744073709551616) {i : Nat} (hi : i < 64) (hm : tb (maskC n) i = false) : tb (legS n old v) i = tb old i := by
  unfold legS
  split
  · rename_i h
    rw [tb_pc _ _ hi]
    split
    · rfl
    · rw [tb_next _ _ _ hi, hm]; rfl
  · split
    · rfl
    · rw [tb_next _ _ _ hi, hm]; rfl
theorem next_of_kept {n old x : Int} (hx : 0 ≤ x ∧ x < 18446744073709551616) (h : ∀ i, i < 64 → tb (maskC n) i = false → tb x i = tb old i) : nextS (maskC n) old x = x := by
  have a := nextS_range (maskC n) old x
  apply ext a.1 a.2 hx.1 hx.2
  intro i hi
  rw [tb_next _ _ _ hi]
  cases hm : tb (maskC n) i
  · simp only [Bool.false_eq_true, if_false]; exact (h i hi hm).symm
  · rfl
theorem leg_again {n old v : Int} (ho : 0 ≤ old ∧ old < 18446744073709551616) : legS n old (legS n old v) = legS n old v := by
  have hx := legS_range (n := n) (v := v) ho
  have hk : nextS (maskC n) old (legS n old v) = legS n old v := next_of_kept hx (fun i hi hm => leg_kept ho hi hm)
  rw [show legS n old (legS n old v) = if n = 768 ∧ cutS (nextS (maskC n) old (legS n old v)) 11 2 = 2 then putS (nextS (maskC n) old (legS n old v)) 11 2 (cutS old 11 2)
    else if n = 384 ∧ badMode (nextS (maskC n) old (legS n old v)) then old else nextS (maskC n) old (legS n old v) from rfl, hk]
  by_cases h1 : n = 768 ∧ cutS (legS n old v) 11 2 = 2
  · rw [if_pos h1]
    apply put_self hx
    have h2 := h1.2
    unfold legS at h2 ⊢
    by_cases h3 : n = 768 ∧ cutS (nextS (maskC n) old v) 11 2 = 2
    · rw [if_pos h3, tb_pc _ _ (by omega), tb_pc _ _ (by omega)]
      simp
    · rw [if_neg h3, if_neg (by omega)] at h2
      exact absurd ⟨h1.1, h2⟩ h3
  · rw [if_neg h1]
    by_cases h4 : n = 384 ∧ badMode (legS n old v)
    · rw [if_pos h4]
      have h5 := h4.2
      unfold legS at h5 ⊢
      rw [if_neg (by omega)] at h5 ⊢
      by_cases h6 : n = 384 ∧ badMode (nextS (maskC n) old v)
      · rw [if_pos h6]
      · rw [if_neg h6] at h5
        exact absurd ⟨h4.1, h5⟩ h6
    · rw [if_neg h4]
theorem cxor {x y : Int} (hx0 : 0 ≤ x) (hx : x < 18446744073709551616) (hy0 : 0 ≤ y) (hy : y < 18446744073709551616) (i : Nat) : tb (bits .xor .u64 x y) i = (tb x i ^^ tb y i) := by
  unfold tb; rw [u64_xor x y hx0 hx hy0 hy]; simp
theorem cxor_range {x y : Int} (hx0 : 0 ≤ x) (hx : x < 18446744073709551616) (hy0 : 0 ≤ y) (hy : y < 18446744073709551616) : 0 ≤ bits .xor .u64 x y ∧ bits .xor .u64 x y < 18446744073709551616 := by
  rw [u64_xor x y hx0 hx hy0 hy]
  have : x.toNat ^^^ y.toNat < 2 ^ 64 := Nat.xor_lt_two_pow (by omega) (by omega)
  omega
/-- No bit changes that may not be written. -/
theorem leg_none {n old v : Int} (ho : 0 ≤ old ∧ old < 18446744073709551616) : bits .andNot .u64 (bits .xor .u64 (legS n old v) old) (maskC n) = 0 := by
  have hx := legS_range (n := n) (v := v) ho
  have hm := mask_range n
  have a := cxor_range hx.1 hx.2 ho.1 ho.2
  have b := andNot_range a.1 a.2 hm.1 hm.2
  apply ext b.1 b.2 (by omega) (by omega)
  intro i hi
  rw [tb_andNot a.1 a.2 hm.1 hm.2, cxor hx.1 hx.2 ho.1 ho.2, tb_zero]
  cases h : tb (maskC n) i
  · rw [leg_kept ho hi h]; simp
  · simp
end Go.Proofs.YtkbgmppbkllnmaaDoor.Csr
namespace Go.Proofs.YtkbgmppbkllnmaaDoor.Sta
open Go.RowKit Wd Csr

abbrev W64 (x : Int) : Prop := 0 ≤ x ∧ x < 18446744073709551616
theorem cut1 (x : Int) {k : Nat} (hk : k < 64) : cutS x k 1 = bi (tb x k) := by
  have a := cutS_range x k 1
  have b := bi_range (tb x k)
  apply ext a.1 a.2 b.1 (by omega)
  intro i hi
  rw [ccut _ _ _ hi]
  by_cases h : i = 0
  · subst h
    have e : ((k : Int) + ((0 : Nat) : Int)).toNat = k := by omega
    rw [e]
    cases tb x k <;> simp [bi, tb]
  · have e : ¬ ((i : Int) < 1 ∧ 0 ≤ (k : Int) + i) := by omega
    rw [decide_eq_false e, Bool.false_and]
    cases tb x k
    · exact (tb_zero i).symm
    · symm
      have e1 : (1 : Nat) < 2 ^ i := Nat.lt_of_lt_of_le (by decide : 1 < 2 ^ 1) (Nat.pow_le_pow_right (by decide) (by omega))
      show Nat.testBit 1 i = false
      exact Nat.testBit_lt_two_pow e1
theorem tb_bi0 (b : Bool) : tb (bi b) 0 = b := by cases b <;> decide
theorem tb_cut10 (x : Int) {k : Nat} (hk : k < 64) : tb (cutS x k 1) 0 = tb x k := by rw [cut1 x hk, tb_bi0]
theorem in1 (k i : Nat) : inP k 1 i = decide (i = k) := by unfold inP; apply decide_eq_decide.2; omega
theorem tb_p1 (x n : Int) (k : Nat) {i : Nat} (hi : i < 64) : tb (putS x k 1 n) i = if i = k then tb n 0 else tb x i := by
  rw [cput _ _ _ _ hi, in1]
  by_cases h : i = k
  · subst h
    rw [decide_eq_true rfl, if_pos rfl, if_pos rfl]
    congr 1; omega
  · rw [decide_eq_false h, if_neg (by simp), if_neg h]
theorem tb_p2 (x n : Int) {i : Nat} (hi : i < 64) : tb (putS x 11 2 n) i = if i = 11 then tb n 0 else if i = 12 then tb n 1 else tb x i := by
  rw [cput _ _ _ _ hi, inMpp]
  by_cases h1 : i = 11
  · subst h1; rfl
  · by_cases h2 : i = 12
    · subst h2; rfl
    · have h : ¬ (i = 11 ∨ i = 12) := by omega
      rw [decide_eq_false h, if_neg (by simp), if_neg h1, if_neg h2]
/-- Fields as the code takes and lays them. -/
theorem shr_cut {w : Int} (hw : W64 w) {k : Nat} (hk : k < 64) {s : Nat} (hs : s < 64) : bits .and .u64 (w / 2 ^ k) (2 ^ s - 1) = cutS w k s := by
  have a := div_range hw.1 hw.2 k
  have p := pow_le (k := s) (by omega)
  have b := and_range a.1 a.2 (y := 2 ^ s - 1) (by omega) (by omega)
  apply eq_word b.1 b.2
  intro i hi
  rw [tb_and a.1 a.2 (by omega) (by omega), tb_div hw.1, tb_pow_sub_one]
  have e : ((k : Int) + i).toNat = i + k := by omega
  rw [e]
  by_cases c : i < s
  · rw [decide_eq_true c, decide_eq_true (show (i : Int) < s ∧ 0 ≤ (k : Int) + i by omega)]; simp
  · rw [decide_eq_false c, decide_eq_false (show ¬ ((i : Int) < s ∧ 0 ≤ (k : Int) + i) by omega)]; simp
theorem shl_ones {k s : Nat} (_hs0 : 1 ≤ s) (hs : s < 64) : IntKind.u64.wrap ((2 ^ s - 1) * 2 ^ k) = onesS k s := by
  have p := pow_le (k := s) (by omega)
  have a := wrap_range ((2 ^ s - 1) * 2 ^ k)
  apply eq_word a.1 a.2
  intro i hi
  rw [tb_wrap (mul_nonneg' (by omega) k), tb_mul (by omega), tb_pow_sub_one, decide_eq_true hi, Bool.true_and]
  unfold inP
  by_cases c : k ≤ i ∧ i < k + s
  · rw [decide_eq_true c.1, decide_eq_true (show i - k < s by omega), decide_eq_true (show 1 ≤ (s : Int) ∧ (k : Int) ≤ i ∧ (i : Int) < k + s by omega)]; rfl
  · rw [decide_eq_false (show ¬ (1 ≤ (s : Int) ∧ (k : Int) ≤ i ∧ (i : Int) < k + s) by omega)]
    by_cases c1 : k ≤ i
    · rw [decide_eq_false (show ¬ i - k < s by omega)]; simp
    · rw [decide_eq_false c1]; simp
theorem shl_put {w n : Int} (hw : W64 w) (hn : W64 n) (k s : Nat) :
    bits .or .u64 (bits .andNot .u64 w (onesS k s)) (bits .and .u64 (IntKind.u64.wrap (n * 2 ^ k)) (onesS k s)) = putS w k s n := by
  have o := onesS_range k s
  have r := wrap_range (n * 2 ^ k)
  have a := andNot_range hw.1 hw.2 o.1 o.2
  have b := and_range r.1 r.2 o.1 o.2
  have c := or_range a.1 a.2 b.1 b.2
  apply eq_word c.1 c.2
  intro i hi
  rw [tb_or a.1 a.2 b.1 b.2, tb_andNot hw.1 hw.2 o.1 o.2, tb_and r.1 r.2 o.1 o.2, tb_wrap (mul_nonneg' hn.1 k), tb_mul hn.1, decide_eq_true hi, Bool.true_and]
  unfold onesS
  rw [tb_word, decide_eq_true hi, Bool.true_and]
  cases h : inP k s i
  · simp
  · have h2 := of_decide_eq_true h
    have e : ((i : Int) - k).toNat = i - k := by omega
    rw [decide_eq_true (show k ≤ i by omega), e]; simp
/-! ### traps and returns -/
def isPriv (p : Int) : Bool := p == 0 || p == 1 || p == 3
def enterM (w n : Int) : Int := putS (putS (putS w 7 1 (cutS w 3 1)) 3 1 0) 11 2 n
def enterU (w n : Int) : Int := putS (putS (putS w 5 1 (cutS w 1 1)) 1 1 0) 8 1 n
def enterV (w frm dst : Int) : Int := if isPriv frm then (if dst = 3 then enterM w frm else if dst = 1 then enterU w (if frm = 1 then 1 else 0) else w) else w
/-- The privilege of a field's number. -/
def prvS (x : Int) : Int := if x = 2 then 0 else x
def mppS (w : Int) : Int := prvS (cutS w 11 2)
def backM (w : Int) : Int := putS (putS (putS w 3 1 (cutS w 7 1)) 7 1 1) 11 2 0
def leaveM (w : Int) : Int := if mppS w = 3 then backM w else putS (backM w) 17 1 0
def leaveU (w : Int) : Int := putS (putS (putS (putS w 1 1 (cutS w 5 1)) 5 1 1) 8 1 0) 17 1 0
def leaveV (w at' : Int) : Int := if at' = 3 then leaveM w else if at' = 1 then leaveU w else w
def leaveP (w at' : Int) : Int := if at' = 3 then mppS w else if at' = 1 then cutS w 8 1 else 0
theorem cut2_lt (w : Int) : cutS w 11 2 < 4 := by
  have e : cutS w 11 2 = bits .and .u64 (cutS w 11 2) (2 ^ 2 - 1) := by
    have a := cutS_range w 11 2
    have b := and_range a.1 a.2 (y := 2 ^ 2 - 1) (by omega) (by omega)
    apply ext a.1 a.2 b.1 b.2
    intro i hi
    rw [tb_and a.1 a.2 (by omega) (by omega), tb_pow_sub_one, ccut _ _ _ hi]
    by_cases c : i < 2
    · simp [c]
    · rw [decide_eq_false c, decide_eq_false (show ¬ ((i : Int) < 2 ∧ 0 ≤ (11 : Int) + i) by omega)]; rfl
  have a := cutS_range w 11 2
  rw [e, and_low a.1 a.2 2 (by omega)]
  omega
theorem mpp_range (w : Int) : mppS w = 0 ∨ mppS w = 1 ∨ mppS w = 3 := by
  have a := cutS_range w 11 2
  have b := cut2_lt w
  unfold mppS prvS
  split <;> omega
theorem cut_put2 (w n : Int) (h0 : 0 ≤ n) (h4 : n < 4) : cutS (putS w 11 2 n) 11 2 = n := by
  have a := cutS_range (putS w 11 2 n) 11 2
  apply ext a.1 a.2 h0 (by omega)
  intro i hi
  rw [ccut _ _ _ hi]
  by_cases c : i < 2
  · have e : ((11 : Int) + i).toNat = 11 + i := by omega
    rw [decide_eq_true (show (i : Int) < 2 ∧ 0 ≤ (11 : Int) + i by omega), e, Bool.true_and, tb_p2 _ _ (by omega)]
    have : i = 0 ∨ i = 1 := by omega
    rcases this with rfl | rfl <;> rfl
  · rw [decide_eq_false (show ¬ ((i : Int) < 2 ∧ 0 ≤ (11 : Int) + i) by omega), Bool.false_and]
    symm
    unfold tb
    apply Nat.testBit_lt_two_pow
    have h2 : 2 ^ 2 ≤ 2 ^ i := Nat.pow_le_pow_right (by decide) (by omega)
    omega
theorem mpp_put (w : Int) {p : Int} (h : p = 0 ∨ p = 1 ∨ p = 3) : mppS (putS w 11 2 p) = p := by
  unfold mppS prvS
  rw [cut_put2 w p (by omega) (by omega), if_neg (by omega)]
theorem tb_0 : tb 0 0 = false := rfl
theorem tb_1 : tb 1 0 = true := rfl
/-- Behind a trap that Machine takes, and its return. -/
theorem trapM_back (w : Int) {p : Int} (h : p = 0 ∨ p = 1 ∨ p = 3) : mppS (enterM w p) = p := mpp_put _ h
theorem trapM_in (w p : Int) : cutS (enterM w p) 3 1 = 0 := by
  rw [show (3 : Int) = ((3 : Nat) : Int) from rfl, cut1 _ (by omega)]
  unfold enterM
  rw [tb_p2 _ _ (by omega), if_neg (by omega), if_neg (by omega), show (3 : Int) = ((3 : Nat) : Int) from rfl, tb_p1 _ _ _ (by omega), if_pos rfl, tb_0]; rfl
theorem backM_3 (w : Int) : tb (backM w) 3 = tb w 7 := by
  unfold backM
  rw [tb_p2 _ _ (by omega), if_neg (by omega), if_neg (by omega), show (7 : Int) = ((7 : Nat) : Int) from rfl, tb_p1 _ _ _ (by omega), if_neg (by omega), show (3 : Int) = ((3 : Nat) : Int) from rfl, tb_p1 _ _ _ (by omega), if_pos rfl, tb_cut10 _ (by omega)]
theorem leaveM_3 (w : Int) : tb (leaveM w) 3 = tb w 7 := by
  unfold leaveM
  split
  · exact backM_3 w
  · rw [show (17 : Int) = ((17 : Nat) : Int) from rfl, tb_p1 _ _ _ (by omega), if_neg (by omega)]; exact backM_3 w
theorem enterM_7 (w p : Int) : tb (enterM w p) 7 = tb w 3 := by
  unfold enterM
  rw [tb_p2 _ _ (by omega), if_neg (by omega), if_neg (by omega), show (3 : Int) = ((3 : Nat) : Int) from rfl, tb_p1 _ _ _ (by omega), if_neg (by omega), show (7 : Int) = ((7 : Nat) : Int) from rfl, tb_p1 _ _ _ (by omega), if_pos rfl, tb_cut10 _ (by omega)]
theorem trapM_let (w p : Int) : cutS (leaveM (enterM w p)) 3 1 = cutS w 3 1 := by
  rw [show (3 : Int) = ((3 : Nat) : Int) from rfl, cut1 _ (by omega), cut1 _ (by omega), leaveM_3, enterM_7]
/-- The same of one that Super takes. -/
theorem trapU_back (w : Int) (b : Bool) : cutS (enterU w (bi b)) 8 1 = bi b := by
  rw [show (8 : Int) = ((8 : Nat) : Int) from rfl, cut1 _ (by omega)]
  unfold enterU
  rw [show (8 : Int) = ((8 : Nat) : Int) from rfl, tb_p1 _ _ _ (by omega), if_pos rfl, tb_bi0]
theorem trapU_in (w n : Int) : cutS (enterU w n) 1 1 = 0 := by
  rw [show cutS (enterU w n) 1 1 = cutS (enterU w n) ((1 : Nat) : Int) 1 from rfl, cut1 _ (by omega)]
  unfold enterU
  rw [show (8 : Int) = ((8 : Nat) : Int) from rfl, tb_p1 _ _ _ (by omega), if_neg (by omega)]
  rw [show putS (putS w 5 1 (cutS w 1 1)) 1 1 0 = putS (putS w 5 1 (cutS w 1 1)) ((1 : Nat) : Int) 1 0 from rfl, tb_p1 _ _ _ (by omega), if_pos rfl, tb_0]; rfl
theorem enterU_5 (w n : Int) : tb (enterU w n) 5 = tb w 1 := by
  unfold enterU
  rw [show (8 : Int) = ((8 : Nat) : Int) from rfl, tb_p1 _ _ _ (by omega), if_neg (by omega)]
  rw [show putS (putS w 5 1 (cutS w 1 1)) 1 1 0 = putS (putS w ((5 : Nat) : Int) 1 (cutS w ((1 : Nat) : Int) 1)) ((1 : Nat) : Int) 1 0 from rfl, tb_p1 _ _ _ (by omega), if_neg (by omega), tb_p1 _ _ _ (by omega), if_pos rfl, tb_cut10 _ (by omega)]
theorem leaveU_1 (w : Int) : tb (leaveU w) 1 = tb w 5 := by
  unfold leaveU
  rw [show putS (putS (putS (putS w 1 1 (cutS w 5 1)) 5 1 1) 8 1 0) 17 1 0 = putS (putS (putS (putS w ((1 : Nat) : Int) 1 (cutS w ((5 : Nat) : Int) 1)) ((5 : Nat) : Int) 1 1) ((8 : Nat) : Int) 1 0) ((17 : Nat) : Int) 1 0 from rfl,
    tb_p1 _ _ _ (by omega), if_neg (by omega), tb_p1 _ _ _ (by omega), if_neg (by omega), tb_p1 _ _ _ (by omega), if_neg (by omega), tb_p1 _ _ _ (by omega), if_pos rfl, tb_cut10 _ (by omega)]
theorem trapU_let (w n : Int) : cutS (leaveU (enterU w n)) 1 1 = cutS w 1 1 := by
  rw [show cutS (leaveU (enterU w n)) 1 1 = cutS (leaveU (enterU w n)) ((1 : Nat) : Int) 1 from rfl, show cutS w 1 1 = cutS w ((1 : Nat) : Int) 1 from rfl, cut1 _ (by omega), cut1 _ (by omega), leaveU_1, enterU_5]
/-! ### what a supervisor sees -/
def viewS (w : Int) : Int := bits .and .u64 w 8590721314
def seenB (i : Nat) : Bool := i == 1 || i == 5 || i == 8 || i == 18 || i == 19 || i == 33
theorem tbSeen {i : Nat} (hi : i < 64) : tb 8590721314 i = seenB i := (by decide +kernel : ∀ i : Fin 64, tb 8590721314 i.val = seenB i.val) ⟨i, hi⟩
theorem tb33 {i : Nat} (hi : i < 64) : tb 8589934592 i = (i == 33) := (by decide +kernel : ∀ i : Fin 64, tb 8589934592 i.val = (i.val == 33)) ⟨i, hi⟩
theorem tbSst {i : Nat} (hi : i < 64) : tb (maskC 256) i = (seenB i && !(i == 33)) := (by decide +kernel : ∀ i : Fin 64, tb (maskC 256) i.val = (seenB i.val && !(i.val == 33))) ⟨i, hi⟩
theorem view_range {w : Int} (hw : W64 w) : W64 (viewS w) := and_range hw.1 hw.2 (by omega) (by omega)
theorem tb_view {w : Int} (hw : W64 w) {i : Nat} (hi : i < 64) : tb (viewS w) i = (tb w i && seenB i) := by
  unfold viewS; rw [tb_and hw.1 hw.2 (by omega) (by omega), tbSeen hi]
def viewR (w : Int) : Int := putS (putS (putS (putS (putS (putS 0 1 1 (cutS w 1 1)) 5 1 (cutS w 5 1)) 8 1 (cutS w 8 1)) 18 1 (cutS w 18 1)) 19 1 (cutS w 19 1)) 33 1 (cutS w 33 1)
theorem view_ref {w : Int} (hw : W64 w) : viewS w = viewR w := by
  have a := view_range hw
  have b := putS_range (putS (putS (putS (putS (putS 0 1 1 (cutS w 1 1)) 5 1 (cutS w 5 1)) 8 1 (cutS w 8 1)) 18 1 (cutS w 18 1)) 19 1 (cutS w 19 1)) 33 1 (cutS w 33 1)
  apply ext a.1 a.2 b.1 b.2
  intro i hi
  rw [tb_view hw hi]
  show _ = tb (putS (putS (putS (putS (putS (putS 0 ((1 : Nat) : Int) 1 (cutS w ((1 : Nat) : Int) 1)) ((5 : Nat) : Int) 1 (cutS w ((5 : Nat) : Int) 1)) ((8 : Nat) : Int) 1 (cutS w ((8 : Nat) : Int) 1)) ((18 : Nat) : Int) 1 (cutS w ((18 : Nat) : Int) 1)) ((19 : Nat) : Int) 1 (cutS w ((19 : Nat) : Int) 1)) ((33 : Nat) : Int) 1 (cutS w ((33 : Nat) : Int) 1)) i
  rw [tb_p1 _ _ _ hi, tb_p1 _ _ _ hi, tb_p1 _ _ _ hi, tb_p1 _ _ _ hi, tb_p1 _ _ _ hi, tb_p1 _ _ _ hi, tb_cut10 _ (by omega), tb_cut10 _ (by omega), tb_cut10 _ (by omega), tb_cut10 _ (by omega), tb_cut10 _ (by omega), tb_cut10 _ (by omega), tb_zero]
  unfold seenB
  by_cases e1 : i = 33
  · subst e1; simp
  · by_cases e2 : i = 19
    · subst e2; simp
    · by_cases e3 : i = 18
      · subst e3; simp
      · by_cases e4 : i = 8
        · subst e4; simp
        · by_cases e5 : i = 5
          · subst e5; simp
          · by_cases e6 : i = 1
            · subst e6; simp
            · simp [e1, e2, e3, e4, e5, e6]
theorem leg256 (w v : Int) : legS 256 w v = nextS (maskC 256) w v := by unfold legS; rw [if_neg (by omega), if_neg (by omega)]
theorem lay_seen {w v : Int} (hw : W64 w) (hv : W64 v) : bits .andNot .u64 (viewS (legS 256 w v)) 8589934592 = bits .andNot .u64 (viewS v) 8589934592 := by
  have z := legS_range (n := 256) (v := v) hw
  have a := view_range z
  have b := view_range hv
  have c := andNot_range a.1 a.2 (y := 8589934592) (by omega) (by omega)
  have d := andNot_range b.1 b.2 (y := 8589934592) (by omega) (by omega)
  apply ext c.1 c.2 d.1 d.2
  intro i hi
  rw [tb_andNot a.1 a.2 (by omega) (by omega), tb_andNot b.1 b.2 (by omega) (by omega), tb_view z hi, tb_view hv hi, tb33 hi, leg256, tb_next _ _ _ hi, tbSst hi]
  cases seenB i <;> cases (i == 33) <;> simp
theorem lay_rest {w v : Int} (hw : W64 w) : bits .andNot .u64 (legS 256 w v) (viewS 18446744073709551615) = bits .andNot .u64 w (viewS 18446744073709551615) := by
  have z := legS_range (n := 256) (v := v) hw
  have ho : W64 18446744073709551615 := by constructor <;> omega
  have a := view_range ho
  have c := andNot_range z.1 z.2 a.1 a.2
  have d := andNot_range hw.1 hw.2 a.1 a.2
  apply ext c.1 c.2 d.1 d.2
  intro i hi
  rw [tb_andNot z.1 z.2 a.1 a.2, tb_andNot hw.1 hw.2 a.1 a.2, tb_view ho hi, leg256, tb_next _ _ _ hi, tbSst hi, tb_ones hi]
  cases seenB i <;> cases (i == 33) <;> simp
end Go.Proofs.YtkbgmppbkllnmaaDoor.Sta
