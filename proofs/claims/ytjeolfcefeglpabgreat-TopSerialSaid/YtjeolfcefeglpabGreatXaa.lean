/-
  Plain numbers, no program: a word of 64 bits that is given by a function of the bit's place, and the bits of sums, shifts and masks of such words. Plain numbers, no program: accesses, their pieces and their stripes (layer 11). Arrays of integers as whole rows: a block that holds them; what is loaded, stored and compared; how the program's other steps leave them.
-/
import Derived.Laws.ShiftsVarLaws
import Derived.WalkKit
import Derived.Test.YtjeolfcefeglpabGreatRows
import Derived.Laws.Rows
import Derived.Laws.Tables
import Derived.Deep.WholeRow
import Derived.Laws.StructEq
import Derived.Laws.CopyOwn
import Derived.Laws.CopyRow
import Derived.Below
import Derived.Great.BuildSlice
import Derived.Lib.Hide
namespace Go.Proofs.YtjeolfcefeglpabGreat.Wd
open Go.RowKit (wrap64)

def tb (x : Int) (i : Nat) : Bool := x.toNat.testBit i

def sumTo (f : Nat → Bool) : Nat → Nat
  | 0 => 0
  | n + 1 => 2 ^ n * (f n).toNat + sumTo f n

theorem sumTo_lt (f : Nat → Bool) (n : Nat) : sumTo f n < 2 ^ n := by
  induction n with
  | zero => simp [sumTo]
  | succ n ih =>
    unfold sumTo
    have h : 2 ^ (n + 1) = 2 ^ n + 2 ^ n := by rw [Nat.pow_succ]; omega
    cases f n <;> simp <;> omega

theorem testBit_sumTo (f : Nat → Bool) (n i : Nat) : (sumTo f n).testBit i = (decide (i < n) && f i) := by
  induction n with
  | zero => simp [sumTo]
  | succ n ih =>
    unfold sumTo
    rw [Nat.testBit_two_pow_mul_add _ (sumTo_lt f n), ih]
    by_cases h : i < n
    · have h' : i < n + 1 := by omega
      simp [h, h']
    · by_cases h2 : i = n
      · subst h2
        cases f i <;> simp
      · have h3 : ¬ i < n + 1 := by omega
        have h4 : ∃ j, i - n = j + 1 := ⟨i - n - 1, by omega⟩
        obtain ⟨j, hj⟩ := h4
        rw [hj]
        cases f n <;> simp [h, h3, Nat.testBit_succ]

def word (f : Nat → Bool) : Int := (sumTo f 64 : Nat)
theorem word_nonneg (f : Nat → Bool) : 0 ≤ word f := by unfold word; omega
theorem word_lt (f : Nat → Bool) : word f < 18446744073709551616 := by
  have := sumTo_lt f 64
  unfold word
  omega
theorem tb_word (f : Nat → Bool) (i : Nat) : tb (word f) i = (decide (i < 64) && f i) := by
  unfold tb word
  rw [Int.toNat_natCast, testBit_sumTo]
theorem tb_big {x : Int} (h : x < 18446744073709551616) {i : Nat} (hi : 64 ≤ i) : tb x i = false := by
  unfold tb
  apply Nat.testBit_lt_two_pow
  have h2 : 2 ^ 64 ≤ 2 ^ i := Nat.pow_le_pow_right (by decide) hi
  omega
theorem ext {x y : Int} (hx0 : 0 ≤ x) (hx : x < 18446744073709551616) (hy0 : 0 ≤ y) (hy : y < 18446744073709551616) (h : ∀ i, i < 64 → tb x i = tb y i) : x = y := by
  have : x.toNat = y.toNat := by
    apply Nat.eq_of_testBit_eq
    intro i
    by_cases hi : i < 64
    · exact h i hi
    · have a := tb_big hx (i := i) (by omega)
      have b := tb_big hy (i := i) (by omega)
      unfold tb at a b
      rw [a, b]
  omega
theorem eq_word {x : Int} {f : Nat → Bool} (hx0 : 0 ≤ x) (hx : x < 18446744073709551616) (h : ∀ i, i < 64 → tb x i = f i) : x = word f :=
  ext hx0 hx (word_nonneg f) (word_lt f) (fun i hi => by rw [tb_word, h i hi]; simp [hi])
theorem word_congr {f g : Nat → Bool} (h : ∀ i, i < 64 → f i = g i) : word f = word g :=
  ext (word_nonneg f) (word_lt f) (word_nonneg g) (word_lt g) (fun i hi => by rw [tb_word, tb_word, h i hi])

/-! ### bits of what is reckoned -/
theorem tb_zero (i : Nat) : tb 0 i = false := by simp [tb]
theorem tb_ones {i : Nat} (hi : i < 64) : tb 18446744073709551615 i = true := by
  have : (18446744073709551615 : Int).toNat = 2 ^ 64 - 1 := by decide
  unfold tb
  rw [this, Nat.testBit_two_pow_sub_one]
  simp [hi]
theorem toNat_pow (k : Nat) : ((2 : Int) ^ k).toNat = 2 ^ k := toNat_two_pow k
theorem pow_cast (k : Nat) : ((2 : Int) ^ k) = ((2 ^ k : Nat) : Int) := by simp
theorem tb_div {x : Int} (h0 : 0 ≤ x) (k i : Nat) : tb (x / 2 ^ k) i = tb x (i + k) := by
  obtain ⟨X, rfl⟩ := Int.eq_ofNat_of_zero_le h0
  unfold tb
  rw [pow_cast, ← Int.natCast_ediv, Int.toNat_natCast, Int.toNat_natCast, Nat.testBit_div_two_pow]
theorem div_range {x : Int} (h0 : 0 ≤ x) (h : x < 18446744073709551616) (k : Nat) : 0 ≤ x / 2 ^ k ∧ x / 2 ^ k < 18446744073709551616 := by
  have hp : (0 : Int) < 2 ^ k := Int.pow_pos (by decide)
  exact ⟨Int.ediv_nonneg h0 (by omega), Int.lt_of_le_of_lt (Int.ediv_le_self _ h0) h⟩
theorem wrap_range (x : Int) : 0 ≤ IntKind.u64.wrap x ∧ IntKind.u64.wrap x < 18446744073709551616 := by
  rw [IntKind.wrap_u64]; omega
theorem tb_wrap {x : Int} (h0 : 0 ≤ x) (i : Nat) : tb (IntKind.u64.wrap x) i = (decide (i < 64) && tb x i) := by
  obtain ⟨X, rfl⟩ := Int.eq_ofNat_of_zero_le h0
  rw [IntKind.wrap_u64]
  unfold tb
  have : ((X : Int) % 18446744073709551616).toNat = X % 2 ^ 64 := by omega
  rw [this, Int.toNat_natCast, Nat.testBit_mod_two_pow]
theorem tb_mul {x : Int} (h0 : 0 ≤ x) (k i : Nat) : tb (x * 2 ^ k) i = (decide (k ≤ i) && tb x (i - k)) := by
  obtain ⟨X, rfl⟩ := Int.eq_ofNat_of_zero_le h0
  unfold tb
  rw [pow_cast, ← Int.natCast_mul, Int.toNat_natCast, Int.toNat_natCast, Nat.testBit_mul_two_pow]
theorem mul_nonneg' {x : Int} (h0 : 0 ≤ x) (k : Nat) : 0 ≤ x * 2 ^ k := Int.mul_nonneg h0 (Int.le_of_lt (Int.pow_pos (by decide)))
theorem tb_pow_sub_one (k i : Nat) : tb (2 ^ k - 1) i = decide (i < k) := by
  unfold tb
  have hp : 0 < 2 ^ k := Nat.two_pow_pos k
  have : ((2 : Int) ^ k - 1).toNat = 2 ^ k - 1 := by rw [pow_cast]; omega
  rw [this, Nat.testBit_two_pow_sub_one]
theorem tb_and {x y : Int} (hx0 : 0 ≤ x) (hx : x < 18446744073709551616) (hy0 : 0 ≤ y) (hy : y < 18446744073709551616) (i : Nat) : tb (bits .and .u64 x y) i = (tb x i && tb y i) := by
  rw [u64_and x y hx0 hx hy0 hy]; unfold tb; rw [Int.toNat_natCast, Nat.testBit_and]
theorem tb_or {x y : Int} (hx0 : 0 ≤ x) (hx : x < 18446744073709551616) (hy0 : 0 ≤ y) (hy : y < 18446744073709551616) (i : Nat) : tb (bits .or .u64 x y) i = (tb x i || tb y i) := by
  rw [u64_or x y hx0 hx hy0 hy]; unfold tb; rw [Int.toNat_natCast, Nat.testBit_or]
theorem and_range {x y : Int} (hx0 : 0 ≤ x) (hx : x < 18446744073709551616) (hy0 : 0 ≤ y) (hy : y < 18446744073709551616) : 0 ≤ bits .and .u64 x y ∧ bits .and .u64 x y < 18446744073709551616 := by
  rw [u64_and x y hx0 hx hy0 hy]
  have : x.toNat &&& y.toNat < 2 ^ 64 := Nat.and_lt_two_pow _ (by omega)
  omega
theorem or_range {x y : Int} (hx0 : 0 ≤ x) (hx : x < 18446744073709551616) (hy0 : 0 ≤ y) (hy : y < 18446744073709551616) : 0 ≤ bits .or .u64 x y ∧ bits .or .u64 x y < 18446744073709551616 := by
  rw [u64_or x y hx0 hx hy0 hy]
  have : x.toNat ||| y.toNat < 2 ^ 64 := Nat.or_lt_two_pow (by omega) (by omega)
  omega
theorem tb_not {x : Int} (hx0 : 0 ≤ x) (hx : x < 18446744073709551616) (i : Nat) : tb (18446744073709551615 - x) i = (decide (i < 64) && !tb x i) := by
  unfold tb
  have : (18446744073709551615 - x).toNat = 2 ^ 64 - (x.toNat + 1) := by omega
  rw [this, Nat.testBit_two_pow_sub_succ (by omega)]
theorem tb_andNot {x y : Int} (hx0 : 0 ≤ x) (hx : x < 18446744073709551616) (hy0 : 0 ≤ y) (hy : y < 18446744073709551616) (i : Nat) : tb (bits .andNot .u64 x y) i = (tb x i && !tb y i) := by
  rw [u64_andNot x y hx0 hx hy0 hy]
  unfold tb
  rw [Int.toNat_natCast, Nat.testBit_and]
  have : 18446744073709551615 - y.toNat = 2 ^ 64 - (y.toNat + 1) := by omega
  rw [this, Nat.testBit_two_pow_sub_succ (by omega)]
  by_cases hi : i < 64
  · simp [hi]
  · have := tb_big hx (i := i) (by omega)
    unfold tb at this
    simp [this]
theorem andNot_range {x y : Int} (hx0 : 0 ≤ x) (hx : x < 18446744073709551616) (hy0 : 0 ≤ y) (hy : y < 18446744073709551616) : 0 ≤ bits .andNot .u64 x y ∧ bits .andNot .u64 x y < 18446744073709551616 := by
  rw [u64_andNot x y hx0 hx hy0 hy]
  have : x.toNat &&& (18446744073709551615 - y.toNat) < 2 ^ 64 := Nat.and_lt_two_pow _ (by omega)
  omega

/-! ### the bit 63, and what is shifted down with the sign -/
theorem tb_63 {x : Int} (h0 : 0 ≤ x) (h : x < 18446744073709551616) : tb x 63 = decide (9223372036854775808 ≤ x) := by
  unfold tb
  rw [Nat.testBit_eq_decide_div_mod_eq]
  obtain ⟨X, rfl⟩ := Int.eq_ofNat_of_zero_le h0
  rw [Int.toNat_natCast]
  by_cases c : (9223372036854775808 : Int) ≤ X
  · rw [decide_eq_true c, decide_eq_true]; omega
  · rw [decide_eq_false c, decide_eq_false]; omega
theorem wrap64_small {x : Int} (h0 : 0 ≤ x) (h : x < 9223372036854775808) : wrap64 x = x := by unfold wrap64; omega
theorem wrap64_great {x : Int} (h0 : 9223372036854775808 ≤ x) (h : x < 18446744073709551616) : wrap64 x = x - 18446744073709551616 := by unfold wrap64; omega
theorem tb_sra {x : Int} (h0 : 0 ≤ x) (h : x < 18446744073709551616) (k i : Nat) (hi : i < 64) : tb (IntKind.u64.wrap (wrap64 x / 2 ^ k)) i = if i + k < 64 then tb x (i + k) else tb x 63 := by
  have h63 := tb_63 h0 h
  by_cases c : 9223372036854775808 ≤ x
  · rw [wrap64_great c h]
    rw [decide_eq_true c] at h63
    have hq : (x - 18446744073709551616) / 2 ^ k = -((18446744073709551615 - x) / 2 ^ k) - 1 := by
      have hp : (0 : Int) < 2 ^ k := Int.pow_pos (by decide)
      have e : x - 18446744073709551616 = -(18446744073709551615 - x) - 1 := by omega
      rw [e]
      generalize 18446744073709551615 - x = y
      have h1 := Int.emod_nonneg y (Int.ne_of_gt hp)
      have h2 := Int.emod_lt_of_pos y hp
      have h3 := Int.mul_ediv_add_emod y (2 ^ k)
      apply (Int.ediv_eq_iff_of_pos hp).2
      generalize y / 2 ^ k = q at h3 ⊢
      generalize y % 2 ^ k = r at *
      generalize (2 : Int) ^ k = p at *
      have e2 : (-q - 1) * p = -(p * q) - p := by rw [Int.sub_mul, Int.neg_mul, Int.one_mul, Int.mul_comm]
      constructor
      · rw [e2]; omega
      · rw [e2]; omega
    rw [hq]
    have hy0 : 0 ≤ 18446744073709551615 - x := by omega
    have hd := div_range hy0 (by omega) k
    have e : IntKind.u64.wrap (-((18446744073709551615 - x) / 2 ^ k) - 1) = 18446744073709551615 - (18446744073709551615 - x) / 2 ^ k := by
      rw [IntKind.wrap_u64]
      generalize (18446744073709551615 - x) / 2 ^ k = q at *
      omega
    rw [e, tb_not hd.1 hd.2, tb_div hy0, tb_not h0 h, h63]
    by_cases c2 : i + k < 64
    · simp [hi, c2]
    · simp [hi, c2]
  · rw [wrap64_small h0 (by omega)]
    have hd := div_range h0 h k
    rw [tb_wrap hd.1, tb_div h0]
    rw [decide_eq_false c] at h63
    by_cases c2 : i + k < 64
    · simp [hi, c2]
    · rw [if_neg c2, tb_big h (by omega), h63]; simp
end Go.Proofs.YtjeolfcefeglpabGreat.Wd
namespace Go.Proofs.YtjeolfcefeglpabGreat.Sp
open Go.RowKit (wrap64)

def szB (n : Int) : Bool := decide (1 ≤ n ∧ n ≤ 8)
def okA (cut size : Int) : Bool := decide (1 ≤ size ∧ size ≤ 8 ∧ 0 ≤ cut ∧ cut < size)
theorem okA_iff {cut size : Int} : okA cut size = true ↔ 1 ≤ size ∧ size ≤ 8 ∧ 0 ≤ cut ∧ cut < size := by simp [okA]
/-- How many bytes are in the first page. -/
def cut (va n : Int) : Int := if 1 ≤ n ∧ n ≤ 8 ∧ 4096 - va % 4096 < n then 4096 - va % 4096 else 0
def stripe (a n : Int) : Int := if n < 1 then 0 else a / 64 % n
theorem stripe_range {a n : Int} (h0 : 0 ≤ a) (h1 : a < 18446744073709551616) : 0 ≤ stripe a n ∧ stripe a n < 288230376151711744 := by
  unfold stripe
  split
  · omega
  · have := Int.emod_nonneg (a / 64) (show n ≠ 0 by omega)
    have : a / 64 % n ≤ a / 64 := by
      have h2 : 0 ≤ n * (a / 64 / n) := Int.mul_nonneg (by omega) (Int.ediv_nonneg (by omega) (by omega))
      have h3 := Int.emod_def (a / 64) n
      omega
    omega

/-- A piece: where, how many bytes, from which bit on. -/
structure P where
  a : Int
  n : Int
  s : Int
def P.cells (p : P) : List Value := [.int .u64 p.a, .int .i64 p.n, .int .i64 p.s]
def cellsOf (l : List P) : List Value := l.flatMap P.cells
theorem cellsOf_nil : cellsOf [] = [] := rfl
theorem cellsOf_append (l m : List P) : cellsOf (l ++ m) = cellsOf l ++ cellsOf m := by simp [cellsOf]
theorem cellsOf_one (p : P) : cellsOf [p] = p.cells := by simp [cellsOf]
theorem cellsOf_len (l : List P) : (cellsOf l).length = l.length * 3 := by
  induction l with
  | nil => rfl
  | cons p l ih =>
    have : cellsOf (p :: l) = p.cells ++ cellsOf l := by simp [cellsOf]
    rw [this, List.length_append, ih]
    simp [P.cells]; omega
def p0 : P := ⟨0, 0, 0⟩
theorem cellsOf_at (l : List P) (i f : Nat) (hi : i < l.length) (hf : f < 3) : (cellsOf l)[i * 3 + f]? = (l.getD i p0).cells[f]? := by
  induction l generalizing i with
  | nil => simp at hi
  | cons p l ih =>
    have e : cellsOf (p :: l) = p.cells ++ cellsOf l := by simp [cellsOf]
    have hl : p.cells.length = 3 := rfl
    rw [e]
    cases i with
    | zero => rw [List.getElem?_append_left (by rw [hl]; omega)]; simp
    | succ i =>
      rw [List.getElem?_append_right (by rw [hl]; omega), hl, show (i + 1) * 3 + f - 3 = i * 3 + f by omega, ih i (by simpa using hi)]
      simp
theorem cellsOf_last (l : List P) (p : P) (x : Int) : (cellsOf (l ++ [p])).set (l.length * 3 + 1) (.int .i64 x) = cellsOf (l ++ [⟨p.a, x, p.s⟩]) := by
  rw [cellsOf_append, cellsOf_append, cellsOf_one, cellsOf_one, List.set_append_right _ _ (by rw [cellsOf_len]; omega), cellsOf_len,
    show l.length * 3 + 1 - l.length * 3 = 1 by omega]
  rfl
theorem cells_one (p : P) : ∀ u ∈ p.cells, u.oneCell' = true := by
  intro u hu
  simp [P.cells] at hu
  rcases hu with rfl | rfl | rfl <;> rfl
theorem cellsOf_oneC (l : List P) : ∀ u ∈ cellsOf l, u.oneCell' = true := by
  intro u hu
  obtain ⟨p, -, hp⟩ := List.mem_flatMap.1 hu
  exact cells_one p u hp

/-- The pieces of n bytes from a on, of which the first one is byte f of the number. -/
def run (a n f : Int) : List P :=
  if 64 - a % 64 < n then [⟨a, 64 - a % 64, 8 * f⟩, ⟨(a + (64 - a % 64)) % 18446744073709551616, n - (64 - a % 64), 8 * (f + (64 - a % 64))⟩] else [⟨a, n, 8 * f⟩]
theorem run_len (a n f : Int) : 1 ≤ (run a n f).length ∧ (run a n f).length ≤ 2 := by unfold run; split <;> simp
def pieces (a b c n : Int) : List P := if okA c n then (if c = 0 then run a n 0 else run a c 0 ++ run b (n - c) c) else []
theorem pieces_len (a b c n : Int) : (pieces a b c n).length ≤ 4 := by
  unfold pieces
  have h1 := run_len a n 0
  have h2 := run_len a c 0
  have h3 := run_len b (n - c) c
  split
  · split
    · omega
    · rw [List.length_append]; omega
  · simp

/-! Byte by byte. -/
def byte (a b c : Int) (i : Int) : Int := if 0 < c ∧ c ≤ i then (b + (i - c)) % 18446744073709551616 else (a + i) % 18446744073709551616
theorem byte_range (a b c i : Int) : 0 ≤ byte a b c i ∧ byte a b c i < 18446744073709551616 := by unfold byte; split <;> omega
/-- One byte more, of the number's byte i, at x. -/
def grow (l : List P) (x i : Int) : List P :=
  match l.getLast? with
  | some p => if x / 64 = p.a / 64 then l.dropLast ++ [⟨p.a, p.n + 1, p.s⟩] else l ++ [⟨x, 1, 8 * i⟩]
  | none => l ++ [⟨x, 1, 8 * i⟩]
theorem grow_app (l : List P) (p : P) (x i : Int) : grow (l ++ [p]) x i = if x / 64 = p.a / 64 then l ++ [⟨p.a, p.n + 1, p.s⟩] else l ++ [p] ++ [⟨x, 1, 8 * i⟩] := by
  simp [grow]
theorem run_grow (L : List P) (a k f : Int) (ha : 0 ≤ a) (ha2 : a < 18446744073709551616) (h1 : 1 ≤ k) (h8 : k ≤ 7) : grow (L ++ run a k f) ((a + k) % 18446744073709551616) (f + k) = L ++ run a (k + 1) f := by
  unfold run
  by_cases h : 64 - a % 64 < k
  · rw [if_pos h, if_pos (by omega)]
    rw [show L ++ [⟨a, 64 - a % 64, 8 * f⟩, ⟨(a + (64 - a % 64)) % 18446744073709551616, k - (64 - a % 64), 8 * (f + (64 - a % 64))⟩] = (L ++ [⟨a, 64 - a % 64, 8 * f⟩]) ++ [⟨(a + (64 - a % 64)) % 18446744073709551616, k - (64 - a % 64), 8 * (f + (64 - a % 64))⟩] by simp]
    rw [grow_app, if_pos (by simp only []; omega)]
    simp
    omega
  · rw [if_neg h, grow_app]
    by_cases h2 : 64 - a % 64 < k + 1
    · have e : 64 - a % 64 = k := by omega
      rw [if_pos h2, if_neg (by simp only []; omega), e]
      simp
      omega
    · rw [if_neg h2, if_pos (by simp only []; omega)]
theorem run_one (a f : Int) : run a 1 f = [⟨a, 1, 8 * f⟩] := by
  unfold run
  rw [if_neg (by omega)]
/-- What there is behind k bytes. -/
def pre (a b c : Int) (k : Nat) : List P := if k = 0 then [] else if c = 0 ∨ (k : Int) ≤ c then run a k 0 else run a c 0 ++ run b (k - c) c
theorem pre_zero (a b c : Int) : pre a b c 0 = [] := rfl
theorem pre_all {a b c n : Int} (h : okA c n = true) : pre a b c n.toNat = pieces a b c n := by
  obtain ⟨h1, h2, h3, h4⟩ := okA_iff.1 h
  unfold pre pieces
  rw [if_pos h, if_neg (by omega), Int.toNat_of_nonneg (by omega)]
  by_cases e : c = 0
  · simp [e]
  · rw [if_neg (by omega), if_neg e]
theorem pre_len (a b c : Int) (k : Nat) : (pre a b c k).length ≤ 4 := by
  unfold pre
  have h1 := run_len a k 0
  have h2 := run_len a c 0
  have h3 := run_len b (k - c) c
  split
  · simp
  · split
    · omega
    · rw [List.length_append]; omega
theorem run_last (a n f : Int) : ∃ L p, run a n f = L ++ [p] := by
  unfold run
  split
  · exact ⟨[_], _, rfl⟩
  · exact ⟨[], _, rfl⟩
theorem pre_last (a b c : Int) (k : Nat) (hk : k ≠ 0) : ∃ L p, pre a b c k = L ++ [p] := by
  unfold pre
  rw [if_neg hk]
  split
  · exact run_last _ _ _
  · obtain ⟨L, p, h⟩ := run_last b (k - c) c
    exact ⟨run a c 0 ++ L, p, by rw [h, List.append_assoc]⟩
theorem pre_new {a b c : Int} {k : Nat} (ha : 0 ≤ a ∧ a < 18446744073709551616) (hb : 0 ≤ b ∧ b < 18446744073709551616) (hc : 0 ≤ c) (h : k = 0 ∨ (k : Int) = c) : pre a b c (k + 1) = pre a b c k ++ [⟨byte a b c k, 1, 8 * k⟩] := by
  rcases h with rfl | h
  · unfold pre
    rw [if_neg (by omega), if_pos rfl, if_pos (by omega)]
    rw [show ((0 + 1 : Nat) : Int) = 1 from rfl, run_one]
    unfold byte
    by_cases e : 0 < c ∧ c ≤ ((0 : Nat) : Int)
    · omega
    · rw [if_neg e]
      simp
      omega
  · by_cases hk : k = 0
    · subst hk
      unfold pre
      rw [if_neg (by omega), if_pos rfl, if_pos (by omega)]
      rw [show ((0 + 1 : Nat) : Int) = 1 from rfl, run_one]
      unfold byte
      rw [if_neg (by omega)]
      simp
      omega
    · unfold pre
      rw [if_neg (show ¬ k + 1 = 0 by omega), if_neg hk, if_pos (show c = 0 ∨ (k : Int) ≤ c by omega), if_neg (show ¬ (c = 0 ∨ ((k + 1 : Nat) : Int) ≤ c) by omega)]
      rw [show ((k + 1 : Nat) : Int) - c = 1 by omega, run_one, h]
      unfold byte
      rw [if_pos (by omega)]
      simp
      omega
theorem pre_grow {a b c : Int} {k : Nat} (ha : 0 ≤ a ∧ a < 18446744073709551616) (hb : 0 ≤ b ∧ b < 18446744073709551616) (hc : 0 ≤ c) (h0 : k ≠ 0) (h7 : k ≤ 7) (h : (k : Int) ≠ c) : pre a b c (k + 1) = grow (pre a b c k) (byte a b c k) k := by
  unfold pre
  rw [if_neg (by omega), if_neg h0]
  by_cases e : c = 0 ∨ (k : Int) ≤ c
  · rw [if_pos (by omega), if_pos e]
    have := run_grow [] a k 0 ha.1 ha.2 (by omega) (by omega)
    simp only [List.nil_append, Int.zero_add] at this
    unfold byte
    rw [if_neg (by omega), this]
    rfl
  · rw [if_neg (by omega), if_neg e]
    have := run_grow (run a c 0) b (k - c) c hb.1 hb.2 (by omega) (by omega)
    unfold byte
    rw [if_pos (by omega)]
    rw [show c + ((k : Int) - c) = k by omega] at this
    rw [this, show ((k + 1 : Nat) : Int) - c = k - c + 1 by omega]
/-- A piece's numbers are small. -/
structure P.Ok (p : P) : Prop where
  a0 : 0 ≤ p.a
  a1 : p.a < 18446744073709551616
  n0 : 1 ≤ p.n
  n1 : p.n ≤ 8
  s0 : 0 ≤ p.s
  s1 : p.s + 8 * p.n ≤ 64
theorem run_ok {a n f : Int} (ha : 0 ≤ a ∧ a < 18446744073709551616) (hn : 1 ≤ n) (hf : 0 ≤ f) (hfn : f + n ≤ 8) : ∀ p ∈ run a n f, p.Ok := by
  intro p hp
  unfold run at hp
  split at hp
  · simp only [List.mem_cons, List.not_mem_nil, or_false] at hp
    rcases hp with rfl | rfl
    · constructor <;> simp only [] <;> omega
    · constructor <;> simp only [] <;> omega
  · simp only [List.mem_cons, List.not_mem_nil, or_false] at hp
    subst hp
    constructor <;> simp only [] <;> omega
theorem pieces_ok {a b c n : Int} (ha : 0 ≤ a ∧ a < 18446744073709551616) (hb : 0 ≤ b ∧ b < 18446744073709551616) : ∀ p ∈ pieces a b c n, p.Ok := by
  intro p hp
  unfold pieces at hp
  split at hp
  · rename_i hok
    obtain ⟨h1, h2, h3, h4⟩ := okA_iff.1 hok
    split at hp
    · exact run_ok ha h1 (by omega) (by omega) p hp
    · rcases List.mem_append.1 hp with h | h
      · exact run_ok ha (by omega) (by omega) (by omega) p h
      · exact run_ok hb (by omega) (by omega) (by omega) p h
  · simp at hp
theorem pre_ok {a b c : Int} {k : Nat} (ha : 0 ≤ a ∧ a < 18446744073709551616) (hb : 0 ≤ b ∧ b < 18446744073709551616) (hc : 0 ≤ c) (hk : k ≤ 8) : ∀ p ∈ pre a b c k, p.Ok := by
  intro p hp
  unfold pre at hp
  split at hp
  · simp at hp
  · split at hp
    · exact run_ok ha (by omega) (by omega) (by omega) p hp
    · rcases List.mem_append.1 hp with h | h
      · exact run_ok ha (by omega) (by omega) (by omega) p h
      · exact run_ok hb (by omega) (by omega) (by omega) p h
/-- How many of the first k bytes are in the first page. -/
def cnt (va : Int) (k : Nat) : Int := if (k : Int) ≤ 4096 - va % 4096 then k else 4096 - va % 4096
theorem cnt_in {va : Int} {k : Nat} (h0 : 0 ≤ va) (h1 : va < 18446744073709551616) (hk : k ≤ 8) (h : (va + k) % 18446744073709551616 / 4096 = va / 4096) : cnt va (k + 1) = cnt va k + 1 := by
  unfold cnt
  have : (k : Int) + 1 ≤ 4096 - va % 4096 := by omega
  rw [if_pos (by omega), if_pos (by omega)]; omega
theorem cnt_out {va : Int} {k : Nat} (h0 : 0 ≤ va) (h1 : va < 18446744073709551616) (_hk : k ≤ 8) (h : ¬ (va + k) % 18446744073709551616 / 4096 = va / 4096) : cnt va (k + 1) = cnt va k := by
  unfold cnt
  have : ¬ (k : Int) + 1 ≤ 4096 - va % 4096 := by omega
  rw [if_neg (by omega)]
  split <;> omega
theorem cnt_cut {va n : Int} (h1 : 1 ≤ n) (h8 : n ≤ 8) : (if cnt va n.toNat = n then 0 else cnt va n.toNat) = cut va n := by
  unfold cnt cut
  rw [Int.toNat_of_nonneg (by omega)]
  by_cases h : n ≤ 4096 - va % 4096
  · rw [if_pos h, if_pos rfl, if_neg (by omega)]
  · rw [if_neg h, if_neg (by omega), if_pos (by omega)]
theorem cnt_range (va : Int) (k : Nat) (hk : k ≤ 8) : 0 ≤ cnt va k ∧ cnt va k ≤ 8 := by unfold cnt; split <;> omega
end Go.Proofs.YtjeolfcefeglpabGreat.Sp
set_option maxRecDepth 20000
namespace Go.Proofs.YtjeolfcefeglpabGreat
open Go.RowKit

/-- The cells of an array of integers. -/
def aV (k : IntKind) (ws : List Int) : Array Value := (ws.map (Value.int k)).toArray
theorem aV_size (k : IntKind) (ws : List Int) : (aV k ws).size = ws.length := by simp [aV]
theorem aV_get (k : IntKind) (ws : List Int) (i : Nat) : (aV k ws)[i]? = (ws[i]?).map (Value.int k) := by simp [aV]
theorem aV_set (k : IntKind) (ws : List Int) (i : Nat) (x : Int) : (aV k ws).setIfInBounds i (.int k x) = aV k (ws.set i x) := by
  simp [aV, List.map_set]
theorem aV_one (k : IntKind) (ws : List Int) : (aV k ws).all (·.oneCell') = true := by
  rw [Array.all_eq_true_iff_forall_mem]
  intro v hv
  simp [aV] at hv
  obtain ⟨a, -, rfl⟩ := hv
  rfl
/-- A block that holds an array of integers. -/
def RowAt (k : IntKind) (w : World) (b : Nat) (t : TypeId) (ws : List Int) : Prop := w.heap[b]? = some (.cells (aV k ws) t (0, 0))
theorem RowAt.lt {k : IntKind} {w : World} {b : Nat} {t : TypeId} {ws : List Int} (h : RowAt k w b t ws) : b < w.heap.size := (Array.getElem?_eq_some_iff.1 h).1
theorem RowAt.on {k : IntKind} {w w' : World} {B b : Nat} {t : TypeId} {ws : List Int} (h : RowAt k w b t ws) (hb : Below B w w') (hB : b < B) : RowAt k w' b t ws := (hb.block b hB).trans h
theorem RowAt.low {k : IntKind} {w w' : World} {b : Nat} {t : TypeId} {ws : List Int} (h : RowAt k w b t ws) (hb : Below w.heap.size w w') : RowAt k w' b t ws := h.on hb h.lt
theorem RowAt.alloc {k : IntKind} {w : World} {b : Nat} {t : TypeId} {ws : List Int} (h : RowAt k w b t ws) (o : Obj) : RowAt k (w.alloc o) b t ws := (Below.heap_alloc w o b h.lt).trans h
theorem RowAt.drew {k : IntKind} {w : World} {b : Nat} {t : TypeId} {ws : List Int} (h : RowAt k w b t ws) : RowAt k w.drew b t ws := h
theorem RowAt.new (k : IntKind) (w : World) (t : TypeId) (ws : List Int) : RowAt k (w.alloc (.cells (aV k ws) t)) w.heap.size t ws := by show (w.heap.push _)[w.heap.size]? = _; simp
theorem RowAt.cell {k : IntKind} {w : World} {b : Nat} {t : TypeId} {ws : List Int} (h : RowAt k w b t ws) (i : Nat) (hi : i < ws.length) : w.cell? ⟨b, i, none⟩ = some (.int k (ws.getD i 0)) := by
  rw [cell_of_row w b i _ t _ h, aV_get, List.getD, List.getElem?_eq_getElem hi]
  rfl
theorem RowAt.frozen {k : IntKind} {w : World} {b : Nat} {t : TypeId} {ws : List Int} (h : RowAt k w b t ws) (i : Nat) : w.frozen? ⟨b, i, none⟩ = false := frozen_of_row w b i _ t h
theorem RowAt.set {k : IntKind} {w : World} {b : Nat} {t : TypeId} {ws : List Int} (h : RowAt k w b t ws) (i : Nat) (x : Int) : RowAt k (w.setCell ⟨b, i, none⟩ (.int k x)) b t (ws.set i x) := by
  unfold RowAt
  rw [heap_setCell_same w b i _ t _ h, aV_set]
theorem RowAt.far {k : IntKind} {w : World} {b : Nat} {t : TypeId} {ws : List Int} (h : RowAt k w b t ws) {c i : Nat} (hne : b ≠ c) (v : Value) : RowAt k (w.setCell ⟨c, i, none⟩ v) b t ws :=
  (heap_setCell_other w ⟨c, i, none⟩ b v hne).trans h
theorem RowAt.row {k : IntKind} {w : World} {b : Nat} {t : TypeId} {ws : List Int} (h : RowAt k w b t ws) (vs : List Int) : RowAt k (w.setRow b (aV k vs)) b t vs := setRow_heap w b _ _ t _ h
theorem RowAt.rowFar {k : IntKind} {w : World} {b : Nat} {t : TypeId} {ws : List Int} (h : RowAt k w b t ws) {c : Nat} (hne : b ≠ c) (cs : Array Value) : RowAt k (w.setRow c cs) b t ws := (setRow_other w c b cs hne).trans h
theorem RowAt.setEq {k : IntKind} {w : World} {b : Nat} {t : TypeId} {ws : List Int} (h : RowAt k w b t ws) (i : Nat) (x : Int) : w.setCell ⟨b, i, none⟩ (.int k x) = w.setRow b (aV k (ws.set i x)) := by
  rw [setCell_eq_setRow w b i _ t _ _ h, aV_set]
theorem RowAt.self {k : IntKind} {w : World} {b : Nat} {t : TypeId} {ws : List Int} (h : RowAt k w b t ws) : w.setRow b (aV k ws) = w := setRow_self w b _ t _ h

theorem ints_range_eq : ∀ (xs ys : List Int), xs.length = ys.length → ((List.range xs.length).all fun i => xs.getD i 0 == ys.getD i 0) = (xs == ys)
  | [], [], _ => rfl
  | x :: xs, y :: ys, h => by
    have ih := ints_range_eq xs ys (by simpa using h)
    rw [List.length_cons, List.range_succ_eq_map, List.all_cons, List.all_map]
    simp only [List.getD_cons_zero, Function.comp_def, List.getD_cons_succ, ih]
    simp [List.cons_beq_cons]
  | [], _ :: _, h => by simp at h
  | _ :: _, [], h => by simp at h
section
variable {P : Program} (w : World)
theorem run_equalIn_ints (d : Nat) (t e : TypeId) (n : Nat) (k : IntKind) (ht : P.underlying t = some (.array n e)) (he : P.underlying e = some (.int k)) (hsz : ∀ w, (sizeOf e).run P w = .ok 1 w)
    (xs ys : List Int) (hx : xs.length = n) (hy : ys.length = n) :
    (Op.equalIn (d + 2) t (.agg (aV k xs)) (.agg (aV k ys))).run P w = .ok (xs == ys) w := by
  rw [← ints_range_eq xs ys (hx.trans hy.symm), hx, List.range_eq_range', Op.equalIn]
  simp only [Sem.run_bind, run_underlying ht, Result.andThen_ok, hsz, Std.Legacy.Range.forIn_eq_forIn_range', Std.Legacy.Range.size, Nat.sub_zero, Nat.add_sub_cancel, Nat.div_one]
  have hl : ∀ i ∈ List.range' 0 n 1, i < n := fun i hi => by simpa using (List.mem_range'_1.1 hi).2
  generalize List.range' 0 n 1 = l at hl ⊢
  induction l with
  | nil => simp
  | cons i l ih =>
    have hi : i < n := hl i (by simp)
    have px : (part e (aV k xs) (i * 1)).run P w = .ok (.int k (xs.getD i 0)) w := by
      simp [part, isAgg, run_underlying he, aV, List.getD, List.getElem?_eq_getElem (show i < xs.length by omega)]
    have py : (part e (aV k ys) (i * 1)).run P w = .ok (.int k (ys.getD i 0)) w := by
      simp [part, isAgg, run_underlying he, aV, List.getD, List.getElem?_eq_getElem (show i < ys.length by omega)]
    have pe : (Op.equalIn (d + 1) e (.int k (xs.getD i 0)) (.int k (ys.getD i 0))).run P w = .ok (xs.getD i 0 == ys.getD i 0) w := run_equalIn_int w d e k k _ _ he
    simp only [List.forIn_cons, Sem.run_bind, px, py, pe, Result.andThen_ok, List.all_cons]
    cases hb : (xs.getD i 0 == ys.getD i 0)
    · simp
    · simp only [Bool.not_true, Bool.false_eq_true, if_false, Sem.run_pure, Result.andThen_ok, Bool.true_and]
      exact ih fun j hj => hl j (by simp [hj])
theorem run_eql_ints (t e : TypeId) (n : Nat) (k : IntKind) (ht : P.underlying t = some (.array n e)) (he : P.underlying e = some (.int k)) (hsz : ∀ w, (sizeOf e).run P w = .ok 1 w)
    (xs ys : List Int) (hx : xs.length = n) (hy : ys.length = n) : (binOp .eql t (.agg (aV k xs)) (.agg (aV k ys))).run P w = .ok (.bool (xs == ys)) w := by
  rw [run_eql_struct, run_equalIn_ints w 9998 t e n k ht he hsz xs ys hx hy]
  rfl
theorem run_neq_ints (t e : TypeId) (n : Nat) (k : IntKind) (ht : P.underlying t = some (.array n e)) (he : P.underlying e = some (.int k)) (hsz : ∀ w, (sizeOf e).run P w = .ok 1 w)
    (xs ys : List Int) (hx : xs.length = n) (hy : ys.length = n) : (binOp .neq t (.agg (aV k xs)) (.agg (aV k ys))).run P w = .ok (.bool (!(xs == ys))) w := by
  rw [run_neq_struct, run_equalIn_ints w 9998 t e n k ht he hsz xs ys hx hy]
  rfl
/-- A whole array into the block that was made last. -/
theorem wpList_storeNew {ops : Array Oper} {rest : List Oper} {o : Oper} {a : Act} {w0 : World} {Q : Exit → Act → World → Prop} (hgd : o.guard = none) (ty : TypeId) (x y : Operand) (ho : o.op = .store ty x y)
    (c cells : Array Value) (t : TypeId) (hx : a.eval x = .pointer (some ⟨w0.heap.size, 0, none⟩)) (hy : a.eval y = .agg cells) (hi : (P.info? ty).map (·.size) = some cells.size) (hold : c.size = cells.size) (h1 : cells.all (·.oneCell') = true)
    (h : wpList P ops Q rest (a.put o.dst undef) (w0.alloc (.cells cells t))) : wpList P ops Q (o :: rest) a (w0.alloc (.cells c t)) := by
  refine wpList_store_row hgd ty x y ho w0.heap.size cells hx hy t c (heap_alloc_last w0 _) hi hold h1 ?_
  rw [World.setRow_alloc_new]
  exact h
theorem foldl_fill : ∀ (l : List Value) (i : Nat) (acc : Array Value), acc.size = i + l.length → (l.zipIdx i).foldl (fun (cs : Array Value) (x : Value × Nat) => cs.setIfInBounds (0 + x.2) x.1) acc = (acc.toList.take i ++ l).toArray
  | [], i, acc, h => by
    have : acc.toList.take i = acc.toList := List.take_of_length_le (by simp at h ⊢; omega)
    simp [this]
  | v :: l, i, acc, h => by
    rw [List.zipIdx_cons, List.foldl_cons, foldl_fill l (i + 1) _ (by simp at h ⊢; omega)]
    congr 1
    apply List.ext_getElem?
    intro k
    have hi : i < acc.size := by simp at h; omega
    simp only [Nat.zero_add, Array.toList_setIfInBounds, List.getElem?_append, List.length_take, List.length_set, Array.length_toList]
    by_cases hk : k < i
    · simp [hk, show k < i + 1 by omega, show min (i + 1) acc.size = i + 1 by omega, show min i acc.size = i by omega, show i ≠ k by omega]
    · by_cases hk2 : k = i
      · subst hk2
        simp [show min (k + 1) acc.size = k + 1 by omega, show min k acc.size = k by omega]
      · simp [hk, show ¬ k < i + 1 by omega, show min (i + 1) acc.size = i + 1 by omega, show min i acc.size = i by omega, show k - i = (k - (i + 1)) + 1 by omega]
/-- One part that fills the whole. -/
theorem fill_whole (place : Nat → Option (Nat × Nat)) (z cs : Array Value) (hp : place 0 = some (0, cs.size)) (hz : z.size = cs.size) : Instr.fill place z [(0, .agg cs)] = some cs := by
  have hc : (Value.agg cs).cells = cs := rfl
  simp only [Instr.fill, hp, hc]
  have e := foldl_fill cs.toList 0 z (by simp [hz])
  simp only [List.take_zero, List.nil_append, Array.toArray_toList] at e
  rw [if_neg (by simp; omega)]
  rw [← Array.foldl_toList, Array.toList_zipIdx]
  exact congrArg some e
/-- A whole built of one part. -/
theorem wpList_buildOne {ops : Array Oper} {rest : List Oper} {o : Oper} {a : Act} {w : World} {Q : Exit → Act → World → Prop} (hg : o.guard = none) (t : TypeId) (i : Nat) (x : Operand) (ho : o.op = .build t #[(i, x)])
    (src cells : Array Value) (hx : a.eval x = .agg src) (hf : P.built t [(i, .agg src)] = some cells)
    (h : wpList P ops Q rest (a.put o.dst (.agg cells)) w) : wpList P ops Q (o :: rest) a w :=
  wpList_buildTo hg t _ ho _ rfl cells (by simpa [hx] using hf) h
/-- Two aggregates compared. -/
theorem wpList_cmp {ops : Array Oper} {rest : List Oper} {o : Oper} {a : Act} {w : World} {Q : Exit → Act → World → Prop} (hg : o.guard = none) (op : BinOp) (t t2 : TypeId) (x y : Operand) (ho : o.op = .binOp op t x y t2)
    (xs ys : Array Value) (hx : a.eval x = .agg xs) (hy : a.eval y = .agg ys) (hm : P.eqGuardType P.depth t = false) (r : Value) (hr : (binOp op t (.agg xs) (.agg ys)).run P w = .ok r w)
    (h : wpList P ops Q rest (a.put o.dst r) w) : wpList P ops Q (o :: rest) a w :=
  wpList_plain hg fun _ hK => by
    unfold Oper.wp execOp
    simp only [ho, hx, hy, Sem.run_bind, run_eqGuard_agg w op t x y xs ys hm, hr, Result.andThen_ok, Sem.run_pure]
    exact hK _ _ h
/-- The same of an operation whose guard says yes. -/
theorem wpList_cmpW {ops : Array Oper} {rest : List Oper} {o : Oper} {a : Act} {w : World} {Q : Exit → Act → World → Prop} (hw : Region.wanted o (yielded ops a.tmps) = true) (op : BinOp) (t t2 : TypeId) (x y : Operand) (ho : o.op = .binOp op t x y t2)
    (xs ys : Array Value) (hx : a.eval x = .agg xs) (hy : a.eval y = .agg ys) (hm : P.eqGuardType P.depth t = false) (r : Value) (hr : (binOp op t (.agg xs) (.agg ys)).run P w = .ok r w)
    (h : wpList P ops Q rest (a.put o.dst r) w) : wpList P ops Q (o :: rest) a w :=
  wpList_step fun _ hK => by
    rw [if_pos hw]
    unfold Oper.wp execOp
    simp only [ho, hx, hy, Sem.run_bind, run_eqGuard_agg w op t x y xs ys hm, hr, Result.andThen_ok, Sem.run_pure]
    exact hK _ _ h
/-- A struct of one field, an array of integers, compared. -/
theorem run_eql_one (t u e : TypeId) (n : Nat) (k : IntKind) (f : Field) (hf : (P.fieldsOf t).toList = [f]) (ht : P.underlying t = some (.struct (P.fieldsOf t))) (hp : P.stoodInHeld t = false) (hn : (f.name != "_") = true) (ho : f.offset = 0) (hu : f.type = u)
    (hu2 : P.underlying u = some (.array n e)) (he : P.underlying e = some (.int k)) (hsz : ∀ w, (sizeOf e).run P w = .ok 1 w) (hsu : ∀ w, (sizeOf u).run P w = .ok n w)
    (xs ys : List Int) (hx : xs.length = n) (hy : ys.length = n) : (binOp .eql t (.agg (aV k xs)) (.agg (aV k ys))).run P w = .ok (.bool (xs == ys)) w := by
  rw [run_eql_struct, run_equalIn_agg w 9999 t _ _ ht hp, hf]
  have p1 : ∀ zs : List Int, zs.length = n → (part u (aV k zs) 0).run P w = .ok (.agg (aV k zs)) w := fun zs hz => by
    have e1 : (aV k zs).extract 0 n = aV k zs := by rw [← hz, ← aV_size k zs]; exact Array.extract_size
    simp [part, isAgg, run_underlying hu2, hsu, e1]
  have hn' : f.name ≠ "_" := by simpa using hn
  have q := run_equalIn_ints w 9997 u e n k hu2 he hsz xs ys hx hy
  have q' : (Op.equalIn 9999 u (.agg (aV k xs)) (.agg (aV k ys))).run P w = .ok (xs == ys) w := q
  simp only [Op.eqFields, if_pos hn', Sem.run_bind, ho, hu, p1 xs hx, p1 ys hy, Result.andThen_ok, q']
  cases hb : (xs == ys) <;> simp
end
/-- A block that holds the cells of an aggregate. -/
def CsAt (w : World) (b : Nat) (t : TypeId) (cs : Array Value) : Prop := w.heap[b]? = some (.cells cs t (0, 0))
theorem CsAt.lt {w : World} {b : Nat} {t : TypeId} {cs : Array Value} (h : CsAt w b t cs) : b < w.heap.size := (Array.getElem?_eq_some_iff.1 h).1
theorem CsAt.on {w w' : World} {B b : Nat} {t : TypeId} {cs : Array Value} (h : CsAt w b t cs) (hb : Below B w w') (hB : b < B) : CsAt w' b t cs := (hb.block b hB).trans h
theorem CsAt.low {w w' : World} {b : Nat} {t : TypeId} {cs : Array Value} (h : CsAt w b t cs) (hb : Below w.heap.size w w') : CsAt w' b t cs := h.on hb h.lt
theorem CsAt.alloc {w : World} {b : Nat} {t : TypeId} {cs : Array Value} (h : CsAt w b t cs) (o : Obj) : CsAt (w.alloc o) b t cs := (Below.heap_alloc w o b h.lt).trans h
theorem CsAt.new (w : World) (t : TypeId) (cs : Array Value) : CsAt (w.alloc (.cells cs t)) w.heap.size t cs := by show (w.heap.push _)[w.heap.size]? = _; simp
theorem CsAt.cell {w : World} {b : Nat} {t : TypeId} {cs : Array Value} (h : CsAt w b t cs) (i : Nat) : w.cell? ⟨b, i, none⟩ = cs[i]? := cell_of_row w b i _ t _ h
theorem CsAt.frozen {w : World} {b : Nat} {t : TypeId} {cs : Array Value} (h : CsAt w b t cs) (i : Nat) : w.frozen? ⟨b, i, none⟩ = false := frozen_of_row w b i _ t h
theorem CsAt.row {w : World} {b : Nat} {t : TypeId} {cs : Array Value} (h : CsAt w b t cs) (ds : Array Value) : CsAt (w.setRow b ds) b t ds := setRow_heap w b _ _ t _ h
theorem CsAt.rowFar {w : World} {b : Nat} {t : TypeId} {cs : Array Value} (h : CsAt w b t cs) {c : Nat} (hne : b ≠ c) (ds : Array Value) : CsAt (w.setRow c ds) b t cs := (setRow_other w c b ds hne).trans h
end Go.Proofs.YtjeolfcefeglpabGreat
