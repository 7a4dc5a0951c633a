/-
  Plain numbers, no program: accesses, their pieces and their stripes (layer 11).
-/
import Derived.Test.YtldpignnahokdaaWord
namespace Go.Proofs.Ytldpignnahokdaa.Sp
open Go.RowKit (wrap64)

def szB (n : Int) : Bool := decide (1 ≤ n ∧ n ≤ 8)
def okA (cut size : Int) : Bool := decide (1 ≤ size ∧ size ≤ 8 ∧ 0 ≤ cut ∧ cut < size)
theorem okA_iff {cut size : Int} : okA cut size = true ↔ 1 ≤ size ∧ size ≤ 8 ∧ 0 ≤ cut ∧ cut < size := by simp [okA]
/-- How many bytes are in the first page. -/
def cut (va n : Int) : Int := if 1 ≤ n ∧ n ≤ 8 ∧ 4096 - va % 4096 < n then 4096 - va % 4096 else 0
def stripe (a n : Int) : Int := if n < 1 then 0 else a / 64 % n
theorem stripe_range {a n : Int} (h0 : 0 ≤ a) (h1 : a < 18446744073709551616) : 0 ≤ stripe a n ∧ stripe a n < 288230376151711744 := by
  unfold stripe
  split
  · omega
  · have := Int.emod_nonneg (a / 64) (show n ≠ 0 by omega)
    have : a / 64 % n ≤ a / 64 := by
      have h2 : 0 ≤ n * (a / 64 / n) := Int.mul_nonneg (by omega) (Int.ediv_nonneg (by omega) (by omega))
      have h3 := Int.emod_def (a / 64) n
      omega
    omega

/-- A piece: where, how many bytes, from which bit on. -/
structure P where
  a : Int
  n : Int
  s : Int
def P.cells (p : P) : List Value := [.int .u64 p.a, .int .i64 p.n, .int .i64 p.s]
def cellsOf (l : List P) : List Value := l.flatMap P.cells
theorem cellsOf_nil : cellsOf [] = [] := rfl
theorem cellsOf_append (l m : List P) : cellsOf (l ++ m) = cellsOf l ++ cellsOf m := by simp [cellsOf]
theorem cellsOf_one (p : P) : cellsOf [p] = p.cells := by simp [cellsOf]
theorem cellsOf_len (l : List P) : (cellsOf l).length = l.length * 3 := by
  induction l with
  | nil => rfl
  | cons p l ih =>
    have : cellsOf (p :: l) = p.cells ++ cellsOf l := by simp [cellsOf]
    rw [this, List.length_append, ih]
    simp [P.cells]; omega
def p0 : P := ⟨0, 0, 0⟩
theorem cellsOf_at (l : List P) (i f : Nat) (hi : i < l.length) (hf : f < 3) : (cellsOf l)[i * 3 + f]? = (l.getD i p0).cells[f]? := by
  induction l generalizing i with
  | nil => simp at hi
  | cons p l ih =>
    have e : cellsOf (p :: l) = p.cells ++ cellsOf l := by simp [cellsOf]
    have hl : p.cells.length = 3 := rfl
    rw [e]
    cases i with
    | zero => rw [List.getElem?_append_left (by rw [hl]; omega)]; simp
    | succ i =>
      rw [List.getElem?_append_right (by rw [hl]; omega), hl, show (i + 1) * 3 + f - 3 = i * 3 + f by omega, ih i (by simpa using hi)]
      simp
theorem cellsOf_last (l : List P) (p : P) (x : Int) : (cellsOf (l ++ [p])).set (l.length * 3 + 1) (.int .i64 x) = cellsOf (l ++ [⟨p.a, x, p.s⟩]) := by
  rw [cellsOf_append, cellsOf_append, cellsOf_one, cellsOf_one, List.set_append_right _ _ (by rw [cellsOf_len]; omega), cellsOf_len,
    show l.length * 3 + 1 - l.length * 3 = 1 by omega]
  rfl
theorem cells_one (p : P) : ∀ u ∈ p.cells, u.oneCell' = true := by
  intro u hu
  simp [P.cells] at hu
  rcases hu with rfl | rfl | rfl <;> rfl
theorem cellsOf_oneC (l : List P) : ∀ u ∈ cellsOf l, u.oneCell' = true := by
  intro u hu
  obtain ⟨p, -, hp⟩ := List.mem_flatMap.1 hu
  exact cells_one p u hp

/-- The pieces of n bytes from a on, of which the first one is byte f of the number. -/
def run (a n f : Int) : List P :=
  if 64 - a % 64 < n then [⟨a, 64 - a % 64, 8 * f⟩, ⟨(a + (64 - a % 64)) % 18446744073709551616, n - (64 - a % 64), 8 * (f + (64 - a % 64))⟩] else [⟨a, n, 8 * f⟩]
theorem run_len (a n f : Int) : 1 ≤ (run a n f).length ∧ (run a n f).length ≤ 2 := by unfold run; split <;> simp
def pieces (a b c n : Int) : List P := if okA c n then (if c = 0 then run a n 0 else run a c 0 ++ run b (n - c) c) else []
theorem pieces_len (a b c n : Int) : (pieces a b c n).length ≤ 4 := by
  unfold pieces
  have h1 := run_len a n 0
  have h2 := run_len a c 0
  have h3 := run_len b (n - c) c
  split
  · split
    · omega
    · rw [List.length_append]; omega
  · simp

/-! Byte by byte. -/
def byte (a b c : Int) (i : Int) : Int := if 0 < c ∧ c ≤ i then (b + (i - c)) % 18446744073709551616 else (a + i) % 18446744073709551616
theorem byte_range (a b c i : Int) : 0 ≤ byte a b c i ∧ byte a b c i < 18446744073709551616 := by unfold byte; split <;> omega
/-- One byte more, of the number's byte i, at x. -/
def grow (l : List P) (x i : Int) : List P :=
  match l.getLast? with
  | some p => if x / 64 = p.a / 64 then l.dropLast ++ [⟨p.a, p.n + 1, p.s⟩] else l ++ [⟨x, 1, 8 * i⟩]
  | none => l ++ [⟨x, 1, 8 * i⟩]
theorem grow_app (l : List P) (p : P) (x i : Int) : grow (l ++ [p]) x i = if x / 64 = p.a / 64 then l ++ [⟨p.a, p.n + 1, p.s⟩] else l ++ [p] ++ [⟨x, 1, 8 * i⟩] := by
  simp [grow]
theorem run_grow (L : List P) (a k f : Int) (ha : 0 ≤ a) (ha2 : a < 18446744073709551616) (h1 : 1 ≤ k) (h8 : k ≤ 7) : grow (L ++ run a k f) ((a + k) % 18446744073709551616) (f + k) = L ++ run a (k + 1) f := by
  unfold run
  by_cases h : 64 - a % 64 < k
  · rw [if_pos h, if_pos (by omega)]
    rw [show L ++ [⟨a, 64 - a % 64, 8 * f⟩, ⟨(a + (64 - a % 64)) % 18446744073709551616, k - (64 - a % 64), 8 * (f + (64 - a % 64))⟩] = (L ++ [⟨a, 64 - a % 64, 8 * f⟩]) ++ [⟨(a + (64 - a % 64)) % 18446744073709551616, k - (64 - a % 64), 8 * (f + (64 - a % 64))⟩] by simp]
    rw [grow_app, if_pos (by simp only []; omega)]
    simp
    omega
  · rw [if_neg h, grow_app]
    by_cases h2 : 64 - a % 64 < k + 1
    · have e : 64 - a % 64 = k := by omega
      rw [if_pos h2, if_neg (by simp only []; omega), e]
      simp
      omega
    · rw [if_neg h2, if_pos (by simp only []; omega)]
theorem run_one (a f : Int) : run a 1 f = [⟨a, 1, 8 * f⟩] := by
  unfold run
  rw [if_neg (by omega)]
/-- What there is behind k bytes. -/
def pre (a b c : Int) (k : Nat) : List P := if k = 0 then [] else if c = 0 ∨ (k : Int) ≤ c then run a k 0 else run a c 0 ++ run b (k - c) c
theorem pre_zero (a b c : Int) : pre a b c 0 = [] := rfl
theorem pre_all {a b c n : Int} (h : okA c n = true) : pre a b c n.toNat = pieces a b c n := by
  obtain ⟨h1, h2, h3, h4⟩ := okA_iff.1 h
  unfold pre pieces
  rw [if_pos h, if_neg (by omega), Int.toNat_of_nonneg (by omega)]
  by_cases e : c = 0
  · simp [e]
  · rw [if_neg (by omega), if_neg e]
theorem pre_len (a b c : Int) (k : Nat) : (pre a b c k).length ≤ 4 := by
  unfold pre
  have h1 := run_len a k 0
  have h2 := run_len a c 0
  have h3 := run_len b (k - c) c
  split
  · simp
  · split
    · omega
    · rw [List.length_append]; omega
theorem run_last (a n f : Int) : ∃ L p, run a n f = L ++ [p] := by
  unfold run
  split
  · exact ⟨[_], _, rfl⟩
  · exact ⟨[], _, rfl⟩
theorem pre_last (a b c : Int) (k : Nat) (hk : k ≠ 0) : ∃ L p, pre a b c k = L ++ [p] := by
  unfold pre
  rw [if_neg hk]
  split
  · exact run_last _ _ _
  · obtain ⟨L, p, h⟩ := run_last b (k - c) c
    exact ⟨run a c 0 ++ L, p, by rw [h, List.append_assoc]⟩
theorem pre_new {a b c : Int} {k : Nat} (ha : 0 ≤ a ∧ a < 18446744073709551616) (hb : 0 ≤ b ∧ b < 18446744073709551616) (hc : 0 ≤ c) (h : k = 0 ∨ (k : Int) = c) : pre a b c (k + 1) = pre a b c k ++ [⟨byte a b c k, 1, 8 * k⟩] := by
  rcases h with rfl | h
  · unfold pre
    rw [if_neg (by omega), if_pos rfl, if_pos (by omega)]
    rw [show ((0 + 1 : Nat) : Int) = 1 from rfl, run_one]
    unfold byte
    by_cases e : 0 < c ∧ c ≤ ((0 : Nat) : Int)
    · omega
    · rw [if_neg e]
      simp
      omega
  · by_cases hk : k = 0
    · subst hk
      unfold pre
      rw [if_neg (by omega), if_pos rfl, if_pos (by omega)]
      rw [show ((0 + 1 : Nat) : Int) = 1 from rfl, run_one]
      unfold byte
      rw [if_neg (by omega)]
      simp
      omega
    · unfold pre
      rw [if_neg (show ¬ k + 1 = 0 by omega), if_neg hk, if_pos (show c = 0 ∨ (k : Int) ≤ c by omega), if_neg (show ¬ (c = 0 ∨ ((k + 1 : Nat) : Int) ≤ c) by omega)]
      rw [show ((k + 1 : Nat) : Int) - c = 1 by omega, run_one, h]
      unfold byte
      rw [if_pos (by omega)]
      simp
      omega
theorem pre_grow {a b c : Int} {k : Nat} (ha : 0 ≤ a ∧ a < 18446744073709551616) (hb : 0 ≤ b ∧ b < 18446744073709551616) (hc : 0 ≤ c) (h0 : k ≠ 0) (h7 : k ≤ 7) (h : (k : Int) ≠ c) : pre a b c (k + 1) = grow (pre a b c k) (byte a b c k) k := by
  unfold pre
  rw [if_neg (by omega), if_neg h0]
  by_cases e : c = 0 ∨ (k : Int) ≤ c
  · rw [if_pos (by omega), if_pos e]
    have := run_grow [] a k 0 ha.1 ha.2 (by omega) (by omega)
    simp only [List.nil_append, Int.zero_add] at this
    unfold byte
    rw [if_neg (by omega), this]
    rfl
  · rw [if_neg (by omega), if_neg e]
    have := run_grow (run a c 0) b (k - c) c hb.1 hb.2 (by omega) (by omega)
    unfold byte
    rw [if_pos (by omega)]
    rw [show c + ((k : Int) - c) = k by omega] at this
    rw [this, show ((k + 1 : Nat) : Int) - c = k - c + 1 by omega]
/-- A piece's numbers are small. -/
structure P.Ok (p : P) : Prop where
  a0 : 0 ≤ p.a
  a1 : p.a < 18446744073709551616
  n0 : 1 ≤ p.n
  n1 : p.n ≤ 8
  s0 : 0 ≤ p.s
  s1 : p.s + 8 * p.n ≤ 64
theorem run_ok {a n f : Int} (ha : 0 ≤ a ∧ a < 18446744073709551616) (hn : 1 ≤ n) (hf : 0 ≤ f) (hfn : f + n ≤ 8) : ∀ p ∈ run a n f, p.Ok := by
  intro p hp
  unfold run at hp
  split at hp
  · simp only [List.mem_cons, List.not_mem_nil, or_false] at hp
    rcases hp with rfl | rfl
    · constructor <;> simp only [] <;> omega
    · constructor <;> simp only [] <;> omega
  · simp only [List.mem_cons, List.not_mem_nil, or_false] at hp
    subst hp
    constructor <;> simp only [] <;> omega
theorem pieces_ok {a b c n : Int} (ha : 0 ≤ a ∧ a < 18446744073709551616) (hb : 0 ≤ b ∧ b < 18446744073709551616) : ∀ p ∈ pieces a b c n, p.Ok := by
  intro p hp
  unfold pieces at hp
  split at hp
  · rename_i hok
    obtain ⟨h1, h2, h3, h4⟩ := okA_iff.1 hok
    split at hp
    · exact run_ok ha h1 (by omega) (by omega) p hp
    · rcases List.mem_append.1 hp with h | h
      · exact run_ok ha (by omega) (by omega) (by omega) p h
      · exact run_ok hb (by omega) (by omega) (by omega) p h
  · simp at hp
theorem pre_ok {a b c : Int} {k : Nat} (ha : 0 ≤ a ∧ a < 18446744073709551616) (hb : 0 ≤ b ∧ b < 18446744073709551616) (hc : 0 ≤ c) (hk : k ≤ 8) : ∀ p ∈ pre a b c k, p.Ok := by
  intro p hp
  unfold pre at hp
  split at hp
  · simp at hp
  · split at hp
    · exact run_ok ha (by omega) (by omega) (by omega) p hp
    · rcases List.mem_append.1 hp with h | h
      · exact run_ok ha (by omega) (by omega) (by omega) p h
      · exact run_ok hb (by omega) (by omega) (by omega) p h
/-- How many of the first k bytes are in the first page. -/
def cnt (va : Int) (k : Nat) : Int := if (k : Int) ≤ 4096 - va % 4096 then k else 4096 - va % 4096
theorem cnt_in {va : Int} {k : Nat} (h0 : 0 ≤ va) (h1 : va < 18446744073709551616) (hk : k ≤ 8) (h : (va + k) % 18446744073709551616 / 4096 = va / 4096) : cnt va (k + 1) = cnt va k + 1 := by
  unfold cnt
  have : (k : Int) + 1 ≤ 4096 - va % 4096 := by omega
  rw [if_pos (by omega), if_pos (by omega)]; omega
theorem cnt_out {va : Int} {k : Nat} (h0 : 0 ≤ va) (h1 : va < 18446744073709551616) (_hk : k ≤ 8) (h : ¬ (va + k) % 18446744073709551616 / 4096 = va / 4096) : cnt va (k + 1) = cnt va k := by
  unfold cnt
  have : ¬ (k : Int) + 1 ≤ 4096 - va % 4096 := by omega
  rw [if_neg (by omega)]
  split <;> omega
theorem cnt_cut {va n : Int} (h1 : 1 ≤ n) (h8 : n ≤ 8) : (if cnt va n.toNat = n then 0 else cnt va n.toNat) = cut va n := by
  unfold cnt cut
  rw [Int.toNat_of_nonneg (by omega)]
  by_cases h : n ≤ 4096 - va % 4096
  · rw [if_pos h, if_pos rfl, if_neg (by omega)]
  · rw [if_neg h, if_neg (by omega), if_pos (by omega)]
theorem cnt_range (va : Int) (k : Nat) (hk : k ≤ 8) : 0 ≤ cnt va k ∧ cnt va k ≤ 8 := by unfold cnt; split <;> omega
end Go.Proofs.Ytldpignnahokdaa.Sp
