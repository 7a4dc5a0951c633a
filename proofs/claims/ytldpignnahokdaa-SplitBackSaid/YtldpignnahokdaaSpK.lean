/-
  Plain numbers, no program: pieces have each byte once, each in one line; what was parted is joined (layer 11).
-/
import Derived.Test.YtldpignnahokdaaSpI
namespace Go.Proofs.Ytldpignnahokdaa
open Go.RowKit Wd

/-- How many bytes the first k pieces have. -/
def sumN (l : List Sp.P) : Nat → Int
  | 0 => 0
  | k + 1 => sumN l k + (l.getD k Sp.p0).n
/-- Pieces that follow one another from byte m on. -/
def Good (a b c : Int) : List Sp.P → Int → Prop
  | [], _ => True
  | p :: l, m => (p.s = 8 * m ∧ 1 ≤ p.n ∧ p.n ≤ 8 ∧ 0 ≤ p.a ∧ p.a + (p.n - 1) < 18446744073709551616 ∧ (p.a + (p.n - 1)) / 64 = p.a / 64 ∧ p.a = Sp.byte a b c m) ∧ Good a b c l (m + p.n)
def tot : List Sp.P → Int
  | [] => 0
  | p :: l => p.n + tot l
theorem good_app {a b c : Int} : ∀ {l l' : List Sp.P} {m : Int}, Good a b c l m → Good a b c l' (m + tot l) → Good a b c (l ++ l') m
  | [], l', m, _, h' => by simpa [tot] using h'
  | p :: l, l', m, h, h' => ⟨h.1, good_app h.2 (by rw [show m + p.n + tot l = m + tot (p :: l) by simp [tot]; omega]; exact h')⟩
theorem tot_app : ∀ (l l' : List Sp.P), tot (l ++ l') = tot l + tot l'
  | [], l' => by simp [tot]
  | p :: l, l' => by simp [tot, tot_app l l']; omega
theorem good_at {a b c : Int} : ∀ {l : List Sp.P} {m : Int}, Good a b c l m → ∀ k, k < l.length → ((l.getD k Sp.p0).s = 8 * (m + sumN l k) ∧ 1 ≤ (l.getD k Sp.p0).n ∧ (l.getD k Sp.p0).n ≤ 8 ∧ 0 ≤ (l.getD k Sp.p0).a ∧
    (l.getD k Sp.p0).a + ((l.getD k Sp.p0).n - 1) < 18446744073709551616 ∧ ((l.getD k Sp.p0).a + ((l.getD k Sp.p0).n - 1)) / 64 = (l.getD k Sp.p0).a / 64 ∧ (l.getD k Sp.p0).a = Sp.byte a b c (m + sumN l k))
  | p :: l, m, h, 0, _ => by simpa [sumN] using h.1
  | p :: l, m, h, k + 1, hk => by
    have e : ∀ k, sumN (p :: l) (k + 1) = p.n + sumN l k := by
      intro k
      induction k with
      | zero => simp [sumN]
      | succ k ih => rw [sumN, ih, sumN]; simp; omega
    have := good_at h.2 k (by simpa using hk)
    rw [e, show m + (p.n + sumN l k) = m + p.n + sumN l k by omega]
    simpa using this
theorem sumN_all : ∀ l : List Sp.P, sumN l l.length = tot l
  | [] => rfl
  | p :: l => by
    have e : ∀ k, sumN (p :: l) (k + 1) = p.n + sumN l k := by
      intro k
      induction k with
      | zero => simp [sumN]
      | succ k ih => rw [sumN, ih, sumN]; simp; omega
    rw [List.length_cons, e, sumN_all l]
    rfl
theorem run_tot (a n f : Int) : tot (Sp.run a n f) = n := by unfold Sp.run; split <;> simp [tot] <;> omega
theorem run_first {a b c n : Int} (ha : 0 ≤ a ∧ a < 18446744073709551616) (h1 : 1 ≤ n) (h8 : n ≤ 8) (hc : c = 0 ∨ n ≤ c) : Good a b c (Sp.run a n 0) 0 := by
  unfold Sp.run
  split
  · refine ⟨⟨rfl, ?_, ?_, ?_, ?_, ?_, ?_⟩, ⟨?_, ?_, ?_, ?_, ?_, ?_, ?_⟩, trivial⟩ <;> simp only [] <;> first | omega | (unfold Sp.byte; rw [if_neg (by omega)]; omega)
  · refine ⟨⟨rfl, ?_, ?_, ?_, ?_, ?_, ?_⟩, trivial⟩ <;> simp only [] <;> first | omega | (unfold Sp.byte; rw [if_neg (by omega)]; omega)
theorem run_second {a b c n : Int} (hb : 0 ≤ b ∧ b < 18446744073709551616) (h1 : 1 ≤ n) (h8 : n ≤ 8) (hc : 0 < c) : Good a b c (Sp.run b n c) c := by
  unfold Sp.run
  split
  · refine ⟨⟨rfl, ?_, ?_, ?_, ?_, ?_, ?_⟩, ⟨?_, ?_, ?_, ?_, ?_, ?_, ?_⟩, trivial⟩ <;> simp only [] <;> first | omega | (unfold Sp.byte; rw [if_pos (by omega)]; omega)
  · refine ⟨⟨rfl, ?_, ?_, ?_, ?_, ?_, ?_⟩, trivial⟩ <;> simp only [] <;> first | omega | (unfold Sp.byte; rw [if_pos (by omega)]; omega)
theorem pieces_good {a b c n : Int} (ha : 0 ≤ a ∧ a < 18446744073709551616) (hb : 0 ≤ b ∧ b < 18446744073709551616) (h : Sp.okA c n = true) : Good a b c (Sp.pieces a b c n) 0 ∧ tot (Sp.pieces a b c n) = n := by
  obtain ⟨h1, h2, h3, h4⟩ := Sp.okA_iff.1 h
  unfold Sp.pieces
  rw [if_pos h]
  by_cases e : c = 0
  · rw [if_pos e]
    exact ⟨run_first ha h1 h2 (.inl e), run_tot _ _ _⟩
  · rw [if_neg e]
    refine ⟨good_app (run_first ha (by omega) (by omega) (.inr (Int.le_refl _))) ?_, by rw [tot_app, run_tot, run_tot]; omega⟩
    rw [run_tot, show 0 + c = c by omega]
    exact run_second hb (by omega) (by omega) (by omega)
theorem sumN_range {a b c : Int} {l : List Sp.P} (h : Good a b c l 0) (ht : tot l ≤ 8) : ∀ k, k ≤ l.length → 0 ≤ sumN l k ∧ sumN l k ≤ 8 := by
  have hpos : ∀ k, k < l.length → 1 ≤ (l.getD k Sp.p0).n := fun k hk => (good_at h k hk).2.1
  have hup : ∀ j k, k + j = l.length → sumN l k ≤ tot l := by
    intro j
    induction j with
    | zero => intro k hk; rw [← sumN_all, show k = l.length by omega]; exact Int.le_refl _
    | succ j ih =>
      intro k hk
      have h1 := ih (k + 1) (by omega)
      have h2 := hpos k (by omega)
      rw [sumN] at h1
      omega
  intro k hk
  refine ⟨?_, by have := hup (l.length - k) k (by omega); omega⟩
  induction k with
  | zero => exact Int.le_refl _
  | succ k ih =>
    have := ih (by omega)
    have := hpos k (by omega)
    rw [sumN]; omega
/-- The parts of a number. -/
def partsS (l : List Sp.P) (v : Int) : List Int := l.map fun p => partV v p.n p.s
theorem partsS_len (l : List Sp.P) (v : Int) : (partsS l v).length = l.length := by simp [partsS]
theorem partsS_at (l : List Sp.P) (v : Int) (k : Nat) (hk : k < l.length) : (partsS l v).getD k 0 = partV v (l.getD k Sp.p0).n (l.getD k Sp.p0).s := by
  simp [partsS, List.getD, List.getElem?_eq_getElem hk]
theorem partsS_take (l : List Sp.P) (v : Int) (k : Nat) (hk : k < l.length) : (partsS l v).take (k + 1) = (partsS l v).take k ++ [partV v (l.getD k Sp.p0).n (l.getD k Sp.p0).s] := by
  rw [List.take_succ_eq_append_getElem (by rw [partsS_len]; exact hk), ← partsS_at l v k hk, List.getD, List.getElem?_eq_getElem (by rw [partsS_len]; exact hk)]
  rfl
theorem low_put {v m n : Int} (h0 : 0 ≤ m) (h1 : 1 ≤ n) (_h8 : m + n ≤ 8) : putS (cutS v 0 (8 * m)) (8 * m) (8 * n) (cutS v (8 * m) (8 * n)) = cutS v 0 (8 * (m + n)) := by
  have r1 := putS_range (cutS v 0 (8 * m)) (8 * m) (8 * n) (cutS v (8 * m) (8 * n))
  have r2 := cutS_range v 0 (8 * (m + n))
  refine Wd.ext r1.1 r1.2 r2.1 r2.2 fun i hi => ?_
  unfold putS
  rw [tb_word]
  by_cases hp : inP (8 * m) (8 * n) i = true
  · rw [if_pos hp]
    obtain ⟨p1, p2, p3⟩ := of_decide_eq_true hp
    unfold cutS
    rw [tb_word, tb_word]
    have e1 : (((((i : Int) - 8 * m).toNat : Nat) : Int) < 8 * n ∧ 0 ≤ 8 * m + ((((i : Int) - 8 * m).toNat : Nat) : Int)) := by omega
    have e2 : ((i : Int) < 8 * (m + n) ∧ 0 ≤ 0 + (i : Int)) := by omega
    rw [decide_eq_true e1, decide_eq_true e2, decide_eq_true (show (((i : Int) - 8 * m).toNat) < 64 by omega), show (8 * m + ((((i : Int) - 8 * m).toNat : Nat) : Int)).toNat = i by omega, show ((0 : Int) + (i : Int)).toNat = i by omega]
    simp
  · rw [if_neg hp]
    have hp' : ¬ (1 ≤ 8 * n ∧ 8 * m ≤ i ∧ (i : Int) < 8 * m + 8 * n) := fun h => hp (decide_eq_true h)
    unfold cutS
    rw [tb_word, tb_word]
    have e1 : decide ((i : Int) < 8 * m ∧ 0 ≤ 0 + (i : Int)) = decide ((i : Int) < 8 * (m + n) ∧ 0 ≤ 0 + (i : Int)) := decide_eq_decide.2 (by omega)
    rw [e1, decide_eq_true hi, Bool.true_and]
theorem cut_none (v : Int) : cutS v 0 (8 * 0) = 0 := by
  refine Wd.ext (cutS_range _ _ _).1 (cutS_range _ _ _).2 (by decide) (by decide) fun i hi => ?_
  unfold cutS
  rw [tb_word, tb_zero, decide_eq_false (show ¬ ((i : Int) < 8 * 0 ∧ 0 ≤ 0 + (i : Int)) by omega)]
  simp
/-- What was parted is joined. -/
theorem join_back {a b c v : Int} {l : List Sp.P} (h : Good a b c l 0) (ht : tot l ≤ 8) : ∀ k, k ≤ l.length → joinS l (partsS l v) k = cutS v 0 (8 * sumN l k)
  | 0, _ => (cut_none v).symm
  | k + 1, hk => by
    obtain ⟨g1, g2, g3, -⟩ := good_at h k (by omega)
    have r := sumN_range h ht k (by omega)
    have r2 := sumN_range h ht (k + 1) hk
    rw [Int.zero_add] at g1
    unfold joinS
    rw [if_pos (rightB_iff.2 ⟨g2, g3, by omega, by rw [sumN] at r2; omega⟩), join_back h ht k (by omega), partsS_at l v k (by omega), ← partV_yes ⟨g2, g3, by omega, by rw [sumN] at r2; omega⟩, g1, low_put r.1 g2 (by rw [sumN] at r2; omega), sumN]
theorem cut_all {v : Int} (h0 : 0 ≤ v) (h1 : v < 18446744073709551616) : cutS v 0 (8 * 8) = v := by
  refine Wd.ext (cutS_range _ _ _).1 (cutS_range _ _ _).2 h0 h1 fun i hi => ?_
  unfold cutS
  rw [tb_word, decide_eq_true hi, decide_eq_true (show (i : Int) < 8 * 8 ∧ 0 ≤ 0 + (i : Int) by omega), show ((0 : Int) + (i : Int)).toNat = i by omega]
  simp
theorem and_cut {v : Int} (h0 : 0 ≤ v) (h1 : v < 18446744073709551616) (n : Nat) (h8 : n < 8) : bits .and .u64 v (2 ^ (8 * n) - 1) = cutS v 0 (8 * (n : Int)) := by
  have hp := pow_le (k := 8 * n) (by omega)
  have r := and_range h0 h1 (y := 2 ^ (8 * n) - 1) (by omega) (by omega)
  refine Wd.ext r.1 r.2 (cutS_range _ _ _).1 (cutS_range _ _ _).2 fun i hi => ?_
  rw [tb_and h0 h1 (by omega) (by omega), tb_pow_sub_one]
  unfold cutS
  rw [tb_word, show ((0 : Int) + (i : Int)).toNat = i by omega, decide_eq_true hi, Bool.true_and, Bool.and_comm]
  congr 1
  exact decide_eq_decide.2 (by omega)
end Go.Proofs.Ytldpignnahokdaa
