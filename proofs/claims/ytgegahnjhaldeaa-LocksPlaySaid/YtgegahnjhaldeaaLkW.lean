/-
  Plain: jobs that take rising locks: what always holds, and that nobody is stuck.
-/
import Derived.Test.YtgegahnjhaldeaaLkV
namespace Go.Proofs.Ytgegahnjhaldeaa.Lk

/-- One is in a row ahead of all others. -/
def heads (R : Int → List Int) (L : Int) (i : Int) : Prop := (R L).head? = some i
/-- What always holds of eight jobs and their n locks. -/
structure Inv (R : Int → List Int) (n : Nat) (J : Nat → JS) : Prop where
  ok : Ok R n
  rise : ∀ i : Nat, i < 8 → (J i).xs.Pairwise (· < ·)
  rng : ∀ i : Nat, i < 8 → ∀ x ∈ (J i).xs, 0 ≤ x ∧ x < (n : Int)
  t : ∀ i : Nat, i < 8 → (J i).t ≤ (J i).xs.length
  g : ∀ i : Nat, i < 8 → (J i).g ≤ (J i).xs.length
  dt : ∀ i : Nat, i < 8 → (J i).d = true → (J i).t = (J i).xs.length
  dg : ∀ i : Nat, i < 8 → (J i).d = false → (J i).g = 0
  hold : ∀ i : Nat, i < 8 → ∀ j, j < (J i).t - (J i).g → heads R ((J i).xs.getD j 0) (i : Int)
  mem : ∀ i : Nat, i < 8 → ∀ L, (i : Int) ∈ R L → (∃ j, j < (J i).t - (J i).g ∧ (J i).xs.getD j 0 = L) ∨ ((J i).t < (J i).xs.length ∧ (J i).xs.getD (J i).t 0 = L)
theorem rise_lt {xs : List Int} (h : xs.Pairwise (· < ·)) {i j : Nat} (hij : i < j) (hj : j < xs.length) : xs.getD i 0 < xs.getD j 0 := by
  rw [List.getD, List.getD, List.getElem?_eq_getElem hj, List.getElem?_eq_getElem (by omega)]
  exact List.pairwise_iff_getElem.1 h i j (by omega) hj hij
/-- Of some that each wait, not first, at a lock that one of them heads there are none. -/
theorem closed_none {R : Int → List Int} {n : Nat} {J : Nat → JS} (h : Inv R n J) (S : Nat → Prop) (hS : ∀ i, S i → i < 8 ∧ ∃ L h', (i : Int) ∈ R L ∧ ¬ heads R L (i : Int) ∧ heads R L ((h' : Nat) : Int) ∧ S h') : ∀ i, ¬ S i := by
  have key : ∀ m : Nat, ∀ i, S i → (n : Int) - (J i).xs.getD (J i).t 0 ≤ m → False := by
    intro m
    induction m with
    | zero =>
      intro i hi hm
      obtain ⟨h8, L, h', hin, hnh, -, -⟩ := hS i hi
      rcases h.mem i h8 L hin with ⟨j, hj, rfl⟩ | ⟨ht, rfl⟩
      · exact hnh (h.hold i h8 j hj)
      · have := h.rng i h8 ((J i).xs.getD (J i).t 0) (by rw [List.getD, List.getElem?_eq_getElem ht]; exact List.getElem_mem ht)
        omega
    | succ m ih =>
      intro i hi hm
      obtain ⟨h8, L, k, hin, hnh, hk, hSk⟩ := hS i hi
      rcases h.mem i h8 L hin with ⟨j, hj, rfl⟩ | ⟨ht, rfl⟩
      · exact hnh (h.hold i h8 j hj)
      · obtain ⟨k8, L', k', kin, knh, -, -⟩ := hS k hSk
        have kmem : (k : Int) ∈ R ((J i).xs.getD (J i).t 0) := List.mem_of_mem_head? hk
        rcases h.mem k k8 L' kin with ⟨j, hj, rfl⟩ | ⟨kt, rfl⟩
        · exact knh (h.hold k k8 j hj)
        · rcases h.mem k k8 _ kmem with ⟨j, hj, e⟩ | ⟨-, e⟩
          · refine ih k hSk ?_
            have := rise_lt (h.rise k k8) (show j < (J k).t by omega) kt
            rw [e] at this
            omega
          · rw [e] at knh
            exact knh hk
  intro i hi
  exact key ((n : Int) - (J i).xs.getD (J i).t 0).toNat i hi (by omega)
/-- A number's place in a row. -/
theorem idx_first {x : Int} {row : List Int} (h : row.head? = some x) : idx (fun y => x == y) row = 0 := by
  cases row with
  | nil => cases h
  | cons y l =>
    obtain rfl : y = x := by simpa using h
    simp [idx, idxF]
theorem holds_iff (x : Int) (row : List Int) : holds x row = true ↔ row.head? = some x := by
  constructor
  · intro h
    cases row with
    | nil => simp [holds, idx, idxF] at h
    | cons y l =>
      by_cases e : x = y
      · subst e; rfl
      · have h1 : (x == y) = false := by simpa using e
        have hr := idxF_range (fun y => x == y) l 1
        simp [holds, idx, idxF, h1] at h
        omega
  · intro h
    simp [holds, idx_first h]
theorem waits_mem {x : Int} {row : List Int} (h : waits x row = true) : x ∈ row ∧ row.head? ≠ some x := by
  have h1 : idx (fun y => x == y) row > 0 := by simpa [waits] using h
  refine ⟨?_, fun e => by rw [idx_first e] at h1; omega⟩
  have := idx_any (fun y => x == y) row
  rw [decide_eq_true (show idx (fun y => x == y) row ≥ 0 by omega)] at this
  exact (any_mem x row).1 this.symm
theorem stuckF_fix (R : Int → List Int) (n : Nat) (P : Int → Prop) : ∀ k ss, ss.length < k → (∀ x ∈ ss, P x) → ∃ S, stuckF R n k ss = step R n S ∧ (step R n S).length = S.length ∧ ∀ x ∈ S, P x
  | 0, ss, h, _ => by omega
  | k + 1, ss, h, hP => by
    by_cases e : (step R n ss).length = ss.length
    · exact ⟨ss, by show (if _ then _ else _) = _; rw [if_pos e], e, hP⟩
    · have hle := step_le R n ss
      obtain ⟨S, h1, h2, h3⟩ := stuckF_fix R n P k (step R n ss) (by omega) (fun x hx => hP x (List.mem_filter.1 hx).1)
      exact ⟨S, by rw [← h1]; show (if _ then _ else _) = _; rw [if_neg e], h2, h3⟩
/-- NOBODY IS STUCK. -/
theorem stuck_none {R : Int → List Int} {n : Nat} {J : Nat → JS} (h : Inv R n J) : stuck R n = [] := by
  obtain ⟨S, h1, h2, h3⟩ := stuckF_fix R n (fun x => 0 ≤ x ∧ x < 8) 9 (iota 8) (by decide) (fun x hx => by
    simp only [iota, List.mem_map, List.mem_range] at hx
    obtain ⟨k, hk, rfl⟩ := hx
    exact ⟨Int.natCast_nonneg k, by show (k : Int) < 8; omega⟩)
  have hall : ∀ x ∈ S, waitsFor R n x S = true := by
    have := (List.length_filter_eq_length_iff).1 h2
    intro x hx
    simpa using this x hx
  have hnone := closed_none h (fun i => (i : Int) ∈ S) (fun i hi => by
    have hb := h3 _ hi
    refine ⟨by omega, ?_⟩
    have hw := hall _ hi
    unfold waitsFor at hw
    obtain ⟨L, hL, hy⟩ := List.any_eq_true.1 hw
    obtain ⟨y, hy1, hy2⟩ := List.any_eq_true.1 hy
    obtain ⟨q1, q2, q3⟩ := (which_mem _ _ _ _).1 hL
    obtain ⟨w1, w2⟩ := waits_mem q3
    obtain rfl : (R L).getD 0 0 = y := by simpa using hy2
    have hb2 := h3 _ hy1
    refine ⟨L, ((R L).getD 0 0).toNat, w1, w2, ?_, ?_⟩
    · rw [Int.toNat_of_nonneg hb2.1]
      unfold heads
      cases hrow : R L with
      | nil => rw [hrow] at w1; simp at w1
      | cons a l => rfl
    · rw [Int.toNat_of_nonneg hb2.1]; exact hy1)
  have hS : S = [] := by
    cases S with
    | nil => rfl
    | cons x l =>
      have hb := h3 x (by simp)
      exact absurd (by rw [Int.toNat_of_nonneg hb.1]; simp) (hnone x.toNat)
  unfold stuck
  rw [h1, hS]
  rfl
end Go.Proofs.Ytgegahnjhaldeaa.Lk
