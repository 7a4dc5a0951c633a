/-
  The reference of layer 12: Need, plain: what is added next is the next one of those that are needed.
-/
import Derived.Test.YtgegahnjhaldeaaSrtA
namespace Go.Proofs.Ytgegahnjhaldeaa
namespace Nd
/-- May x stand behind the first m? -/
def cand (S : List Int) (m : Nat) (x : Int) : Prop := m = 0 ∨ S.getD (m - 1) 0 < x
/-- What is told of the best one of the first k. -/
def Best (xs S : List Int) (m k : Nat) (b : Int) : Prop :=
  (b = -1 ∧ ∀ i, i < k → ¬ cand S m (xs.getD i 0)) ∨ ∃ j : Nat, b = (j : Int) ∧ j < k ∧ cand S m (xs.getD j 0) ∧ ∀ i, i < k → cand S m (xs.getD i 0) → xs.getD j 0 ≤ xs.getD i 0
theorem Best.zero (xs S : List Int) (m : Nat) : Best xs S m 0 (-1) := .inl ⟨rfl, fun i hi => by omega⟩
theorem Best.no {xs S : List Int} {m k : Nat} {b : Int} (h : Best xs S m k b) (hn : ¬ cand S m (xs.getD k 0)) : Best xs S m (k + 1) b := by
  rcases h with ⟨h1, h2⟩ | ⟨j, h1, h2, h3, h4⟩
  · refine .inl ⟨h1, fun i hi => ?_⟩
    by_cases e : i = k
    · subst e; exact hn
    · exact h2 i (by omega)
  · refine .inr ⟨j, h1, by omega, h3, fun i hi hc => ?_⟩
    by_cases e : i = k
    · subst e; exact absurd hc hn
    · exact h4 i (by omega) hc
theorem Best.first {xs S : List Int} {m k : Nat} (h : Best xs S m k (-1)) (hc : cand S m (xs.getD k 0)) : Best xs S m (k + 1) (k : Int) := by
  refine .inr ⟨k, rfl, by omega, hc, fun i hi hi2 => ?_⟩
  by_cases e : i = k
  · subst e; exact Int.le_refl _
  · rcases h with ⟨-, h2⟩ | ⟨j, h1, -⟩
    · exact absurd hi2 (h2 i (by omega))
    · omega
theorem Best.less {xs S : List Int} {m k j : Nat} (h : Best xs S m k (j : Int)) (hc : cand S m (xs.getD k 0)) (hl : xs.getD k 0 < xs.getD j 0) : Best xs S m (k + 1) (k : Int) := by
  refine .inr ⟨k, rfl, by omega, hc, fun i hi hi2 => ?_⟩
  by_cases e : i = k
  · subst e; exact Int.le_refl _
  · rcases h with ⟨h1, -⟩ | ⟨j', h1, h2, h3, h4⟩
    · omega
    · obtain rfl : j = j' := by omega
      have := h4 i (by omega) hi2
      omega
theorem Best.more {xs S : List Int} {m k j : Nat} (h : Best xs S m k (j : Int)) (hl : ¬ xs.getD k 0 < xs.getD j 0) : Best xs S m (k + 1) (j : Int) := by
  rcases h with ⟨h1, -⟩ | ⟨j', h1, h2, h3, h4⟩
  · omega
  · obtain rfl : j = j' := by omega
    refine .inr ⟨j, rfl, by omega, h3, fun i hi hi2 => ?_⟩
    by_cases e : i = k
    · subst e; omega
    · exact h4 i (by omega) hi2
theorem getD_mem {xs : List Int} {j : Nat} (h : j < xs.length) : xs.getD j 0 ∈ xs := by
  rw [List.getD, List.getElem?_eq_getElem h]
  exact List.getElem_mem h
theorem mem_getD {xs : List Int} {x : Int} (h : x ∈ xs) : ∃ j, j < xs.length ∧ xs.getD j 0 = x := by
  obtain ⟨j, hj, rfl⟩ := List.getElem_of_mem h
  exact ⟨j, hj, by rw [List.getD, List.getElem?_eq_getElem hj]; rfl⟩
theorem strict_at {S : List Int} (h : S.Pairwise (· < ·)) {i j : Nat} (hij : i < j) (hj : j < S.length) : S.getD i 0 < S.getD j 0 := by
  have := List.pairwise_iff_getElem.1 h i j (by omega) hj hij
  rwa [List.getD, List.getElem?_eq_getElem (by omega), List.getD, List.getElem?_eq_getElem hj]
theorem cand_at {S : List Int} (h : S.Pairwise (· < ·)) {m : Nat} (hm : m < S.length) : cand S m (S.getD m 0) := by
  by_cases e : m = 0
  · exact .inl e
  · exact .inr (strict_at h (by omega) hm)
/-- None is left: those that there are, are all. -/
theorem Best.none {xs : List Int} {m : Nat} (h : Best xs (Srt.set xs) m xs.length (-1)) : (Srt.set xs).take m = Srt.set xs := by
  rcases h with ⟨-, h2⟩ | ⟨j, h1, -⟩
  · apply List.take_of_length_le
    apply Nat.le_of_not_lt
    intro hm
    obtain ⟨i, hi, e⟩ := mem_getD ((Srt.set_mem xs _).1 (getD_mem hm))
    exact h2 i hi (by rw [e]; exact cand_at (Srt.set_strict xs) hm)
  · omega
/-- One is: it is the next one. -/
theorem Best.some {xs : List Int} {m j : Nat} (h : Best xs (Srt.set xs) m xs.length (j : Int)) (hml : m ≤ (Srt.set xs).length) : j < xs.length ∧ m < (Srt.set xs).length ∧ xs.getD j 0 = (Srt.set xs).getD m 0 := by
  rcases h with ⟨h1, -⟩ | ⟨j', h1, h2, h3, h4⟩
  · omega
  · obtain rfl : j = j' := by omega
    obtain ⟨i, hi, e⟩ := mem_getD ((Srt.set_mem xs _).2 (getD_mem h2))
    have hs := Srt.set_strict xs
    have him : m ≤ i := by
      apply Nat.le_of_not_lt
      intro hlt
      rcases h3 with h3 | h3
      · omega
      · rw [← e] at h3
        by_cases e2 : i = m - 1
        · subst e2; omega
        · have := strict_at hs (show i < m - 1 by omega) (by omega)
          omega
    have hm : m < (Srt.set xs).length := by omega
    obtain ⟨i2, hi2, e2⟩ := mem_getD ((Srt.set_mem xs _).1 (getD_mem hm))
    have h5 := h4 i2 hi2 (by rw [e2]; exact cand_at hs hm)
    rw [e2] at h5
    refine ⟨h2, hm, ?_⟩
    by_cases e3 : m = i
    · subst e3; exact e.symm
    · have := strict_at hs (show m < i by omega) hi
      omega
theorem take_next {S : List Int} {m : Nat} (h : m < S.length) : S.take (m + 1) = S.take m ++ [S.getD m 0] := by
  rw [List.take_succ_eq_append_getElem h]
  simp [List.getD, h]
theorem take_last {S : List Int} {m : Nat} (h0 : 0 < m) : (S.take m).getD (m - 1) 0 = S.getD (m - 1) 0 := by
  simp only [List.getD]
  rw [List.getElem?_take, if_pos (by omega)]
end Nd
end Go.Proofs.Ytgegahnjhaldeaa
