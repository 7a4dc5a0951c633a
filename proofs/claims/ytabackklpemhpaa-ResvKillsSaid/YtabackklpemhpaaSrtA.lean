/-
  Plain lists, no program: a sort by insertion, and a list without its repetitions.
-/
import Derived.Test.YtabackklpemhpaaRows
namespace Go.Proofs.Ytabackklpemhpaa.Srt

/-- Where a number comes to stand among the first j ones. -/
def place (S : List Int) (x : Int) : Nat → Nat
  | 0 => 0
  | j + 1 => if x < S.getD j 0 then place S x j else j + 1
theorem place_le (S : List Int) (x : Int) : ∀ j, place S x j ≤ j
  | 0 => Nat.le_refl _
  | j + 1 => by
    unfold place
    split
    · exact Nat.le_succ_of_le (place_le S x j)
    · exact Nat.le_refl _
def ins (S : List Int) (x : Int) : List Int := S.take (place S x S.length) ++ x :: S.drop (place S x S.length)
def sorted (xs : List Int) : Nat → List Int
  | 0 => []
  | k + 1 => ins (sorted xs k) (xs.getD k 0)
theorem ins_len (S : List Int) (x : Int) : (ins S x).length = S.length + 1 := by
  have := place_le S x S.length
  simp [ins]
  omega
theorem sorted_len (xs : List Int) : ∀ k, (sorted xs k).length = k
  | 0 => rfl
  | k + 1 => by rw [sorted, ins_len, sorted_len xs k]
/-- The row while the number x is on its way down: it stands at place j. -/
def way (S R : List Int) (x : Int) (j : Nat) : List Int := S.take j ++ x :: S.drop j ++ R
theorem way_len (S R : List Int) (x : Int) (j : Nat) (hj : j ≤ S.length) : (way S R x j).length = S.length + 1 + R.length := by
  simp [way]
  omega
theorem way_at (S R : List Int) (x : Int) (j : Nat) (hj : j ≤ S.length) : (way S R x j).getD j 0 = x := by
  unfold way
  rw [List.getD, List.append_assoc, List.getElem?_append_right (by simp; omega)]
  simp [Nat.min_eq_left hj]
theorem way_before (S R : List Int) (x : Int) (j : Nat) (hj : j + 1 ≤ S.length) : (way S R x (j + 1)).getD j 0 = S.getD j 0 := by
  unfold way
  rw [List.getD, List.append_assoc, List.getElem?_append_left (by simp; omega), List.getElem?_take, if_pos (by omega)]
  rfl
theorem way_get (S R : List Int) (x : Int) (j : Nat) (hj : j ≤ S.length) (i : Nat) : (way S R x j)[i]? = if i < j then S[i]? else if i = j then some x else if i ≤ S.length then S[i - 1]? else R[i - (S.length + 1)]? := by
  have hm : min j S.length = j := Nat.min_eq_left hj
  unfold way
  by_cases h1 : i < j
  · rw [if_pos h1, List.append_assoc, List.getElem?_append_left (by rw [List.length_take, hm]; exact h1), List.getElem?_take, if_pos h1]
  · rw [if_neg h1]
    by_cases h2 : i = j
    · subst h2
      rw [if_pos rfl, List.append_assoc, List.getElem?_append_right (by rw [List.length_take, hm]; exact Nat.le_refl _), List.length_take, hm, Nat.sub_self]
      rfl
    · rw [if_neg h2]
      obtain ⟨d, rfl⟩ : ∃ d, i = j + (d + 1) := ⟨i - j - 1, by omega⟩
      rw [List.append_assoc, List.getElem?_append_right (by rw [List.length_take, hm]; omega), List.length_take, hm, show j + (d + 1) - j = d + 1 by omega, List.cons_append, List.getElem?_cons_succ]
      by_cases h3 : j + (d + 1) ≤ S.length
      · rw [if_pos h3, List.getElem?_append_left (by rw [List.length_drop]; omega), List.getElem?_drop, show j + (d + 1) - 1 = j + d by omega]
      · rw [if_neg h3, List.getElem?_append_right (by rw [List.length_drop]; omega), List.length_drop, show d - (S.length - j) = j + (d + 1) - (S.length + 1) by omega]
theorem way_swap (S R : List Int) (x : Int) (j : Nat) (hj : j + 1 ≤ S.length) : ((way S R x (j + 1)).set (j + 1) (S.getD j 0)).set j x = way S R x j := by
  have hl : j < S.length := by omega
  have hw := way_len S R x (j + 1) hj
  apply List.ext_getElem?
  intro i
  rw [way_get S R x j (by omega)]
  by_cases h1 : i = j
  · subst h1
    rw [if_neg (by omega), if_pos rfl, List.getElem?_set_self (by rw [List.length_set]; omega)]
  · rw [List.getElem?_set_ne (by omega), if_neg (show ¬ i = j from h1)]
    by_cases h2 : i = j + 1
    · subst h2
      rw [List.getElem?_set_self (by omega), if_neg (by omega), if_pos (by omega), show j + 1 - 1 = j by omega, List.getD, List.getElem?_eq_getElem hl]
      rfl
    · rw [List.getElem?_set_ne (by omega), way_get S R x (j + 1) hj]
      by_cases h3 : i < j
      · rw [if_pos (by omega), if_pos h3]
      · rw [if_neg (by omega), if_neg h2, if_neg h3]
theorem way_top (xs : List Int) (k : Nat) (hk : k < xs.length) : sorted xs k ++ xs.drop k = way (sorted xs k) (xs.drop (k + 1)) (xs.getD k 0) k := by
  unfold way
  have hl := sorted_len xs k
  have e : List.drop k (sorted xs k) = [] := List.drop_of_length_le (by omega)
  rw [List.take_of_length_le (l := sorted xs k) (by omega), e, List.drop_eq_getElem_cons hk, List.getD, List.getElem?_eq_getElem hk]
  simp
theorem way_end (xs : List Int) (k j : Nat) (hj : place (sorted xs k) (xs.getD k 0) k = j) : way (sorted xs k) (xs.drop (k + 1)) (xs.getD k 0) j = sorted xs (k + 1) ++ xs.drop (k + 1) := by
  unfold way
  rw [sorted, ins, sorted_len, hj]

/-! What comes of it. -/
theorem ins_mem (S : List Int) (x y : Int) : y ∈ ins S x ↔ y = x ∨ y ∈ S := by
  unfold ins
  have e : y ∈ S ↔ y ∈ S.take (place S x S.length) ∨ y ∈ S.drop (place S x S.length) := by
    rw [← List.mem_append, List.take_append_drop]
  rw [List.mem_append, List.mem_cons, e]
  constructor
  · rintro (h | h | h)
    · exact .inr (.inl h)
    · exact .inl h
    · exact .inr (.inr h)
  · rintro (h | h | h)
    · exact .inr (.inl h)
    · exact .inl h
    · exact .inr (.inr h)
theorem sorted_mem (xs : List Int) (y : Int) : ∀ k, k ≤ xs.length → (y ∈ sorted xs k ↔ y ∈ xs.take k)
  | 0, _ => by simp [sorted]
  | k + 1, h => by
    rw [sorted, ins_mem, sorted_mem xs y k (by omega), List.take_succ_eq_append_getElem (by omega), List.mem_append, List.getD, List.getElem?_eq_getElem (by omega)]
    simp
    exact Or.comm
theorem place_spec (S : List Int) (x : Int) : ∀ j, j ≤ S.length → (∀ i, place S x j ≤ i → i < j → x < S.getD i 0) ∧ (place S x j ≠ 0 → ¬ x < S.getD (place S x j - 1) 0)
  | 0, _ => ⟨fun i _ h => by omega, fun h => absurd rfl h⟩
  | j + 1, hj => by
    have ih := place_spec S x j (by omega)
    unfold place
    split
    · rename_i hlt
      refine ⟨fun i h1 h2 => ?_, ih.2⟩
      by_cases e : i = j
      · subst e; exact hlt
      · exact ih.1 i h1 (by omega)
    · rename_i hlt
      exact ⟨fun i h1 h2 => by omega, fun _ => by simpa using hlt⟩
theorem pair_take {S : List Int} (h : S.Pairwise (· ≤ ·)) {i j : Nat} (hij : i ≤ j) (hj : j < S.length) : S.getD i 0 ≤ S.getD j 0 := by
  by_cases e : i = j
  · subst e; exact Int.le_refl _
  · have := List.pairwise_iff_getElem.1 h i j (by omega) hj (by omega)
    rw [List.getD, List.getD, List.getElem?_eq_getElem (by omega), List.getElem?_eq_getElem hj]
    exact this
theorem ins_sorted (S : List Int) (x : Int) (h : S.Pairwise (· ≤ ·)) : (ins S x).Pairwise (· ≤ ·) := by
  have hp := place_le S x S.length
  obtain ⟨hs, ht⟩ := place_spec S x S.length (Nat.le_refl _)
  unfold ins
  generalize place S x S.length = p at *
  rw [List.pairwise_append, List.pairwise_cons]
  refine ⟨h.sublist (List.take_sublist _ _), ⟨fun b hb => ?_, h.sublist (List.drop_sublist _ _)⟩, fun a ha b hb => ?_⟩
  · obtain ⟨i, hi, rfl⟩ := List.mem_iff_getElem.1 hb
    rw [List.getElem_drop]
    have := hs (p + i) (by omega) (by simp at hi; omega)
    rw [List.getD, List.getElem?_eq_getElem (by simp at hi; omega)] at this
    exact Int.le_of_lt this
  · obtain ⟨i, hi, rfl⟩ := List.mem_iff_getElem.1 ha
    rw [List.length_take] at hi
    rw [List.getElem_take]
    have hx : S[i]'(by omega) ≤ x := by
      have h1 := ht (by omega)
      have h2 := pair_take h (show i ≤ p - 1 by omega) (by omega)
      rw [List.getD, List.getElem?_eq_getElem (by omega)] at h2
      simp only [Option.getD_some] at h2
      omega
    rcases List.mem_cons.1 hb with rfl | hb
    · exact hx
    · obtain ⟨j, hj, rfl⟩ := List.mem_iff_getElem.1 hb
      rw [List.getElem_drop]
      rw [List.length_drop] at hj
      exact List.pairwise_iff_getElem.1 h i (p + j) (by omega) (by omega) (by omega)
theorem sorted_sorted (xs : List Int) : ∀ k, (sorted xs k).Pairwise (· ≤ ·)
  | 0 => List.Pairwise.nil
  | k + 1 => ins_sorted _ _ (sorted_sorted xs k)

/-- The first k numbers, each run of equal ones once. -/
def comp (xs : List Int) : Nat → List Int
  | 0 => []
  | k + 1 => if k = 0 ∨ xs.getD k 0 ≠ xs.getD (k - 1) 0 then comp xs k ++ [xs.getD k 0] else comp xs k
theorem comp_len (xs : List Int) : ∀ k, (comp xs k).length ≤ k
  | 0 => Nat.le_refl _
  | k + 1 => by
    unfold comp
    have := comp_len xs k
    split
    · simp; exact this
    · omega
theorem comp_pos (xs : List Int) : ∀ k, 0 < k → 0 < (comp xs k).length
  | k + 1, _ => by
    unfold comp
    split
    · simp
    · rename_i h
      exact comp_pos xs k (by omega)
/-- As long as no two neighbours are equal, all stay. -/
theorem comp_all (xs : List Int) : ∀ k, k ≤ xs.length → (∀ i, 0 < i → i < k → xs.getD i 0 ≠ xs.getD (i - 1) 0) → comp xs k = xs.take k
  | 0, _, _ => by simp [comp]
  | k + 1, hk, h => by
    unfold comp
    rw [if_pos (by
      by_cases e : k = 0
      · exact .inl e
      · exact .inr (h k (by omega) (by omega))), comp_all xs k (by omega) (fun i h1 h2 => h i h1 (by omega)), List.take_succ_eq_append_getElem (by omega), List.getD, List.getElem?_eq_getElem (by omega)]
    rfl
theorem comp_mem (xs : List Int) (y : Int) : ∀ k, k ≤ xs.length → (y ∈ comp xs k ↔ y ∈ xs.take k)
  | 0, _ => by simp [comp]
  | k + 1, hk => by
    have ih := comp_mem xs y k (by omega)
    rw [List.take_succ_eq_append_getElem (by omega), List.mem_append, ← ih, show comp xs (k + 1) = if k = 0 ∨ xs.getD k 0 ≠ xs.getD (k - 1) 0 then comp xs k ++ [xs.getD k 0] else comp xs k from rfl]
    have e : xs.getD k 0 = xs[k]'(by omega) := by rw [List.getD, List.getElem?_eq_getElem (by omega)]; rfl
    split
    · rw [List.mem_append, e]
    · rename_i h
      simp only [not_or, Decidable.not_not] at h
      constructor
      · exact .inl
      · rintro (h1 | h1)
        · exact h1
        · rw [ih]
          simp at h1
          subst h1
          rw [← e, h.2]
          rw [List.getD, List.getElem?_eq_getElem (by omega)]
          exact List.mem_take_iff_getElem.2 ⟨k - 1, by omega, rfl⟩
theorem comp_last (xs : List Int) : ∀ k, 0 < k → ∃ L, comp xs k = L ++ [xs.getD (k - 1) 0]
  | k + 1, _ => by
    unfold comp
    split
    · exact ⟨_, rfl⟩
    · rename_i h
      simp only [not_or, Decidable.not_not] at h
      obtain ⟨L, hL⟩ := comp_last xs k (by omega)
      exact ⟨L, by rw [hL, Nat.add_sub_cancel, h.2]⟩
theorem comp_strict (xs : List Int) (h : xs.Pairwise (· ≤ ·)) : ∀ k, k ≤ xs.length → (comp xs k).Pairwise (· < ·)
  | 0, _ => List.Pairwise.nil
  | k + 1, hk => by
    have ih := comp_strict xs h k (by omega)
    unfold comp
    split
    · rename_i hc
      rw [List.pairwise_append]
      refine ⟨ih, List.pairwise_singleton _ _, fun a ha b hb => ?_⟩
      simp at hb
      subst hb
      by_cases e : k = 0
      · subst e; simp [comp] at ha
      · have hne := hc.resolve_left e
        have hle := pair_take h (show k - 1 ≤ k by omega) (by omega)
        obtain ⟨L, hL⟩ := comp_last xs k (by omega)
        rw [hL] at ha ih
        rcases List.mem_append.1 ha with h1 | h1
        · have := (List.pairwise_append.1 ih).2.2 a h1 _ (List.mem_singleton.2 rfl)
          rw [List.getD, List.getD] at *
          omega
        · simp at h1
          rw [List.getD, List.getD] at *
          omega
    · exact ih
/-- Two strictly rising lists with the same members are one. -/
theorem strict_ext : ∀ {xs ys : List Int}, xs.Pairwise (· < ·) → ys.Pairwise (· < ·) → (∀ z, z ∈ xs ↔ z ∈ ys) → xs = ys
  | [], [], _, _, _ => rfl
  | [], y :: ys, _, _, h => by have := (h y).2 (by simp); simp at this
  | x :: xs, [], _, _, h => by have := (h x).1 (by simp); simp at this
  | x :: xs, y :: ys, hx, hy, h => by
    rw [List.pairwise_cons] at hx hy
    have e : x = y := by
      have h1 := (h x).1 (by simp)
      have h2 := (h y).2 (by simp)
      rcases List.mem_cons.1 h1 with h1 | h1
      · exact h1
      · rcases List.mem_cons.1 h2 with h2 | h2
        · exact h2.symm
        · have a := hy.1 x h1
          have b := hx.1 y h2
          omega
    subst e
    congr 1
    refine strict_ext hx.2 hy.2 fun z => ?_
    have hz := h z
    constructor
    · intro hm
      rcases List.mem_cons.1 (hz.1 (List.mem_cons_of_mem _ hm)) with rfl | h3
      · exact absurd (hx.1 _ hm) (Int.lt_irrefl _)
      · exact h3
    · intro hm
      rcases List.mem_cons.1 (hz.2 (List.mem_cons_of_mem _ hm)) with rfl | h3
      · exact absurd (hy.1 _ hm) (Int.lt_irrefl _)
      · exact h3
/-- The numbers of a list, rising, each once. -/
def set (xs : List Int) : List Int := comp (sorted xs xs.length) xs.length
theorem set_strict (xs : List Int) : (set xs).Pairwise (· < ·) := comp_strict _ (sorted_sorted xs _) _ (by rw [sorted_len]; exact Nat.le_refl _)
theorem set_mem (xs : List Int) (y : Int) : y ∈ set xs ↔ y ∈ xs := by
  unfold set
  rw [comp_mem _ _ _ (by rw [sorted_len]; exact Nat.le_refl _), List.take_of_length_le (by rw [sorted_len]; exact Nat.le_refl _), sorted_mem _ _ _ (Nat.le_refl _), List.take_length]
theorem set_len (xs : List Int) : (set xs).length ≤ xs.length := comp_len _ _
theorem set_eq {xs ys : List Int} (h : ys.Pairwise (· < ·)) (hm : ∀ z, z ∈ ys ↔ z ∈ xs) : set xs = ys := strict_ext (set_strict xs) h fun z => (set_mem xs z).trans (hm z).symm
end Go.Proofs.Ytabackklpemhpaa.Srt
