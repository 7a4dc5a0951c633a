/-
  Plain lists, no program: a sort by insertion, and a list without its repetitions. Plain functions, no program: a table of reservations: made, taken away, killed; who has one of a line. Plain numbers, no program: a number that lies in pieces, read and laid piece by piece or byte by byte; lines killed so (layer 14).
-/
import Derived.Test.YtjeolfcefeglpabGreatRows
import Derived.Test.YtjeolfcefeglpabGreatXaf
import Derived.Test.YtjeolfcefeglpabGreatXai
namespace Go.Proofs.YtjeolfcefeglpabGreat.Srt

/-- Where a number comes to stand among the first j ones. -/
def place (S : List Int) (x : Int) : Nat → Nat
  | 0 => 0
  | j + 1 => if x < S.getD j 0 then place S x j else j + 1
theorem place_le (S : List Int) (x : Int) : ∀ j, place S x j ≤ j
  | 0 => Nat.le_refl _
  | j + 1 => by
    unfold place
    split
    · exact Nat.le_succ_of_le (place_le S x j)
    · exact Nat.le_refl _
def ins (S : List Int) (x : Int) : List Int := S.take (place S x S.length) ++ x :: S.drop (place S x S.length)
def sorted (xs : List Int) : Nat → List Int
  | 0 => []
  | k + 1 => ins (sorted xs k) (xs.getD k 0)
theorem ins_len (S : List Int) (x : Int) : (ins S x).length = S.length + 1 := by
  have := place_le S x S.length
  simp [ins]
  omega
theorem sorted_len (xs : List Int) : ∀ k, (sorted xs k).length = k
  | 0 => rfl
  | k + 1 => by rw [sorted, ins_len, sorted_len xs k]
/-- The row while the number x is on its way down: it stands at place j. -/
def way (S R : List Int) (x : Int) (j : Nat) : List Int := S.take j ++ x :: S.drop j ++ R
theorem way_len (S R : List Int) (x : Int) (j : Nat) (hj : j ≤ S.length) : (way S R x j).length = S.length + 1 + R.length := by
  simp [way]
  omega
theorem way_at (S R : List Int) (x : Int) (j : Nat) (hj : j ≤ S.length) : (way S R x j).getD j 0 = x := by
  unfold way
  rw [List.getD, List.append_assoc, List.getElem?_append_right (by simp; omega)]
  simp [Nat.min_eq_left hj]
theorem way_before (S R : List Int) (x : Int) (j : Nat) (hj : j + 1 ≤ S.length) : (way S R x (j + 1)).getD j 0 = S.getD j 0 := by
  unfold way
  rw [List.getD, List.append_assoc, List.getElem?_append_left (by simp; omega), List.getElem?_take, if_pos (by omega)]
  rfl
theorem way_get (S R : List Int) (x : Int) (j : Nat) (hj : j ≤ S.length) (i : Nat) : (way S R x j)[i]? = if i < j then S[i]? else if i = j then some x else if i ≤ S.length then S[i - 1]? else R[i - (S.length + 1)]? := by
  have hm : min j S.length = j := Nat.min_eq_left hj
  unfold way
  by_cases h1 : i < j
  · rw [if_pos h1, List.append_assoc, List.getElem?_append_left (by rw [List.length_take, hm]; exact h1), List.getElem?_take, if_pos h1]
  · rw [if_neg h1]
    by_cases h2 : i = j
    · subst h2
      rw [if_pos rfl, List.append_assoc, List.getElem?_append_right (by rw [List.length_take, hm]; exact Nat.le_refl _), List.length_take, hm, Nat.sub_self]
      rfl
    · rw [if_neg h2]
      obtain ⟨d, rfl⟩ : ∃ d, i = j + (d + 1) := ⟨i - j - 1, by omega⟩
      rw [List.append_assoc, List.getElem?_append_right (by rw [List.length_take, hm]; omega), List.length_take, hm, show j + (d + 1) - j = d + 1 by omega, List.cons_append, List.getElem?_cons_succ]
      by_cases h3 : j + (d + 1) ≤ S.length
      · rw [if_pos h3, List.getElem?_append_left (by rw [List.length_drop]; omega), List.getElem?_drop, show j + (d + 1) - 1 = j + d by omega]
      · rw [if_neg h3, List.getElem?_append_right (by rw [List.length_drop]; omega), List.length_drop, show d - (S.length - j) = j + (d + 1) - (S.length + 1) by omega]
theorem way_swap (S R : List Int) (x : Int) (j : Nat) (hj : j + 1 ≤ S.length) : ((way S R x (j + 1)).set (j + 1) (S.getD j 0)).set j x = way S R x j := by
  have hl : j < S.length := by omega
  have hw := way_len S R x (j + 1) hj
  apply List.ext_getElem?
  intro i
  rw [way_get S R x j (by omega)]
  by_cases h1 : i = j
  · subst h1
    rw [if_neg (by omega), if_pos rfl, List.getElem?_set_self (by rw [List.length_set]; omega)]
  · rw [List.getElem?_set_ne (by omega), if_neg (show ¬ i = j from h1)]
    by_cases h2 : i = j + 1
    · subst h2
      rw [List.getElem?_set_self (by omega), if_neg (by omega), if_pos (by omega), show j + 1 - 1 = j by omega, List.getD, List.getElem?_eq_getElem hl]
      rfl
    · rw [List.getElem?_set_ne (by omega), way_get S R x (j + 1) hj]
      by_cases h3 : i < j
      · rw [if_pos (by omega), if_pos h3]
      · rw [if_neg (by omega), if_neg h2, if_neg h3]
theorem way_top (xs : List Int) (k : Nat) (hk : k < xs.length) : sorted xs k ++ xs.drop k = way (sorted xs k) (xs.drop (k + 1)) (xs.getD k 0) k := by
  unfold way
  have hl := sorted_len xs k
  have e : List.drop k (sorted xs k) = [] := List.drop_of_length_le (by omega)
  rw [List.take_of_length_le (l := sorted xs k) (by omega), e, List.drop_eq_getElem_cons hk, List.getD, List.getElem?_eq_getElem hk]
  simp
theorem way_end (xs : List Int) (k j : Nat) (hj : place (sorted xs k) (xs.getD k 0) k = j) : way (sorted xs k) (xs.drop (k + 1)) (xs.getD k 0) j = sorted xs (k + 1) ++ xs.drop (k + 1) := by
  unfold way
  rw [sorted, ins, sorted_len, hj]

/-! What comes of it. -/
theorem ins_mem (S : List Int) (x y : Int) : y ∈ ins S x ↔ y = x ∨ y ∈ S := by
  unfold ins
  have e : y ∈ S ↔ y ∈ S.take (place S x S.length) ∨ y ∈ S.drop (place S x S.length) := by
    rw [← List.mem_append, List.take_append_drop]
  rw [List.mem_append, List.mem_cons, e]
  constructor
  · rintro (h | h | h)
    · exact .inr (.inl h)
    · exact .inl h
    · exact .inr (.inr h)
  · rintro (h | h | h)
    · exact .inr (.inl h)
    · exact .inl h
    · exact .inr (.inr h)
theorem sorted_mem (xs : List Int) (y : Int) : ∀ k, k ≤ xs.length → (y ∈ sorted xs k ↔ y ∈ xs.take k)
  | 0, _ => by simp [sorted]
  | k + 1, h => by
    rw [sorted, ins_mem, sorted_mem xs y k (by omega), List.take_succ_eq_append_getElem (by omega), List.mem_append, List.getD, List.getElem?_eq_getElem (by omega)]
    simp
    exact Or.comm
theorem place_spec (S : List Int) (x : Int) : ∀ j, j ≤ S.length → (∀ i, place S x j ≤ i → i < j → x < S.getD i 0) ∧ (place S x j ≠ 0 → ¬ x < S.getD (place S x j - 1) 0)
  | 0, _ => ⟨fun i _ h => by omega, fun h => absurd rfl h⟩
  | j + 1, hj => by
    have ih := place_spec S x j (by omega)
    unfold place
    split
    · rename_i hlt
      refine ⟨fun i h1 h2 => ?_, ih.2⟩
      by_cases e : i = j
      · subst e; exact hlt
      · exact ih.1 i h1 (by omega)
    · rename_i hlt
      exact ⟨fun i h1 h2 => by omega, fun _ => by simpa using hlt⟩
theorem pair_take {S : List Int} (h : S.Pairwise (· ≤ ·)) {i j : Nat} (hij : i ≤ j) (hj : j < S.length) : S.getD i 0 ≤ S.getD j 0 := by
  by_cases e : i = j
  · subst e; exact Int.le_refl _
  · have := List.pairwise_iff_getElem.1 h i j (by omega) hj (by omega)
    rw [List.getD, List.getD, List.getElem?_eq_getElem (by omega), List.getElem?_eq_getElem hj]
    exact this
theorem ins_sorted (S : List Int) (x : Int) (h : S.Pairwise (· ≤ ·)) : (ins S x).Pairwise (· ≤ ·) := by
  have hp := place_le S x S.length
  obtain ⟨hs, ht⟩ := place_spec S x S.length (Nat.le_refl _)
  unfold ins
  generalize place S x S.length = p at *
  rw [List.pairwise_append, List.pairwise_cons]
  refine ⟨h.sublist (List.take_sublist _ _), ⟨fun b hb => ?_, h.sublist (List.drop_sublist _ _)⟩, fun a ha b hb => ?_⟩
  · obtain ⟨i, hi, rfl⟩ := List.mem_iff_getElem.1 hb
    rw [List.getElem_drop]
    have := hs (p + i) (by omega) (by simp at hi; omega)
    rw [List.getD, List.getElem?_eq_getElem (by simp at hi; omega)] at this
    exact Int.le_of_lt this
  · obtain ⟨i, hi, rfl⟩ := List.mem_iff_getElem.1 ha
    rw [List.length_take] at hi
    rw [List.getElem_take]
    have hx : S[i]'(by omega) ≤ x := by
      have h1 := ht (by omega)
      have h2 := pair_take h (show i ≤ p - 1 by omega) (by omega)
      rw [List.getD, List.getElem?_eq_getElem (by omega)] at h2
      simp only [Option.getD_some] at h2
      omega
    rcases List.mem_cons.1 hb with rfl | hb
    · exact hx
    · obtain ⟨j, hj, rfl⟩ := List.mem_iff_getElem.1 hb
      rw [List.getElem_drop]
      rw [List.length_drop] at hj
      exact List.pairwise_iff_getElem.1 h i (p + j) (by omega) (by omega) (by omega)
theorem sorted_sorted (xs : List Int) : ∀ k, (sorted xs k).Pairwise (· ≤ ·)
  | 0 => List.Pairwise.nil
  | k + 1 => ins_sorted _ _ (sorted_sorted xs k)

/-- The first k numbers, each run of equal ones once. -/
def comp (xs : List Int) : Nat → List Int
  | 0 => []
  | k + 1 => if k = 0 ∨ xs.getD k 0 ≠ xs.getD (k - 1) 0 then comp xs k ++ [xs.getD k 0] else comp xs k
theorem comp_len (xs : List Int) : ∀ k, (comp xs k).length ≤ k
  | 0 => Nat.le_refl _
  | k + 1 => by
    unfold comp
    have := comp_len xs k
    split
    · simp; exact this
    · omega
theorem comp_pos (xs : List Int) : ∀ k, 0 < k → 0 < (comp xs k).length
  | k + 1, _ => by
    unfold comp
    split
    · simp
    · rename_i h
      exact comp_pos xs k (by omega)
/-- As long as no two neighbours are equal, all stay. -/
theorem comp_all (xs : List Int) : ∀ k, k ≤ xs.length → (∀ i, 0 < i → i < k → xs.getD i 0 ≠ xs.getD (i - 1) 0) → comp xs k = xs.take k
  | 0, _, _ => by simp [comp]
  | k + 1, hk, h => by
    unfold comp
    rw [if_pos (by
      by_cases e : k = 0
      · exact .inl e
      · exact .inr (h k (by omega) (by omega))), comp_all xs k (by omega) (fun i h1 h2 => h i h1 (by omega)), List.take_succ_eq_append_getElem (by omega), List.getD, List.getElem?_eq_getElem (by omega)]
    rfl
theorem comp_mem (xs : List Int) (y : Int) : ∀ k, k ≤ xs.length → (y ∈ comp xs k ↔ y ∈ xs.take k)
  | 0, _ => by simp [comp]
  | k + 1, hk => by
    have ih := comp_mem xs y k (by omega)
    rw [List.take_succ_eq_append_getElem (by omega), List.mem_append, ← ih, show comp xs (k + 1) = if k = 0 ∨ xs.getD k 0 ≠ xs.getD (k - 1) 0 then comp xs k ++ [xs.getD k 0] else comp xs k from rfl]
    have e : xs.getD k 0 = xs[k]'(by omega) := by rw [List.getD, List.getElem?_eq_getElem (by omega)]; rfl
    split
    · rw [List.mem_append, e]
    · rename_i h
      simp only [not_or, Decidable.not_not] at h
      constructor
      · exact .inl
      · rintro (h1 | h1)
        · exact h1
        · rw [ih]
          simp at h1
          subst h1
          rw [← e, h.2]
          rw [List.getD, List.getElem?_eq_getElem (by omega)]
          exact List.mem_take_iff_getElem.2 ⟨k - 1, by omega, rfl⟩
theorem comp_last (xs : List Int) : ∀ k, 0 < k → ∃ L, comp xs k = L ++ [xs.getD (k - 1) 0]
  | k + 1, _ => by
    unfold comp
    split
    · exact ⟨_, rfl⟩
    · rename_i h
      simp only [not_or, Decidable.not_not] at h
      obtain ⟨L, hL⟩ := comp_last xs k (by omega)
      exact ⟨L, by rw [hL, Nat.add_sub_cancel, h.2]⟩
theorem comp_strict (xs : List Int) (h : xs.Pairwise (· ≤ ·)) : ∀ k, k ≤ xs.length → (comp xs k).Pairwise (· < ·)
  | 0, _ => List.Pairwise.nil
  | k + 1, hk => by
    have ih := comp_strict xs h k (by omega)
    unfold comp
    split
    · rename_i hc
      rw [List.pairwise_append]
      refine ⟨ih, List.pairwise_singleton _ _, fun a ha b hb => ?_⟩
      simp at hb
      subst hb
      by_cases e : k = 0
      · subst e; simp [comp] at ha
      · have hne := hc.resolve_left e
        have hle := pair_take h (show k - 1 ≤ k by omega) (by omega)
        obtain ⟨L, hL⟩ := comp_last xs k (by omega)
        rw [hL] at ha ih
        rcases List.mem_append.1 ha with h1 | h1
        · have := (List.pairwise_append.1 ih).2.2 a h1 _ (List.mem_singleton.2 rfl)
          rw [List.getD, List.getD] at *
          omega
        · simp at h1
          rw [List.getD, List.getD] at *
          omega
    · exact ih
/-- Two strictly rising lists with the same members are one. -/
theorem strict_ext : ∀ {xs ys : List Int}, xs.Pairwise (· < ·) → ys.Pairwise (· < ·) → (∀ z, z ∈ xs ↔ z ∈ ys) → xs = ys
  | [], [], _, _, _ => rfl
  | [], y :: ys, _, _, h => by have := (h y).2 (by simp); simp at this
  | x :: xs, [], _, _, h => by have := (h x).1 (by simp); simp at this
  | x :: xs, y :: ys, hx, hy, h => by
    rw [List.pairwise_cons] at hx hy
    have e : x = y := by
      have h1 := (h x).1 (by simp)
      have h2 := (h y).2 (by simp)
      rcases List.mem_cons.1 h1 with h1 | h1
      · exact h1
      · rcases List.mem_cons.1 h2 with h2 | h2
        · exact h2.symm
        · have a := hy.1 x h1
          have b := hx.1 y h2
          omega
    subst e
    congr 1
    refine strict_ext hx.2 hy.2 fun z => ?_
    have hz := h z
    constructor
    · intro hm
      rcases List.mem_cons.1 (hz.1 (List.mem_cons_of_mem _ hm)) with rfl | h3
      · exact absurd (hx.1 _ hm) (Int.lt_irrefl _)
      · exact h3
    · intro hm
      rcases List.mem_cons.1 (hz.2 (List.mem_cons_of_mem _ hm)) with rfl | h3
      · exact absurd (hy.1 _ hm) (Int.lt_irrefl _)
      · exact h3
/-- The numbers of a list, rising, each once. -/
def set (xs : List Int) : List Int := comp (sorted xs xs.length) xs.length
theorem set_strict (xs : List Int) : (set xs).Pairwise (· < ·) := comp_strict _ (sorted_sorted xs _) _ (by rw [sorted_len]; exact Nat.le_refl _)
theorem set_mem (xs : List Int) (y : Int) : y ∈ set xs ↔ y ∈ xs := by
  unfold set
  rw [comp_mem _ _ _ (by rw [sorted_len]; exact Nat.le_refl _), List.take_of_length_le (by rw [sorted_len]; exact Nat.le_refl _), sorted_mem _ _ _ (Nat.le_refl _), List.take_length]
theorem set_len (xs : List Int) : (set xs).length ≤ xs.length := comp_len _ _
theorem set_eq {xs ys : List Int} (h : ys.Pairwise (· < ·)) (hm : ∀ z, z ∈ ys ↔ z ∈ xs) : set xs = ys := strict_ext (set_strict xs) h fun z => (set_mem xs z).trans (hm z).symm
end Go.Proofs.YtjeolfcefeglpabGreat.Srt
namespace Go.Proofs.YtjeolfcefeglpabGreat.Rv

abbrev Tb := Nat → Option Int
/-- A table of eight harts. -/
structure Ok (T : Tb) : Prop where
  out : ∀ h, 8 ≤ h → T h = none
  rng : ∀ h l, T h = some l → 0 ≤ l ∧ l ≤ 18446744073709551615
def ln (T : Tb) (h : Nat) : Int := (T h).getD 0
def is (T : Tb) (h : Nat) : Bool := (T h).isSome
def upd (T : Tb) (h : Nat) (v : Option Int) : Tb := fun i => if i = h then v else T i
def inH (h : Int) : Bool := decide (0 ≤ h) && decide (h < 8)
def set (T : Tb) (h l : Int) : Tb := if inH h = true then upd T h.toNat (some l) else T
def clr (T : Tb) (h : Int) : Tb := if inH h = true then upd T h.toNat none else T
def at_ (T : Tb) (h : Int) : Option Int := if inH h = true then T h.toNat else none
def kill (T : Tb) (l but : Int) : Tb := fun i => if T i = some l ∧ (i : Int) ≠ but then none else T i
def cnt (T : Tb) (l but : Int) : Nat → Nat
  | 0 => 0
  | k + 1 => cnt T l but k + if T k = some l ∧ (k : Int) ≠ but then 1 else 0
/-- Those of the first k harts that have a reservation of a line. -/
def who (T : Tb) (l : Int) : Nat → List Int
  | 0 => []
  | k + 1 => if T k = some l then who T l k ++ [(k : Int)] else who T l k
def none_ : Tb := fun _ => none
theorem none_ok : Ok none_ := ⟨fun _ _ => rfl, fun _ _ h => by cases h⟩
theorem upd_ok {T : Tb} (hT : Ok T) {h : Nat} (hh : h < 8) {v : Option Int} (hv : ∀ l, v = some l → 0 ≤ l ∧ l ≤ 18446744073709551615) : Ok (upd T h v) := by
  refine ⟨fun i hi => ?_, fun i l hl => ?_⟩
  · unfold upd; rw [if_neg (by omega)]; exact hT.out i hi
  · unfold upd at hl
    split at hl
    · exact hv l hl
    · exact hT.rng i l hl
theorem inH_iff {h : Int} : inH h = true ↔ 0 ≤ h ∧ h < 8 := by simp [inH]
theorem inH_nat {h : Nat} (hh : h < 8) : inH (h : Int) = true := by simp [inH]; omega
theorem set_ok {T : Tb} (hT : Ok T) (h l : Int) (h0 : 0 ≤ l) (h1 : l ≤ 18446744073709551615) : Ok (set T h l) := by
  unfold set
  split
  · rename_i hi
    have := inH_iff.1 hi
    exact upd_ok hT (by omega) fun x hx => by cases hx; exact ⟨h0, h1⟩
  · exact hT
theorem clr_ok {T : Tb} (hT : Ok T) (h : Int) : Ok (clr T h) := by
  unfold clr
  split
  · rename_i hi
    have := inH_iff.1 hi
    exact upd_ok hT (by omega) fun x hx => by cases hx
  · exact hT
theorem kill_ok {T : Tb} (hT : Ok T) (l but : Int) : Ok (kill T l but) := by
  refine ⟨fun i hi => ?_, fun i x hx => ?_⟩
  · unfold kill; split
    · rfl
    · exact hT.out i hi
  · unfold kill at hx
    split at hx
    · cases hx
    · exact hT.rng i x hx
theorem upd_self {T : Tb} {h : Nat} {v : Option Int} (hv : T h = v) : upd T h v = T := by
  funext i
  unfold upd
  split
  · rename_i e; rw [e, hv]
  · rfl
theorem who_mem (T : Tb) (l : Int) (x : Int) : ∀ k, x ∈ who T l k ↔ ∃ i : Nat, i < k ∧ x = i ∧ T i = some l
  | 0 => by simp [who]
  | k + 1 => by
    unfold who
    have ih := who_mem T l x k
    split
    · rename_i hk
      rw [List.mem_append, ih]
      constructor
      · rintro (⟨i, h1, h2, h3⟩ | h)
        · exact ⟨i, by omega, h2, h3⟩
        · exact ⟨k, by omega, by simpa using h, hk⟩
      · rintro ⟨i, h1, h2, h3⟩
        by_cases e : i = k
        · subst e; right; simpa using h2
        · exact .inl ⟨i, by omega, h2, h3⟩
    · rename_i hk
      rw [ih]
      constructor
      · rintro ⟨i, h1, h2, h3⟩; exact ⟨i, by omega, h2, h3⟩
      · rintro ⟨i, h1, h2, h3⟩
        have : i ≠ k := by rintro rfl; exact hk h3
        exact ⟨i, by omega, h2, h3⟩
theorem who_len (T : Tb) (l : Int) : ∀ k, (who T l k).length ≤ k
  | 0 => Nat.le_refl _
  | k + 1 => by
    unfold who
    have := who_len T l k
    split
    · rw [List.length_append]; simp; omega
    · omega
theorem who_strict (T : Tb) (l : Int) : ∀ k, (who T l k).Pairwise (· < ·)
  | 0 => List.Pairwise.nil
  | k + 1 => by
    unfold who
    have ih := who_strict T l k
    split
    · rw [List.pairwise_append]
      refine ⟨ih, List.pairwise_singleton _ _, fun a ha b hb => ?_⟩
      obtain ⟨i, h1, h2, -⟩ := (who_mem T l a k).1 ha
      simp at hb
      omega
    · exact ih
theorem who_in {T : Tb} {l : Int} {k j : Nat} (hj : j < (who T l k).length) : ∃ i : Nat, i < k ∧ (who T l k).getD j 0 = i ∧ T i = some l := by
  have hm : (who T l k).getD j 0 ∈ who T l k := by
    rw [List.getD, List.getElem?_eq_getElem hj]
    exact List.getElem_mem hj
  exact (who_mem T l _ k).1 hm
/-- The table while it is killed: the first j of those that have one are through. -/
def mid (T : Tb) (l but : Int) (j : Nat) : Tb := fun i => if (i : Int) ∈ (who T l 8).take j ∧ (i : Int) ≠ but then none else T i
def midN (T : Tb) (l but : Int) (j : Nat) : Nat := (((who T l 8).take j).filter fun x => decide (x ≠ but)).length
theorem mid_zero (T : Tb) (l but : Int) : mid T l but 0 = T := by funext i; simp [mid]
theorem mid_ok {T : Tb} (hT : Ok T) (l but : Int) (j : Nat) : Ok (mid T l but j) := by
  refine ⟨fun i hi => ?_, fun i x hx => ?_⟩
  · unfold mid; split
    · rfl
    · exact hT.out i hi
  · unfold mid at hx
    split at hx
    · cases hx
    · exact hT.rng i x hx
theorem take_next {xs : List Int} {j : Nat} (hj : j < xs.length) : xs.take (j + 1) = xs.take j ++ [xs.getD j 0] := by
  rw [List.take_succ_eq_append_getElem hj, List.getD, List.getElem?_eq_getElem hj]
  rfl
theorem not_before {xs : List Int} (h : xs.Pairwise (· < ·)) {j : Nat} (hj : j < xs.length) : xs.getD j 0 ∉ xs.take j := by
  intro hm
  obtain ⟨i, hi, e⟩ := List.mem_take_iff_getElem.1 hm
  have := List.pairwise_iff_getElem.1 h i j (by omega) hj (by omega)
  rw [List.getD, List.getElem?_eq_getElem hj] at e
  simp at e
  omega
theorem mid_but {T : Tb} {l but : Int} {j : Nat} (hj : j < (who T l 8).length) (e : (who T l 8).getD j 0 = but) : mid T l but (j + 1) = mid T l but j ∧ midN T l but (j + 1) = midN T l but j := by
  constructor
  · funext i
    unfold mid
    rw [take_next hj, e]
    simp only [List.mem_append, List.mem_singleton]
    by_cases h : (i : Int) = but
    · simp [h]
    · simp [h]
  · unfold midN
    rw [take_next hj, e, List.filter_append]
    simp
theorem mid_step {T : Tb} {l but : Int} {j i : Nat} (hj : j < (who T l 8).length) (e : (who T l 8).getD j 0 = (i : Int)) (hne : (i : Int) ≠ but) :
    mid T l but j i = T i ∧ mid T l but (j + 1) = upd (mid T l but j) i none ∧ midN T l but (j + 1) = midN T l but j + 1 := by
  have hn := not_before (who_strict T l 8) hj
  refine ⟨?_, ?_, ?_⟩
  · unfold mid
    rw [e] at hn
    simp [hn]
  · funext k
    unfold mid upd
    rw [take_next hj, e]
    simp only [List.mem_append, List.mem_singleton]
    by_cases h : k = i
    · subst h; simp [hne]
    · have : (k : Int) ≠ i := by omega
      simp [h, this]
  · unfold midN
    rw [take_next hj, e, List.filter_append]
    simp [hne]
theorem mid_end {T : Tb} (hT : Ok T) (l but : Int) : mid T l but (who T l 8).length = kill T l but := by
  funext i
  unfold mid kill
  rw [List.take_length]
  by_cases h : T i = some l
  · have : i < 8 := Nat.lt_of_not_le fun hc => by rw [hT.out i hc] at h; cases h
    have : (i : Int) ∈ who T l 8 := (who_mem T l _ 8).2 ⟨i, this, rfl, h⟩
    simp [h, this]
  · have : ¬ (i : Int) ∈ who T l 8 := by
      rw [who_mem]
      rintro ⟨k, -, h2, h3⟩
      have : k = i := by omega
      subst this; exact h h3
    simp [h, this]
theorem filter_cnt (T : Tb) (l but : Int) : ∀ k, ((who T l k).filter fun x => decide (x ≠ but)).length = cnt T l but k
  | 0 => rfl
  | k + 1 => by
    have ih := filter_cnt T l but k
    unfold who cnt
    by_cases h : T k = some l
    · rw [if_pos h, List.filter_append, List.length_append, ih]
      congr 1
      by_cases e : (k : Int) = but
      · simp [h, e]
      · simp [h, e]
    · rw [if_neg h, ih]
      simp [h]
theorem midN_end (T : Tb) (l but : Int) : midN T l but (who T l 8).length = cnt T l but 8 := by
  unfold midN
  rw [List.take_length, filter_cnt]
theorem cnt_le (T : Tb) (l but : Int) : ∀ k, cnt T l but k ≤ k
  | 0 => Nat.le_refl _
  | k + 1 => by
    unfold cnt
    have := cnt_le T l but k
    split <;> omega
theorem midN_le (T : Tb) (l but : Int) (j : Nat) : midN T l but j ≤ 8 := by
  unfold midN
  have h1 := List.length_filter_le (fun x : Int => decide (x ≠ but)) ((who T l 8).take j)
  have h2 := who_len T l 8
  rw [List.length_take] at h1
  omega
end Go.Proofs.YtjeolfcefeglpabGreat.Rv
set_option maxRecDepth 20000
namespace Go.Proofs.YtjeolfcefeglpabGreat
open Go.RowKit Wd

namespace Sh
/-- A number of bytes. -/
def numB (f : Nat → Int) : Nat → Int
  | 0 => 0
  | k + 1 => numB f k + 256 ^ k * f k
theorem numB_range {f : Nat → Int} (h : ∀ j, 0 ≤ f j ∧ f j ≤ 255) : ∀ k, 0 ≤ numB f k ∧ numB f k < 256 ^ k
  | 0 => by simp [numB]
  | k + 1 => by
    have ih := numB_range h k
    have hk := h k
    have hp : (0 : Int) < 256 ^ k := by exact Int.pow_pos (by decide)
    have e1 : (256 : Int) ^ (k + 1) = 256 ^ k * 256 := Int.pow_succ _ _
    have e2 : 256 ^ k * f k ≤ 256 ^ k * 255 := Int.mul_le_mul_of_nonneg_left hk.2 (Int.le_of_lt hp)
    have e3 : 0 ≤ 256 ^ k * f k := Int.mul_nonneg (Int.le_of_lt hp) hk.1
    unfold numB
    rw [e1]
    generalize (256 : Int) ^ k = q at *
    omega
theorem numB_add (f : Nat → Int) (m : Nat) : ∀ k, numB f (m + k) = numB f m + 256 ^ m * numB (fun j => f (m + j)) k
  | 0 => by simp [numB]
  | k + 1 => by
    rw [← Nat.add_assoc, numB, numB_add f m k, numB, Int.mul_add, ← Int.mul_assoc, ← Int.pow_add]
    omega
theorem numB_congr {f g : Nat → Int} : ∀ k, (∀ j, j < k → f j = g j) → numB f k = numB g k
  | 0, _ => rfl
  | k + 1, h => by rw [numB, numB, numB_congr k (fun j hj => h j (by omega)), h k (by omega)]
theorem num_eq (B : List Int) (a : Nat) : ∀ k, Ln.num B a k = numB (fun j => B.getD (a + j) 0) k
  | 0 => rfl
  | k + 1 => by rw [Ln.num, numB, num_eq B a k]
theorem add_mul_div {q x y : Int} (hq : 0 < q) (h0 : 0 ≤ x) (h1 : x < q) : (x + q * y) / q = y := by
  rw [Int.add_mul_ediv_left _ _ (by omega), Int.ediv_eq_zero_of_lt h0 h1, Int.zero_add]
theorem add_mul_mod {q x y : Int} (h0 : 0 ≤ x) (h1 : x < q) : (x + q * y) % q = x := by
  rw [Int.add_mul_emod_self_left, Int.emod_eq_of_lt h0 h1]
theorem numB_cut {f : Nat → Int} (h : ∀ j, 0 ≤ f j ∧ f j ≤ 255) (m k r : Nat) : numB f (m + (k + r)) / 256 ^ m % 256 ^ k = numB (fun j => f (m + j)) k := by
  have hp : (0 : Int) < 256 ^ m := Int.pow_pos (by decide)
  rw [numB_add f m, add_mul_div hp (numB_range h m).1 (numB_range h m).2, numB_add _ k, add_mul_mod (numB_range (fun j => h (m + j)) k).1 (numB_range (fun j => h (m + j)) k).2]
theorem pow8 (m : Nat) : (256 : Int) ^ m = 2 ^ (8 * m) := by rw [Int.pow_mul]; rfl
theorem tb_mod {x : Int} (h0 : 0 ≤ x) (k i : Nat) : tb (x % 2 ^ k) i = (decide (i < k) && tb x i) := by
  obtain ⟨X, rfl⟩ := Int.eq_ofNat_of_zero_le h0
  have e : ((X : Int) % 2 ^ k).toNat = X % 2 ^ k := by
    have : ((X : Int) % 2 ^ k) = ((X % 2 ^ k : Nat) : Int) := by simp
    rw [this, Int.toNat_natCast]
  unfold tb
  rw [e, Nat.testBit_mod_two_pow]
  simp
theorem cut_div {v : Int} (h0 : 0 ≤ v) (h1 : v < 18446744073709551616) (m k : Nat) (_hmk : m + k ≤ 8) : cutS v (8 * (m : Int)) (8 * (k : Int)) = v / 256 ^ m % 256 ^ k := by
  have hp : (0 : Int) < 256 ^ m := Int.pow_pos (by decide)
  have hk : (0 : Int) < 256 ^ k := Int.pow_pos (by decide)
  have d0 : 0 ≤ v / 256 ^ m := Int.ediv_nonneg h0 (Int.le_of_lt hp)
  have d1 : v / 256 ^ m ≤ v := Int.ediv_le_self _ h0
  have r0 := Int.emod_nonneg (v / 256 ^ m) (Int.ne_of_gt hk)
  have r1 : v / 256 ^ m % 256 ^ k ≤ v / 256 ^ m := by
    have h2 := Int.mul_ediv_add_emod (v / 256 ^ m) (256 ^ k)
    have h3 : 0 ≤ 256 ^ k * (v / 256 ^ m / 256 ^ k) := Int.mul_nonneg (Int.le_of_lt hk) (Int.ediv_nonneg d0 (Int.le_of_lt hk))
    omega
  have c := cutS_range v (8 * (m : Int)) (8 * (k : Int))
  refine Wd.ext c.1 c.2 r0 (by omega) fun i hi => ?_
  rw [pow8 k, tb_mod d0, pow8 m, tb_div h0]
  unfold cutS
  rw [tb_word, decide_eq_true hi, Bool.true_and, show (8 * (m : Int) + (i : Int)).toNat = i + 8 * m by omega]
  congr 1
  exact decide_eq_decide.2 (by omega)
theorem byte_cut {y : Int} {k j : Nat} (hj : j < k) : y % 256 ^ k / 256 ^ j % 256 = y / 256 ^ j % 256 := by
  have hp : (0 : Int) < 256 ^ j := Int.pow_pos (by decide)
  obtain ⟨d, rfl⟩ : ∃ d, k = j + (d + 1) := ⟨k - j - 1, by omega⟩
  have e : y = y % 256 ^ (j + (d + 1)) + 256 ^ j * (256 * (256 ^ d * (y / 256 ^ (j + (d + 1))))) := by
    have h2 := Int.mul_ediv_add_emod y (256 ^ (j + (d + 1)))
    have e1 : (256 : Int) ^ (j + (d + 1)) = 256 ^ j * (256 * 256 ^ d) := by rw [Int.pow_add, Int.pow_succ, Int.mul_comm (256 ^ d) 256]
    rw [← Int.mul_assoc 256, ← Int.mul_assoc (256 ^ j), ← e1]
    omega
  generalize y % 256 ^ (j + (d + 1)) = r at e ⊢
  generalize 256 ^ d * (y / 256 ^ (j + (d + 1))) = q at e
  subst e
  rw [Int.add_mul_ediv_left _ _ (by omega), Int.add_mul_emod_self_left]

/-! ### pieces and their bytes -/
/-- No piece lies over the cut. -/
def Side (c : Int) : List Sp.P → Int → Prop
  | [], _ => True
  | p :: l, m => (c = 0 ∨ m + p.n ≤ c ∨ c ≤ m) ∧ Side c l (m + p.n)
theorem side_app {c : Int} : ∀ {l l' : List Sp.P} {m : Int}, Side c l m → Side c l' (m + tot l) → Side c (l ++ l') m
  | [], l', m, _, h' => by simpa [tot] using h'
  | p :: l, l', m, h, h' => ⟨h.1, side_app h.2 (by rw [show m + p.n + tot l = m + tot (p :: l) by simp [tot]; omega]; exact h')⟩
theorem side_first {a c n : Int} (_h1 : 1 ≤ n) (hc : c = 0 ∨ n ≤ c) : Side c (Sp.run a n 0) 0 := by
  unfold Sp.run
  split
  · refine ⟨?_, ?_, trivial⟩ <;> simp only [] <;> omega
  · refine ⟨?_, trivial⟩
    simp only []
    omega
theorem side_second {b c n : Int} : Side c (Sp.run b n c) c := by
  unfold Sp.run
  split
  · refine ⟨.inr (.inr (Int.le_refl _)), ?_, trivial⟩
    simp only []
    omega
  · exact ⟨.inr (.inr (Int.le_refl _)), trivial⟩
theorem pieces_side {a b c n : Int} (h : Sp.okA c n = true) : Side c (Sp.pieces a b c n) 0 := by
  obtain ⟨h1, h2, h3, h4⟩ := Sp.okA_iff.1 h
  unfold Sp.pieces
  rw [if_pos h]
  by_cases e : c = 0
  · rw [if_pos e]
    exact side_first h1 (.inl e)
  · rw [if_neg e]
    refine side_app (side_first (by omega) (.inr (Int.le_refl _))) ?_
    rw [run_tot, show 0 + c = c by omega]
    exact side_second
/-- A piece's bytes. -/
theorem byte_in {a b c m : Int} {p : Sp.P} (h : 0 ≤ p.a ∧ p.a + (p.n - 1) < 18446744073709551616 ∧ p.a = Sp.byte a b c m) (hs : c = 0 ∨ m + p.n ≤ c ∨ c ≤ m) (j : Int) (h0 : 0 ≤ j) (hj : j < p.n) : Sp.byte a b c (m + j) = p.a + j := by
  obtain ⟨h1, h2, h3⟩ := h
  unfold Sp.byte at *
  by_cases e : 0 < c ∧ c ≤ m
  · rw [if_pos e] at h3
    rw [if_pos (by omega)]
    omega
  · rw [if_neg e] at h3
    rw [if_neg (by omega)]
    omega
/-- What the walk knows of pieces: they follow one another, each in a line, on one side of the cut. -/
structure Pcs (a b c : Int) (l : List Sp.P) (n : Nat) : Prop where
  good : Good a b c l 0
  side : Side c l 0
  all : tot l = n
  n1 : 1 ≤ n
  n8 : n ≤ 8
  c0 : 0 ≤ c
theorem side_at {c : Int} : ∀ {l : List Sp.P} {m : Int}, Side c l m → ∀ k, k < l.length → (c = 0 ∨ (m + sumN l k) + (l.getD k Sp.p0).n ≤ c ∨ c ≤ m + sumN l k)
  | p :: l, m, h, 0, _ => by simpa [sumN] using h.1
  | p :: l, m, h, k + 1, hk => by
    have e : ∀ k, sumN (p :: l) (k + 1) = p.n + sumN l k := by
      intro k
      induction k with
      | zero => simp [sumN]
      | succ k ih => rw [sumN, ih, sumN]; simp; omega
    have := side_at h.2 k (by simpa using hk)
    rw [e, show m + (p.n + sumN l k) = m + p.n + sumN l k by omega]
    simpa using this
theorem pcs_of {a b c n : Int} (ha : 0 ≤ a ∧ a < 18446744073709551616) (hb : 0 ≤ b ∧ b < 18446744073709551616) (h : Sp.okA c n = true) : Pcs a b c (Sp.pieces a b c n) n.toNat := by
  obtain ⟨h1, h2, h3, h4⟩ := Sp.okA_iff.1 h
  obtain ⟨g, t⟩ := pieces_good ha hb h
  exact ⟨g, pieces_side h, by rw [t]; omega, by omega, by omega, h3⟩
/-- Where a piece begins, and how long it is. -/
theorem sumN_le {a b c : Int} {l : List Sp.P} {n : Nat} (h : Pcs a b c l n) {k : Nat} (hk : k < l.length) : sumN l (k + 1) ≤ n := by
  have hpos : ∀ k, k < l.length → 1 ≤ (l.getD k Sp.p0).n := fun k hk => (good_at h.good k hk).2.1
  have key : ∀ j k, k + j = l.length → sumN l k ≤ Go.Proofs.YtjeolfcefeglpabGreat.tot l := by
    intro j
    induction j with
    | zero => intro k hk; rw [← sumN_all, show k = l.length by omega]; exact Int.le_refl _
    | succ j ih =>
      intro k hk
      have h1 := ih (k + 1) (by omega)
      have h2 := hpos k (by omega)
      have e : sumN l (k + 1) = sumN l k + (l.getD k Sp.p0).n := rfl
      omega
  have := key (l.length - (k + 1)) (k + 1) (by omega)
  rw [h.all] at this
  exact this
theorem Pcs.at_ {a b c : Int} {l : List Sp.P} {n : Nat} (h : Pcs a b c l n) {k : Nat} (hk : k < l.length) : ∃ m w : Nat, sumN l k = m ∧ sumN l (k + 1) = ((m + w : Nat) : Int) ∧ m + w ≤ n ∧ 1 ≤ w ∧ (l.getD k Sp.p0).n = w ∧ (l.getD k Sp.p0).s = 8 * (m : Int) ∧
    0 ≤ (l.getD k Sp.p0).a ∧ (l.getD k Sp.p0).a + (w : Int) ≤ 18446744073709551616 ∧ (∀ j : Nat, j < w → Sp.byte a b c ((m + j : Nat) : Int) = (l.getD k Sp.p0).a + j ∧ Sp.byte a b c ((m + j : Nat) : Int) / 64 = (l.getD k Sp.p0).a / 64) := by
  obtain ⟨g1, g2, g3, g4, g5, g6, g7⟩ := good_at h.good k hk
  have r := sumN_range h.good (by rw [h.all]; have := h.n8; omega) k (by omega)
  have hs := side_at h.side k hk
  rw [Int.zero_add] at g1 g7 hs
  have hup := sumN_le h hk
  have hn : sumN l (k + 1) = sumN l k + (l.getD k Sp.p0).n := rfl
  refine ⟨(sumN l k).toNat, (l.getD k Sp.p0).n.toNat, by omega, by omega, by omega, by omega, by omega, by omega, g4, by omega, fun j hj => ?_⟩
  have e := byte_in (m := sumN l k) (p := l.getD k Sp.p0) ⟨g4, g5, g7⟩ hs (j : Int) (by omega) (by omega)
  rw [show (((sumN l k).toNat + j : Nat) : Int) = sumN l k + j by omega, e]
  exact ⟨rfl, by omega⟩
theorem Pcs.end_ {a b c : Int} {l : List Sp.P} {n : Nat} (h : Pcs a b c l n) : sumN l l.length = n := by rw [sumN_all]; exact h.all
/-- The byte number i. -/
def fB (B : List Int) (N : Nat) (a b c : Int) (i : Nat) : Int := ldV B N (Sp.byte a b c i) 1
theorem ld_range {B : List Int} {N : Nat} (hB : Rm.Ok B N) (x : Int) : 0 ≤ ldV B N x 1 ∧ ldV B N x 1 ≤ 255 := by
  unfold ldV
  split
  · have := Rm.num_rng hB (x - 2147483648).toNat 1
    rw [show (1 : Int).toNat = 1 from rfl]
    omega
  · omega
theorem fB_range {B : List Int} {N : Nat} (hB : Rm.Ok B N) (a b c : Int) (i : Nat) : 0 ≤ fB B N a b c i ∧ fB B N a b c i ≤ 255 := ld_range hB _
/-- Does all lie in memory? -/
def inAll (N : Nat) (a b c : Int) (n : Nat) : Prop := ∀ i, i < n → hasB N (Sp.byte a b c (i : Int)) 1 = true
theorem has_run {N : Nat} {x : Int} {w : Nat} (hw : 1 ≤ w) : hasB N x w = true ↔ ∀ j : Nat, j < w → hasB N (x + j) 1 = true := by
  constructor
  · intro h j hj
    have := hasB_iff.1 h
    exact hasB_iff.2 (by omega)
  · intro h
    have h1 := hasB_iff.1 (h 0 (by omega))
    have h2 := hasB_iff.1 (h (w - 1) (by omega))
    exact hasB_iff.2 (by omega)
theorem all_pieces {a b c : Int} {l : List Sp.P} {n N : Nat} (h : Pcs a b c l n) : (∀ k, k < l.length → hasB N (l.getD k Sp.p0).a (l.getD k Sp.p0).n = true) ↔ inAll N a b c n := by
  have key : ∀ k, k ≤ l.length → ((∀ i, i < k → hasB N (l.getD i Sp.p0).a (l.getD i Sp.p0).n = true) ↔ ∀ i : Nat, (i : Int) < sumN l k → hasB N (Sp.byte a b c (i : Int)) 1 = true) := by
    intro k
    induction k with
    | zero =>
      intro _
      refine ⟨fun _ i hi => ?_, fun _ i hi => by omega⟩
      have : sumN l 0 = 0 := rfl
      omega
    | succ k ih =>
      intro hk
      have ih := ih (by omega)
      obtain ⟨m, w, e1, e2, -, hw, e3, -, -, -, e4⟩ := h.at_ (show k < l.length by omega)
      rw [e2]
      rw [e1] at ih
      have hp := has_run (N := N) (x := (l.getD k Sp.p0).a) hw
      rw [← e3] at hp
      constructor
      · intro hh i hi
        by_cases him : i < m
        · exact ih.1 (fun i hi => hh i (by omega)) i (by omega)
        · have := hp.1 (hh k (by omega)) (i - m) (by omega)
          rw [← (e4 (i - m) (by omega)).1, show m + (i - m) = i by omega] at this
          exact this
      · intro hh i hi
        by_cases hik : i < k
        · exact ih.2 (fun i hi => hh i (by omega)) i hik
        · obtain rfl : i = k := by omega
          refine hp.2 fun j hj => ?_
          rw [← (e4 j hj).1]
          exact hh (m + j) (by omega)
  have k2 := key l.length (Nat.le_refl _)
  rw [h.end_] at k2
  rw [k2]
  exact ⟨fun h i hi => h i (by omega), fun h i hi => h i (by omega)⟩
theorem pow256 {n : Nat} (h : n ≤ 8) : (256 : Int) ^ n ≤ 18446744073709551616 := by
  have : n = 0 ∨ n = 1 ∨ n = 2 ∨ n = 3 ∨ n = 4 ∨ n = 5 ∨ n = 6 ∨ n = 7 ∨ n = 8 := by omega
  rcases this with rfl | rfl | rfl | rfl | rfl | rfl | rfl | rfl | rfl <;> decide
/-- The number in memory. -/
def num (B : List Int) (N : Nat) (a b c : Int) (n : Nat) : Int := numB (fB B N a b c) n
theorem num_range {B : List Int} {N : Nat} (hB : Rm.Ok B N) (a b c : Int) {n : Nat} (hn : n ≤ 8) : 0 ≤ num B N a b c n ∧ num B N a b c n < 18446744073709551616 := by
  have h := numB_range (fB_range hB a b c) n
  have := pow256 hn
  unfold num
  omega
/-- What a piece loads is its part of the number. -/
theorem piece_load {B : List Int} {N : Nat} (hB : Rm.Ok B N) {a b c : Int} {l : List Sp.P} {n : Nat} (h : Pcs a b c l n) (hin : inAll N a b c n) {k : Nat} (hk : k < l.length) :
    ldV B N (l.getD k Sp.p0).a (l.getD k Sp.p0).n = partV (num B N a b c n) (l.getD k Sp.p0).n (l.getD k Sp.p0).s := by
  have hpc := (all_pieces (N := N) h).2 hin k hk
  obtain ⟨m, w, e1, e2, hmw, hw, e3, e5, -, -, e4⟩ := h.at_ hk
  have h8 := h.n8
  have hr := num_range hB a b c h8
  rw [← partV_yes ⟨by omega, by omega, by omega, by omega⟩, e3, e5, cut_div hr.1 hr.2 m w (by omega)]
  obtain ⟨r, hr2⟩ : ∃ r, n = m + (w + r) := ⟨n - m - w, by omega⟩
  unfold num
  rw [hr2, numB_cut (fB_range hB a b c) m w r]
  unfold ldV
  rw [if_pos (by rw [e3] at hpc; unfold hasN; rw [hpc]; simp; omega), Int.toNat_natCast, num_eq]
  refine numB_congr w fun j hj => ?_
  have hb := hin (m + j) (by omega)
  unfold fB
  rw [(e4 j hj).1] at hb ⊢
  unfold ldV
  rw [if_pos (by unfold hasN; rw [hb]; rfl)]
  rw [show (1 : Int).toNat = 1 from rfl]
  have h0 := hasB_iff.1 hb
  have h1 := hasB_iff.1 hpc
  simp only [Ln.num, Int.pow_zero, Int.one_mul, Int.zero_add, Nat.add_zero]
  congr 1
  omega
theorem pieces_number {B : List Int} {N : Nat} (hB : Rm.Ok B N) {a b c : Int} {l : List Sp.P} {n : Nat} (h : Pcs a b c l n) (hin : inAll N a b c n) :
    joinS l (l.map fun p => ldV B N p.a p.n) l.length = num B N a b c n := by
  have e : (l.map fun p => ldV B N p.a p.n) = partsS l (num B N a b c n) := by
    unfold partsS
    apply List.ext_getElem (by simp)
    intro k h1 h2
    have hk : k < l.length := by simpa using h1
    have := piece_load hB h hin hk
    simp only [List.getElem_map]
    rw [List.getD, List.getElem?_eq_getElem hk] at this
    exact this
  have hr := num_range hB a b c h.n8
  have h8 := h.n8
  rw [e, join_back h.good (by rw [h.all]; omega) l.length (Nat.le_refl _), h.end_]
  have hc := cut_div hr.1 hr.2 0 n (by omega)
  rw [show (8 : Int) * ((0 : Nat) : Int) = 0 from rfl] at hc
  rw [hc, Int.pow_zero, Int.ediv_one]
  exact Int.emod_eq_of_lt hr.1 (by have := numB_range (fB_range hB a b c) n; exact this.2)
/-! ### a number laid -/
/-- Byte by byte: the first k of them. -/
def layB (B : List Int) (N : Nat) (a b c v : Int) : Nat → List Int
  | 0 => B
  | k + 1 => stV (layB B N a b c v k) N (Sp.byte a b c (k : Int)) 1 (v / 256 ^ k % 256)
theorem layB_ok {B : List Int} {N : Nat} (hB : Rm.Ok B N) (a b c v : Int) : ∀ k, Rm.Ok (layB B N a b c v k) N
  | 0 => hB
  | k + 1 => stV_ok (layB_ok hB a b c v k) _ _ _
/-- Piece by piece. -/
def layP (B : List Int) (N : Nat) (v : Int) (l : List Sp.P) : Nat → List Int
  | 0 => B
  | k + 1 => stV (layP B N v l k) N (l.getD k Sp.p0).a (l.getD k Sp.p0).n (partV v (l.getD k Sp.p0).n (l.getD k Sp.p0).s)
theorem st_mod {B : List Int} {N : Nat} (hB : Rm.Ok B N) (p : Nat) {u u' : Int} (h : u % 256 = u' % 256) : Rm.st B p 1 u = Rm.st B p 1 u' := by
  refine Rm.ext (by rw [(Rm.st_ok hB _ _ _).len, (Rm.st_ok hB _ _ _).len]) fun j hj => ?_
  rw [(Rm.st_ok hB _ _ _).len] at hj
  rw [Rm.st_get hB _ _ _ _ hj, Rm.st_get hB _ _ _ _ hj]
  split
  · rename_i hc
    rw [show j - p = 0 by omega]
    unfold Ln.byteOf
    rw [Int.pow_zero, Int.ediv_one, Int.ediv_one, h]
  · rfl
theorem piece_lay {B B0 : List Int} {N : Nat} (hB : Rm.Ok B N) {a b c v : Int} {m w : Nat} {x u : Int} (hw : 1 ≤ w) (h8 : m + w ≤ 8) (hin : hasB N x w = true) (e4 : ∀ j : Nat, j < w → Sp.byte a b c ((m + j : Nat) : Int) = x + j) (hu : u = v / 256 ^ m % 256 ^ w) (hBm : B = layB B0 N a b c v m) :
    stV B N x w u = layB B0 N a b c v (m + w) := by
  have hx := hasB_iff.1 hin
  have key : ∀ k, k ≤ w → Rm.st B (x - 2147483648).toNat k u = layB B0 N a b c v (m + k) := by
    intro k
    induction k with
    | zero =>
      intro _
      rw [Nat.add_zero, ← hBm]
      refine Rm.ext (by rw [(Rm.st_ok hB _ _ _).len, hB.len]) fun j hj => ?_
      rw [(Rm.st_ok hB _ _ _).len] at hj
      rw [Rm.st_get hB _ _ _ _ hj, if_neg (by omega)]
    | succ k ih =>
      intro hk
      have hok := Rm.st_ok hB (x - 2147483648).toNat k u
      rw [← Rm.st_two hB, ← Nat.add_assoc, layB, ← ih (by omega), e4 k (by omega)]
      unfold stV
      rw [if_pos (hasN_iff.2 (by omega)), show (1 : Int).toNat = 1 from rfl, show (x + (k : Int) - 2147483648).toNat = (x - 2147483648).toNat + k by omega]
      refine st_mod hok _ ?_
      rw [hu, byte_cut (show k < w by omega), Int.pow_add, Int.ediv_ediv_of_nonneg (by exact Int.le_of_lt (Int.pow_pos (by decide)))]
      rw [Int.emod_emod_of_dvd _ (Int.dvd_refl _)]
  have := key w (Nat.le_refl _)
  rw [← this]
  unfold stV
  rw [if_pos (hasN_iff.2 (by omega)), Int.toNat_natCast]
theorem lay_pieces {B : List Int} {N : Nat} (hB : Rm.Ok B N) {a b c v : Int} (h0 : 0 ≤ v) (h1 : v < 18446744073709551616) {l : List Sp.P} {n : Nat} (h : Pcs a b c l n) (hin : inAll N a b c n) : layP B N v l l.length = layB B N a b c v n := by
  have key : ∀ k, k ≤ l.length → layP B N v l k = layB B N a b c v (sumN l k).toNat := by
    intro k
    induction k with
    | zero => intro _; rfl
    | succ k ih =>
      intro hk
      obtain ⟨m, w, e1, e2, hmw, hw, e3, e5, -, -, e4⟩ := h.at_ (show k < l.length by omega)
      have hpc := (all_pieces (N := N) h).2 hin k (by omega)
      have h8 := h.n8
      have ih := ih (by omega)
      rw [e1, Int.toNat_natCast] at ih
      rw [layP, ih, e2, Int.toNat_natCast, e3, e5]
      rw [e3] at hpc
      refine piece_lay (layB_ok hB a b c v m) hw (by omega) hpc (fun j hj => (e4 j hj).1) ?_ rfl
      rw [← partV_yes ⟨by omega, by omega, by omega, by omega⟩, cut_div h0 h1 m w (by omega)]
  rw [key l.length (Nat.le_refl _), h.end_, Int.toNat_natCast]
/-! ### lines killed -/
def killB (T : Rv.Tb) (a b c hart : Int) : Nat → Rv.Tb
  | 0 => T
  | k + 1 => Rv.kill (killB T a b c hart k) (Sp.byte a b c (k : Int) / 64) hart
def killP (T : Rv.Tb) (hart : Int) (l : List Sp.P) : Nat → Rv.Tb
  | 0 => T
  | k + 1 => Rv.kill (killP T hart l k) ((l.getD k Sp.p0).a / 64) hart
theorem kill_twice (T : Rv.Tb) (l but : Int) : Rv.kill (Rv.kill T l but) l but = Rv.kill T l but := by
  funext i
  unfold Rv.kill
  by_cases h : T i = some l ∧ (i : Int) ≠ but
  · simp [h]
  · simp only [if_neg h]
theorem kill_pieces (T : Rv.Tb) (hart : Int) {a b c : Int} {l : List Sp.P} {n : Nat} (h : Pcs a b c l n) : killP T hart l l.length = killB T a b c hart n := by
  have key : ∀ k, k ≤ l.length → killP T hart l k = killB T a b c hart (sumN l k).toNat := by
    intro k
    induction k with
    | zero => intro _; rfl
    | succ k ih =>
      intro hk
      obtain ⟨m, w, e1, e2, hmw, hw, e3, e5, -, -, e4⟩ := h.at_ (show k < l.length by omega)
      have ih := ih (by omega)
      rw [e1, Int.toNat_natCast] at ih
      rw [killP, ih, e2, Int.toNat_natCast]
      have hh : ∀ j, 1 ≤ j → j ≤ w → killB T a b c hart (m + j) = Rv.kill (killB T a b c hart m) ((l.getD k Sp.p0).a / 64) hart := by
        intro j
        induction j with
        | zero => intro hc; omega
        | succ j ihj =>
          intro _ hj
          rw [← Nat.add_assoc, killB, (e4 j (by omega)).2]
          by_cases e : j = 0
          · subst e; rfl
          · rw [ihj (by omega) (by omega), kill_twice]
      rw [hh w hw (Nat.le_refl _)]
  rw [key l.length (Nat.le_refl _), h.end_, Int.toNat_natCast]
theorem killB_ok {T : Rv.Tb} (hT : Rv.Ok T) (a b c hart : Int) : ∀ k, Rv.Ok (killB T a b c hart k)
  | 0 => hT
  | k + 1 => Rv.kill_ok (killB_ok hT a b c hart k) _ _
/-- One's own reservation may go before or behind. -/
theorem kill_clr (T : Rv.Tb) (l h : Int) : Rv.kill (Rv.clr T h) l h = Rv.clr (Rv.kill T l h) h := by
  funext i
  unfold Rv.clr
  split
  · rename_i hi
    have := Rv.inH_iff.1 hi
    unfold Rv.kill Rv.upd
    by_cases e : i = h.toNat
    · simp [e]
    · simp [e]
  · rfl
theorem killB_clr (T : Rv.Tb) (a b c h : Int) : ∀ k, killB (Rv.clr T h) a b c h k = Rv.clr (killB T a b c h k) h
  | 0 => rfl
  | k + 1 => by rw [killB, killB_clr T a b c h k, kill_clr, killB]
end Sh
end Go.Proofs.YtjeolfcefeglpabGreat
