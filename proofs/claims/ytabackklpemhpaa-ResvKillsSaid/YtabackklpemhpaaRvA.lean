/-
  Plain functions, no program: a table of reservations: made, taken away, killed; who has one of a line.
-/
import Derived.Test.YtabackklpemhpaaSrtA
namespace Go.Proofs.Ytabackklpemhpaa.Rv

abbrev Tb := Nat → Option Int
/-- A table of eight harts. -/
structure Ok (T : Tb) : Prop where
  out : ∀ h, 8 ≤ h → T h = none
  rng : ∀ h l, T h = some l → 0 ≤ l ∧ l ≤ 18446744073709551615
def ln (T : Tb) (h : Nat) : Int := (T h).getD 0
def is (T : Tb) (h : Nat) : Bool := (T h).isSome
def upd (T : Tb) (h : Nat) (v : Option Int) : Tb := fun i => if i = h then v else T i
def inH (h : Int) : Bool := decide (0 ≤ h) && decide (h < 8)
def set (T : Tb) (h l : Int) : Tb := if inH h = true then upd T h.toNat (some l) else T
def clr (T : Tb) (h : Int) : Tb := if inH h = true then upd T h.toNat none else T
def at_ (T : Tb) (h : Int) : Option Int := if inH h = true then T h.toNat else none
def kill (T : Tb) (l but : Int) : Tb := fun i => if T i = some l ∧ (i : Int) ≠ but then none else T i
def cnt (T : Tb) (l but : Int) : Nat → Nat
  | 0 => 0
  | k + 1 => cnt T l but k + if T k = some l ∧ (k : Int) ≠ but then 1 else 0
/-- Those of the first k harts that have a reservation of a line. -/
def who (T : Tb) (l : Int) : Nat → List Int
  | 0 => []
  | k + 1 => if T k = some l then who T l k ++ [(k : Int)] else who T l k
def none_ : Tb := fun _ => none
theorem none_ok : Ok none_ := ⟨fun _ _ => rfl, fun _ _ h => by cases h⟩
theorem upd_ok {T : Tb} (hT : Ok T) {h : Nat} (hh : h < 8) {v : Option Int} (hv : ∀ l, v = some l → 0 ≤ l ∧ l ≤ 18446744073709551615) : Ok (upd T h v) := by
  refine ⟨fun i hi => ?_, fun i l hl => ?_⟩
  · unfold upd; rw [if_neg (by omega)]; exact hT.out i hi
  · unfold upd at hl
    split at hl
    · exact hv l hl
    · exact hT.rng i l hl
theorem inH_iff {h : Int} : inH h = true ↔ 0 ≤ h ∧ h < 8 := by simp [inH]
theorem inH_nat {h : Nat} (hh : h < 8) : inH (h : Int) = true := by simp [inH]; omega
theorem set_ok {T : Tb} (hT : Ok T) (h l : Int) (h0 : 0 ≤ l) (h1 : l ≤ 18446744073709551615) : Ok (set T h l) := by
  unfold set
  split
  · rename_i hi
    have := inH_iff.1 hi
    exact upd_ok hT (by omega) fun x hx => by cases hx; exact ⟨h0, h1⟩
  · exact hT
theorem clr_ok {T : Tb} (hT : Ok T) (h : Int) : Ok (clr T h) := by
  unfold clr
  split
  · rename_i hi
    have := inH_iff.1 hi
    exact upd_ok hT (by omega) fun x hx => by cases hx
  · exact hT
theorem kill_ok {T : Tb} (hT : Ok T) (l but : Int) : Ok (kill T l but) := by
  refine ⟨fun i hi => ?_, fun i x hx => ?_⟩
  · unfold kill; split
    · rfl
    · exact hT.out i hi
  · unfold kill at hx
    split at hx
    · cases hx
    · exact hT.rng i x hx
theorem upd_self {T : Tb} {h : Nat} {v : Option Int} (hv : T h = v) : upd T h v = T := by
  funext i
  unfold upd
  split
  · rename_i e; rw [e, hv]
  · rfl
theorem who_mem (T : Tb) (l : Int) (x : Int) : ∀ k, x ∈ who T l k ↔ ∃ i : Nat, i < k ∧ x = i ∧ T i = some l
  | 0 => by simp [who]
  | k + 1 => by
    unfold who
    have ih := who_mem T l x k
    split
    · rename_i hk
      rw [List.mem_append, ih]
      constructor
      · rintro (⟨i, h1, h2, h3⟩ | h)
        · exact ⟨i, by omega, h2, h3⟩
        · exact ⟨k, by omega, by simpa using h, hk⟩
      · rintro ⟨i, h1, h2, h3⟩
        by_cases e : i = k
        · subst e; right; simpa using h2
        · exact .inl ⟨i, by omega, h2, h3⟩
    · rename_i hk
      rw [ih]
      constructor
      · rintro ⟨i, h1, h2, h3⟩; exact ⟨i, by omega, h2, h3⟩
      · rintro ⟨i, h1, h2, h3⟩
        have : i ≠ k := by rintro rfl; exact hk h3
        exact ⟨i, by omega, h2, h3⟩
theorem who_len (T : Tb) (l : Int) : ∀ k, (who T l k).length ≤ k
  | 0 => Nat.le_refl _
  | k + 1 => by
    unfold who
    have := who_len T l k
    split
    · rw [List.length_append]; simp; omega
    · omega
theorem who_strict (T : Tb) (l : Int) : ∀ k, (who T l k).Pairwise (· < ·)
  | 0 => List.Pairwise.nil
  | k + 1 => by
    unfold who
    have ih := who_strict T l k
    split
    · rw [List.pairwise_append]
      refine ⟨ih, List.pairwise_singleton _ _, fun a ha b hb => ?_⟩
      obtain ⟨i, h1, h2, -⟩ := (who_mem T l a k).1 ha
      simp at hb
      omega
    · exact ih
theorem who_in {T : Tb} {l : Int} {k j : Nat} (hj : j < (who T l k).length) : ∃ i : Nat, i < k ∧ (who T l k).getD j 0 = i ∧ T i = some l := by
  have hm : (who T l k).getD j 0 ∈ who T l k := by
    rw [List.getD, List.getElem?_eq_getElem hj]
    exact List.getElem_mem hj
  exact (who_mem T l _ k).1 hm
/-- The table while it is killed: the first j of those that have one are through. -/
def mid (T : Tb) (l but : Int) (j : Nat) : Tb := fun i => if (i : Int) ∈ (who T l 8).take j ∧ (i : Int) ≠ but then none else T i
def midN (T : Tb) (l but : Int) (j : Nat) : Nat := (((who T l 8).take j).filter fun x => decide (x ≠ but)).length
theorem mid_zero (T : Tb) (l but : Int) : mid T l but 0 = T := by funext i; simp [mid]
theorem mid_ok {T : Tb} (hT : Ok T) (l but : Int) (j : Nat) : Ok (mid T l but j) := by
  refine ⟨fun i hi => ?_, fun i x hx => ?_⟩
  · unfold mid; split
    · rfl
    · exact hT.out i hi
  · unfold mid at hx
    split at hx
    · cases hx
    · exact hT.rng i x hx
theorem take_next {xs : List Int} {j : Nat} (hj : j < xs.length) : xs.take (j + 1) = xs.take j ++ [xs.getD j 0] := by
  rw [List.take_succ_eq_append_getElem hj, List.getD, List.getElem?_eq_getElem hj]
  rfl
theorem not_before {xs : List Int} (h : xs.Pairwise (· < ·)) {j : Nat} (hj : j < xs.length) : xs.getD j 0 ∉ xs.take j := by
  intro hm
  obtain ⟨i, hi, e⟩ := List.mem_take_iff_getElem.1 hm
  have := List.pairwise_iff_getElem.1 h i j (by omega) hj (by omega)
  rw [List.getD, List.getElem?_eq_getElem hj] at e
  simp at e
  omega
theorem mid_but {T : Tb} {l but : Int} {j : Nat} (hj : j < (who T l 8).length) (e : (who T l 8).getD j 0 = but) : mid T l but (j + 1) = mid T l but j ∧ midN T l but (j + 1) = midN T l but j := by
  constructor
  · funext i
    unfold mid
    rw [take_next hj, e]
    simp only [List.mem_append, List.mem_singleton]
    by_cases h : (i : Int) = but
    · simp [h]
    · simp [h]
  · unfold midN
    rw [take_next hj, e, List.filter_append]
    simp
theorem mid_step {T : Tb} {l but : Int} {j i : Nat} (hj : j < (who T l 8).length) (e : (who T l 8).getD j 0 = (i : Int)) (hne : (i : Int) ≠ but) :
    mid T l but j i = T i ∧ mid T l but (j + 1) = upd (mid T l but j) i none ∧ midN T l but (j + 1) = midN T l but j + 1 := by
  have hn := not_before (who_strict T l 8) hj
  refine ⟨?_, ?_, ?_⟩
  · unfold mid
    rw [e] at hn
    simp [hn]
  · funext k
    unfold mid upd
    rw [take_next hj, e]
    simp only [List.mem_append, List.mem_singleton]
    by_cases h : k = i
    · subst h; simp [hne]
    · have : (k : Int) ≠ i := by omega
      simp [h, this]
  · unfold midN
    rw [take_next hj, e, List.filter_append]
    simp [hne]
theorem mid_end {T : Tb} (hT : Ok T) (l but : Int) : mid T l but (who T l 8).length = kill T l but := by
  funext i
  unfold mid kill
  rw [List.take_length]
  by_cases h : T i = some l
  · have : i < 8 := Nat.lt_of_not_le fun hc => by rw [hT.out i hc] at h; cases h
    have : (i : Int) ∈ who T l 8 := (who_mem T l _ 8).2 ⟨i, this, rfl, h⟩
    simp [h, this]
  · have : ¬ (i : Int) ∈ who T l 8 := by
      rw [who_mem]
      rintro ⟨k, -, h2, h3⟩
      have : k = i := by omega
      subst this; exact h h3
    simp [h, this]
theorem filter_cnt (T : Tb) (l but : Int) : ∀ k, ((who T l k).filter fun x => decide (x ≠ but)).length = cnt T l but k
  | 0 => rfl
  | k + 1 => by
    have ih := filter_cnt T l but k
    unfold who cnt
    by_cases h : T k = some l
    · rw [if_pos h, List.filter_append, List.length_append, ih]
      congr 1
      by_cases e : (k : Int) = but
      · simp [h, e]
      · simp [h, e]
    · rw [if_neg h, ih]
      simp [h]
theorem midN_end (T : Tb) (l but : Int) : midN T l but (who T l 8).length = cnt T l but 8 := by
  unfold midN
  rw [List.take_length, filter_cnt]
theorem cnt_le (T : Tb) (l but : Int) : ∀ k, cnt T l but k ≤ k
  | 0 => Nat.le_refl _
  | k + 1 => by
    unfold cnt
    have := cnt_le T l but k
    split <;> omega
theorem midN_le (T : Tb) (l but : Int) (j : Nat) : midN T l but j ≤ 8 := by
  unfold midN
  have h1 := List.length_filter_le (fun x : Int => decide (x ≠ but)) ((who T l 8).take j)
  have h2 := who_len T l 8
  rw [List.length_take] at h1
  omega
end Go.Proofs.Ytabackklpemhpaa.Rv
