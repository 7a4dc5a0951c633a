/-
  Plain: what a job is for is done while it holds all that it needs; a round of all eight goes on, as long as one isn't at its end.
-/
import Derived.Test.YtgegahnjhaldeaaLkX
namespace Go.Proofs.Ytgegahnjhaldeaa.Lk

theorem which_rise (q : List Int → Bool) (R : Int → List Int) : ∀ k, (which q R k).Pairwise (· < ·)
  | 0 => List.Pairwise.nil
  | k + 1 => by
    unfold which
    rw [List.pairwise_append]
    refine ⟨which_rise q R k, ?_, fun a ha b hb => ?_⟩
    · split <;> simp
    · have h1 := (which_mem q R k a).1 ha
      split at hb
      · have : b = k := by simpa using hb
        omega
      · simp at hb
/-- What a step says is fine. -/
theorem Inv.fine {R : Int → List Int} {n : Nat} {J : Nat → JS} (h : Inv R n J) {i : Nat} (hi : i < 8) : stF R n (i : Int) (J i) = true := by
  unfold stF
  cases ho : (J i).over
  · by_cases ht : (J i).t < (J i).xs.length
    · simp [ht]
    · cases hd : (J i).d
      · have hteq : (J i).t = (J i).xs.length := by have := h.t i hi; omega
        have hg := h.dg i hi hd
        have : which (holds (i : Int)) R n = (J i).xs := Srt.strict_ext (which_rise _ R n) (h.rise i hi) fun z => by
          rw [which_mem]
          constructor
          · rintro ⟨-, -, hz⟩
            have hh := (holds_iff _ _).1 hz
            rcases h.mem i hi z (List.mem_of_mem_head? hh) with ⟨j, hj, rfl⟩ | ⟨c, -⟩
            · exact getD_mem (by omega)
            · omega
          · intro hz
            have hr := h.rng i hi z hz
            obtain ⟨j, hj, rfl⟩ := List.getElem_of_mem hz
            refine ⟨hr.1, hr.2, (holds_iff _ _).2 ?_⟩
            have := h.hold i hi j (by omega)
            rw [List.getD, List.getElem?_eq_getElem hj] at this
            exact this
        simp [ht, this]
      · simp [ht]
  · simp
def val (s : JS) : Nat := s.t + s.d.toNat + s.g
def total (J : Nat → JS) : Nat → Nat
  | 0 => 0
  | k + 1 => total J k + val (J k)
theorem total_congr {J K : Nat → JS} : ∀ k, (∀ i, i < k → J i = K i) → total J k = total K k
  | 0, _ => rfl
  | k + 1, h => by simp only [total]; rw [total_congr k (fun i hi => h i (by omega)), h k (by omega)]
theorem total_set (J : Nat → JS) (i : Nat) (s : JS) : ∀ k, i < k → total (setJ J i s) k + val (J i) = total J k + val s
  | 0, h => by omega
  | k + 1, h => by
    simp only [total]
    by_cases e : i = k
    · subst e
      rw [total_congr (K := J) i (fun j hj => setJ_other J s (by omega)), setJ_same]
      omega
    · have := total_set J i s k (by omega)
      rw [setJ_other J s (show k ≠ i by omega)]
      omega
/-- A step goes on, or it is at its end, or it waits. -/
theorem Inv.goes {R : Int → List Int} {n : Nat} {J : Nat → JS} (_h : Inv R n J) {i : Nat} (_hi : i < 8) :
    val (stJ R n (i : Int) (J i)) = val (J i) + 1 ∨ (stJ R n (i : Int) (J i) = J i ∧
      ((J i).over = true ∧ stR R n (i : Int) (J i) = R ∨ (J i).over = false ∧ (J i).t < (J i).xs.length ∧ stR R n (i : Int) (J i) = take R n (i : Int) ((J i).xs.getD (J i).t 0) ∧ takeT R n (i : Int) ((J i).xs.getD (J i).t 0) = false)) := by
  cases ho : (J i).over
  · by_cases ht : (J i).t < (J i).xs.length
    · cases hT : takeT R n (i : Int) ((J i).xs.getD (J i).t 0)
      · exact .inr ⟨by unfold stJ; rw [ho, if_neg (by simp), if_pos ht, hT, if_neg (by simp)], .inr ⟨rfl, ht, by unfold stR; simp [ho, ht], rfl⟩⟩
      · refine .inl ?_
        have : stJ R n (i : Int) (J i) = ⟨(J i).xs, (J i).t + 1, (J i).g, (J i).d⟩ := by unfold stJ; rw [ho, if_neg (by simp), if_pos ht, hT, if_pos rfl]
        rw [this]
        unfold val
        show (J i).t + 1 + (J i).d.toNat + (J i).g = _
        omega
    · cases hd : (J i).d
      · refine .inl ?_
        have : stJ R n (i : Int) (J i) = ⟨(J i).xs, (J i).t, (J i).g, true⟩ := by unfold stJ; simp [ho, ht, hd]
        rw [this]
        unfold val
        rw [hd]
        show (J i).t + (true : Bool).toNat + (J i).g = (J i).t + (false : Bool).toNat + (J i).g + 1
        have h1 : (true : Bool).toNat = 1 := rfl
        have h2 : (false : Bool).toNat = 0 := rfl
        omega
      · refine .inl ?_
        have : stJ R n (i : Int) (J i) = ⟨(J i).xs, (J i).t, (J i).g + 1, (J i).d⟩ := by unfold stJ; simp [ho, ht, hd]
        rw [this]
        unfold val
        show (J i).t + (J i).d.toNat + ((J i).g + 1) = _
        omega
  · exact .inr ⟨by unfold stJ; simp [ho], .inl ⟨rfl, by unfold stR; simp [ho]⟩⟩
/-- While a round is under way, of which nothing went on: those of the first k that aren't at their ends wait, not first. -/
def Idle (R : Int → List Int) (J : Nat → JS) (k : Nat) : Prop := ∀ i : Nat, i < k → (J i).over = false → (i : Int) ∈ R ((J i).xs.getD (J i).t 0) ∧ ¬ heads R ((J i).xs.getD (J i).t 0) (i : Int)
theorem take_keeps {R : Int → List Int} {n : Nat} {who y : Int} {L x : Int} (h1 : x ∈ R L) (h2 : ¬ heads R L x) : x ∈ take R n who y L ∧ ¬ heads (take R n who y) L x := by
  unfold take
  split
  · split
    · exact ⟨h1, h2⟩
    · by_cases c : L = y
      · subst c
        unfold heads
        rw [upd_same]
        refine ⟨List.mem_append_left _ h1, fun e => h2 ?_⟩
        unfold heads
        cases hr : R L with
        | nil => rw [hr] at h1; simp at h1
        | cons a l => rw [hr] at e; simpa using e
      · unfold heads
        rw [upd_other R _ c]
        exact ⟨h1, h2⟩
  · exact ⟨h1, h2⟩
theorem Idle.step {R : Int → List Int} {n : Nat} {J : Nat → JS} {k : Nat} (h : Inv R n J) (hI : Idle R J k) (hk : k < 8) (hs : stJ R n (k : Int) (J k) = J k) : Idle (stR R n (k : Int) (J k)) J (k + 1) := by
  rcases h.goes hk with c | ⟨-, ⟨h1, h2⟩ | ⟨h1, h2, h3, h4⟩⟩
  · rw [hs] at c; omega
  · intro i hi ho
    by_cases e : i = k
    · subst e; rw [h1] at ho; cases ho
    · rw [h2]; exact hI i (by omega) ho
  · intro i hi ho
    rw [h3]
    by_cases e : i = k
    · subst e
      have hr := h.rng i hk _ (getD_mem h2)
      have hhas : has (i : Int) ((J i).xs.getD (J i).t 0) n = true := has_iff.2 ⟨by omega, by omega, hr.1, hr.2⟩
      generalize (J i).xs.getD (J i).t 0 = y at *
      have hmem : (i : Int) ∈ take R n (i : Int) y y := by
        unfold take
        rw [if_pos hhas]
        split
        · exact (any_mem _ _).1 ‹_›
        · rw [upd_same]; simp
      refine ⟨hmem, fun hh => ?_⟩
      have := getD_heads hh
      unfold takeT at h4
      rw [hhas, Bool.true_and, this.2] at h4
      simp at h4
    · have := hI i (by omega) ho
      exact take_keeps this.1 this.2
/-- If in a round nothing goes on, all are at their ends. -/
theorem Idle.all {R : Int → List Int} {n : Nat} {J : Nat → JS} (h : Inv R n J) (hI : Idle R J 8) : ∀ i, i < 8 → (J i).over = true := by
  have hn := closed_none h (fun i => i < 8 ∧ (J i).over = false) (fun i ⟨h8, ho⟩ => by
    obtain ⟨h1, h2⟩ := hI i h8 ho
    refine ⟨h8, (J i).xs.getD (J i).t 0, ?_⟩
    generalize (J i).xs.getD (J i).t 0 = L at *
    have hne : R L ≠ [] := fun e => by rw [e] at h1; simp at h1
    have hhd : heads R L ((R L).getD 0 0) := heads_getD hne rfl
    have hin := List.mem_of_mem_head? hhd
    have hw := h.ok.who L _ hin
    generalize (R L).getD 0 0 = x at *
    obtain ⟨k, rfl⟩ := Int.eq_ofNat_of_zero_le hw.1
    refine ⟨k, h1, h2, hhd, by omega, ?_⟩
    have k8 : k < 8 := by omega
    cases hok : (J k).over
    · rfl
    · exfalso
      unfold JS.over at hok
      rw [Bool.and_eq_true, decide_eq_true_eq] at hok
      have ht := h.dt k k8 hok.1
      rcases h.mem k k8 L hin with ⟨j, hj, -⟩ | ⟨c, -⟩
      · omega
      · omega)
  intro i hi
  cases ho : (J i).over
  · exact absurd ⟨hi, ho⟩ (hn i)
  · rfl
/-- All the steps that there are. -/
def most (J : Nat → JS) : Nat → Nat
  | 0 => 0
  | k + 1 => most J k + (2 * (J k).xs.length + 1)
theorem Inv.val_le {R : Int → List Int} {n : Nat} {J : Nat → JS} (h : Inv R n J) {i : Nat} (hi : i < 8) : val (J i) ≤ 2 * (J i).xs.length + 1 := by
  have h1 := h.t i hi
  have h2 := h.g i hi
  have h3 := Bool.toNat_le (J i).d
  unfold val
  omega
theorem Inv.total_le {R : Int → List Int} {n : Nat} {J : Nat → JS} (h : Inv R n J) : ∀ k, k ≤ 8 → total J k ≤ most J k
  | 0, _ => Nat.le_refl _
  | k + 1, hk => by
    have := h.total_le k (by omega)
    have := h.val_le (i := k) (by omega)
    simp only [total, most]
    omega
theorem Inv.all_over {R : Int → List Int} {n : Nat} {J : Nat → JS} (h : Inv R n J) : ∀ k, k ≤ 8 → most J k ≤ total J k → ∀ i, i < k → (J i).over = true
  | 0, _, _, i, hi => by omega
  | k + 1, hk, hm, i, hi => by
    have h1 := h.total_le k (by omega)
    have h2 := h.val_le (i := k) (by omega)
    simp only [total, most] at hm
    by_cases e : i = k
    · subst e
      have hv : val (J i) = 2 * (J i).xs.length + 1 := by omega
      have a1 := h.t i (by omega)
      have a2 := h.g i (by omega)
      have a3 := Bool.toNat_le (J i).d
      unfold val at hv
      unfold JS.over
      cases hd : (J i).d
      · rw [hd] at hv
        have : (false : Bool).toNat = 0 := rfl
        omega
      · rw [hd] at hv
        have : (true : Bool).toNat = 1 := rfl
        rw [decide_eq_true (show (J i).g = (J i).xs.length by omega)]
        rfl
    · exact h.all_over k (by omega) (by omega) i (by omega)
end Go.Proofs.Ytgegahnjhaldeaa.Lk
