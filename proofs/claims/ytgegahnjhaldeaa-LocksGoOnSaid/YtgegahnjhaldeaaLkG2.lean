/-
  Plain: rounds of all eight jobs.
-/
import Derived.Test.YtgegahnjhaldeaaLkY
namespace Go.Proofs.Ytgegahnjhaldeaa.Lk

def AllOver (J : Nat → JS) : Prop := ∀ i, i < 8 → (J i).over = true
/-- In a round that began with the sum T, when the first k have had their steps. -/
def RoundAt (T : Nat) (R : Int → List Int) (J : Nat → JS) (k : Nat) : Prop := AllOver J ∨ T + 1 ≤ total J 8 ∨ (total J 8 = T ∧ Idle R J k)
theorem setJ_self (J : Nat → JS) (i : Nat) : setJ J i (J i) = J := by
  funext k
  by_cases e : k = i
  · subst e; exact setJ_same J k (J k)
  · exact setJ_other J _ e
theorem RoundAt.start (R : Int → List Int) (J : Nat → JS) : RoundAt (total J 8) R J 0 := .inr (.inr ⟨rfl, fun i hi => by omega⟩)
theorem RoundAt.next {T : Nat} {R : Int → List Int} {n : Nat} {J : Nat → JS} {k : Nat} (h : Inv R n J) (hk : k < 8) (hr : RoundAt T R J k) : RoundAt T (stR R n (k : Int) (J k)) (setJ J k (stJ R n (k : Int) (J k))) (k + 1) := by
  have hts := total_set J k (stJ R n (k : Int) (J k)) 8 hk
  rcases hr with ha | ha | ⟨ha, hI⟩
  · have e : stJ R n (k : Int) (J k) = J k := by unfold stJ; simp [ha k hk]
    rw [e, setJ_self]
    exact .inl ha
  · rcases h.goes hk with c | ⟨c, -⟩
    · exact .inr (.inl (by omega))
    · rw [c] at hts; exact .inr (.inl (by rw [c]; omega))
  · rcases h.goes hk with c | ⟨c, -⟩
    · exact .inr (.inl (by omega))
    · have hI2 := hI.step h hk c
      rw [c, setJ_self]
      exact .inr (.inr ⟨ha, hI2⟩)
theorem RoundAt.done {T : Nat} {R : Int → List Int} {n : Nat} {J : Nat → JS} (h : Inv R n J) (hr : RoundAt T R J 8) : T + 1 ≤ total J 8 ∨ AllOver J := by
  rcases hr with ha | ha | ⟨-, hI⟩
  · exact .inr ha
  · exact .inl ha
  · exact .inr (hI.all h)
/-- Who is at its end holds nothing. -/
theorem over_holds {R : Int → List Int} {n : Nat} {J : Nat → JS} (h : Inv R n J) {i : Nat} (hi : i < 8) (ho : (J i).over = true) : which (holds (i : Int)) R n = [] := by
  apply List.eq_nil_iff_forall_not_mem.2
  intro x hx
  obtain ⟨-, -, hq⟩ := (which_mem _ _ _ _).1 hx
  have hh := (holds_iff _ _).1 hq
  unfold JS.over at ho
  rw [Bool.and_eq_true, decide_eq_true_eq] at ho
  have ht := h.dt i hi ho.1
  rcases h.mem i hi x (List.mem_of_mem_head? hh) with ⟨j, hj, -⟩ | ⟨c, -⟩
  · omega
  · omega
theorem most_congr {J K : Nat → JS} : ∀ k, (∀ i, i < k → (J i).xs = (K i).xs) → most J k = most K k
  | 0, _ => rfl
  | k + 1, h => by simp only [most]; rw [most_congr k (fun i hi => h i (by omega)), h k (by omega)]
/-- Before the first step. -/
theorem Inv.zero (n : Nat) (X : Nat → List Int) (hr : ∀ i : Nat, i < 8 → (X i).Pairwise (· < ·)) (hx : ∀ i : Nat, i < 8 → ∀ x ∈ X i, 0 ≤ x ∧ x < (n : Int)) : Inv (fun _ => []) n (fun i => ⟨X i, 0, 0, false⟩) :=
  ⟨⟨fun _ _ => rfl, fun _ _ h => by simp at h, fun _ => List.nodup_nil⟩, hr, hx, fun _ _ => Nat.zero_le _, fun _ _ => Nat.zero_le _, fun _ _ h => (by cases h), fun _ _ _ => rfl, fun i _ j hj => absurd hj (Nat.not_lt_zero _), fun _ _ _ h => absurd h (List.not_mem_nil)⟩
end Go.Proofs.Ytgegahnjhaldeaa.Lk
