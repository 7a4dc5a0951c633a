/-
  Plain: a job's step keeps what always holds.
-/
import Derived.Test.YtgegahnjhaldeaaLkW
namespace Go.Proofs.Ytgegahnjhaldeaa.Lk

def setJ (J : Nat → JS) (i : Nat) (s : JS) : Nat → JS := fun k => if k = i then s else J k
theorem setJ_same (J : Nat → JS) (i : Nat) (s : JS) : setJ J i s i = s := by simp [setJ]
theorem setJ_other (J : Nat → JS) {i k : Nat} (s : JS) (h : k ≠ i) : setJ J i s k = J k := by simp [setJ, h]
theorem Inv.set {R R' : Int → List Int} {n : Nat} {J : Nat → JS} (h : Inv R n J) (i : Nat) (s : JS) (ok' : Ok R' n) (hx : s.xs = (J i).xs) (ht : s.t ≤ s.xs.length) (hg : s.g ≤ s.xs.length) (hdt : s.d = true → s.t = s.xs.length) (hdg : s.d = false → s.g = 0)
    (hold : ∀ j, j < s.t - s.g → heads R' (s.xs.getD j 0) (i : Int)) (mem : ∀ L, (i : Int) ∈ R' L → (∃ j, j < s.t - s.g ∧ s.xs.getD j 0 = L) ∨ (s.t < s.xs.length ∧ s.xs.getD s.t 0 = L))
    (hold2 : ∀ k : Nat, k < 8 → k ≠ i → ∀ L, heads R L (k : Int) → heads R' L (k : Int)) (mem2 : ∀ k : Nat, k < 8 → k ≠ i → ∀ L, (k : Int) ∈ R' L → (k : Int) ∈ R L) : Inv R' n (setJ J i s) := by
  refine ⟨ok', fun k hk => ?_, fun k hk => ?_, fun k hk => ?_, fun k hk => ?_, fun k hk => ?_, fun k hk => ?_, fun k hk => ?_, fun k hk => ?_⟩
  all_goals by_cases e : k = i
  · subst e; rw [setJ_same, hx]; exact h.rise k hk
  · rw [setJ_other J s e]; exact h.rise k hk
  · subst e; rw [setJ_same, hx]; exact h.rng k hk
  · rw [setJ_other J s e]; exact h.rng k hk
  · subst e; rw [setJ_same]; exact ht
  · rw [setJ_other J s e]; exact h.t k hk
  · subst e; rw [setJ_same]; exact hg
  · rw [setJ_other J s e]; exact h.g k hk
  · subst e; rw [setJ_same]; exact hdt
  · rw [setJ_other J s e]; exact h.dt k hk
  · subst e; rw [setJ_same]; exact hdg
  · rw [setJ_other J s e]; exact h.dg k hk
  · subst e; rw [setJ_same]; exact hold
  · rw [setJ_other J s e]; exact fun j hj => hold2 k hk e _ (h.hold k hk j hj)
  · subst e; rw [setJ_same]; exact mem
  · rw [setJ_other J s e]; exact fun L hL => h.mem k hk L (mem2 k hk e L hL)
theorem heads_getD {R : Int → List Int} {L x : Int} (h : R L ≠ []) (e : (R L).getD 0 0 = x) : heads R L x := by
  unfold heads
  cases hr : R L with
  | nil => exact absurd hr h
  | cons a l => rw [hr] at e; simpa using e
theorem getD_heads {R : Int → List Int} {L x : Int} (h : heads R L x) : R L ≠ [] ∧ (R L).getD 0 0 = x := by
  unfold heads at h
  cases hr : R L with
  | nil => rw [hr] at h; cases h
  | cons a l => rw [hr] at h; exact ⟨by simp, by simpa using h⟩
theorem getD_mem {xs : List Int} {j : Nat} (h : j < xs.length) : xs.getD j 0 ∈ xs := by
  rw [List.getD, List.getElem?_eq_getElem h]
  exact List.getElem_mem h
theorem rise_ne {xs : List Int} (h : xs.Pairwise (· < ·)) {i j : Nat} (hi : i < xs.length) (hj : j < xs.length) (hij : i ≠ j) : xs.getD i 0 ≠ xs.getD j 0 := by
  rcases Nat.lt_or_gt_of_ne hij with c | c
  · have := rise_lt h c hj; omega
  · have := rise_lt h c hi; omega
theorem Inv.step {R : Int → List Int} {n : Nat} {J : Nat → JS} (h : Inv R n J) {i : Nat} (hi : i < 8) : Inv (stR R n (i : Int) (J i)) n (setJ J i (stJ R n (i : Int) (J i))) := by
  have same : setJ J i (J i) = J := by
    funext k
    by_cases e : k = i
    · subst e; exact setJ_same J k (J k)
    · exact setJ_other J _ e
  cases ho : (J i).over
  · by_cases ht : (J i).t < (J i).xs.length
    · -- it takes
      have hd : (J i).d = false := by
        cases c : (J i).d
        · rfl
        · have := h.dt i hi c; omega
      have hg := h.dg i hi hd
      have e1 : stR R n (i : Int) (J i) = take R n (i : Int) ((J i).xs.getD (J i).t 0) := by unfold stR; simp [ho, ht]
      have e2 : stJ R n (i : Int) (J i) = if takeT R n (i : Int) ((J i).xs.getD (J i).t 0) then ⟨(J i).xs, (J i).t + 1, (J i).g, (J i).d⟩ else J i := by unfold stJ; simp [ho, ht]
      rw [e1, e2]
      have hr := h.rng i hi _ (getD_mem ht)
      have hrise := h.rise i hi
      have hhold := h.hold i hi
      have hmem := h.mem i hi
      generalize hy : (J i).xs.getD (J i).t 0 = y at *
      have hhas : has (i : Int) y n = true := has_iff.2 ⟨by omega, by omega, hr.1, hr.2⟩
      have hlt : ∀ j, j < (J i).t - (J i).g → (J i).xs.getD j 0 ≠ y := fun j hj => by
        rw [← hy]; exact rise_ne hrise (by omega) ht (by omega)
      cases hin : (R y).any (fun z => (i : Int) == z)
      · have hni : (i : Int) ∉ R y := fun c => by rw [(any_mem _ _).2 c] at hin; cases hin
        have et : take R n (i : Int) y = upd R y (R y ++ [(i : Int)]) := by unfold take; rw [hhas, hin]; simp
        have hok := ok_take h.ok hhas hin
        have hh2 : ∀ k : Nat, k < 8 → k ≠ i → ∀ L, heads R L (k : Int) → heads (upd R y (R y ++ [(i : Int)])) L (k : Int) := fun k _ _ L hk => by
          by_cases c : L = y
          · subst c
            unfold heads at hk ⊢
            rw [upd_same, List.head?_append, hk]
            rfl
          · unfold heads; rw [upd_other R _ c]; exact hk
        have hm2 : ∀ k : Nat, k < 8 → k ≠ i → ∀ L, (k : Int) ∈ upd R y (R y ++ [(i : Int)]) L → (k : Int) ∈ R L := fun k _ hne L hk => by
          by_cases c : L = y
          · subst c
            rw [upd_same, List.mem_append] at hk
            rcases hk with hk | hk
            · exact hk
            · have : (k : Int) = i := by simpa using hk
              omega
          · rwa [upd_other R _ c] at hk
        have hself : ∀ j, j < (J i).t - (J i).g → heads (upd R y (R y ++ [(i : Int)])) ((J i).xs.getD j 0) (i : Int) := fun j hj => by
          unfold heads; rw [upd_other R _ (hlt j hj)]; exact hhold j hj
        have hmm : ∀ L, (i : Int) ∈ upd R y (R y ++ [(i : Int)]) L → (∃ j, j < (J i).t - (J i).g ∧ (J i).xs.getD j 0 = L) ∨ L = y := fun L hL => by
          by_cases c : L = y
          · exact .inr c
          · rw [upd_other R _ c] at hL
            rcases hmem L hL with c1 | c1
            · exact .inl c1
            · exact .inr (c1.2 ▸ rfl)
        rw [et]
        by_cases he : R y = []
        · have eT : takeT R n (i : Int) y = true := by unfold takeT; rw [hhas, et, upd_same, he]; simp
          rw [eT, if_pos rfl]
          refine h.set i _ hok rfl (show (J i).t + 1 ≤ (J i).xs.length by omega) (h.g i hi) (fun c => by rw [hd] at c; cases c) (fun _ => hg) (fun j hj => ?_) (fun L hL => ?_) hh2 hm2
          · by_cases c : j < (J i).t - (J i).g
            · exact hself j c
            · have : j = (J i).t := by have : j < (J i).t + 1 - (J i).g := hj; omega
              subst this
              show heads _ ((J i).xs.getD (J i).t 0) _
              rw [hy]
              unfold heads
              rw [upd_same, he]
              rfl
          · rcases hmm L hL with ⟨j, c1, c2⟩ | c
            · exact .inl ⟨j, by show j < (J i).t + 1 - (J i).g; omega, c2⟩
            · exact .inl ⟨(J i).t, by show (J i).t < (J i).t + 1 - (J i).g; omega, by rw [c]; exact hy⟩
        · have eT : takeT R n (i : Int) y = false := by
            unfold takeT
            rw [hhas, et, upd_same, Bool.true_and]
            cases hr2 : R y with
            | nil => exact absurd hr2 he
            | cons a l =>
              have : a ≠ (i : Int) := fun c => hni (by rw [hr2, c]; simp)
              simpa using this
          rw [eT, if_neg (by simp)]
          refine h.set i _ hok rfl (h.t i hi) (h.g i hi) (h.dt i hi) (h.dg i hi) hself (fun L hL => ?_) hh2 hm2
          rcases hmm L hL with c | c
          · exact .inl c
          · exact .inr ⟨ht, by rw [c]; exact hy⟩
      · have et : take R n (i : Int) y = R := by unfold take; rw [hhas, hin]; simp
        rw [et]
        have hiy := (any_mem (i : Int) (R y)).1 hin
        cases hT : takeT R n (i : Int) y
        · rw [if_neg (by simp), same]; exact h
        · rw [if_pos rfl]
          have hhd : heads R y (i : Int) := by
            unfold takeT at hT
            rw [hhas, et, Bool.true_and] at hT
            exact heads_getD (fun c => by rw [c] at hiy; simp at hiy) (by simpa using hT)
          refine h.set i _ h.ok rfl (show (J i).t + 1 ≤ (J i).xs.length by omega) (h.g i hi) (fun c => by rw [hd] at c; cases c) (fun _ => hg) (fun j hj => ?_) (fun L hL => ?_) (fun _ _ _ _ c => c) (fun _ _ _ _ c => c)
          · by_cases c : j < (J i).t - (J i).g
            · exact hhold j c
            · have : j = (J i).t := by have : j < (J i).t + 1 - (J i).g := hj; omega
              subst this
              show heads _ ((J i).xs.getD (J i).t 0) _
              rw [hy]; exact hhd
          · rcases hmem L hL with ⟨j, c1, c2⟩ | c
            · exact .inl ⟨j, by show j < (J i).t + 1 - (J i).g; omega, c2⟩
            · exact .inl ⟨(J i).t, by show (J i).t < (J i).t + 1 - (J i).g; omega, by rw [← c.2]; exact hy⟩
    · have hteq : (J i).t = (J i).xs.length := by have := h.t i hi; omega
      cases hd : (J i).d
      · have e1 : stR R n (i : Int) (J i) = R := by unfold stR; simp [ho, ht, hd]
        have e2 : stJ R n (i : Int) (J i) = ⟨(J i).xs, (J i).t, (J i).g, true⟩ := by unfold stJ; simp [ho, ht, hd]
        rw [e1, e2]
        exact h.set i _ h.ok rfl (h.t i hi) (h.g i hi) (fun _ => hteq) (fun c => by cases c) (h.hold i hi) (h.mem i hi) (fun _ _ _ _ c => c) (fun _ _ _ _ c => c)
      · have hgl : (J i).g < (J i).xs.length := by
          have h1 := h.g i hi
          have h2 : (J i).g ≠ (J i).xs.length := fun e => by unfold JS.over at ho; rw [hd, decide_eq_true e] at ho; cases ho
          omega
        have e1 : stR R n (i : Int) (J i) = drop R (i : Int) ((J i).xs.getD ((J i).xs.length - ((J i).g + 1)) 0) := by unfold stR; simp [ho, ht, hd]
        have e2 : stJ R n (i : Int) (J i) = ⟨(J i).xs, (J i).t, (J i).g + 1, (J i).d⟩ := by unfold stJ; simp [ho, ht, hd]
        rw [e1, e2]
        have hhd := h.hold i hi ((J i).xs.length - ((J i).g + 1)) (by omega)
        have hrise := h.rise i hi
        have hhold := h.hold i hi
        have hmem := h.mem i hi
        generalize hy : (J i).xs.getD ((J i).xs.length - ((J i).g + 1)) 0 = y at *
        obtain ⟨hne, hge⟩ := getD_heads hhd
        have et : drop R (i : Int) y = upd R y (R y).tail := by
          unfold drop dropT
          rw [decide_eq_true hne, hge]
          simp
        rw [et]
        have hdis : ∀ j, j < (J i).t - ((J i).g + 1) → (J i).xs.getD j 0 ≠ y := fun j hj => by
          rw [← hy]; exact rise_ne hrise (by omega) (by omega) (by omega)
        refine h.set i _ (ok_tail h.ok hne) rfl (h.t i hi) (show (J i).g + 1 ≤ (J i).xs.length by omega) (fun _ => hteq) (fun c => by rw [hd] at c; cases c) (fun j hj => ?_) (fun L hL => ?_) (fun k _ hk L hL => ?_) (fun k _ hk L hL => ?_)
        · have hj' : j < (J i).t - ((J i).g + 1) := hj
          unfold heads
          rw [upd_other R _ (hdis j hj')]
          exact hhold j (by omega)
        · by_cases c : L = y
          · subst c
            rw [upd_same] at hL
            have hnd := h.ok.nod L
            unfold heads at hhd
            cases hr : R L with
            | nil => rw [hr] at hL; simp at hL
            | cons a l =>
              rw [hr] at hL hnd hhd
              have ea : a = (i : Int) := by simpa using hhd
              rw [List.nodup_cons] at hnd
              exact absurd (ea ▸ hL) hnd.1
          · rw [upd_other R _ c] at hL
            rcases hmem L hL with ⟨j, c1, c2⟩ | c1
            · refine .inl ⟨j, ?_, c2⟩
              show j < (J i).t - ((J i).g + 1)
              have : j ≠ (J i).xs.length - ((J i).g + 1) := fun e => c (by rw [← c2, e, hy])
              omega
            · omega
        · by_cases c : L = y
          · subst c
            unfold heads at hhd hL
            rw [hhd] at hL
            have : (i : Int) = k := by simpa using hL
            omega
          · unfold heads; rw [upd_other R _ c]; exact hL
        · by_cases c : L = y
          · subst c; rw [upd_same] at hL; exact List.mem_of_mem_tail hL
          · rwa [upd_other R _ c] at hL
  · have e1 : stR R n (i : Int) (J i) = R := by unfold stR; simp [ho]
    have e2 : stJ R n (i : Int) (J i) = J i := by unfold stJ; simp [ho]
    rw [e1, e2, same]
    exact h
end Go.Proofs.Ytgegahnjhaldeaa.Lk
