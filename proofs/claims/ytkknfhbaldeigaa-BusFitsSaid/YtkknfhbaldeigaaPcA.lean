/-
  Plain numbers and lists, no program: what a controller has, where its registers are, and which source is the best (layer 16).
-/
import Derived.Test.YtkknfhbaldeigaaRow
import Derived.Test.YtkknfhbaldeigaaSpec
namespace Go.Proofs.Ytkknfhbaldeigaa.Pc
open Go.RowKit (wrap64)
open Wd

/-- What stands at an offset: 1 priority, 2 waiting, 3 enabled, 4 threshold, 5 claim (0: nothing), and of which source or context. -/
def at_ (n : Int) (off size : Int) : Nat × Nat :=
  if size = 4 ∧ 1 ≤ n ∧ n ≤ 8 then
    (if off % 4 = 0 ∧ 4 ≤ off ∧ off ≤ 124 then (1, (off / 4).toNat)
    else if off = 4096 then (2, 0)
    else if 8192 ≤ off ∧ (off - 8192) % 128 = 0 ∧ (off - 8192) / 128 < 2 * n then (3, ((off - 8192) / 128).toNat)
    else if 2097152 ≤ off ∧ (off - 2097152) % 4096 = 0 ∧ (off - 2097152) / 4096 < 2 * n then (4, ((off - 2097152) / 4096).toNat)
    else if 2097156 ≤ off ∧ (off - 2097156) % 4096 = 0 ∧ (off - 2097156) / 4096 < 2 * n then (5, ((off - 2097156) / 4096).toNat)
    else (0, 0))
  else (0, 0)
theorem at_of {n off size : Int} : ((at_ n off size).1 = 0 ∧ (at_ n off size).2 = 0) ∨ ((at_ n off size).1 = 1 ∧ 1 ≤ (at_ n off size).2 ∧ (at_ n off size).2 < 32) ∨ ((at_ n off size).1 = 2 ∧ (at_ n off size).2 = 0)
    ∨ (3 ≤ (at_ n off size).1 ∧ (at_ n off size).1 ≤ 5 ∧ ((at_ n off size).2 : Int) < 2 * n) := by
  unfold at_
  repeat' split
  all_goals (dsimp only; omega)
/-- The set of one source. -/
def one (s : Int) : Int := if 1 ≤ s ∧ s < 32 then onesS s 1 else 0
theorem one_range (s : Int) : 0 ≤ one s ∧ one s < 18446744073709551616 := by
  unfold one
  split
  · exact onesS_range _ _
  · omega
theorem tb_one (s : Int) (i : Nat) : tb (one s) i = (decide ((i : Int) = s) && decide (1 ≤ s ∧ s < 32)) := by
  unfold one
  split
  · rename_i h
    unfold onesS
    rw [tb_word]
    unfold inP
    rw [show decide (1 ≤ s ∧ s < 32) = true by simpa using h, Bool.and_true, ← Bool.decide_and]
    apply decide_eq_decide.2
    omega
  · rename_i h
    rw [tb_zero]
    simp [h]
/-- The best source among those below k, and its priority. -/
def up (S : Int) (pr : Nat → Int) (lv : Int) : Nat → Nat × Int
  | 0 => (0, lv)
  | k + 1 => if tb S k = true ∧ pr k > (up S pr lv k).2 then (k, pr k) else up S pr lv k
def best (S : Int) (pr : Nat → Int) (lv : Int) : Nat := (up S pr lv 32).1
theorem up_lt (S : Int) (pr : Nat → Int) (lv : Int) : ∀ k, (up S pr lv k).1 = 0 ∨ ((up S pr lv k).1 < k ∧ tb S (up S pr lv k).1 = true)
  | 0 => .inl rfl
  | k + 1 => by
    have ih := up_lt S pr lv k
    unfold up
    split
    · rename_i h; right; exact ⟨by simp, h.1⟩
    · rcases ih with h | h
      · exact .inl h
      · exact .inr ⟨by omega, h.2⟩
theorem best_in (S : Int) (pr : Nat → Int) (lv : Int) : best S pr lv = 0 ∨ (best S pr lv < 32 ∧ tb S (best S pr lv) = true) := up_lt S pr lv 32
/-- No bit from k on: nothing is better any more. -/
theorem up_stop {S : Int} {pr : Nat → Int} {lv : Int} {k : Nat} (h : ∀ j, k ≤ j → tb S j = false) : ∀ m, k ≤ m → up S pr lv m = up S pr lv k := by
  intro m hm
  obtain ⟨d, rfl⟩ : ∃ d, m = k + d := ⟨m - k, by omega⟩
  induction d with
  | zero => rfl
  | succ d ih =>
    rw [show k + (d + 1) = (k + d) + 1 by omega, up, if_neg (by rw [h (k + d) (by omega)]; simp), ih (by omega)]
/-- The same from the greatest number down: among i and above. -/
def dn (S : Int) (pr : Nat → Int) (lv : Int) : Nat → Nat
  | 0 => 0
  | k + 1 => if tb S (31 - k) = true ∧ pr (31 - k) > lv ∧ (dn S pr lv k = 0 ∨ pr (31 - k) ≥ pr (dn S pr lv k)) then 31 - k else dn S pr lv k
def Good (S : Int) (pr : Nat → Int) (lv : Int) (P : Nat → Prop) (f : Nat) : Prop :=
  (f = 0 ∧ ∀ i, P i → tb S i = true → pr i ≤ lv) ∨ (P f ∧ tb S f = true ∧ pr f > lv ∧ ∀ i, P i → tb S i = true → pr i ≤ pr f ∧ (pr i = pr f → f ≤ i))
theorem up_good {S : Int} {pr : Nat → Int} {lv : Int} (h0 : tb S 0 = false) : ∀ k, Good S pr lv (fun i => 1 ≤ i ∧ i < k) (up S pr lv k).1 ∧ (((up S pr lv k).1 = 0 ∧ (up S pr lv k).2 = lv) ∨ (1 ≤ (up S pr lv k).1 ∧ (up S pr lv k).2 = pr (up S pr lv k).1))
  | 0 => ⟨.inl ⟨rfl, fun i h => by omega⟩, .inl ⟨rfl, rfl⟩⟩
  | k + 1 => by
    obtain ⟨ih, il⟩ := up_good (pr := pr) (lv := lv) h0 k
    unfold up
    split
    · rename_i h
      have hk : k ≠ 0 := fun e => by rw [e, h0] at h; simp at h
      refine ⟨.inr ⟨⟨by simp only; omega, by simp only; omega⟩, h.1, ?_, fun i hi hb => ?_⟩, .inr ⟨by simp only; omega, rfl⟩⟩
      · simp only
        rcases il with il | il
        · rw [il.2] at h; exact h.2
        · rcases ih with ih | ih
          · omega
          · have := ih.2.2.1; rw [il.2] at h; omega
      · simp only at hi ⊢
        by_cases hik : i = k
        · subst hik; exact ⟨Int.le_refl _, fun _ => Nat.le_refl _⟩
        · rcases ih with ih | ih
          · have := ih.2 i ⟨hi.1, by omega⟩ hb
            rcases il with il | il
            · rw [il.2] at h; exact ⟨by omega, fun e => by omega⟩
            · omega
          · have := ih.2.2.2 i ⟨hi.1, by omega⟩ hb
            rcases il with il | il
            · have := ih.1; omega
            · rw [il.2] at h; exact ⟨by omega, fun e => by omega⟩
    · rename_i h
      refine ⟨?_, il⟩
      rcases ih with ih | ih
      · refine .inl ⟨ih.1, fun i hi hb => ?_⟩
        by_cases hik : i = k
        · subst hik
          rcases il with il | il
          · rw [il.2] at h
            exact Int.not_lt.1 fun hc => h ⟨hb, hc⟩
          · omega
        · exact ih.2 i ⟨hi.1, by omega⟩ hb
      · refine .inr ⟨⟨ih.1.1, by have := ih.1.2; omega⟩, ih.2.1, ih.2.2.1, fun i hi hb => ?_⟩
        by_cases hik : i = k
        · subst hik
          rcases il with il | il
          · have := ih.1.1; omega
          · rw [il.2] at h
            have : pr i ≤ pr (up S pr lv i).1 := Int.not_lt.1 fun hc => h ⟨hb, hc⟩
            exact ⟨this, fun _ => by have := ih.1.2; omega⟩
        · exact ih.2.2.2 i ⟨hi.1, by omega⟩ hb
theorem dn_good {S : Int} {pr : Nat → Int} {lv : Int} : ∀ k, k ≤ 31 → Good S pr lv (fun i => 32 - k ≤ i ∧ i < 32) (dn S pr lv k)
  | 0, _ => .inl ⟨rfl, fun i h => by omega⟩
  | k + 1, hk => by
    have ih := dn_good (S := S) (pr := pr) (lv := lv) k (by omega)
    unfold dn
    split
    · rename_i h
      refine .inr ⟨⟨by omega, by omega⟩, h.1, h.2.1, fun i hi hb => ?_⟩
      by_cases hik : i = 31 - k
      · subst hik; exact ⟨Int.le_refl _, fun _ => Nat.le_refl _⟩
      · rcases ih with ih | ih
        · have := ih.2 i ⟨by omega, hi.2⟩ hb
          exact ⟨by omega, fun e => by omega⟩
        · have := ih.2.2.2 i ⟨by omega, hi.2⟩ hb
          have h2 := h.2.2
          have h3 := ih.1
          rcases h2 with h2 | h2
          · omega
          · exact ⟨by omega, fun e => by omega⟩
    · rename_i h
      rcases ih with ih | ih
      · refine .inl ⟨ih.1, fun i hi hb => ?_⟩
        by_cases hik : i = 31 - k
        · subst hik
          exact Int.not_lt.1 fun hc => h ⟨hb, hc, .inl ih.1⟩
        · exact ih.2 i ⟨by omega, hi.2⟩ hb
      · have h3 := ih.1
        refine .inr ⟨⟨by omega, by omega⟩, ih.2.1, ih.2.2.1, fun i hi hb => ?_⟩
        by_cases hik : i = 31 - k
        · subst hik
          have : pr (31 - k) < pr (dn S pr lv k) := by
            apply Int.not_le.1
            intro hc
            exact h ⟨hb, by have := ih.2.2.1; omega, .inr hc⟩
          exact ⟨by omega, fun e => by omega⟩
        · exact ih.2.2.2 i ⟨by omega, hi.2⟩ hb
theorem good_one {S : Int} {pr : Nat → Int} {lv : Int} {P : Nat → Prop} {f g : Nat} (hf : Good S pr lv P f) (hg : Good S pr lv P g) : f = g := by
  rcases hf with hf | hf
  · rcases hg with hg | hg
    · omega
    · have := hf.2 g hg.1 hg.2.1; have := hg.2.2.1; omega
  · rcases hg with hg | hg
    · have := hg.2 f hf.1 hf.2.1; have := hf.2.2.1; omega
    · have a := hf.2.2.2 g hg.1 hg.2.1
      have b := hg.2.2.2 f hf.1 hf.2.1
      have e : pr f = pr g := by omega
      have := a.2 e.symm
      have := b.2 e
      omega
theorem dn_up {S : Int} {pr : Nat → Int} {lv : Int} (h0 : tb S 0 = false) : dn S pr lv 31 = best S pr lv := by
  refine good_one (P := fun i => 1 ≤ i ∧ i < 32) ?_ (up_good h0 32).1
  have := dn_good (S := S) (pr := pr) (lv := lv) 31 (by omega)
  simpa using this
end Go.Proofs.Ytkknfhbaldeigaa.Pc
