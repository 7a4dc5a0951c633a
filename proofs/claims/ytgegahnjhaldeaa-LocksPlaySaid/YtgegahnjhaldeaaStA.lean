/-
  Who can never go on, plain: the greatest of all sets that are closed is what is left when those are struck out who can go on.
-/
import Derived.Test.YtgegahnjhaldeaaLkW
import Derived.Test.YtgegahnjhaldeaaRlD
namespace Go.Proofs.Ytgegahnjhaldeaa.Lk

theorem waitsFor_mono {R : Int → List Int} {n : Nat} {x : Int} {ss ts : List Int} (h : ∀ y ∈ ss, y ∈ ts) (hw : waitsFor R n x ss = true) : waitsFor R n x ts = true := by
  unfold waitsFor at *
  obtain ⟨L, hL, hy⟩ := List.any_eq_true.1 hw
  obtain ⟨y, hy1, hy2⟩ := List.any_eq_true.1 hy
  exact List.any_eq_true.2 ⟨L, hL, List.any_eq_true.2 ⟨y, h y hy1, hy2⟩⟩
def closedB (R : Int → List Int) (n : Nat) (ss : List Int) : Bool := ss.all fun x => waitsFor R n x ss
theorem step_sub (R : Int → List Int) (n : Nat) (ss : List Int) : (step R n ss).Sublist ss := List.filter_sublist
theorem stuckF_sub (R : Int → List Int) (n : Nat) : ∀ k ss, (stuckF R n k ss).Sublist ss
  | 0, ss => List.Sublist.refl _
  | k + 1, ss => by
    show (if _ then _ else _ : List Int).Sublist ss
    split
    · exact step_sub R n ss
    · exact (stuckF_sub R n k _).trans (step_sub R n ss)
theorem stuckF_top {R : Int → List Int} {n : Nat} {T : List Int} (hT : closedB R n T = true) : ∀ k ss, (∀ x ∈ T, x ∈ ss) → ∀ x ∈ T, x ∈ stuckF R n k ss
  | 0, ss, h => h
  | k + 1, ss, h => by
    have hs : ∀ x ∈ T, x ∈ step R n ss := fun x hx => by
      have := waitsFor_mono h (List.all_eq_true.1 hT x hx)
      exact List.mem_filter.2 ⟨h x hx, by simpa using this⟩
    intro x hx
    show x ∈ (if _ then _ else _ : List Int)
    split
    · exact hs x hx
    · exact stuckF_top hT k _ hs x hx
theorem iota_rise (k : Nat) : (iota k).Pairwise (· < ·) := by
  unfold iota
  rw [List.pairwise_map]
  refine List.Pairwise.imp ?_ List.pairwise_lt_range
  intro a b h
  exact Int.ofNat_lt.2 h
theorem iota_mem (k : Nat) (x : Int) : x ∈ iota k ↔ 0 ≤ x ∧ x < k := by
  unfold iota
  rw [List.mem_map]
  constructor
  · rintro ⟨j, hj, rfl⟩
    rw [List.mem_range] at hj
    exact ⟨Int.natCast_nonneg j, Int.ofNat_lt.2 hj⟩
  · rintro ⟨h0, h1⟩
    exact ⟨x.toNat, by rw [List.mem_range]; omega, Int.toNat_of_nonneg h0⟩
structure Gs (R : Int → List Int) (n : Nat) (G : List Int) : Prop where
  rise : G.Pairwise (· < ·)
  rng : ∀ x ∈ G, 0 ≤ x ∧ x < 8
  closed : closedB R n G = true
theorem stuck_gs (R : Int → List Int) (n : Nat) : Gs R n (stuck R n) := by
  have hsub := stuckF_sub R n 9 (iota 8)
  refine ⟨(iota_rise 8).sublist hsub, fun x hx => by have := (iota_mem 8 x).1 (hsub.subset hx); omega, ?_⟩
  obtain ⟨S, h1, h2, -⟩ := stuckF_fix R n (fun _ => True) 9 (iota 8) (by decide) (fun _ _ => trivial)
  have hall := (List.length_filter_eq_length_iff).1 h2
  have he : step R n S = S := List.filter_eq_self.2 hall
  unfold stuck
  rw [h1, he]
  exact List.all_eq_true.2 fun x hx => by simpa using hall x hx
theorem stuck_top {R : Int → List Int} {n : Nat} {T : List Int} (h : Gs R n T) : ∀ x ∈ T, x ∈ stuck R n :=
  stuckF_top h.closed 9 (iota 8) fun x hx => (iota_mem 8 x).2 (by have := h.rng x hx; omega)
theorem asc_sub {A B : List Int} (hA : A.Pairwise (· < ·)) (hB : B.Pairwise (· < ·)) (h : ∀ x ∈ A, x ∈ B) : A.Sublist B := by
  have : A = B.filter fun x => decide (x ∈ A) := Srt.strict_ext hA (hB.sublist List.filter_sublist) fun z => by
    rw [List.mem_filter]
    constructor
    · exact fun hz => ⟨h z hz, by simpa using hz⟩
    · exact fun hz => by simpa using hz.2
  rw [this]
  exact List.filter_sublist
/-- The numbers whose bits a set has. -/
def bitsU (s : Nat) : Nat → List Int
  | 0 => []
  | k + 1 => bitsU s k ++ (if s / 2 ^ k % 2 = 1 then [(k : Int)] else [])
def l8 (a b c d e f g h : Bool) : List Int :=
  (if a then [0] else []) ++ (if b then [1] else []) ++ (if c then [2] else []) ++ (if d then [3] else []) ++ (if e then [4] else []) ++ (if f then [5] else []) ++ (if g then [6] else []) ++ (if h then [7] else [])
theorem bits_l8 : ∀ a b c d e f g h : Bool, bitsU (a.toNat + 2 * b.toNat + 4 * c.toNat + 8 * d.toNat + 16 * e.toNat + 32 * f.toNat + 64 * g.toNat + 128 * h.toNat) 8 = l8 a b c d e f g h := by decide +kernel
theorem l8_rise : ∀ a b c d e f g h : Bool, (l8 a b c d e f g h).Pairwise (· < ·) := by decide +kernel
theorem l8_mem (G : List Int) (hr : ∀ x ∈ G, 0 ≤ x ∧ x < 8) (z : Int) : z ∈ l8 (decide (0 ∈ G)) (decide (1 ∈ G)) (decide (2 ∈ G)) (decide (3 ∈ G)) (decide (4 ∈ G)) (decide (5 ∈ G)) (decide (6 ∈ G)) (decide (7 ∈ G)) ↔ z ∈ G := by
  have key : ∀ (k : Int), z ∈ (if decide (k ∈ G) = true then [k] else []) ↔ (z = k ∧ k ∈ G) := fun k => by
    by_cases h : k ∈ G
    · simp [h]
    · simp [h]
  unfold l8
  simp only [List.mem_append, key]
  constructor
  · rintro (((((((⟨rfl, h⟩ | ⟨rfl, h⟩) | ⟨rfl, h⟩) | ⟨rfl, h⟩) | ⟨rfl, h⟩) | ⟨rfl, h⟩) | ⟨rfl, h⟩) | ⟨rfl, h⟩) <;> exact h
  · intro h
    have hb := hr z h
    have : z = 0 ∨ z = 1 ∨ z = 2 ∨ z = 3 ∨ z = 4 ∨ z = 5 ∨ z = 6 ∨ z = 7 := by omega
    rcases this with rfl | rfl | rfl | rfl | rfl | rfl | rfl | rfl <;> simp [h]
theorem bits_of {G : List Int} (hs : G.Pairwise (· < ·)) (hr : ∀ x ∈ G, 0 ≤ x ∧ x < 8) : ∃ s, s ≤ 255 ∧ bitsU s 8 = G := by
  refine ⟨_, ?_, (bits_l8 (decide (0 ∈ G)) (decide (1 ∈ G)) (decide (2 ∈ G)) (decide (3 ∈ G)) (decide (4 ∈ G)) (decide (5 ∈ G)) (decide (6 ∈ G)) (decide (7 ∈ G))).trans (Srt.strict_ext (l8_rise _ _ _ _ _ _ _ _) hs (l8_mem G hr))⟩
  have := Bool.toNat_le (decide ((0 : Int) ∈ G))
  have := Bool.toNat_le (decide ((1 : Int) ∈ G))
  have := Bool.toNat_le (decide ((2 : Int) ∈ G))
  have := Bool.toNat_le (decide ((3 : Int) ∈ G))
  have := Bool.toNat_le (decide ((4 : Int) ∈ G))
  have := Bool.toNat_le (decide ((5 : Int) ∈ G))
  have := Bool.toNat_le (decide ((6 : Int) ∈ G))
  have := Bool.toNat_le (decide ((7 : Int) ∈ G))
  omega
theorem bitsU_mem (s : Nat) : ∀ k x, x ∈ bitsU s k → 0 ≤ x ∧ x < (k : Int)
  | 0, x, h => by simp [bitsU] at h
  | k + 1, x, h => by
    unfold bitsU at h
    rcases List.mem_append.1 h with h | h
    · have := bitsU_mem s k x h; omega
    · split at h
      · obtain rfl : x = k := by simpa using h
        omega
      · simp at h
theorem bitsU_rise (s : Nat) : ∀ k, (bitsU s k).Pairwise (· < ·)
  | 0 => List.Pairwise.nil
  | k + 1 => by
    unfold bitsU
    rw [List.pairwise_append]
    refine ⟨bitsU_rise s k, by split <;> simp, fun a ha b hb => ?_⟩
    have h1 := bitsU_mem s k a ha
    split at hb
    · obtain rfl : b = k := by simpa using hb
      omega
    · simp at hb
theorem bitsU_len (s : Nat) : ∀ k, (bitsU s k).length ≤ k
  | 0 => Nat.le_refl _
  | k + 1 => by
    have := bitsU_len s k
    unfold bitsU
    rw [List.length_append]
    split <;> simp <;> omega
theorem bitsU_zero : bitsU 0 8 = [] := by decide +kernel
/-- The best of the sets from s down. -/
def bestF (R : Int → List Int) (n : Nat) : Nat → List Int → List Int
  | 0, b => b
  | s + 1, b => bestF R n s (if b.length < (bitsU (s + 1) 8).length ∧ closedB R n (bitsU (s + 1) 8) = true then bitsU (s + 1) 8 else b)
theorem bestF_eq {R : Int → List Int} {n sG : Nat} (hG : bitsU sG 8 = stuck R n) : ∀ s b, Gs R n b → (b = stuck R n ∨ sG ≤ s) → bestF R n s b = stuck R n
  | 0, b, hb, h => by
    show b = _
    rcases h with h | h
    · exact h
    · obtain rfl : sG = 0 := by omega
      rw [bitsU_zero] at hG
      have := stuck_top hb
      rw [← hG] at this ⊢
      exact List.eq_nil_iff_forall_not_mem.2 fun x hx => by simpa using this x hx
  | s + 1, b, hb, h => by
    have hg := stuck_gs R n
    have hbit : closedB R n (bitsU (s + 1) 8) = true → Gs R n (bitsU (s + 1) 8) := fun hc => ⟨bitsU_rise _ 8, fun x hx => by have := bitsU_mem _ 8 x hx; omega, hc⟩
    have hbs := asc_sub hb.rise hg.rise (stuck_top hb)
    show bestF R n s (if _ then _ else _) = _
    split
    · rename_i hc
      have hbb := hbit hc.2
      have hbs2 := asc_sub hbb.rise hg.rise (stuck_top hbb)
      refine bestF_eq hG s _ hbb ?_
      rcases h with h | h
      · have := hbs2.length_le
        rw [h] at hc
        omega
      · by_cases e : sG = s + 1
        · subst e; exact .inl hG
        · exact .inr (by omega)
    · rename_i hc
      refine bestF_eq hG s b hb ?_
      rcases h with h | h
      · exact .inl h
      · by_cases e : sG = s + 1
        · subst e
          rw [hG] at hc
          have : ¬ b.length < (stuck R n).length := fun h1 => hc ⟨h1, hg.closed⟩
          exact .inl (hbs.eq_of_length_le (by omega))
        · exact .inr (by omega)
theorem best_stuck (R : Int → List Int) (n : Nat) : bestF R n 255 [] = stuck R n := by
  have hg := stuck_gs R n
  obtain ⟨s, h1, h2⟩ := bits_of hg.rise hg.rng
  exact bestF_eq h2 255 [] ⟨List.Pairwise.nil, fun x hx => by simp at hx, rfl⟩ (.inr h1)
/-- Has one of the first k locks x in its queue, and its holder among them? -/
def fk (R : Int → List Int) (x : Int) (ss : List Int) : Nat → Bool
  | 0 => false
  | k + 1 => fk R x ss k || (((R k).tail.any fun y => x == y) && ss.any fun y => hd (R k) == y)
theorem fk_eq {R : Int → List Int} {m : Nat} (hok : Ok R m) (x : Int) (ss : List Int) : ∀ n, fk R x ss n = waitsFor R n x ss
  | 0 => rfl
  | n + 1 => by
    have ih := fk_eq hok x ss n
    show (fk R x ss n || _) = (which (waits x) R n ++ (if waits x (R n) = true then [(n : Int)] else [])).any _
    rw [ih, List.any_append, waits_tail hok]
    congr 1
    cases hr : R (n : Int) with
    | nil => simp
    | cons a t =>
      cases ht : (a :: t).tail.any fun y => x == y
      · simp
      · rw [if_pos rfl, Bool.true_and, List.any_cons, List.any_nil, Bool.or_false, hr]
        rfl
end Go.Proofs.Ytgegahnjhaldeaa.Lk
