/-
  The eight jobs of the law LocksGoOn, while they are built.
-/
import Derived.Test.YtgegahnjhaldeaaLkG1
import Derived.Test.YtgegahnjhaldeaaLkG2
import Derived.Test.YtgegahnjhaldeaaLive12
import Derived.Test.YtgegahnjhaldeaaOpenLk
namespace Go.Proofs.Ytgegahnjhaldeaa
open Go.ChangeShapes Go.WideShapes Go.ChangeAt Go.RowKit

theorem below_setCell4 {B : Nat} {w W : World} (h : Below B w W) {b o : Nat} (hb : B ≤ b) (v0 v1 v2 v3 : Value) : Below B w (W.setCells b o [v0, v1, v2, v3]) :=
  (((h.setCell (p := ⟨b, o, none⟩) hb v0).setCell (p := ⟨b, o + 1, none⟩) hb v1).setCell (p := ⟨b, o + 2, none⟩) hb v2).setCell (p := ⟨b, o + 3, none⟩) hb v3
theorem cells4_other {W : World} {b o j : Nat} (h : j < o ∨ o + 4 ≤ j) (v0 v1 v2 v3 : Value) : (W.setCells b o [v0, v1, v2, v3]).cell? ⟨b, j, none⟩ = W.cell? ⟨b, j, none⟩ := by
  show ((((W.setCell ⟨b, o, none⟩ v0).setCell ⟨b, o + 1, none⟩ v1).setCell ⟨b, o + 2, none⟩ v2).setCell ⟨b, o + 3, none⟩ v3).cell? ⟨b, j, none⟩ = _
  rw [cell_ne (by omega), cell_ne (by omega), cell_ne (by omega), cell_ne (by omega)]
theorem cells4_there {W : World} {b o : Nat} (h : ∀ j, j < 4 → (W.cell? ⟨b, o + j, none⟩).isSome = true) (v0 v1 v2 v3 : Value) :
    (W.setCells b o [v0, v1, v2, v3]).cell? ⟨b, o, none⟩ = some v0 ∧ (W.setCells b o [v0, v1, v2, v3]).cell? ⟨b, o + 1, none⟩ = some v1 ∧ (W.setCells b o [v0, v1, v2, v3]).cell? ⟨b, o + 2, none⟩ = some v2 ∧ (W.setCells b o [v0, v1, v2, v3]).cell? ⟨b, o + 3, none⟩ = some v3 := by
  obtain ⟨u0, h0⟩ := Option.isSome_iff_exists.1 (h 0 (by omega))
  obtain ⟨u1, h1⟩ := Option.isSome_iff_exists.1 (h 1 (by omega))
  obtain ⟨u2, h2⟩ := Option.isSome_iff_exists.1 (h 2 (by omega))
  obtain ⟨u3, h3⟩ := Option.isSome_iff_exists.1 (h 3 (by omega))
  rw [Nat.add_zero] at h0
  have e : W.setCells b o [v0, v1, v2, v3] = (((W.setCell ⟨b, o, none⟩ v0).setCell ⟨b, o + 1, none⟩ v1).setCell ⟨b, o + 2, none⟩ v2).setCell ⟨b, o + 3, none⟩ v3 := rfl
  rw [e]
  refine ⟨?_, ?_, ?_, ?_⟩
  · rw [cell_ne (by omega), cell_ne (by omega), cell_ne (by omega)]; exact cell_eq h0 v0
  · rw [cell_ne (by omega), cell_ne (by omega)]
    exact cell_eq (u := u1) (by rw [cell_ne (by omega)]; exact h1) v1
  · rw [cell_ne (by omega)]
    exact cell_eq (u := u2) (by rw [cell_ne (by omega), cell_ne (by omega)]; exact h2) v2
  · exact cell_eq (u := u3) (by rw [cell_ne (by omega), cell_ne (by omega), cell_ne (by omega)]; exact h3) v3
theorem cells4_some {W : World} {b o b2 j : Nat} (h : (W.cell? ⟨b2, j, none⟩).isSome = true) (v0 v1 v2 v3 : Value) : ((W.setCells b o [v0, v1, v2, v3]).cell? ⟨b2, j, none⟩).isSome = true := World.isSome_setCells b _ o W _ h
theorem cells4_froz (W : World) (b o : Nat) (v0 v1 v2 v3 : Value) (a : Addr) : (W.setCells b o [v0, v1, v2, v3]).frozen? a = W.frozen? a := by
  show ((((W.setCell ⟨b, o, none⟩ v0).setCell ⟨b, o + 1, none⟩ v1).setCell ⟨b, o + 2, none⟩ v2).setCell ⟨b, o + 3, none⟩ v3).frozen? a = _
  rw [World.frozen?_setCell, World.frozen?_setCell, World.frozen?_setCell, World.frozen?_setCell]
theorem own_far4 {w : World} {base : Nat} {e : TypeId} {size : Nat} {v : Value} {n : Nat} {xs : List Value} (h : w.ownsRow base e size v n xs) {c : Nat} (hc : c < base) (o : Nat) (v0 v1 v2 v3 : Value) : (w.setCells c o [v0, v1, v2, v3]).ownsRow base e size v n xs :=
  own_far (own_far (own_far (own_far h hc _) hc _) hc _) hc _
/-- The first k jobs are built. -/
structure JbAt (W0 W : World) (P : Nat → Option Addr × Nat) (X : Nat → List Int) (k : Nat) : Prop where
  bel : Below W0.heap.size W0 W
  lt : W0.heap.size < W.heap.size
  there : ∀ j, j < 32 → (W.cell? ⟨W0.heap.size, j, none⟩).isSome = true
  froz : ∀ j, W.frozen? ⟨W0.heap.size, j, none⟩ = false
  jobs : ∀ i, i < k → JobAt W W0.heap.size (4 * i) (.slice (P i).1 (X i).length (P i).2) 0 0 false
  rows : ∀ i, i < k → W.ownsRow (W0.heap.size + 1) 3 1 (.slice (P i).1 (X i).length (P i).2) (X i).length (iV (X i))
theorem JbAt.new (W0 : World) (C : Array Value) (t : TypeId) (hC : C.size = 32) (P : Nat → Option Addr × Nat) (X : Nat → List Int) : JbAt W0 (W0.alloc (.cells C t)) P X 0 := by
  have h := CsAt.new W0 t C
  refine ⟨alloc_below _ _, h.lt, fun j hj => ?_, fun j => h.frozen j, fun i hi => by omega, fun i hi => by omega⟩
  rw [h.cell, Array.getElem?_eq_getElem (by omega)]
  rfl
theorem JbAt.low {W0 W W' : World} {P : Nat → Option Addr × Nat} {X : Nat → List Int} {k : Nat} (h : JbAt W0 W P X k) (hb : Below W.heap.size W W') : JbAt W0 W' P X k :=
  ⟨h.bel.trans (hb.mono h.bel.size), Nat.lt_of_lt_of_le h.lt hb.size, fun j hj => by rw [hb.cell (p := ⟨W0.heap.size, j, none⟩) h.lt]; exact h.there j hj, fun j => (World.frozen?_of_block (a := ⟨W0.heap.size, j, none⟩) (hb.block _ h.lt)).trans (h.froz j),
    fun i hi => (h.jobs i hi).low hb, fun i hi => own_low (h.rows i hi) hb⟩
def putP (P : Nat → Option Addr × Nat) (k : Nat) (q : Option Addr × Nat) : Nat → Option Addr × Nat := fun i => if i = k then q else P i
theorem putP_same (P : Nat → Option Addr × Nat) (k : Nat) (q : Option Addr × Nat) : putP P k q k = q := by simp [putP]
theorem putP_other (P : Nat → Option Addr × Nat) {i k : Nat} (q : Option Addr × Nat) (h : i ≠ k) : putP P k q i = P i := by simp [putP, h]
theorem JbAt.next {W0 W : World} {P : Nat → Option Addr × Nat} {X : Nat → List Int} {k : Nat} (h : JbAt W0 W P X k) (hk : k < 8) {p : Option Addr} {cap : Nat}
    (hr : W.ownsRow (W0.heap.size + 1) 3 1 (.slice p (X k).length cap) (X k).length (iV (X k))) : JbAt W0 (W.setCells W0.heap.size (4 * k) [.slice p (X k).length cap, .int .i64 0, .int .i64 0, .bool false]) (putP P k (p, cap)) X (k + 1) := by
  obtain ⟨c0, c1, c2, c3⟩ := cells4_there (W := W) (b := W0.heap.size) (o := 4 * k) (fun j hj => h.there _ (by omega)) (.slice p (X k).length cap) (.int .i64 0) (.int .i64 0) (.bool false)
  refine ⟨below_setCell4 h.bel (Nat.le_refl _) _ _ _ _, Nat.lt_of_lt_of_le h.lt (below_setCell4 (Below.refl W0.heap.size W) (Nat.le_refl _) _ _ _ _).size, fun j hj => cells4_some (h.there j hj) _ _ _ _, fun j => by rw [cells4_froz]; exact h.froz j, fun i hi => ?_, fun i hi => ?_⟩
  · by_cases e : i = k
    · subst e
      rw [putP_same]
      exact ⟨c0, c1, c2, c3, by rw [cells4_froz]; exact h.froz _, by rw [cells4_froz]; exact h.froz _, by rw [cells4_froz]; exact h.froz _⟩
    · rw [putP_other P _ e]
      have hj := h.jobs i (by omega)
      exact ⟨by rw [cells4_other (by omega)]; exact hj.c0, by rw [cells4_other (by omega)]; exact hj.c1, by rw [cells4_other (by omega)]; exact hj.c2, by rw [cells4_other (by omega)]; exact hj.c3,
        by rw [cells4_froz]; exact h.froz _, by rw [cells4_froz]; exact h.froz _, by rw [cells4_froz]; exact h.froz _⟩
  · by_cases e : i = k
    · subst e
      rw [putP_same]
      exact own_far4 hr (by omega) _ _ _ _ _
    · rw [putP_other P _ e]
      exact own_far4 (h.rows i (by omega)) (by omega) _ _ _ _ _
theorem own_nilpos {w : World} {base : Nat} {e : TypeId} {size : Nat} {p : Option Addr} {cap n : Nat} {xs : List Value} (h : w.ownsRow base e size (.slice p n cap) n xs) : p = none ∧ cap = 0 ∨ ∃ b off, p = some ⟨b, off, none⟩ ∧ base ≤ b ∧ b < w.heap.size := by
  obtain ⟨p', cap', e', -, -, hp⟩ := own_form2 h
  cases e'
  rcases hp with hp | ⟨b, off, rfl⟩
  · exact .inl hp
  · obtain ⟨h1, h2⟩ := h.lt b rfl
    exact .inr ⟨b, off, rfl, h1, h2⟩
def J0 (X : Nat → List Int) : Nat → Lk.JS := fun i => ⟨X i, 0, 0, false⟩
/-- All eight are built. -/
theorem JbAt.all {w W0 W : World} {P : Nat → Option Addr × Nat} {X : Nat → List Int} {base lp mb : Nat} (h : JbAt W0 W P X 8) (hL : LkAt (fun _ => False) W0 base lp mb 10 (fun _ => [])) (hw : Below w.heap.size w W0) (hbase : w.heap.size ≤ base)
    (hr : ∀ i : Nat, i < 8 → (X i).Pairwise (· < ·)) (hx : ∀ i : Nat, i < 8 → ∀ x ∈ X i, 0 ≤ x ∧ x < ((10 : Nat) : Int)) :
    GoAt w W base lp mb W0.heap.size P (fun _ => []) (J0 X) ∧ GoB w base lp W0.heap.size P := by
  have hb0 : base ≤ W0.heap.size := by have := hL.b0; have := hL.lt; omega
  refine ⟨⟨hL.more h.bel (fun k hk => ?_), hw.trans (h.bel.mono hw.size), fun i hi => h.jobs i hi, fun i hi => ?_, Lk.Inv.zero 10 X hr hx⟩, ⟨hbase, hb0, by have := hL.lt; omega, fun i hi => ?_, fun i hi pb po e => ?_⟩⟩
  · rcases hk with rfl | ⟨i, hi, off, e⟩
    · exact .inr ⟨Nat.le_refl _, h.lt⟩
    · rcases own_nilpos (h.rows i hi) with ⟨e2, -⟩ | ⟨b, off2, e2, h1, h2⟩
      · rw [e] at e2; cases e2
      · rw [e] at e2; cases e2; exact .inr ⟨by omega, h2⟩
  · obtain ⟨p', cap', e', hv, -⟩ := own_form2 (h.rows i hi)
    cases e'
    exact hv
  · rcases own_nilpos (h.rows i hi) with ⟨e1, e2⟩ | ⟨b, off2, e2, -⟩
    · exact .inl ⟨e1, e2⟩
    · exact .inr ⟨b, off2, e2⟩
  · rcases own_nilpos (h.rows i hi) with ⟨e2, -⟩ | ⟨b, off2, e2, h1, h2⟩
    · rw [e] at e2; cases e2
    · rw [e] at e2; cases e2; omega
theorem Lk.AllOver.next {J : Nat → Lk.JS} (h : Lk.AllOver J) (R : Int → List Int) (n : Nat) {k : Nat} (hk : k < 8) : Lk.AllOver (Lk.setJ J k (Lk.stJ R n (k : Int) (J k))) := by
  have e : Lk.stJ R n (k : Int) (J k) = J k := by unfold Lk.stJ; simp [h k hk]
  rw [e, Lk.setJ_self]
  exact h
/-- In round r, when the first k have had their steps. -/
def RdAt (r T : Nat) (R : Int → List Int) (J : Nat → Lk.JS) (k : Nat) : Prop := Lk.AllOver J ∨ (r ≤ T ∧ Lk.RoundAt T R J k)
theorem RdAt.start {r : Nat} {R : Int → List Int} {J : Nat → Lk.JS} (h : r ≤ Lk.total J 8 ∨ Lk.AllOver J) : RdAt r (Lk.total J 8) R J 0 := h.elim (fun h => .inr ⟨h, Lk.RoundAt.start R J⟩) .inl
theorem RdAt.next {r T : Nat} {R : Int → List Int} {n : Nat} {J : Nat → Lk.JS} {k : Nat} (h : Lk.Inv R n J) (hk : k < 8) (hr : RdAt r T R J k) : RdAt r T (Lk.stR R n (k : Int) (J k)) (Lk.setJ J k (Lk.stJ R n (k : Int) (J k))) (k + 1) :=
  hr.elim (fun h => .inl (h.next R n hk)) fun ⟨h1, h2⟩ => .inr ⟨h1, h2.next h hk⟩
theorem RdAt.done {r T : Nat} {R : Int → List Int} {n : Nat} {J : Nat → Lk.JS} (h : Lk.Inv R n J) (hr : RdAt r T R J 8) : r + 1 ≤ Lk.total J 8 ∨ Lk.AllOver J := by
  rcases hr with h1 | ⟨h1, h2⟩
  · exact .inr h1
  · rcases h2.done h with h3 | h3
    · exact .inl (by omega)
    · exact .inr h3
theorem GoAt.low {w W W' : World} {base lp mb jb : Nat} {P : Nat → Option Addr × Nat} {R : Int → List Int} {J : Nat → Lk.JS} (h : GoAt w W base lp mb jb P R J) (hb : Below W.heap.size W W') : GoAt w W' base lp mb jb P R J :=
  ⟨h.lk.low hb, h.bel.trans (hb.mono h.bel.size), fun i hi => (h.jobs i hi).low hb, fun i hi => (h.rows i hi).low hb, h.inv⟩
end Go.Proofs.Ytgegahnjhaldeaa
