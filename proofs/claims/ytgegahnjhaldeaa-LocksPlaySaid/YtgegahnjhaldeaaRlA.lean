/-
  The reference's locks in memory: a holder and a queue each; what is left alone by whom.
-/
import Derived.Test.YtgegahnjhaldeaaLkV
namespace Go.Proofs.Ytgegahnjhaldeaa
open Go.ChangeShapes Go.WideShapes Go.ChangeAt Go.RowKit
variable {Z : Nat → Prop}

namespace Lk
/-- Who stands first; -1: nobody. -/
def hd : List Int → Int
  | [] => -1
  | x :: _ => x
def updN {α : Type} (f : Nat → α) (k : Nat) (x : α) : Nat → α := fun i => if i = k then x else f i
theorem updN_same {α : Type} (f : Nat → α) (k : Nat) (x : α) : updN f k x k = x := by simp [updN]
theorem updN_other {α : Type} (f : Nat → α) {i k : Nat} (x : α) (h : i ≠ k) : updN f k x i = f i := by simp [updN, h]
end Lk
/-- Only block b is changed, of those that there were. -/
structure OneAt (b : Nat) (w w' : World) : Prop where
  os : w'.os = w.os
  tape : w'.tape = w.tape
  output : w'.output = w.output
  size : w.heap.size ≤ w'.heap.size
  blk : ∀ k, k < w.heap.size → k ≠ b → w'.heap[k]? = w.heap[k]?
theorem OneAt.of_below {b : Nat} {w w' : World} (h : Below w.heap.size w w') : OneAt b w w' := ⟨h.os, h.tape, h.output, h.size, fun k hk _ => h.block k hk⟩
theorem OneAt.trans {b : Nat} {u v w : World} (h : OneAt b u v) (k : OneAt b v w) : OneAt b u w :=
  ⟨k.os.trans h.os, k.tape.trans h.tape, k.output.trans h.output, Nat.le_trans h.size k.size, fun i hi hb => (k.blk i (Nat.lt_of_lt_of_le hi h.size) hb).trans (h.blk i hi hb)⟩
theorem OneAt.setCell {b : Nat} (w : World) (i : Nat) (v : Value) : OneAt b w (w.setCell ⟨b, i, none⟩ v) := by
  have h := (Below.refl 0 w).setCell (p := ⟨b, i, none⟩) (Nat.zero_le _) v
  exact ⟨h.os, h.tape, h.output, h.size, fun k _ hk => heap_setCell_other w ⟨b, i, none⟩ k v hk⟩
theorem OneAt.below {b N : Nat} {w w' : World} (h : OneAt b w w') (hb : N ≤ b) (hN : N ≤ w.heap.size) : Below N w w' := ⟨h.os, h.tape, h.output, h.size, fun k hk => h.blk k (by omega) (by omega)⟩
/-- What is somebody's, and what was made since. -/
def ZN (Z : Nat → Prop) (w w' : World) : Nat → Prop := fun k => Z k ∨ (w.heap.size ≤ k ∧ k < w'.heap.size)
theorem LkAt.one {w w' : World} {base lp mb n : Nat} {R : Int → List Int} (h : LkAt Z w base lp mb n R) {b : Nat} (hz : Z b) (hl : b ≠ lp) (hb : OneAt b w w') : LkAt (ZN Z w w') w' base lp mb n R := by
  have hm : mb < w.heap.size := h.mlt
  have hbm : mb ≠ b := fun e => (h.flt b hz).2 e.symm
  obtain ⟨D, hs, hD, hF, hR, hX, hY⟩ := h.own
  have hrow : ∀ i b' o m c, InI i → hs i = some (b', o, m, c) → b' < w.heap.size ∧ b' ≠ b := fun i b' o m c hi e => by
    refine ⟨?_, fun e2 => (hX i b' o m c hi e).2.2 (e2 ▸ hz)⟩
    rcases hR i hi with ⟨e2, -⟩ | ⟨b2, o2, c2, e2, hS⟩
    · rw [e2] at e; cases e
    · rw [e2] at e; cases e; exact hS.lt
  refine ⟨h.ok, h.n0, h.n1, (World.cell?_of_block (w := w) (a := ⟨lp, 0, none⟩) (hb.blk lp h.lt (Ne.symm hl))).trans h.c0, (World.cell?_of_block (w := w) (a := ⟨lp, 1, none⟩) (hb.blk lp h.lt (Ne.symm hl))).trans h.c1, h.b0, h.b1, Nat.lt_of_lt_of_le h.lt hb.size, h.ne, fun k hk => ?_,
    D, hs, hD.kept (row := some b) ⟨hb.os, hb.tape, hb.output, hb.size, fun i hi hne => hb.blk i hi fun e => hne (e ▸ rfl)⟩ (fun e => hbm (Option.some.inj e)), hF, fun i hi => (hR i hi).keep fun b' o m c e => hb.blk b' (hrow i b' o m c hi e).1 (hrow i b' o m c hi e).2, fun i b' o m c hi e => ?_, hY⟩
  · rcases hk with hk | hk
    · exact ⟨Nat.lt_of_lt_of_le (h.flt k hk).1 hb.size, (h.flt k hk).2⟩
    · exact ⟨hk.2, by omega⟩
  · obtain ⟨x1, x2, x3⟩ := hX i b' o m c hi e
    refine ⟨x1, x2, fun hz' => ?_⟩
    have := (hrow i b' o m c hi e).1
    rcases hz' with hz' | hz'
    · exact x3 hz'
    · omega
/-- The reference's locks: who holds each, who waits. -/
structure RlC (Z : Nat → Prop) (W : World) (rb n : Nat) (H : Nat → Int) (Q : Nat → List Int) : Prop where
  lt : rb < W.heap.size
  zb : Z rb
  hold : ∀ i : Nat, i < n → W.cell? ⟨rb, i * 2, none⟩ = some (.int .i64 (H i))
  que : ∀ i : Nat, i < n → ∃ p cap, W.cell? ⟨rb, i * 2 + 1, none⟩ = some (.slice p (Q i).length cap) ∧ Vw W p (iV (Q i)) ∧ (p = none ∧ cap = 0 ∨ ∃ b, p = some ⟨b, 0, none⟩ ∧ b ≠ rb ∧ b < W.heap.size ∧ Z b) ∧ (Q i).length ≤ cap
  froz : ∀ j, W.frozen? ⟨rb, j, none⟩ = false
abbrev RlAt (Z : Nat → Prop) (W : World) (rb n : Nat) (R : Int → List Int) : Prop := RlC Z W rb n (fun i => Lk.hd (R i)) (fun i => (R i).tail)
theorem Vw.keep2 {w W : World} {p : Option Addr} {xs : List Value} (h : Vw w p xs) (hs : w.heap.size ≤ W.heap.size) (hp : ∀ b off, p = some ⟨b, off, none⟩ → b < w.heap.size → W.heap[b]? = w.heap[b]?) : Vw W p xs := by
  rcases h with h | ⟨b, off, rfl, hlt, hc⟩
  · exact .inl h
  · exact .inr ⟨b, off, rfl, Nat.lt_of_lt_of_le hlt hs, fun j u hj => (World.cell?_of_block (w := w) (a := ⟨b, off + j, none⟩) (hp b off rfl hlt)).trans (hc j u hj)⟩
theorem RlC.keep {W W' : World} {rb n : Nat} {H : Nat → Int} {Q : Nat → List Int} (h : RlC Z W rb n H Q) (hs : W.heap.size ≤ W'.heap.size) (hk : ∀ k, Z k → k < W.heap.size → W'.heap[k]? = W.heap[k]?) {Y : Nat → Prop} (hy : ∀ k, Z k → Y k) : RlC Y W' rb n H Q := by
  have hb := hk rb h.zb h.lt
  refine ⟨Nat.lt_of_lt_of_le h.lt hs, hy _ h.zb, fun i hi => (World.cell?_of_block (a := ⟨rb, i * 2, none⟩) hb).trans (h.hold i hi), fun i hi => ?_, fun j => (World.frozen?_of_block (a := ⟨rb, j, none⟩) hb).trans (h.froz j)⟩
  obtain ⟨p, cap, h1, h2, h3, h4⟩ := h.que i hi
  refine ⟨p, cap, (World.cell?_of_block (a := ⟨rb, i * 2 + 1, none⟩) hb).trans h1, h2.keep2 hs fun b off e hlt => ?_, h3.imp id fun ⟨b, e, e1, e2, e3⟩ => ⟨b, e, e1, Nat.lt_of_lt_of_le e2 hs, hy _ e3⟩, h4⟩
  rcases h3 with ⟨rfl, -⟩ | ⟨b', e', -, e2, e3⟩
  · cases e
  · rw [e'] at e; cases e; exact hk _ e3 e2
theorem RlC.kept {W W' : World} {rb n : Nat} {H : Nat → Int} {Q : Nat → List Int} (h : RlC Z W rb n H Q) (hk : KeptZ Z W W') (hs : W.heap.size ≤ W'.heap.size) : RlC Z W' rb n H Q := h.keep hs (fun k hz _ => hk k hz) fun _ hz => hz
theorem RlC.low {W W' : World} {rb n : Nat} {H : Nat → Int} {Q : Nat → List Int} (h : RlC Z W rb n H Q) (hb : Below W.heap.size W W') : RlC Z W' rb n H Q := h.keep hb.size (fun k _ hk => hb.block k hk) fun _ hz => hz
theorem RlC.weak {W : World} {rb n : Nat} {H : Nat → Int} {Q : Nat → List Int} (h : RlC Z W rb n H Q) {Y : Nat → Prop} (hy : ∀ k, Z k → Y k) : RlC Y W rb n H Q := h.keep (Nat.le_refl _) (fun _ _ _ => rfl) hy
theorem RlC.congr {W : World} {rb n : Nat} {H H' : Nat → Int} {Q Q' : Nat → List Int} (h : RlC Z W rb n H Q) (h1 : ∀ i, i < n → H' i = H i) (h2 : ∀ i, i < n → Q' i = Q i) : RlC Z W rb n H' Q' :=
  ⟨h.lt, h.zb, fun i hi => by rw [h1 i hi]; exact h.hold i hi, fun i hi => by rw [h2 i hi]; exact h.que i hi, h.froz⟩
/-- Another holder. -/
theorem RlC.setH {W : World} {rb n : Nat} {H : Nat → Int} {Q : Nat → List Int} (h : RlC Z W rb n H Q) {k : Nat} (hk : k < n) (x : Int) : RlC Z (W.setCell ⟨rb, k * 2, none⟩ (.int .i64 x)) rb n (Lk.updN H k x) Q := by
  refine ⟨by rw [World.size_setCell]; exact h.lt, h.zb, fun i hi => ?_, fun i hi => ?_, fun j => (World.frozen?_setCell _ _ _ _).trans (h.froz j)⟩
  · by_cases e : i = k
    · subst e; rw [Lk.updN_same]; exact cell_eq (h.hold i hi) _
    · rw [Lk.updN_other H x e, cell_ne (by omega)]; exact h.hold i hi
  · obtain ⟨p, cap, h1, h2, h3, h4⟩ := h.que i hi
    refine ⟨p, cap, by rw [cell_ne (by omega)]; exact h1, h2.far (fun pb po e => ?_) _, by rw [World.size_setCell]; exact h3, h4⟩
    rcases h3 with ⟨rfl, -⟩ | ⟨b', e', e1, -⟩
    · cases e
    · rw [e'] at e; cases e; exact e1
/-- Another queue. -/
theorem RlC.setQ {W : World} {rb n : Nat} {H : Nat → Int} {Q : Nat → List Int} (h : RlC Z W rb n H Q) {k : Nat} (hk : k < n) {p : Option Addr} {cap : Nat} {xs : List Int} (hv : Vw W p (iV xs)) (hp : p = none ∧ cap = 0 ∨ ∃ b, p = some ⟨b, 0, none⟩ ∧ b ≠ rb ∧ b < W.heap.size ∧ Z b) (hc : xs.length ≤ cap) :
    RlC Z (W.setCell ⟨rb, k * 2 + 1, none⟩ (.slice p xs.length cap)) rb n H (Lk.updN Q k xs) := by
  have far : ∀ {p : Option Addr} {cap : Nat} {xs : List Int}, Vw W p (iV xs) → (p = none ∧ cap = 0 ∨ ∃ b, p = some ⟨b, 0, none⟩ ∧ b ≠ rb ∧ b < W.heap.size ∧ Z b) → ∀ i v, Vw (W.setCell ⟨rb, i, none⟩ v) p (iV xs) := fun hv hp i v => hv.far (fun pb po e => by
    rcases hp with ⟨rfl, -⟩ | ⟨b', rfl, e1, -⟩
    · cases e
    · cases e; exact e1) v
  refine ⟨by rw [World.size_setCell]; exact h.lt, h.zb, fun i hi => by rw [cell_ne (by omega)]; exact h.hold i hi, fun i hi => ?_, fun j => (World.frozen?_setCell _ _ _ _).trans (h.froz j)⟩
  by_cases e : i = k
  · subst e
    obtain ⟨p', cap', h1, -⟩ := h.que i hi
    rw [Lk.updN_same]
    exact ⟨_, cap, cell_eq h1 _, far hv hp _ _, by rw [World.size_setCell]; exact hp, hc⟩
  · obtain ⟨p', cap', h1, h2, h3, h4⟩ := h.que i hi
    rw [Lk.updN_other Q xs e]
    exact ⟨p', cap', by rw [cell_ne (by omega)]; exact h1, far h2 h3 _ _, by rw [World.size_setCell]; exact h3, h4⟩
/-- A slice that the call owns: where it lies. -/
theorem own_form3 {w : World} {base : Nat} {e : TypeId} {size : Nat} {v : Value} {n : Nat} {xs : List Value} (h : w.ownsRow base e size v n xs) : ∃ p cap, v = .slice p n cap ∧ Vw w p xs ∧ (p = none ∧ cap = 0 ∨ ∃ b, p = some ⟨b, 0, none⟩ ∧ base ≤ b ∧ b < w.heap.size) ∧ n ≤ cap := by
  obtain ⟨p, cap, rfl, hv, hc, -⟩ := own_form2 h
  refine ⟨p, cap, rfl, hv, ?_, hc⟩
  rcases h.2 with ⟨e, -⟩ | ⟨g, cap', cur, e, hb, hg, -⟩
  · cases e; exact .inl ⟨rfl, rfl⟩
  · cases e; exact .inr ⟨g, rfl, hb, (Array.getElem?_eq_some_iff.1 hg).1⟩
end Go.Proofs.Ytgegahnjhaldeaa
