/-
  Between two worlds only some blocks have changed; others may have been made.
-/
import Derived.Test.YtfjdalepaacmgaaDoorOwn
import Derived.Test.YtfjdalepaacmgaaDoorSteady
import Derived.Lib.SliceRun
import Derived.BigRegion
set_option maxRecDepth 20000
namespace Go.Proofs.YtfjdalepaacmgaaDoor
open Go.ChangeShapes Go.WideShapes Go.ChangeAt Go.RowKit

/-- Between two worlds only blocks of S have changed; others may have been made. -/
structure Chg (S : Nat → Prop) (w w' : World) : Prop where
  os : w'.os = w.os
  tape : w'.tape = w.tape
  output : w'.output = w.output
  size : w.heap.size ≤ w'.heap.size
  block : ∀ k, k < w.heap.size → ¬ S k → w'.heap[k]? = w.heap[k]?
section
variable {S T : Nat → Prop} {u v w w' : World} {b : Nat}
theorem Chg.refl (S : Nat → Prop) (w : World) : Chg S w w := ⟨rfl, rfl, rfl, Nat.le_refl _, fun _ _ _ => rfl⟩
theorem Chg.trans (h : Chg S u v) (k : Chg S v w) : Chg S u w :=
  ⟨k.os.trans h.os, k.tape.trans h.tape, k.output.trans h.output, Nat.le_trans h.size k.size, fun i hi hs => (k.block i (Nat.lt_of_lt_of_le hi h.size) hs).trans (h.block i hi hs)⟩
/-- The second one may change what the first one made. -/
theorem Chg.transN (h : Chg S u v) (k : Chg T v w) (hT : ∀ i, T i → S i ∨ u.heap.size ≤ i) : Chg S u w :=
  ⟨k.os.trans h.os, k.tape.trans h.tape, k.output.trans h.output, Nat.le_trans h.size k.size, fun i hi hs => (k.block i (Nat.lt_of_lt_of_le hi h.size) (fun ht => (hT i ht).elim hs (fun hl => by omega))).trans (h.block i hi hs)⟩
theorem Chg.mono (h : Chg S u v) (hT : ∀ i, S i → T i) : Chg T u v := ⟨h.os, h.tape, h.output, h.size, fun k hk hs => h.block k hk (fun a => hs (hT k a))⟩
theorem Chg.of_below (h : Below w.heap.size w w') : Chg S w w' := ⟨h.os, h.tape, h.output, h.size, fun k hk _ => h.block k hk⟩
theorem Chg.of_cell (hb : S b) (i : Nat) (x : Value) : Chg S w (w.setCell ⟨b, i, none⟩ x) := ⟨rfl, rfl, rfl, by simp, fun k _ hs => heap_setCell_other w ⟨b, i, none⟩ k x (fun e => hs (e ▸ hb))⟩
theorem Chg.of_row (hb : S b) (cs : Array Value) : Chg S w (w.setRow b cs) := ⟨rfl, rfl, rfl, by simp, fun k _ hs => setRow_other w b k cs (fun e => hs (e ▸ hb))⟩
theorem Chg.of_grown {r : Option Nat} (h : w.grownBy w' r) (hr : ∀ k, r = some k → S k) : Chg S w w' := ⟨h.os, h.tape, h.output, h.size, fun k hk hs => h.block k hk (fun e => hs (hr k e.symm))⟩
theorem Chg.below (h : Chg S w w') {N : Nat} (hN : N ≤ w.heap.size) (hS : ∀ k, S k → N ≤ k) : Below N w w' := ⟨h.os, h.tape, h.output, h.size, fun k hk => h.block k (by omega) (fun hs => by have := hS k hs; omega)⟩
theorem Chg.cs {t : TypeId} {cs : Array Value} (h : Chg S w w') (hc : CsAt w b t cs) (hb : ¬ S b) : CsAt w' b t cs := (h.block b hc.lt hb).trans hc
theorem Chg.cell (h : Chg S w w') {p : Addr} {x : Value} (hc : w.cell? p = some x) (hb : ¬ S p.block) : w'.cell? p = some x :=
  (World.cell?_of_block (w := w) (h.block p.block (World.block_lt_of_cell? _ _ hc) hb)).trans hc
theorem Chg.drewN (n : Nat) : Chg S w (w.drewN n) := Chg.of_below ⟨rfl, rfl, rfl, Nat.le_refl _, fun _ _ => rfl⟩
theorem Chg.own {base : Nat} {e : TypeId} {size : Nat} {x : Value} {n : Nat} {xs : List Value} (h : Chg S w w') (ho : w.ownsRow base e size x n xs) (hb : ∀ k, x.ownBlock = some k → ¬ S k) : w'.ownsRow base e size x n xs := by
  refine ⟨ho.1, ho.2.imp id ?_⟩
  rintro ⟨g, cap, cur, rfl, h1, h2, h3⟩
  exact ⟨g, cap, cur, rfl, h1, (h.block g (Array.getElem?_eq_some_iff.1 h2).1 (hb g rfl)).trans h2, h3⟩
end
end Go.Proofs.YtfjdalepaacmgaaDoor
