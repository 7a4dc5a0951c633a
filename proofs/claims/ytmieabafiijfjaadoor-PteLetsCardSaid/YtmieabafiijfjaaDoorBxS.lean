/-
  A boxed argument, and what stands beside it while a law is walked.
-/
import Derived.Test.YtmieabafiijfjaaDoorRow
import Derived.Test.YtmieabafiijfjaaDoorSteady
set_option maxRecDepth 4000
namespace Go.Proofs.YtmieabafiijfjaaDoor
open Go.RowKit

/-- The box of an argument stands, and nothing that was there is changed. -/
structure BxS (w W : World) (t : TypeId) (cs : Array Value) : Prop where
  c : W.heap[w.heap.size]? = some (.cells cs t (0, 0))
  bel : Below w.heap.size w W
section
variable {w W W' : World} {t : TypeId} {cs : Array Value}
theorem BxS.lt (h : BxS w W t cs) : w.heap.size < W.heap.size := (Array.getElem?_eq_some_iff.1 h.c).1
theorem BxS.low (h : BxS w W t cs) (hb : Below W.heap.size W W') : BxS w W' t cs := ⟨(hb.block _ h.lt).trans h.c, h.bel.trans (hb.mono h.bel.size)⟩
theorem BxS.drew (h : BxS w W t cs) : BxS w W.drew t cs := ⟨h.c, h.bel.drew⟩
theorem BxS.new (w : World) (t : TypeId) (cs : Array Value) : BxS w (w.alloc (.cells cs t)) t cs := ⟨by show (w.heap.push _)[w.heap.size]? = _; simp, (Below.refl _ _).alloc (Nat.le_refl _) _⟩
theorem BxS.cell (h : BxS w W t cs) (i : Nat) : W.cell? ⟨w.heap.size, i, none⟩ = cs[i]? := cell_of_row W _ i _ t _ h.c
end
theorem eqq {α : Type} [BEq α] [ReflBEq α] (a : α) : (a == a) = true := by simp
end Go.Proofs.YtmieabafiijfjaaDoor
