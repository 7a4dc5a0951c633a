/-
  Contract of the law's Ints: are two lists of numbers the same? Contract of what the law's step hands over: what a job is for. Contract of the law's step (LocksGoOn).
-/
import Derived.Test.YtjeolfcefeglpabGreatXbi
import Derived.Test.YtjeolfcefeglpabGreatXbm
set_option maxRecDepth 20000
namespace Go.Proofs.YtjeolfcefeglpabGreat
open Go.ChangeShapes Go.WideShapes Go.ChangeAt Go.RowKit

theorem eq_of_at {xs ys : List Int} (h : xs.length = ys.length) (he : ∀ i, i < xs.length → (xs.getD i 0 != ys.getD i 0) = false) : xs = ys := by
  apply List.ext_getElem h
  intro i h1 h2
  have := he i h1
  rw [List.getD, List.getD, List.getElem?_eq_getElem h1, List.getElem?_eq_getElem h2] at this
  simpa using this
end Go.Proofs.YtjeolfcefeglpabGreat
set_option maxRecDepth 20000
namespace Go.Proofs.YtjeolfcefeglpabGreat
open Go.ChangeShapes Go.WideShapes Go.ChangeAt Go.RowKit

end Go.Proofs.YtjeolfcefeglpabGreat
set_option maxRecDepth 20000
namespace Go.Proofs.YtjeolfcefeglpabGreat
open Go.ChangeShapes Go.WideShapes Go.ChangeAt Go.RowKit
variable {Z : Nat → Prop}

/-- What stands when the law's step has laid its boxes: N is how many blocks there were. -/
structure BxAt (w W : World) (lq : Option Addr) (b off : Nat) (who : Int) (fine : Bool) : Prop where
  bel : Below w.heap.size w W
  cl : CsAt W w.heap.size 31 #[.pointer lq]
  cj : CsAt W (w.heap.size + 1) 106 #[.pointer (some ⟨b, off, none⟩)]
  cw : CsAt W (w.heap.size + 1 + 1) 3 #[.int .i64 who]
  cf : CsAt W (w.heap.size + 1 + 1 + 1) 4 #[.bool fine]
end Go.Proofs.YtjeolfcefeglpabGreat
