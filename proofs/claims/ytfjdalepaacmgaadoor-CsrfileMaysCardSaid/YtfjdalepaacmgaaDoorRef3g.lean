/-
  The contract of the reference's Number (layer 3): a format's number by its name.
-/
import Derived.Test.YtfjdalepaacmgaaDoorRefT
set_option maxRecDepth 20000
namespace Go.Proofs.YtfjdalepaacmgaaDoor
open Go.ChangeShapes Go.WideShapes Go.ChangeAt Go.RowKit Wd

theorem names3_eq : ∀ k f : Fin 15, ((bsOf (Tab.names3.getD k.val [])).toList == (bsOf (Tab.names3.getD f.val [])).toList) = decide (k.val = f.val) := by decide +kernel
theorem names3_at : ∀ k : Fin 15, (Tab.names3.map strV)[k.val]? = some (strV (Tab.names3.getD k.val [])) := by
  intro k
  have h : k.val < Tab.names3.length := by have : Tab.names3.length = 15 := by decide +kernel
                                           omega
  simp [List.getD, h]
theorem names3_cell (w : World) (k : Nat) (hk : k < 15) : (w.alloc (.cells (Tab.names3.map strV).toArray 9)).cell? ⟨w.heap.size, k, none⟩ = some (strV (Tab.names3.getD k [])) := by
  rw [cell_of_row _ w.heap.size k (Tab.names3.map strV).toArray 9 (0, 0) (heap_alloc_new w _), List.getElem?_toArray]
  exact names3_at ⟨k, hk⟩
theorem names4_at : ∀ k : Fin 99, (Tab.names4.map strV)[k.val]? = some (strV (Tab.names4.getD k.val [])) := by
  intro k
  have h : k.val < Tab.names4.length := by have : Tab.names4.length = 99 := by decide +kernel
                                           omega
  simp [List.getD, h]
theorem names4_cell (w : World) (k : Nat) (hk : k < 99) : (w.alloc (.cells (Tab.names4.map strV).toArray 9)).cell? ⟨w.heap.size, k, none⟩ = some (strV (Tab.names4.getD k [])) := by
  rw [cell_of_row _ w.heap.size k (Tab.names4.map strV).toArray 9 (0, 0) (heap_alloc_new w _), List.getElem?_toArray]
  exact names4_at ⟨k, hk⟩

end Go.Proofs.YtfjdalepaacmgaaDoor
