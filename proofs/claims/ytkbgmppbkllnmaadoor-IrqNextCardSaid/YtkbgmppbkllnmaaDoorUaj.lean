/-
  Contracts of the reference's tables (layers 3 and 4): Names, Rows. The contract of the reference's Number (layer 3): a format's number by its name. Contracts of the reference of layer 4: ends.
-/
import Derived.Test.YtkbgmppbkllnmaaDoorUae
import Derived.Test.YtkbgmppbkllnmaaDoorUai
import Derived.Great.BuildSlice
import Derived.Deep.DeepCutAuto
set_option maxRecDepth 20000
namespace Go.Proofs.YtkbgmppbkllnmaaDoor
open Go.ChangeShapes Go.WideShapes Go.ChangeAt Go.RowKit Wd

def bsOf (l : List UInt8) : ByteArray := ⟨l.toArray⟩
abbrev strV (l : List UInt8) : Value := .string (bsOf l)
theorem info_str : (Tryd.prog.info? 9).map (fun i => (i.zero, i.size, i.bytes)) = some (some (.string ⟨#[]⟩), 1, 16) := by kernel_rfl
set_option maxHeartbeats 4000000 in
set_option maxRecDepth 1000000 in
theorem refNames4_c (w : World) : Calls Tryd.prog 93 #[] w fun e w' => e = .returned (.slice (some ⟨w.heap.size, 0, none⟩) 99 99) ∧ w.alloc (.cells (Tab.names4.map strV).toArray 9) = w' := by
  obtain ⟨i0, hi, hz0, hz1, hz2⟩ := info_parts info_str
  go_enter Tryd.func93, Tryd.ntmps93
  go_upto_region 1 with fail
  apply wp_region_lit
  refine Go.wpList_buildSlice rfl 140 9 99 _ rfl (Tab.names4.map strV).toArray i0 (.string ⟨#[]⟩) Tryd.underlying140 hi hz0 (by rw [hz1]; decide) (by rw [hz1]; decide) (by rw [hz1]; kernel_rfl) ?_
  go_wp2
  go_ret
  exact ⟨rfl, rfl⟩
end Go.Proofs.YtkbgmppbkllnmaaDoor
set_option maxRecDepth 20000
namespace Go.Proofs.YtkbgmppbkllnmaaDoor
open Go.ChangeShapes Go.WideShapes Go.ChangeAt Go.RowKit Wd

theorem names3_eq : ∀ k f : Fin 15, ((bsOf (Tab.names3.getD k.val [])).toList == (bsOf (Tab.names3.getD f.val [])).toList) = decide (k.val = f.val) := by decide +kernel
theorem names3_at : ∀ k : Fin 15, (Tab.names3.map strV)[k.val]? = some (strV (Tab.names3.getD k.val [])) := by
  intro k
  have h : k.val < Tab.names3.length := by have : Tab.names3.length = 15 := by decide +kernel
                                           omega
  simp [List.getD, h]
theorem names3_cell (w : World) (k : Nat) (hk : k < 15) : (w.alloc (.cells (Tab.names3.map strV).toArray 9)).cell? ⟨w.heap.size, k, none⟩ = some (strV (Tab.names3.getD k [])) := by
  rw [cell_of_row _ w.heap.size k (Tab.names3.map strV).toArray 9 (0, 0) (heap_alloc_new w _), List.getElem?_toArray]
  exact names3_at ⟨k, hk⟩
theorem names4_at : ∀ k : Fin 99, (Tab.names4.map strV)[k.val]? = some (strV (Tab.names4.getD k.val [])) := by
  intro k
  have h : k.val < Tab.names4.length := by have : Tab.names4.length = 99 := by decide +kernel
                                           omega
  simp [List.getD, h]
theorem names4_cell (w : World) (k : Nat) (hk : k < 99) : (w.alloc (.cells (Tab.names4.map strV).toArray 9)).cell? ⟨w.heap.size, k, none⟩ = some (strV (Tab.names4.getD k [])) := by
  rw [cell_of_row _ w.heap.size k (Tab.names4.map strV).toArray 9 (0, 0) (heap_alloc_new w _), List.getElem?_toArray]
  exact names4_at ⟨k, hk⟩

end Go.Proofs.YtkbgmppbkllnmaaDoor
set_option maxRecDepth 20000
namespace Go.Proofs.YtkbgmppbkllnmaaDoor
open Go.ChangeShapes Go.WideShapes Go.ChangeAt Go.RowKit Wd

set_option maxHeartbeats 2000000 in
theorem refEnds_no (s t : ByteArray) (w : World) (h : s.size < t.size) : Calls Tryd.prog 103 #[.string s, .string t] w fun e w' => e = .returned (.bool false) ∧ w = w' := by
  have g : decide ((t.size : Int) ≤ s.size) = false := decide_eq_false (by omega)
  go_enter Tryd.func103, Tryd.ntmps103
  go_wp2
  go_ret
  exact ⟨rfl, rfl⟩
set_option maxHeartbeats 2000000 in
theorem refEnds_yes (s t : ByteArray) (w : World) (h : t.size ≤ s.size) (hs : s.size < 1000) : Calls Tryd.prog 103 #[.string s, .string t] w fun e w' => e = .returned (.bool ((s.extract (s.size - t.size) s.size).toList == t.toList)) ∧ w = w' := by
  have g : decide ((t.size : Int) ≤ s.size) = true := decide_eq_true (by omega)
  go_enter Tryd.func103, Tryd.ntmps103
  go_wp2
  go_ret
  exact ⟨rfl, rfl⟩
theorem refEnds_is (s t : ByteArray) (b : Bool) (w : World) (hs : s.size < 1000) (hb : (decide (t.size ≤ s.size) && (s.extract (s.size - t.size) s.size).toList == t.toList) = b) : Calls Tryd.prog 103 #[.string s, .string t] w fun e w' => e = .returned (.bool b) ∧ w = w' := by
  by_cases h : t.size ≤ s.size
  · rw [decide_eq_true h, Bool.true_and] at hb
    rw [← hb]
    exact refEnds_yes s t w h hs
  · rw [decide_eq_false h, Bool.false_and] at hb
    rw [← hb]
    exact refEnds_no s t w (by omega)
end Go.Proofs.YtkbgmppbkllnmaaDoor
