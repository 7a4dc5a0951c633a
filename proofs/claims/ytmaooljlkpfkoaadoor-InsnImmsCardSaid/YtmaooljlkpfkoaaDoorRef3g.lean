/-
  The contract of the reference's Number (layer 3): a format's number by its name.
-/
import Derived.Test.YtmaooljlkpfkoaaDoorRefT
namespace Go.Proofs.YtmaooljlkpfkoaaDoor
open Go.ChangeShapes Go.WideShapes Go.ChangeAt Go.RowKit Wd

theorem names3_eq : ∀ k f : Fin 15, ((bsOf (Tab.names3.getD k.val [])).toList == (bsOf (Tab.names3.getD f.val [])).toList) = decide (k.val = f.val) := by decide +kernel
theorem names3_at : ∀ k : Fin 15, (Tab.names3.map strV)[k.val]? = some (strV (Tab.names3.getD k.val [])) := by
  intro k
  have h : k.val < Tab.names3.length := by have : Tab.names3.length = 15 := by decide +kernel
                                           omega
  simp [List.getD, h]
theorem names3_cell (w : World) (k : Nat) (hk : k < 15) : (w.alloc (.cells (Tab.names3.map strV).toArray 9)).cell? ⟨w.heap.size, k, none⟩ = some (strV (Tab.names3.getD k [])) := by
  rw [cell_of_row _ w.heap.size k (Tab.names3.map strV).toArray 9 (0, 0) (heap_alloc_new w _), List.getElem?_toArray]
  exact names3_at ⟨k, hk⟩
theorem names4_at : ∀ k : Fin 99, (Tab.names4.map strV)[k.val]? = some (strV (Tab.names4.getD k.val [])) := by
  intro k
  have h : k.val < Tab.names4.length := by have : Tab.names4.length = 99 := by decide +kernel
                                           omega
  simp [List.getD, h]
theorem names4_cell (w : World) (k : Nat) (hk : k < 99) : (w.alloc (.cells (Tab.names4.map strV).toArray 9)).cell? ⟨w.heap.size, k, none⟩ = some (strV (Tab.names4.getD k [])) := by
  rw [cell_of_row _ w.heap.size k (Tab.names4.map strV).toArray 9 (0, 0) (heap_alloc_new w _), List.getElem?_toArray]
  exact names4_at ⟨k, hk⟩

set_option maxHeartbeats 2000000 in
theorem refNumber_c (f : Nat) (hf : f < 15) (w : World) : Calls Tryd.prog 23 #[strV (Tab.names3.getD f [])] w fun e w' => e = .returned (.int .i64 f) ∧ Below w.heap.size w w' := by
  show Calls Tryd.prog 23 #[Value.string (bsOf (Tab.names3.getD f []))] w _
  have HE := Lib.hid (fun (k : Nat) (hk : k < 15) => names3_eq ⟨k, hk⟩ ⟨f, hf⟩)
  simp only at HE
  generalize hq : bsOf (Tab.names3.getD f []) = q at *
  clear hq
  go_enter Tryd.func23, Tryd.ntmps23
  go_wp2_with fail
  refine (refNames3_c _).mono ?_
  rintro e w1 ⟨rfl, rfl⟩
  have HC := Lib.hid (names3_cell w)
  have HB := Lib.hid (show Below w.heap.size w (w.alloc (.cells (Tab.names3.map strV).toArray 9)) from (Below.refl _ _).alloc (Nat.le_refl _) _)
  generalize (w.alloc (.cells (Tab.names3.map strV).toArray 9)) = W at *
  go_wp2_with fail
  go_loop [4] (fun i => ∃ k : Nat, k ≤ f ∧ i = .int .i64 k) (fun i => 15 - (intOf i).toNat)
  case atStart => exact ⟨0, by omega, rfl⟩
  case round =>
    obtain ⟨k, hk, rfl⟩ := hrel
    have c : W.cell? ⟨w.heap.size, k, none⟩ = some (.string (bsOf (Tab.names3.getD k []))) := HC.out k (by omega)
    have e := HE.out k (by omega)
    generalize bsOf (Tab.names3.getD k []) = s at *
    by_cases hkf : k = f
    · rw [decide_eq_true hkf] at e
      have HK := Lib.hid hkf
      clear hkf
      go_wp2_with fail
      go_ret
      exact ⟨by rw [HK.out]; rfl, HB.out⟩
    · rw [decide_eq_false hkf] at e
      go_wp2_with fail
      go_round
      case rel => exact ⟨k + 1, by omega, by go_num⟩
      case measure => simp [intOf]; omega
end Go.Proofs.YtmaooljlkpfkoaaDoor
