/-
  Contracts of the reference of layer 3: Find, masked.
-/
import Derived.Test.YteknlcigfjdmdaaDoorRefRows
namespace Go.Proofs.YteknlcigfjdmdaaDoor
open Go.ChangeShapes Go.WideShapes Go.ChangeAt Go.RowKit Wd

theorem flat4 {α β : Type} (f : α → List β) (hf : ∀ x, (f x).length = 4) (l : List α) (k j : Nat) (hj : j < 4) (a : α) (ha : l[k]? = some a) : (l.flatMap f)[k * 4 + j]? = (f a)[j]? := by
  induction l generalizing k with
  | nil => simp at ha
  | cons x xs ih =>
    cases k with
    | zero =>
      simp at ha
      subst ha
      rw [List.flatMap_cons, List.getElem?_append_left (by rw [hf]; omega)]
      simp
    | succ k =>
      rw [List.flatMap_cons, List.getElem?_append_right (by rw [hf]; omega), hf]
      rw [show (k + 1) * 4 + j - 4 = k * 4 + j by omega]
      exact ih k (by simpa using ha)
def rowAt (k : Nat) : Nat × Nat × Nat × Nat := Tab.rows3.getD k (0, 0, 0, 0)
def findRow (op : Int) : Nat × Nat × Nat × Nat := if 1 ≤ op ∧ op ≤ 98 then rowAt (op.toNat - 1) else (0, 0, 0, 0)
theorem rowAt_op : ∀ k : Fin 98, (rowAt k.val).1 = k.val + 1 ∧ Tab.rows3[k.val]? = some (rowAt k.val) := by decide +kernel
/-- The cells of the table, once they lie in a block. -/
def RowsAt (w : World) (g : Nat) : Prop := ∀ k, k < 98 → w.cell? ⟨g, k * 4, none⟩ = some (.int .i64 ((rowAt k).1 : Nat)) ∧ w.cell? ⟨g, k * 4 + 1, none⟩ = some (strV (Tab.names3.getD (rowAt k).2.1 [])) ∧ w.cell? ⟨g, k * 4 + 2, none⟩ = some (.int .u64 ((rowAt k).2.2.1 : Nat)) ∧ w.cell? ⟨g, k * 4 + 3, none⟩ = some (.int .u64 ((rowAt k).2.2.2 : Nat))
theorem rowsAt_new (w : World) : RowsAt (w.alloc (.cells (Tab.rows3.flatMap rowV).toArray 48)) w.heap.size := by
  intro k hk
  have h := (rowAt_op ⟨k, hk⟩).2
  simp only at h
  have c : ∀ j, j < 4 → (w.alloc (.cells (Tab.rows3.flatMap rowV).toArray 48)).cell? ⟨w.heap.size, k * 4 + j, none⟩ = (rowV (rowAt k))[j]? := by
    intro j hj
    rw [cell_of_row _ w.heap.size (k * 4 + j) (Tab.rows3.flatMap rowV).toArray 48 (0, 0) (heap_alloc_new w _)]
    rw [List.getElem?_toArray]
    exact flat4 rowV (fun x => rfl) Tab.rows3 k j hj (rowAt k) h
  exact ⟨c 0 (by omega), c 1 (by omega), c 2 (by omega), c 3 (by omega)⟩
theorem RowsAt.on {w w' : World} {g : Nat} (h : RowsAt w g) (hb : Below w.heap.size w w') (hg : g < w.heap.size) : RowsAt w' g := by
  intro k hk
  obtain ⟨h0, h1, h2, h3⟩ := h k hk
  exact ⟨(hb.cell (by exact hg)).trans h0, (hb.cell (by exact hg)).trans h1, (hb.cell (by exact hg)).trans h2, (hb.cell (by exact hg)).trans h3⟩
def rowAgg (r : Nat × Nat × Nat × Nat) : Value := .agg #[.int .i64 (r.1 : Nat), strV (Tab.names3.getD r.2.1 []), .int .u64 (r.2.2.1 : Nat), .int .u64 (r.2.2.2 : Nat)]

theorem World.heap_size_alloc' (w : World) (o : Obj) : (w.alloc o).heap.size = w.heap.size + 1 := by simp
theorem zero_row (w : World) (o : Obj) :
    ((w.alloc (.cells #[.int .i64 0, .string ⟨#[]⟩, .int .u64 0, .int .u64 0] 48)).alloc o).cell? ⟨w.heap.size, 0, none⟩ = some (.int .i64 0) ∧ ((w.alloc (.cells #[.int .i64 0, .string ⟨#[]⟩, .int .u64 0, .int .u64 0] 48)).alloc o).cell? ⟨w.heap.size, 1, none⟩ = some (.string ⟨#[]⟩) ∧
    ((w.alloc (.cells #[.int .i64 0, .string ⟨#[]⟩, .int .u64 0, .int .u64 0] 48)).alloc o).cell? ⟨w.heap.size, 2, none⟩ = some (.int .u64 0) ∧ ((w.alloc (.cells #[.int .i64 0, .string ⟨#[]⟩, .int .u64 0, .int .u64 0] 48)).alloc o).cell? ⟨w.heap.size, 3, none⟩ = some (.int .u64 0) ∧
    ((w.alloc (.cells #[.int .i64 0, .string ⟨#[]⟩, .int .u64 0, .int .u64 0] 48)).alloc o).frozen? ⟨w.heap.size, 0, none⟩ = false ∧ ((w.alloc (.cells #[.int .i64 0, .string ⟨#[]⟩, .int .u64 0, .int .u64 0] 48)).alloc o).frozen? ⟨w.heap.size, 1, none⟩ = false ∧
    ((w.alloc (.cells #[.int .i64 0, .string ⟨#[]⟩, .int .u64 0, .int .u64 0] 48)).alloc o).frozen? ⟨w.heap.size, 2, none⟩ = false ∧ ((w.alloc (.cells #[.int .i64 0, .string ⟨#[]⟩, .int .u64 0, .int .u64 0] 48)).alloc o).frozen? ⟨w.heap.size, 3, none⟩ = false := by
  refine ⟨?_, ?_, ?_, ?_, ?_, ?_, ?_, ?_⟩ <;> simp [go_sem, World.cell?_alloc_past, World.frozen?_alloc_past]

set_option maxHeartbeats 2000000 in
set_option maxRecDepth 100000 in
theorem refFind_c (op : Int) (w : World) : Calls Tryd.prog 24 #[.int .i64 op] w fun e w' => e = .returned (rowAgg (findRow op)) ∧ Below w.heap.size w w' := by
  go_enter Tryd.func24, Tryd.ntmps24
  go_wp2_with fail
  refine (refRows_c _).mono ?_
  rintro e w1 ⟨rfl, rfl⟩
  have hr := rowsAt_new (w.alloc (.cells #[.int .i64 0, .string ⟨#[]⟩, .int .u64 0, .int .u64 0] 48))
  have hB : Below w.heap.size w ((w.alloc (.cells #[.int .i64 0, .string ⟨#[]⟩, .int .u64 0, .int .u64 0] 48)).alloc (.cells (Tab.rows3.flatMap rowV).toArray 48)) := ((Below.refl _ _).alloc (Nat.le_refl _) _).alloc (by simp) _
  have hz := zero_row w (.cells (Tab.rows3.flatMap rowV).toArray 48)
  simp only [World.heap_size_alloc'] at hr
  generalize ((w.alloc (.cells #[.int .i64 0, .string ⟨#[]⟩, .int .u64 0, .int .u64 0] 48)).alloc (.cells (Tab.rows3.flatMap rowV).toArray 48)) = W2 at *
  have HR := Lib.hid hr
  have HB := Lib.hid hB
  have HZ := Lib.hid hz
  clear hr hB hz
  go_wp2_with fail
  go_loop [4] (fun i => ∃ k : Nat, k ≤ 98 ∧ i = .int .i64 k ∧ (1 ≤ op → op ≤ 98 → (k : Int) ≤ op - 1)) (fun i => 98 - (intOf i).toNat)
  case atStart => exact ⟨0, by omega, rfl, fun _ _ => by omega⟩
  case round =>
    obtain ⟨k, hk, rfl, hle⟩ := hrel
    have HLE := Lib.hid hle
    clear hle
    by_cases hlt : k < 98
    · obtain ⟨c0, c1, c2, c3⟩ := HR.out k hlt
      have hop := (rowAt_op ⟨k, hlt⟩).1
      simp only at hop
      rw [hop] at c0
      have hki : (((k + 1 : Nat)) : Int) = (k : Int) + 1 := by omega
      rw [hki] at c0
      clear hop hki
      by_cases heq : op = (k : Int) + 1
      · have HF := Lib.hid (show findRow op = rowAt k from by unfold findRow; rw [if_pos (by omega), heq]; congr 1)
        have hfo := (rowAt_op ⟨k, hlt⟩).1
        have HFO := Lib.hid hfo
        have t1 : (((k : Int) + 1) == op) = true := by rw [heq]; simp
        have HEQ := Lib.hid heq
        clear heq hfo
        generalize rowAt k = r at *
        obtain ⟨z0, z1, z2, z3, y0, y1, y2, y3⟩ := HZ.out
        go_wp2_with fail
        refine bodyPost_ret (v := rowAgg r) (by simp [results, Tryd.results24, go_sem, rowAgg, HFO.out, z0, z1, z2, z3]) rfl ⟨by rw [HF.out], ?_⟩
        exact (((HB.out.setCell (by exact Nat.le_refl _) _).setCell (by exact Nat.le_refl _) _).setCell (by exact Nat.le_refl _) _).setCell (by exact Nat.le_refl _) _
      · have t1 : (((k : Int) + 1) == op) = false := by simp; omega
        have HN := Lib.hid heq
        clear heq
        go_wp2_with fail
        go_round
        case rel => exact ⟨k + 1, by omega, by go_num, fun h1 h2 => by have := HLE.out h1 h2; have := HN.out; omega⟩
        case measure => simp [intOf]; omega
    · obtain rfl : k = 98 := by omega
      have HF := Lib.hid (show findRow op = (0, 0, 0, 0) from by unfold findRow; rw [if_neg (fun h => by have := HLE.out h.1 h.2; omega)])
      obtain ⟨z0, z1, z2, z3, y0, y1, y2, y3⟩ := HZ.out
      go_wp2_with fail
      refine bodyPost_ret (v := rowAgg (0, 0, 0, 0)) (by simp [results, Tryd.results24, go_sem, rowAgg, z0, z1, z2, z3, Tab.names3, bsOf]) rfl ⟨by rw [HF.out], ?_⟩
      exact (((HB.out.setCell (by exact Nat.le_refl _) _).setCell (by exact Nat.le_refl _) _).setCell (by exact Nat.le_refl _) _).setCell (by exact Nat.le_refl _) _
end Go.Proofs.YteknlcigfjdmdaaDoor
