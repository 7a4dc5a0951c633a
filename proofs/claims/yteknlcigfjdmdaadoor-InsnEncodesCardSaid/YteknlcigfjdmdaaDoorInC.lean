/-
  Contracts of insn.parts, signSize, mask: a format's pieces, the size of its sign, the bits that it fixes.
-/
import Derived.Test.YteknlcigfjdmdaaDoorInB
namespace Go.Proofs.YteknlcigfjdmdaaDoor
open Go.ChangeShapes Go.WideShapes Go.ChangeAt Go.RowKit Wd

abbrev Part := Int × Int × Int
def partV (p : Part) : List Value := [.int .i64 p.1, .int .i64 p.2.1, .int .i64 p.2.2]
def partsL (f : Int) : List Part := if f = 2 then [(20, 12, 0)] else if f = 3 then [(25, 7, 5), (7, 5, 0)] else if f = 4 then [(31, 1, 12), (7, 1, 11), (25, 6, 5), (8, 4, 1)] else if f = 5 then [(12, 20, 12)] else if f = 6 then [(31, 1, 20), (12, 8, 12), (20, 1, 11), (21, 10, 1)] else if f = 7 then [(20, 6, 0)] else if f = 8 then [(20, 5, 0)] else []
def PartsAt (w : World) (g : Nat) (L : List Part) : Prop := ∀ k p, L[k]? = some p → w.cell? ⟨g, k * 3, none⟩ = some (.int .i64 p.1) ∧ w.cell? ⟨g, k * 3 + 1, none⟩ = some (.int .i64 p.2.1) ∧ w.cell? ⟨g, k * 3 + 2, none⟩ = some (.int .i64 p.2.2)
theorem parts_new (W : World) (t : TypeId) (L : List Part) : PartsAt (W.alloc (.cells (L.flatMap partV).toArray t)) W.heap.size L := by
  intro k s hk
  have c : ∀ j, j < 3 → (W.alloc (.cells (L.flatMap partV).toArray t)).cell? ⟨W.heap.size, k * 3 + j, none⟩ = (partV s)[j]? := by
    intro j hj
    rw [cell_of_row _ W.heap.size (k * 3 + j) (L.flatMap partV).toArray t (0, 0) (heap_alloc_new W _)]
    rw [List.getElem?_toArray]
    exact flatN partV 3 (fun x => rfl) L k j hj s hk
  exact ⟨c 0 (by omega), c 1 (by omega), c 2 (by omega)⟩
/-- What parts hands back: a slice that reads so, in a block of its own. -/
def PtPost (w : World) (L : List Part) (e : Ending) (w' : World) : Prop :=
  (L = [] ∧ e = .returned (.slice none 0 0) ∧ w' = w) ∨ (L ≠ [] ∧ e = .returned (.slice (some ⟨w.heap.size, 0, none⟩) L.length L.length) ∧ PartsAt w' w.heap.size L ∧ Below w.heap.size w w' ∧ w.heap.size < w'.heap.size)
theorem pt_yes (w : World) (t : TypeId) (L : List Part) (h : L ≠ []) : PtPost w L (.returned (.slice (some ⟨w.heap.size, 0, none⟩) L.length L.length)) (w.alloc (.cells (L.flatMap partV).toArray t)) :=
  .inr ⟨h, rfl, parts_new w t L, (Below.refl _ _).alloc (Nat.le_refl _) _, by simp⟩
set_option maxHeartbeats 1000000 in
theorem parts_2 (w : World) : Calls Tryd.prog 41 #[.int .i64 2] w (PtPost w [(20, 12, 0)]) := by
  go_enter Tryd.func41, Tryd.ntmps41
  go_wp2_with fail
  go_ret
  exact pt_yes w 75 [(20, 12, 0)] (by simp)
set_option maxHeartbeats 1000000 in
theorem parts_3 (w : World) : Calls Tryd.prog 41 #[.int .i64 3] w (PtPost w [(25, 7, 5), (7, 5, 0)]) := by
  go_enter Tryd.func41, Tryd.ntmps41
  go_wp2_with fail
  go_ret
  exact pt_yes w 75 [(25, 7, 5), (7, 5, 0)] (by simp)
set_option maxHeartbeats 1000000 in
theorem parts_4 (w : World) : Calls Tryd.prog 41 #[.int .i64 4] w (PtPost w [(31, 1, 12), (7, 1, 11), (25, 6, 5), (8, 4, 1)]) := by
  go_enter Tryd.func41, Tryd.ntmps41
  go_wp2_with fail
  go_ret
  exact pt_yes w 75 [(31, 1, 12), (7, 1, 11), (25, 6, 5), (8, 4, 1)] (by simp)
set_option maxHeartbeats 1000000 in
theorem parts_5 (w : World) : Calls Tryd.prog 41 #[.int .i64 5] w (PtPost w [(12, 20, 12)]) := by
  go_enter Tryd.func41, Tryd.ntmps41
  go_wp2_with fail
  go_ret
  exact pt_yes w 75 [(12, 20, 12)] (by simp)
set_option maxHeartbeats 1000000 in
theorem parts_6 (w : World) : Calls Tryd.prog 41 #[.int .i64 6] w (PtPost w [(31, 1, 20), (12, 8, 12), (20, 1, 11), (21, 10, 1)]) := by
  go_enter Tryd.func41, Tryd.ntmps41
  go_wp2_with fail
  go_ret
  exact pt_yes w 75 [(31, 1, 20), (12, 8, 12), (20, 1, 11), (21, 10, 1)] (by simp)
set_option maxHeartbeats 1000000 in
theorem parts_7 (w : World) : Calls Tryd.prog 41 #[.int .i64 7] w (PtPost w [(20, 6, 0)]) := by
  go_enter Tryd.func41, Tryd.ntmps41
  go_wp2_with fail
  go_ret
  exact pt_yes w 75 [(20, 6, 0)] (by simp)
set_option maxHeartbeats 1000000 in
theorem parts_8 (w : World) : Calls Tryd.prog 41 #[.int .i64 8] w (PtPost w [(20, 5, 0)]) := by
  go_enter Tryd.func41, Tryd.ntmps41
  go_wp2_with fail
  go_ret
  exact pt_yes w 75 [(20, 5, 0)] (by simp)
set_option maxHeartbeats 1000000 in
theorem parts_no (f : Int) (w : World) (h2 : (f == 2) = false) (h3 : (f == 3) = false) (h4 : (f == 4) = false) (h5 : (f == 5) = false) (h6 : (f == 6) = false) (h7 : (f == 7) = false) (h8 : (f == 8) = false) : Calls Tryd.prog 41 #[.int .i64 f] w (PtPost w []) := by
  go_enter Tryd.func41, Tryd.ntmps41
  go_wp2_with fail
  go_ret
  exact .inl ⟨rfl, rfl, rfl⟩
theorem parts_c (f : Int) (w : World) : Calls Tryd.prog 41 #[.int .i64 f] w (PtPost w (partsL f)) := by
  unfold partsL
  by_cases e2 : f = 2
  · rw [if_pos e2, e2]; exact parts_2 w
  rw [if_neg e2]
  by_cases e3 : f = 3
  · rw [if_pos e3, e3]; exact parts_3 w
  rw [if_neg e3]
  by_cases e4 : f = 4
  · rw [if_pos e4, e4]; exact parts_4 w
  rw [if_neg e4]
  by_cases e5 : f = 5
  · rw [if_pos e5, e5]; exact parts_5 w
  rw [if_neg e5]
  by_cases e6 : f = 6
  · rw [if_pos e6, e6]; exact parts_6 w
  rw [if_neg e6]
  by_cases e7 : f = 7
  · rw [if_pos e7, e7]; exact parts_7 w
  rw [if_neg e7]
  by_cases e8 : f = 8
  · rw [if_pos e8, e8]; exact parts_8 w
  rw [if_neg e8]
  exact parts_no f w (by simpa using e2) (by simpa using e3) (by simpa using e4) (by simpa using e5) (by simpa using e6) (by simpa using e7) (by simpa using e8)
def sizeOfSign (f : Int) : Int := if f = 2 then 12 else if f = 3 then 12 else if f = 4 then 13 else if f = 5 then 32 else if f = 6 then 21 else 64
set_option maxHeartbeats 1000000 in
theorem signSize_c (f : Int) (w : World) : Calls Tryd.prog 44 #[.int .i64 f] w fun e w' => e = .returned (.int .i64 (sizeOfSign f)) ∧ w = w' := by
  generalize hc : sizeOfSign f = c
  have HC := Lib.hid hc
  clear hc
  go_enter Tryd.func44, Tryd.ntmps44
  go_wp2_with fail
  all_goals
    first
    | (exfalso; simp_all; done)
    | (go_ret; exact ⟨ret_u (by rw [← HC.out]; simp_all [sizeOfSign]), rfl⟩)
def maskF (f : Int) : Int := if f = 5 then 127 else if f = 6 then 127 else if f = 1 then 4261441663 else if f = 8 then 4261441663 else if f = 7 then 4227887231 else if f = 11 then 4160778367 else if f = 12 then 4193284223 else if f = 14 then 4261445631 else if f = 13 then 4294967295 else 28799
set_option maxHeartbeats 1000000 in
theorem imask_c (f : Int) (w : World) : Calls Tryd.prog 29 #[.int .i64 f] w fun e w' => e = .returned (.int .u32 (maskF f)) ∧ w = w' := by
  generalize hc : maskF f = c
  have HC := Lib.hid hc
  clear hc
  go_enter Tryd.func29, Tryd.ntmps29
  go_wp2_with fail
  all_goals
    first
    | (exfalso; simp_all; done)
    | (go_ret; exact ⟨ret_u (by rw [← HC.out]; simp_all [maskF]), rfl⟩)
end Go.Proofs.YteknlcigfjdmdaaDoor
