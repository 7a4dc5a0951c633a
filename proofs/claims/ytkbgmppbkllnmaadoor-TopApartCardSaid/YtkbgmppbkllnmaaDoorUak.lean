/-
  The contract of the reference's Class (layer 4).
-/
import Derived.Test.YtkbgmppbkllnmaaDoorUaj
set_option maxRecDepth 20000
namespace Go.Proofs.YtkbgmppbkllnmaaDoor
open Go.ChangeShapes Go.WideShapes Go.ChangeAt Go.RowKit Wd

def classL : List Nat := [0, 2, 2, 3, 3, 4, 4, 4, 4, 4, 4, 5, 5, 5, 5, 5, 5, 5, 6, 6, 6, 6, 1, 1, 1, 1, 1, 1, 1, 1, 1, 1, 1, 1, 1, 1, 1, 1, 1, 1, 1, 1, 1, 1, 1, 1, 1, 1, 1, 1, 9, 9, 10, 10, 1, 1, 1, 1, 1, 1, 1, 1, 1, 1, 1, 1, 1, 7, 7, 7, 7, 7, 7, 7, 7, 7, 7, 7, 7, 7, 7, 7, 7, 7, 7, 7, 7, 7, 7, 8, 8, 8, 8, 8, 8, 10, 10, 10, 10]
def classS (op : Int) : Int := if 1 ≤ op ∧ op ≤ 98 then (classL.getD op.toNat 0 : Nat) else 0

set_option maxHeartbeats 2000000 in
theorem refClass_1 (w : World) : Calls Tryd.prog 91 #[.int .i64 1] w fun e w' => e = .returned (.int .i64 2) ∧ Below w.heap.size w w' := by
  go_enter Tryd.func91, Tryd.ntmps91
  go_wp2_with fail
  refine (refNames4_c _).mono ?_
  rintro e w1 ⟨rfl, rfl⟩
  have c : _ = some (Value.string ⟨#[108, 117, 105]⟩) := names4_cell w 1 (by omega)
  have HB := Lib.hid (show Below w.heap.size w (w.alloc (.cells (Tab.names4.map strV).toArray 9)) from (Below.refl _ _).alloc (Nat.le_refl _) _)
  generalize (w.alloc (.cells (Tab.names4.map strV).toArray 9)) = W at *
  go_wp2_with fail
  go_ret
  exact ⟨rfl, HB.out⟩
set_option maxHeartbeats 2000000 in
theorem refClass_2 (w : World) : Calls Tryd.prog 91 #[.int .i64 2] w fun e w' => e = .returned (.int .i64 2) ∧ Below w.heap.size w w' := by
  go_enter Tryd.func91, Tryd.ntmps91
  go_wp2_with fail
  refine (refNames4_c _).mono ?_
  rintro e w1 ⟨rfl, rfl⟩
  have c : _ = some (Value.string ⟨#[97, 117, 105, 112, 99]⟩) := names4_cell w 2 (by omega)
  have HB := Lib.hid (show Below w.heap.size w (w.alloc (.cells (Tab.names4.map strV).toArray 9)) from (Below.refl _ _).alloc (Nat.le_refl _) _)
  generalize (w.alloc (.cells (Tab.names4.map strV).toArray 9)) = W at *
  go_wp2_with fail
  go_ret
  exact ⟨rfl, HB.out⟩
set_option maxHeartbeats 2000000 in
theorem refClass_3 (w : World) : Calls Tryd.prog 91 #[.int .i64 3] w fun e w' => e = .returned (.int .i64 3) ∧ Below w.heap.size w w' := by
  go_enter Tryd.func91, Tryd.ntmps91
  go_wp2_with fail
  refine (refNames4_c _).mono ?_
  rintro e w1 ⟨rfl, rfl⟩
  have c : _ = some (Value.string ⟨#[106, 97, 108]⟩) := names4_cell w 3 (by omega)
  have HB := Lib.hid (show Below w.heap.size w (w.alloc (.cells (Tab.names4.map strV).toArray 9)) from (Below.refl _ _).alloc (Nat.le_refl _) _)
  generalize (w.alloc (.cells (Tab.names4.map strV).toArray 9)) = W at *
  go_wp2_with fail
  go_ret
  exact ⟨rfl, HB.out⟩
set_option maxHeartbeats 2000000 in
theorem refClass_4 (w : World) : Calls Tryd.prog 91 #[.int .i64 4] w fun e w' => e = .returned (.int .i64 3) ∧ Below w.heap.size w w' := by
  go_enter Tryd.func91, Tryd.ntmps91
  go_wp2_with fail
  refine (refNames4_c _).mono ?_
  rintro e w1 ⟨rfl, rfl⟩
  have c : _ = some (Value.string ⟨#[106, 97, 108, 114]⟩) := names4_cell w 4 (by omega)
  have HB := Lib.hid (show Below w.heap.size w (w.alloc (.cells (Tab.names4.map strV).toArray 9)) from (Below.refl _ _).alloc (Nat.le_refl _) _)
  generalize (w.alloc (.cells (Tab.names4.map strV).toArray 9)) = W at *
  go_wp2_with fail
  go_ret
  exact ⟨rfl, HB.out⟩
set_option maxHeartbeats 2000000 in
theorem refClass_5 (w : World) : Calls Tryd.prog 91 #[.int .i64 5] w fun e w' => e = .returned (.int .i64 4) ∧ Below w.heap.size w w' := by
  go_enter Tryd.func91, Tryd.ntmps91
  go_wp2_with fail
  refine (refNames4_c _).mono ?_
  rintro e w1 ⟨rfl, rfl⟩
  have c : _ = some (Value.string ⟨#[98, 101, 113]⟩) := names4_cell w 5 (by omega)
  have HB := Lib.hid (show Below w.heap.size w (w.alloc (.cells (Tab.names4.map strV).toArray 9)) from (Below.refl _ _).alloc (Nat.le_refl _) _)
  generalize (w.alloc (.cells (Tab.names4.map strV).toArray 9)) = W at *
  go_wp2_with fail
  go_ret
  exact ⟨rfl, HB.out⟩
set_option maxHeartbeats 2000000 in
theorem refClass_6 (w : World) : Calls Tryd.prog 91 #[.int .i64 6] w fun e w' => e = .returned (.int .i64 4) ∧ Below w.heap.size w w' := by
  go_enter Tryd.func91, Tryd.ntmps91
  go_wp2_with fail
  refine (refNames4_c _).mono ?_
  rintro e w1 ⟨rfl, rfl⟩
  have c : _ = some (Value.string ⟨#[98, 110, 101]⟩) := names4_cell w 6 (by omega)
  have HB := Lib.hid (show Below w.heap.size w (w.alloc (.cells (Tab.names4.map strV).toArray 9)) from (Below.refl _ _).alloc (Nat.le_refl _) _)
  generalize (w.alloc (.cells (Tab.names4.map strV).toArray 9)) = W at *
  go_wp2_with fail
  go_ret
  exact ⟨rfl, HB.out⟩
set_option maxHeartbeats 2000000 in
theorem refClass_7 (w : World) : Calls Tryd.prog 91 #[.int .i64 7] w fun e w' => e = .returned (.int .i64 4) ∧ Below w.heap.size w w' := by
  go_enter Tryd.func91, Tryd.ntmps91
  go_wp2_with fail
  refine (refNames4_c _).mono ?_
  rintro e w1 ⟨rfl, rfl⟩
  have c : _ = some (Value.string ⟨#[98, 108, 116]⟩) := names4_cell w 7 (by omega)
  have HB := Lib.hid (show Below w.heap.size w (w.alloc (.cells (Tab.names4.map strV).toArray 9)) from (Below.refl _ _).alloc (Nat.le_refl _) _)
  generalize (w.alloc (.cells (Tab.names4.map strV).toArray 9)) = W at *
  go_wp2_with fail
  go_ret
  exact ⟨rfl, HB.out⟩
set_option maxHeartbeats 2000000 in
theorem refClass_8 (w : World) : Calls Tryd.prog 91 #[.int .i64 8] w fun e w' => e = .returned (.int .i64 4) ∧ Below w.heap.size w w' := by
  go_enter Tryd.func91, Tryd.ntmps91
  go_wp2_with fail
  refine (refNames4_c _).mono ?_
  rintro e w1 ⟨rfl, rfl⟩
  have c : _ = some (Value.string ⟨#[98, 103, 101]⟩) := names4_cell w 8 (by omega)
  have HB := Lib.hid (show Below w.heap.size w (w.alloc (.cells (Tab.names4.map strV).toArray 9)) from (Below.refl _ _).alloc (Nat.le_refl _) _)
  generalize (w.alloc (.cells (Tab.names4.map strV).toArray 9)) = W at *
  go_wp2_with fail
  go_ret
  exact ⟨rfl, HB.out⟩
set_option maxHeartbeats 2000000 in
theorem refClass_9 (w : World) : Calls Tryd.prog 91 #[.int .i64 9] w fun e w' => e = .returned (.int .i64 4) ∧ Below w.heap.size w w' := by
  go_enter Tryd.func91, Tryd.ntmps91
  go_wp2_with fail
  refine (refNames4_c _).mono ?_
  rintro e w1 ⟨rfl, rfl⟩
  have c : _ = some (Value.string ⟨#[98, 108, 116, 117]⟩) := names4_cell w 9 (by omega)
  have HB := Lib.hid (show Below w.heap.size w (w.alloc (.cells (Tab.names4.map strV).toArray 9)) from (Below.refl _ _).alloc (Nat.le_refl _) _)
  generalize (w.alloc (.cells (Tab.names4.map strV).toArray 9)) = W at *
  go_wp2_with fail
  go_ret
  exact ⟨rfl, HB.out⟩
set_option maxHeartbeats 2000000 in
theorem refClass_10 (w : World) : Calls Tryd.prog 91 #[.int .i64 10] w fun e w' => e = .returned (.int .i64 4) ∧ Below w.heap.size w w' := by
  go_enter Tryd.func91, Tryd.ntmps91
  go_wp2_with fail
  refine (refNames4_c _).mono ?_
  rintro e w1 ⟨rfl, rfl⟩
  have c : _ = some (Value.string ⟨#[98, 103, 101, 117]⟩) := names4_cell w 10 (by omega)
  have HB := Lib.hid (show Below w.heap.size w (w.alloc (.cells (Tab.names4.map strV).toArray 9)) from (Below.refl _ _).alloc (Nat.le_refl _) _)
  generalize (w.alloc (.cells (Tab.names4.map strV).toArray 9)) = W at *
  go_wp2_with fail
  go_ret
  exact ⟨rfl, HB.out⟩
set_option maxHeartbeats 2000000 in
theorem refClass_11 (w : World) : Calls Tryd.prog 91 #[.int .i64 11] w fun e w' => e = .returned (.int .i64 5) ∧ Below w.heap.size w w' := by
  go_enter Tryd.func91, Tryd.ntmps91
  go_wp2_with fail
  refine (refNames4_c _).mono ?_
  rintro e w1 ⟨rfl, rfl⟩
  have c : _ = some (Value.string ⟨#[108, 98]⟩) := names4_cell w 11 (by omega)
  have HB := Lib.hid (show Below w.heap.size w (w.alloc (.cells (Tab.names4.map strV).toArray 9)) from (Below.refl _ _).alloc (Nat.le_refl _) _)
  generalize (w.alloc (.cells (Tab.names4.map strV).toArray 9)) = W at *
  go_wp2_with fail
  refine (refEnds_is ⟨#[108, 98]⟩ ⟨#[46, 119]⟩ false _ (by decide +kernel) (by decide +kernel)).mono ?_
  rintro e w1 ⟨rfl, rfl⟩
  go_wp2_with fail
  refine (refEnds_is ⟨#[108, 98]⟩ ⟨#[46, 100]⟩ false _ (by decide +kernel) (by decide +kernel)).mono ?_
  rintro e w1 ⟨rfl, rfl⟩
  go_wp2_with fail
  go_ret
  exact ⟨rfl, HB.out⟩
set_option maxHeartbeats 2000000 in
theorem refClass_12 (w : World) : Calls Tryd.prog 91 #[.int .i64 12] w fun e w' => e = .returned (.int .i64 5) ∧ Below w.heap.size w w' := by
  go_enter Tryd.func91, Tryd.ntmps91
  go_wp2_with fail
  refine (refNames4_c _).mono ?_
  rintro e w1 ⟨rfl, rfl⟩
  have c : _ = some (Value.string ⟨#[108, 104]⟩) := names4_cell w 12 (by omega)
  have HB := Lib.hid (show Below w.heap.size w (w.alloc (.cells (Tab.names4.map strV).toArray 9)) from (Below.refl _ _).alloc (Nat.le_refl _) _)
  generalize (w.alloc (.cells (Tab.names4.map strV).toArray 9)) = W at *
  go_wp2_with fail
  refine (refEnds_is ⟨#[108, 104]⟩ ⟨#[46, 119]⟩ false _ (by decide +kernel) (by decide +kernel)).mono ?_
  rintro e w1 ⟨rfl, rfl⟩
  go_wp2_with fail
  refine (refEnds_is ⟨#[108, 104]⟩ ⟨#[46, 100]⟩ false _ (by decide +kernel) (by decide +kernel)).mono ?_
  rintro e w1 ⟨rfl, rfl⟩
  go_wp2_with fail
  go_ret
  exact ⟨rfl, HB.out⟩
set_option maxHeartbeats 2000000 in
theorem refClass_13 (w : World) : Calls Tryd.prog 91 #[.int .i64 13] w fun e w' => e = .returned (.int .i64 5) ∧ Below w.heap.size w w' := by
  go_enter Tryd.func91, Tryd.ntmps91
  go_wp2_with fail
  refine (refNames4_c _).mono ?_
  rintro e w1 ⟨rfl, rfl⟩
  have c : _ = some (Value.string ⟨#[108, 119]⟩) := names4_cell w 13 (by omega)
  have HB := Lib.hid (show Below w.heap.size w (w.alloc (.cells (Tab.names4.map strV).toArray 9)) from (Below.refl _ _).alloc (Nat.le_refl _) _)
  generalize (w.alloc (.cells (Tab.names4.map strV).toArray 9)) = W at *
  go_wp2_with fail
  refine (refEnds_is ⟨#[108, 119]⟩ ⟨#[46, 119]⟩ false _ (by decide +kernel) (by decide +kernel)).mono ?_
  rintro e w1 ⟨rfl, rfl⟩
  go_wp2_with fail
  refine (refEnds_is ⟨#[108, 119]⟩ ⟨#[46, 100]⟩ false _ (by decide +kernel) (by decide +kernel)).mono ?_
  rintro e w1 ⟨rfl, rfl⟩
  go_wp2_with fail
  go_ret
  exact ⟨rfl, HB.out⟩
set_option maxHeartbeats 2000000 in
theorem refClass_14 (w : World) : Calls Tryd.prog 91 #[.int .i64 14] w fun e w' => e = .returned (.int .i64 5) ∧ Below w.heap.size w w' := by
  go_enter Tryd.func91, Tryd.ntmps91
  go_wp2_with fail
  refine (refNames4_c _).mono ?_
  rintro e w1 ⟨rfl, rfl⟩
  have c : _ = some (Value.string ⟨#[108, 100]⟩) := names4_cell w 14 (by omega)
  have HB := Lib.hid (show Below w.heap.size w (w.alloc (.cells (Tab.names4.map strV).toArray 9)) from (Below.refl _ _).alloc (Nat.le_refl _) _)
  generalize (w.alloc (.cells (Tab.names4.map strV).toArray 9)) = W at *
  go_wp2_with fail
  refine (refEnds_is ⟨#[108, 100]⟩ ⟨#[46, 119]⟩ false _ (by decide +kernel) (by decide +kernel)).mono ?_
  rintro e w1 ⟨rfl, rfl⟩
  go_wp2_with fail
  refine (refEnds_is ⟨#[108, 100]⟩ ⟨#[46, 100]⟩ false _ (by decide +kernel) (by decide +kernel)).mono ?_
  rintro e w1 ⟨rfl, rfl⟩
  go_wp2_with fail
  go_ret
  exact ⟨rfl, HB.out⟩
set_option maxHeartbeats 2000000 in
theorem refClass_15 (w : World) : Calls Tryd.prog 91 #[.int .i64 15] w fun e w' => e = .returned (.int .i64 5) ∧ Below w.heap.size w w' := by
  go_enter Tryd.func91, Tryd.ntmps91
  go_wp2_with fail
  refine (refNames4_c _).mono ?_
  rintro e w1 ⟨rfl, rfl⟩
  have c : _ = some (Value.string ⟨#[108, 98, 117]⟩) := names4_cell w 15 (by omega)
  have HB := Lib.hid (show Below w.heap.size w (w.alloc (.cells (Tab.names4.map strV).toArray 9)) from (Below.refl _ _).alloc (Nat.le_refl _) _)
  generalize (w.alloc (.cells (Tab.names4.map strV).toArray 9)) = W at *
  go_wp2_with fail
  refine (refEnds_is ⟨#[108, 98, 117]⟩ ⟨#[46, 119]⟩ false _ (by decide +kernel) (by decide +kernel)).mono ?_
  rintro e w1 ⟨rfl, rfl⟩
  go_wp2_with fail
  refine (refEnds_is ⟨#[108, 98, 117]⟩ ⟨#[46, 100]⟩ false _ (by decide +kernel) (by decide +kernel)).mono ?_
  rintro e w1 ⟨rfl, rfl⟩
  go_wp2_with fail
  go_ret
  exact ⟨rfl, HB.out⟩
set_option maxHeartbeats 2000000 in
theorem refClass_16 (w : World) : Calls Tryd.prog 91 #[.int .i64 16] w fun e w' => e = .returned (.int .i64 5) ∧ Below w.heap.size w w' := by
  go_enter Tryd.func91, Tryd.ntmps91
  go_wp2_with fail
  refine (refNames4_c _).mono ?_
  rintro e w1 ⟨rfl, rfl⟩
  have c : _ = some (Value.string ⟨#[108, 104, 117]⟩) := names4_cell w 16 (by omega)
  have HB := Lib.hid (show Below w.heap.size w (w.alloc (.cells (Tab.names4.map strV).toArray 9)) from (Below.refl _ _).alloc (Nat.le_refl _) _)
  generalize (w.alloc (.cells (Tab.names4.map strV).toArray 9)) = W at *
  go_wp2_with fail
  refine (refEnds_is ⟨#[108, 104, 117]⟩ ⟨#[46, 119]⟩ false _ (by decide +kernel) (by decide +kernel)).mono ?_
  rintro e w1 ⟨rfl, rfl⟩
  go_wp2_with fail
  refine (refEnds_is ⟨#[108, 104, 117]⟩ ⟨#[46, 100]⟩ false _ (by decide +kernel) (by decide +kernel)).mono ?_
  rintro e w1 ⟨rfl, rfl⟩
  go_wp2_with fail
  go_ret
  exact ⟨rfl, HB.out⟩
set_option maxHeartbeats 2000000 in
theorem refClass_17 (w : World) : Calls Tryd.prog 91 #[.int .i64 17] w fun e w' => e = .returned (.int .i64 5) ∧ Below w.heap.size w w' := by
  go_enter Tryd.func91, Tryd.ntmps91
  go_wp2_with fail
  refine (refNames4_c _).mono ?_
  rintro e w1 ⟨rfl, rfl⟩
  have c : _ = some (Value.string ⟨#[108, 119, 117]⟩) := names4_cell w 17 (by omega)
  have HB := Lib.hid (show Below w.heap.size w (w.alloc (.cells (Tab.names4.map strV).toArray 9)) from (Below.refl _ _).alloc (Nat.le_refl _) _)
  generalize (w.alloc (.cells (Tab.names4.map strV).toArray 9)) = W at *
  go_wp2_with fail
  refine (refEnds_is ⟨#[108, 119, 117]⟩ ⟨#[46, 119]⟩ false _ (by decide +kernel) (by decide +kernel)).mono ?_
  rintro e w1 ⟨rfl, rfl⟩
  go_wp2_with fail
  refine (refEnds_is ⟨#[108, 119, 117]⟩ ⟨#[46, 100]⟩ false _ (by decide +kernel) (by decide +kernel)).mono ?_
  rintro e w1 ⟨rfl, rfl⟩
  go_wp2_with fail
  go_ret
  exact ⟨rfl, HB.out⟩
set_option maxHeartbeats 2000000 in
theorem refClass_18 (w : World) : Calls Tryd.prog 91 #[.int .i64 18] w fun e w' => e = .returned (.int .i64 6) ∧ Below w.heap.size w w' := by
  go_enter Tryd.func91, Tryd.ntmps91
  go_wp2_with fail
  refine (refNames4_c _).mono ?_
  rintro e w1 ⟨rfl, rfl⟩
  have c : _ = some (Value.string ⟨#[115, 98]⟩) := names4_cell w 18 (by omega)
  have HB := Lib.hid (show Below w.heap.size w (w.alloc (.cells (Tab.names4.map strV).toArray 9)) from (Below.refl _ _).alloc (Nat.le_refl _) _)
  generalize (w.alloc (.cells (Tab.names4.map strV).toArray 9)) = W at *
  go_wp2_with fail
  refine (refEnds_is ⟨#[115, 98]⟩ ⟨#[46, 119]⟩ false _ (by decide +kernel) (by decide +kernel)).mono ?_
  rintro e w1 ⟨rfl, rfl⟩
  go_wp2_with fail
  refine (refEnds_is ⟨#[115, 98]⟩ ⟨#[46, 100]⟩ false _ (by decide +kernel) (by decide +kernel)).mono ?_
  rintro e w1 ⟨rfl, rfl⟩
  go_wp2_with fail
  go_ret
  exact ⟨rfl, HB.out⟩
set_option maxHeartbeats 2000000 in
theorem refClass_19 (w : World) : Calls Tryd.prog 91 #[.int .i64 19] w fun e w' => e = .returned (.int .i64 6) ∧ Below w.heap.size w w' := by
  go_enter Tryd.func91, Tryd.ntmps91
  go_wp2_with fail
  refine (refNames4_c _).mono ?_
  rintro e w1 ⟨rfl, rfl⟩
  have c : _ = some (Value.string ⟨#[115, 104]⟩) := names4_cell w 19 (by omega)
  have HB := Lib.hid (show Below w.heap.size w (w.alloc (.cells (Tab.names4.map strV).toArray 9)) from (Below.refl _ _).alloc (Nat.le_refl _) _)
  generalize (w.alloc (.cells (Tab.names4.map strV).toArray 9)) = W at *
  go_wp2_with fail
  refine (refEnds_is ⟨#[115, 104]⟩ ⟨#[46, 119]⟩ false _ (by decide +kernel) (by decide +kernel)).mono ?_
  rintro e w1 ⟨rfl, rfl⟩
  go_wp2_with fail
  refine (refEnds_is ⟨#[115, 104]⟩ ⟨#[46, 100]⟩ false _ (by decide +kernel) (by decide +kernel)).mono ?_
  rintro e w1 ⟨rfl, rfl⟩
  go_wp2_with fail
  go_ret
  exact ⟨rfl, HB.out⟩
set_option maxHeartbeats 2000000 in
theorem refClass_20 (w : World) : Calls Tryd.prog 91 #[.int .i64 20] w fun e w' => e = .returned (.int .i64 6) ∧ Below w.heap.size w w' := by
  go_enter Tryd.func91, Tryd.ntmps91
  go_wp2_with fail
  refine (refNames4_c _).mono ?_
  rintro e w1 ⟨rfl, rfl⟩
  have c : _ = some (Value.string ⟨#[115, 119]⟩) := names4_cell w 20 (by omega)
  have HB := Lib.hid (show Below w.heap.size w (w.alloc (.cells (Tab.names4.map strV).toArray 9)) from (Below.refl _ _).alloc (Nat.le_refl _) _)
  generalize (w.alloc (.cells (Tab.names4.map strV).toArray 9)) = W at *
  go_wp2_with fail
  refine (refEnds_is ⟨#[115, 119]⟩ ⟨#[46, 119]⟩ false _ (by decide +kernel) (by decide +kernel)).mono ?_
  rintro e w1 ⟨rfl, rfl⟩
  go_wp2_with fail
  refine (refEnds_is ⟨#[115, 119]⟩ ⟨#[46, 100]⟩ false _ (by decide +kernel) (by decide +kernel)).mono ?_
  rintro e w1 ⟨rfl, rfl⟩
  go_wp2_with fail
  go_ret
  exact ⟨rfl, HB.out⟩
set_option maxHeartbeats 2000000 in
theorem refClass_21 (w : World) : Calls Tryd.prog 91 #[.int .i64 21] w fun e w' => e = .returned (.int .i64 6) ∧ Below w.heap.size w w' := by
  go_enter Tryd.func91, Tryd.ntmps91
  go_wp2_with fail
  refine (refNames4_c _).mono ?_
  rintro e w1 ⟨rfl, rfl⟩
  have c : _ = some (Value.string ⟨#[115, 100]⟩) := names4_cell w 21 (by omega)
  have HB := Lib.hid (show Below w.heap.size w (w.alloc (.cells (Tab.names4.map strV).toArray 9)) from (Below.refl _ _).alloc (Nat.le_refl _) _)
  generalize (w.alloc (.cells (Tab.names4.map strV).toArray 9)) = W at *
  go_wp2_with fail
  refine (refEnds_is ⟨#[115, 100]⟩ ⟨#[46, 119]⟩ false _ (by decide +kernel) (by decide +kernel)).mono ?_
  rintro e w1 ⟨rfl, rfl⟩
  go_wp2_with fail
  refine (refEnds_is ⟨#[115, 100]⟩ ⟨#[46, 100]⟩ false _ (by decide +kernel) (by decide +kernel)).mono ?_
  rintro e w1 ⟨rfl, rfl⟩
  go_wp2_with fail
  go_ret
  exact ⟨rfl, HB.out⟩
set_option maxHeartbeats 2000000 in
theorem refClass_22 (w : World) : Calls Tryd.prog 91 #[.int .i64 22] w fun e w' => e = .returned (.int .i64 1) ∧ Below w.heap.size w w' := by
  go_enter Tryd.func91, Tryd.ntmps91
  go_wp2_with fail
  refine (refNames4_c _).mono ?_
  rintro e w1 ⟨rfl, rfl⟩
  have c : _ = some (Value.string ⟨#[97, 100, 100, 105]⟩) := names4_cell w 22 (by omega)
  have HB := Lib.hid (show Below w.heap.size w (w.alloc (.cells (Tab.names4.map strV).toArray 9)) from (Below.refl _ _).alloc (Nat.le_refl _) _)
  generalize (w.alloc (.cells (Tab.names4.map strV).toArray 9)) = W at *
  go_wp2_with fail
  refine (refEnds_is ⟨#[97, 100, 100, 105]⟩ ⟨#[46, 119]⟩ false _ (by decide +kernel) (by decide +kernel)).mono ?_
  rintro e w1 ⟨rfl, rfl⟩
  go_wp2_with fail
  refine (refEnds_is ⟨#[97, 100, 100, 105]⟩ ⟨#[46, 100]⟩ false _ (by decide +kernel) (by decide +kernel)).mono ?_
  rintro e w1 ⟨rfl, rfl⟩
  have g3 : (((⟨#[97, 100, 100, 105]⟩ : ByteArray).extract 0 3).toList == [99, 115, 114]) = false := by decide +kernel
  go_wp2_with fail
  go_ret
  exact ⟨rfl, HB.out⟩
set_option maxHeartbeats 2000000 in
theorem refClass_23 (w : World) : Calls Tryd.prog 91 #[.int .i64 23] w fun e w' => e = .returned (.int .i64 1) ∧ Below w.heap.size w w' := by
  go_enter Tryd.func91, Tryd.ntmps91
  go_wp2_with fail
  refine (refNames4_c _).mono ?_
  rintro e w1 ⟨rfl, rfl⟩
  have c : _ = some (Value.string ⟨#[115, 108, 116, 105]⟩) := names4_cell w 23 (by omega)
  have HB := Lib.hid (show Below w.heap.size w (w.alloc (.cells (Tab.names4.map strV).toArray 9)) from (Below.refl _ _).alloc (Nat.le_refl _) _)
  generalize (w.alloc (.cells (Tab.names4.map strV).toArray 9)) = W at *
  go_wp2_with fail
  refine (refEnds_is ⟨#[115, 108, 116, 105]⟩ ⟨#[46, 119]⟩ false _ (by decide +kernel) (by decide +kernel)).mono ?_
  rintro e w1 ⟨rfl, rfl⟩
  go_wp2_with fail
  refine (refEnds_is ⟨#[115, 108, 116, 105]⟩ ⟨#[46, 100]⟩ false _ (by decide +kernel) (by decide +kernel)).mono ?_
  rintro e w1 ⟨rfl, rfl⟩
  have g3 : (((⟨#[115, 108, 116, 105]⟩ : ByteArray).extract 0 3).toList == [99, 115, 114]) = false := by decide +kernel
  go_wp2_with fail
  go_ret
  exact ⟨rfl, HB.out⟩
set_option maxHeartbeats 2000000 in
theorem refClass_24 (w : World) : Calls Tryd.prog 91 #[.int .i64 24] w fun e w' => e = .returned (.int .i64 1) ∧ Below w.heap.size w w' := by
  go_enter Tryd.func91, Tryd.ntmps91
  go_wp2_with fail
  refine (refNames4_c _).mono ?_
  rintro e w1 ⟨rfl, rfl⟩
  have c : _ = some (Value.string ⟨#[115, 108, 116, 105, 117]⟩) := names4_cell w 24 (by omega)
  have HB := Lib.hid (show Below w.heap.size w (w.alloc (.cells (Tab.names4.map strV).toArray 9)) from (Below.refl _ _).alloc (Nat.le_refl _) _)
  generalize (w.alloc (.cells (Tab.names4.map strV).toArray 9)) = W at *
  go_wp2_with fail
  refine (refEnds_is ⟨#[115, 108, 116, 105, 117]⟩ ⟨#[46, 119]⟩ false _ (by decide +kernel) (by decide +kernel)).mono ?_
  rintro e w1 ⟨rfl, rfl⟩
  go_wp2_with fail
  refine (refEnds_is ⟨#[115, 108, 116, 105, 117]⟩ ⟨#[46, 100]⟩ false _ (by decide +kernel) (by decide +kernel)).mono ?_
  rintro e w1 ⟨rfl, rfl⟩
  have g3 : (((⟨#[115, 108, 116, 105, 117]⟩ : ByteArray).extract 0 3).toList == [99, 115, 114]) = false := by decide +kernel
  go_wp2_with fail
  go_ret
  exact ⟨rfl, HB.out⟩
set_option maxHeartbeats 2000000 in
theorem refClass_25 (w : World) : Calls Tryd.prog 91 #[.int .i64 25] w fun e w' => e = .returned (.int .i64 1) ∧ Below w.heap.size w w' := by
  go_enter Tryd.func91, Tryd.ntmps91
  go_wp2_with fail
  refine (refNames4_c _).mono ?_
  rintro e w1 ⟨rfl, rfl⟩
  have c : _ = some (Value.string ⟨#[120, 111, 114, 105]⟩) := names4_cell w 25 (by omega)
  have HB := Lib.hid (show Below w.heap.size w (w.alloc (.cells (Tab.names4.map strV).toArray 9)) from (Below.refl _ _).alloc (Nat.le_refl _) _)
  generalize (w.alloc (.cells (Tab.names4.map strV).toArray 9)) = W at *
  go_wp2_with fail
  refine (refEnds_is ⟨#[120, 111, 114, 105]⟩ ⟨#[46, 119]⟩ false _ (by decide +kernel) (by decide +kernel)).mono ?_
  rintro e w1 ⟨rfl, rfl⟩
  go_wp2_with fail
  refine (refEnds_is ⟨#[120, 111, 114, 105]⟩ ⟨#[46, 100]⟩ false _ (by decide +kernel) (by decide +kernel)).mono ?_
  rintro e w1 ⟨rfl, rfl⟩
  have g3 : (((⟨#[120, 111, 114, 105]⟩ : ByteArray).extract 0 3).toList == [99, 115, 114]) = false := by decide +kernel
  go_wp2_with fail
  go_ret
  exact ⟨rfl, HB.out⟩
set_option maxHeartbeats 2000000 in
theorem refClass_26 (w : World) : Calls Tryd.prog 91 #[.int .i64 26] w fun e w' => e = .returned (.int .i64 1) ∧ Below w.heap.size w w' := by
  go_enter Tryd.func91, Tryd.ntmps91
  go_wp2_with fail
  refine (refNames4_c _).mono ?_
  rintro e w1 ⟨rfl, rfl⟩
  have c : _ = some (Value.string ⟨#[111, 114, 105]⟩) := names4_cell w 26 (by omega)
  have HB := Lib.hid (show Below w.heap.size w (w.alloc (.cells (Tab.names4.map strV).toArray 9)) from (Below.refl _ _).alloc (Nat.le_refl _) _)
  generalize (w.alloc (.cells (Tab.names4.map strV).toArray 9)) = W at *
  go_wp2_with fail
  refine (refEnds_is ⟨#[111, 114, 105]⟩ ⟨#[46, 119]⟩ false _ (by decide +kernel) (by decide +kernel)).mono ?_
  rintro e w1 ⟨rfl, rfl⟩
  go_wp2_with fail
  refine (refEnds_is ⟨#[111, 114, 105]⟩ ⟨#[46, 100]⟩ false _ (by decide +kernel) (by decide +kernel)).mono ?_
  rintro e w1 ⟨rfl, rfl⟩
  go_wp2_with fail
  go_ret
  exact ⟨rfl, HB.out⟩
set_option maxHeartbeats 2000000 in
theorem refClass_27 (w : World) : Calls Tryd.prog 91 #[.int .i64 27] w fun e w' => e = .returned (.int .i64 1) ∧ Below w.heap.size w w' := by
  go_enter Tryd.func91, Tryd.ntmps91
  go_wp2_with fail
  refine (refNames4_c _).mono ?_
  rintro e w1 ⟨rfl, rfl⟩
  have c : _ = some (Value.string ⟨#[97, 110, 100, 105]⟩) := names4_cell w 27 (by omega)
  have HB := Lib.hid (show Below w.heap.size w (w.alloc (.cells (Tab.names4.map strV).toArray 9)) from (Below.refl _ _).alloc (Nat.le_refl _) _)
  generalize (w.alloc (.cells (Tab.names4.map strV).toArray 9)) = W at *
  go_wp2_with fail
  refine (refEnds_is ⟨#[97, 110, 100, 105]⟩ ⟨#[46, 119]⟩ false _ (by decide +kernel) (by decide +kernel)).mono ?_
  rintro e w1 ⟨rfl, rfl⟩
  go_wp2_with fail
  refine (refEnds_is ⟨#[97, 110, 100, 105]⟩ ⟨#[46, 100]⟩ false _ (by decide +kernel) (by decide +kernel)).mono ?_
  rintro e w1 ⟨rfl, rfl⟩
  have g3 : (((⟨#[97, 110, 100, 105]⟩ : ByteArray).extract 0 3).toList == [99, 115, 114]) = false := by decide +kernel
  go_wp2_with fail
  go_ret
  exact ⟨rfl, HB.out⟩
set_option maxHeartbeats 2000000 in
theorem refClass_28 (w : World) : Calls Tryd.prog 91 #[.int .i64 28] w fun e w' => e = .returned (.int .i64 1) ∧ Below w.heap.size w w' := by
  go_enter Tryd.func91, Tryd.ntmps91
  go_wp2_with fail
  refine (refNames4_c _).mono ?_
  rintro e w1 ⟨rfl, rfl⟩
  have c : _ = some (Value.string ⟨#[115, 108, 108, 105]⟩) := names4_cell w 28 (by omega)
  have HB := Lib.hid (show Below w.heap.size w (w.alloc (.cells (Tab.names4.map strV).toArray 9)) from (Below.refl _ _).alloc (Nat.le_refl _) _)
  generalize (w.alloc (.cells (Tab.names4.map strV).toArray 9)) = W at *
  go_wp2_with fail
  refine (refEnds_is ⟨#[115, 108, 108, 105]⟩ ⟨#[46, 119]⟩ false _ (by decide +kernel) (by decide +kernel)).mono ?_
  rintro e w1 ⟨rfl, rfl⟩
  go_wp2_with fail
  refine (refEnds_is ⟨#[115, 108, 108, 105]⟩ ⟨#[46, 100]⟩ false _ (by decide +kernel) (by decide +kernel)).mono ?_
  rintro e w1 ⟨rfl, rfl⟩
  have g3 : (((⟨#[115, 108, 108, 105]⟩ : ByteArray).extract 0 3).toList == [99, 115, 114]) = false := by decide +kernel
  go_wp2_with fail
  go_ret
  exact ⟨rfl, HB.out⟩
set_option maxHeartbeats 2000000 in
theorem refClass_29 (w : World) : Calls Tryd.prog 91 #[.int .i64 29] w fun e w' => e = .returned (.int .i64 1) ∧ Below w.heap.size w w' := by
  go_enter Tryd.func91, Tryd.ntmps91
  go_wp2_with fail
  refine (refNames4_c _).mono ?_
  rintro e w1 ⟨rfl, rfl⟩
  have c : _ = some (Value.string ⟨#[115, 114, 108, 105]⟩) := names4_cell w 29 (by omega)
  have HB := Lib.hid (show Below w.heap.size w (w.alloc (.cells (Tab.names4.map strV).toArray 9)) from (Below.refl _ _).alloc (Nat.le_refl _) _)
  generalize (w.alloc (.cells (Tab.names4.map strV).toArray 9)) = W at *
  go_wp2_with fail
  refine (refEnds_is ⟨#[115, 114, 108, 105]⟩ ⟨#[46, 119]⟩ false _ (by decide +kernel) (by decide +kernel)).mono ?_
  rintro e w1 ⟨rfl, rfl⟩
  go_wp2_with fail
  refine (refEnds_is ⟨#[115, 114, 108, 105]⟩ ⟨#[46, 100]⟩ false _ (by decide +kernel) (by decide +kernel)).mono ?_
  rintro e w1 ⟨rfl, rfl⟩
  have g3 : (((⟨#[115, 114, 108, 105]⟩ : ByteArray).extract 0 3).toList == [99, 115, 114]) = false := by decide +kernel
  go_wp2_with fail
  go_ret
  exact ⟨rfl, HB.out⟩
set_option maxHeartbeats 2000000 in
theorem refClass_30 (w : World) : Calls Tryd.prog 91 #[.int .i64 30] w fun e w' => e = .returned (.int .i64 1) ∧ Below w.heap.size w w' := by
  go_enter Tryd.func91, Tryd.ntmps91
  go_wp2_with fail
  refine (refNames4_c _).mono ?_
  rintro e w1 ⟨rfl, rfl⟩
  have c : _ = some (Value.string ⟨#[115, 114, 97, 105]⟩) := names4_cell w 30 (by omega)
  have HB := Lib.hid (show Below w.heap.size w (w.alloc (.cells (Tab.names4.map strV).toArray 9)) from (Below.refl _ _).alloc (Nat.le_refl _) _)
  generalize (w.alloc (.cells (Tab.names4.map strV).toArray 9)) = W at *
  go_wp2_with fail
  refine (refEnds_is ⟨#[115, 114, 97, 105]⟩ ⟨#[46, 119]⟩ false _ (by decide +kernel) (by decide +kernel)).mono ?_
  rintro e w1 ⟨rfl, rfl⟩
  go_wp2_with fail
  refine (refEnds_is ⟨#[115, 114, 97, 105]⟩ ⟨#[46, 100]⟩ false _ (by decide +kernel) (by decide +kernel)).mono ?_
  rintro e w1 ⟨rfl, rfl⟩
  have g3 : (((⟨#[115, 114, 97, 105]⟩ : ByteArray).extract 0 3).toList == [99, 115, 114]) = false := by decide +kernel
  go_wp2_with fail
  go_ret
  exact ⟨rfl, HB.out⟩
set_option maxHeartbeats 2000000 in
theorem refClass_31 (w : World) : Calls Tryd.prog 91 #[.int .i64 31] w fun e w' => e = .returned (.int .i64 1) ∧ Below w.heap.size w w' := by
  go_enter Tryd.func91, Tryd.ntmps91
  go_wp2_with fail
  refine (refNames4_c _).mono ?_
  rintro e w1 ⟨rfl, rfl⟩
  have c : _ = some (Value.string ⟨#[97, 100, 100]⟩) := names4_cell w 31 (by omega)
  have HB := Lib.hid (show Below w.heap.size w (w.alloc (.cells (Tab.names4.map strV).toArray 9)) from (Below.refl _ _).alloc (Nat.le_refl _) _)
  generalize (w.alloc (.cells (Tab.names4.map strV).toArray 9)) = W at *
  go_wp2_with fail
  refine (refEnds_is ⟨#[97, 100, 100]⟩ ⟨#[46, 119]⟩ false _ (by decide +kernel) (by decide +kernel)).mono ?_
  rintro e w1 ⟨rfl, rfl⟩
  go_wp2_with fail
  refine (refEnds_is ⟨#[97, 100, 100]⟩ ⟨#[46, 100]⟩ false _ (by decide +kernel) (by decide +kernel)).mono ?_
  rintro e w1 ⟨rfl, rfl⟩
  go_wp2_with fail
  go_ret
  exact ⟨rfl, HB.out⟩
set_option maxHeartbeats 2000000 in
theorem refClass_32 (w : World) : Calls Tryd.prog 91 #[.int .i64 32] w fun e w' => e = .returned (.int .i64 1) ∧ Below w.heap.size w w' := by
  go_enter Tryd.func91, Tryd.ntmps91
  go_wp2_with fail
  refine (refNames4_c _).mono ?_
  rintro e w1 ⟨rfl, rfl⟩
  have c : _ = some (Value.string ⟨#[115, 117, 98]⟩) := names4_cell w 32 (by omega)
  have HB := Lib.hid (show Below w.heap.size w (w.alloc (.cells (Tab.names4.map strV).toArray 9)) from (Below.refl _ _).alloc (Nat.le_refl _) _)
  generalize (w.alloc (.cells (Tab.names4.map strV).toArray 9)) = W at *
  go_wp2_with fail
  refine (refEnds_is ⟨#[115, 117, 98]⟩ ⟨#[46, 119]⟩ false _ (by decide +kernel) (by decide +kernel)).mono ?_
  rintro e w1 ⟨rfl, rfl⟩
  go_wp2_with fail
  refine (refEnds_is ⟨#[115, 117, 98]⟩ ⟨#[46, 100]⟩ false _ (by decide +kernel) (by decide +kernel)).mono ?_
  rintro e w1 ⟨rfl, rfl⟩
  go_wp2_with fail
  go_ret
  exact ⟨rfl, HB.out⟩
set_option maxHeartbeats 2000000 in
theorem refClass_33 (w : World) : Calls Tryd.prog 91 #[.int .i64 33] w fun e w' => e = .returned (.int .i64 1) ∧ Below w.heap.size w w' := by
  go_enter Tryd.func91, Tryd.ntmps91
  go_wp2_with fail
  refine (refNames4_c _).mono ?_
  rintro e w1 ⟨rfl, rfl⟩
  have c : _ = some (Value.string ⟨#[115, 108, 108]⟩) := names4_cell w 33 (by omega)
  have HB := Lib.hid (show Below w.heap.size w (w.alloc (.cells (Tab.names4.map strV).toArray 9)) from (Below.refl _ _).alloc (Nat.le_refl _) _)
  generalize (w.alloc (.cells (Tab.names4.map strV).toArray 9)) = W at *
  go_wp2_with fail
  refine (refEnds_is ⟨#[115, 108, 108]⟩ ⟨#[46, 119]⟩ false _ (by decide +kernel) (by decide +kernel)).mono ?_
  rintro e w1 ⟨rfl, rfl⟩
  go_wp2_with fail
  refine (refEnds_is ⟨#[115, 108, 108]⟩ ⟨#[46, 100]⟩ false _ (by decide +kernel) (by decide +kernel)).mono ?_
  rintro e w1 ⟨rfl, rfl⟩
  go_wp2_with fail
  go_ret
  exact ⟨rfl, HB.out⟩
set_option maxHeartbeats 2000000 in
theorem refClass_34 (w : World) : Calls Tryd.prog 91 #[.int .i64 34] w fun e w' => e = .returned (.int .i64 1) ∧ Below w.heap.size w w' := by
  go_enter Tryd.func91, Tryd.ntmps91
  go_wp2_with fail
  refine (refNames4_c _).mono ?_
  rintro e w1 ⟨rfl, rfl⟩
  have c : _ = some (Value.string ⟨#[115, 108, 116]⟩) := names4_cell w 34 (by omega)
  have HB := Lib.hid (show Below w.heap.size w (w.alloc (.cells (Tab.names4.map strV).toArray 9)) from (Below.refl _ _).alloc (Nat.le_refl _) _)
  generalize (w.alloc (.cells (Tab.names4.map strV).toArray 9)) = W at *
  go_wp2_with fail
  refine (refEnds_is ⟨#[115, 108, 116]⟩ ⟨#[46, 119]⟩ false _ (by decide +kernel) (by decide +kernel)).mono ?_
  rintro e w1 ⟨rfl, rfl⟩
  go_wp2_with fail
  refine (refEnds_is ⟨#[115, 108, 116]⟩ ⟨#[46, 100]⟩ false _ (by decide +kernel) (by decide +kernel)).mono ?_
  rintro e w1 ⟨rfl, rfl⟩
  go_wp2_with fail
  go_ret
  exact ⟨rfl, HB.out⟩
set_option maxHeartbeats 2000000 in
theorem refClass_35 (w : World) : Calls Tryd.prog 91 #[.int .i64 35] w fun e w' => e = .returned (.int .i64 1) ∧ Below w.heap.size w w' := by
  go_enter Tryd.func91, Tryd.ntmps91
  go_wp2_with fail
  refine (refNames4_c _).mono ?_
  rintro e w1 ⟨rfl, rfl⟩
  have c : _ = some (Value.string ⟨#[115, 108, 116, 117]⟩) := names4_cell w 35 (by omega)
  have HB := Lib.hid (show Below w.heap.size w (w.alloc (.cells (Tab.names4.map strV).toArray 9)) from (Below.refl _ _).alloc (Nat.le_refl _) _)
  generalize (w.alloc (.cells (Tab.names4.map strV).toArray 9)) = W at *
  go_wp2_with fail
  refine (refEnds_is ⟨#[115, 108, 116, 117]⟩ ⟨#[46, 119]⟩ false _ (by decide +kernel) (by decide +kernel)).mono ?_
  rintro e w1 ⟨rfl, rfl⟩
  go_wp2_with fail
  refine (refEnds_is ⟨#[115, 108, 116, 117]⟩ ⟨#[46, 100]⟩ false _ (by decide +kernel) (by decide +kernel)).mono ?_
  rintro e w1 ⟨rfl, rfl⟩
  have g3 : (((⟨#[115, 108, 116, 117]⟩ : ByteArray).extract 0 3).toList == [99, 115, 114]) = false := by decide +kernel
  go_wp2_with fail
  go_ret
  exact ⟨rfl, HB.out⟩
set_option maxHeartbeats 2000000 in
theorem refClass_36 (w : World) : Calls Tryd.prog 91 #[.int .i64 36] w fun e w' => e = .returned (.int .i64 1) ∧ Below w.heap.size w w' := by
  go_enter Tryd.func91, Tryd.ntmps91
  go_wp2_with fail
  refine (refNames4_c _).mono ?_
  rintro e w1 ⟨rfl, rfl⟩
  have c : _ = some (Value.string ⟨#[120, 111, 114]⟩) := names4_cell w 36 (by omega)
  have HB := Lib.hid (show Below w.heap.size w (w.alloc (.cells (Tab.names4.map strV).toArray 9)) from (Below.refl _ _).alloc (Nat.le_refl _) _)
  generalize (w.alloc (.cells (Tab.names4.map strV).toArray 9)) = W at *
  go_wp2_with fail
  refine (refEnds_is ⟨#[120, 111, 114]⟩ ⟨#[46, 119]⟩ false _ (by decide +kernel) (by decide +kernel)).mono ?_
  rintro e w1 ⟨rfl, rfl⟩
  go_wp2_with fail
  refine (refEnds_is ⟨#[120, 111, 114]⟩ ⟨#[46, 100]⟩ false _ (by decide +kernel) (by decide +kernel)).mono ?_
  rintro e w1 ⟨rfl, rfl⟩
  go_wp2_with fail
  go_ret
  exact ⟨rfl, HB.out⟩
set_option maxHeartbeats 2000000 in
theorem refClass_37 (w : World) : Calls Tryd.prog 91 #[.int .i64 37] w fun e w' => e = .returned (.int .i64 1) ∧ Below w.heap.size w w' := by
  go_enter Tryd.func91, Tryd.ntmps91
  go_wp2_with fail
  refine (refNames4_c _).mono ?_
  rintro e w1 ⟨rfl, rfl⟩
  have c : _ = some (Value.string ⟨#[115, 114, 108]⟩) := names4_cell w 37 (by omega)
  have HB := Lib.hid (show Below w.heap.size w (w.alloc (.cells (Tab.names4.map strV).toArray 9)) from (Below.refl _ _).alloc (Nat.le_refl _) _)
  generalize (w.alloc (.cells (Tab.names4.map strV).toArray 9)) = W at *
  go_wp2_with fail
  refine (refEnds_is ⟨#[115, 114, 108]⟩ ⟨#[46, 119]⟩ false _ (by decide +kernel) (by decide +kernel)).mono ?_
  rintro e w1 ⟨rfl, rfl⟩
  go_wp2_with fail
  refine (refEnds_is ⟨#[115, 114, 108]⟩ ⟨#[46, 100]⟩ false _ (by decide +kernel) (by decide +kernel)).mono ?_
  rintro e w1 ⟨rfl, rfl⟩
  go_wp2_with fail
  go_ret
  exact ⟨rfl, HB.out⟩
set_option maxHeartbeats 2000000 in
theorem refClass_38 (w : World) : Calls Tryd.prog 91 #[.int .i64 38] w fun e w' => e = .returned (.int .i64 1) ∧ Below w.heap.size w w' := by
  go_enter Tryd.func91, Tryd.ntmps91
  go_wp2_with fail
  refine (refNames4_c _).mono ?_
  rintro e w1 ⟨rfl, rfl⟩
  have c : _ = some (Value.string ⟨#[115, 114, 97]⟩) := names4_cell w 38 (by omega)
  have HB := Lib.hid (show Below w.heap.size w (w.alloc (.cells (Tab.names4.map strV).toArray 9)) from (Below.refl _ _).alloc (Nat.le_refl _) _)
  generalize (w.alloc (.cells (Tab.names4.map strV).toArray 9)) = W at *
  go_wp2_with fail
  refine (refEnds_is ⟨#[115, 114, 97]⟩ ⟨#[46, 119]⟩ false _ (by decide +kernel) (by decide +kernel)).mono ?_
  rintro e w1 ⟨rfl, rfl⟩
  go_wp2_with fail
  refine (refEnds_is ⟨#[115, 114, 97]⟩ ⟨#[46, 100]⟩ false _ (by decide +kernel) (by decide +kernel)).mono ?_
  rintro e w1 ⟨rfl, rfl⟩
  go_wp2_with fail
  go_ret
  exact ⟨rfl, HB.out⟩
set_option maxHeartbeats 2000000 in
theorem refClass_39 (w : World) : Calls Tryd.prog 91 #[.int .i64 39] w fun e w' => e = .returned (.int .i64 1) ∧ Below w.heap.size w w' := by
  go_enter Tryd.func91, Tryd.ntmps91
  go_wp2_with fail
  refine (refNames4_c _).mono ?_
  rintro e w1 ⟨rfl, rfl⟩
  have c : _ = some (Value.string ⟨#[111, 114]⟩) := names4_cell w 39 (by omega)
  have HB := Lib.hid (show Below w.heap.size w (w.alloc (.cells (Tab.names4.map strV).toArray 9)) from (Below.refl _ _).alloc (Nat.le_refl _) _)
  generalize (w.alloc (.cells (Tab.names4.map strV).toArray 9)) = W at *
  go_wp2_with fail
  refine (refEnds_is ⟨#[111, 114]⟩ ⟨#[46, 119]⟩ false _ (by decide +kernel) (by decide +kernel)).mono ?_
  rintro e w1 ⟨rfl, rfl⟩
  go_wp2_with fail
  refine (refEnds_is ⟨#[111, 114]⟩ ⟨#[46, 100]⟩ false _ (by decide +kernel) (by decide +kernel)).mono ?_
  rintro e w1 ⟨rfl, rfl⟩
  go_wp2_with fail
  go_ret
  exact ⟨rfl, HB.out⟩
set_option maxHeartbeats 2000000 in
theorem refClass_40 (w : World) : Calls Tryd.prog 91 #[.int .i64 40] w fun e w' => e = .returned (.int .i64 1) ∧ Below w.heap.size w w' := by
  go_enter Tryd.func91, Tryd.ntmps91
  go_wp2_with fail
  refine (refNames4_c _).mono ?_
  rintro e w1 ⟨rfl, rfl⟩
  have c : _ = some (Value.string ⟨#[97, 110, 100]⟩) := names4_cell w 40 (by omega)
  have HB := Lib.hid (show Below w.heap.size w (w.alloc (.cells (Tab.names4.map strV).toArray 9)) from (Below.refl _ _).alloc (Nat.le_refl _) _)
  generalize (w.alloc (.cells (Tab.names4.map strV).toArray 9)) = W at *
  go_wp2_with fail
  refine (refEnds_is ⟨#[97, 110, 100]⟩ ⟨#[46, 119]⟩ false _ (by decide +kernel) (by decide +kernel)).mono ?_
  rintro e w1 ⟨rfl, rfl⟩
  go_wp2_with fail
  refine (refEnds_is ⟨#[97, 110, 100]⟩ ⟨#[46, 100]⟩ false _ (by decide +kernel) (by decide +kernel)).mono ?_
  rintro e w1 ⟨rfl, rfl⟩
  go_wp2_with fail
  go_ret
  exact ⟨rfl, HB.out⟩
set_option maxHeartbeats 2000000 in
theorem refClass_41 (w : World) : Calls Tryd.prog 91 #[.int .i64 41] w fun e w' => e = .returned (.int .i64 1) ∧ Below w.heap.size w w' := by
  go_enter Tryd.func91, Tryd.ntmps91
  go_wp2_with fail
  refine (refNames4_c _).mono ?_
  rintro e w1 ⟨rfl, rfl⟩
  have c : _ = some (Value.string ⟨#[97, 100, 100, 105, 119]⟩) := names4_cell w 41 (by omega)
  have HB := Lib.hid (show Below w.heap.size w (w.alloc (.cells (Tab.names4.map strV).toArray 9)) from (Below.refl _ _).alloc (Nat.le_refl _) _)
  generalize (w.alloc (.cells (Tab.names4.map strV).toArray 9)) = W at *
  go_wp2_with fail
  refine (refEnds_is ⟨#[97, 100, 100, 105, 119]⟩ ⟨#[46, 119]⟩ false _ (by decide +kernel) (by decide +kernel)).mono ?_
  rintro e w1 ⟨rfl, rfl⟩
  go_wp2_with fail
  refine (refEnds_is ⟨#[97, 100, 100, 105, 119]⟩ ⟨#[46, 100]⟩ false _ (by decide +kernel) (by decide +kernel)).mono ?_
  rintro e w1 ⟨rfl, rfl⟩
  have g3 : (((⟨#[97, 100, 100, 105, 119]⟩ : ByteArray).extract 0 3).toList == [99, 115, 114]) = false := by decide +kernel
  go_wp2_with fail
  go_ret
  exact ⟨rfl, HB.out⟩
set_option maxHeartbeats 2000000 in
theorem refClass_42 (w : World) : Calls Tryd.prog 91 #[.int .i64 42] w fun e w' => e = .returned (.int .i64 1) ∧ Below w.heap.size w w' := by
  go_enter Tryd.func91, Tryd.ntmps91
  go_wp2_with fail
  refine (refNames4_c _).mono ?_
  rintro e w1 ⟨rfl, rfl⟩
  have c : _ = some (Value.string ⟨#[115, 108, 108, 105, 119]⟩) := names4_cell w 42 (by omega)
  have HB := Lib.hid (show Below w.heap.size w (w.alloc (.cells (Tab.names4.map strV).toArray 9)) from (Below.refl _ _).alloc (Nat.le_refl _) _)
  generalize (w.alloc (.cells (Tab.names4.map strV).toArray 9)) = W at *
  go_wp2_with fail
  refine (refEnds_is ⟨#[115, 108, 108, 105, 119]⟩ ⟨#[46, 119]⟩ false _ (by decide +kernel) (by decide +kernel)).mono ?_
  rintro e w1 ⟨rfl, rfl⟩
  go_wp2_with fail
  refine (refEnds_is ⟨#[115, 108, 108, 105, 119]⟩ ⟨#[46, 100]⟩ false _ (by decide +kernel) (by decide +kernel)).mono ?_
  rintro e w1 ⟨rfl, rfl⟩
  have g3 : (((⟨#[115, 108, 108, 105, 119]⟩ : ByteArray).extract 0 3).toList == [99, 115, 114]) = false := by decide +kernel
  go_wp2_with fail
  go_ret
  exact ⟨rfl, HB.out⟩
set_option maxHeartbeats 2000000 in
theorem refClass_43 (w : World) : Calls Tryd.prog 91 #[.int .i64 43] w fun e w' => e = .returned (.int .i64 1) ∧ Below w.heap.size w w' := by
  go_enter Tryd.func91, Tryd.ntmps91
  go_wp2_with fail
  refine (refNames4_c _).mono ?_
  rintro e w1 ⟨rfl, rfl⟩
  have c : _ = some (Value.string ⟨#[115, 114, 108, 105, 119]⟩) := names4_cell w 43 (by omega)
  have HB := Lib.hid (show Below w.heap.size w (w.alloc (.cells (Tab.names4.map strV).toArray 9)) from (Below.refl _ _).alloc (Nat.le_refl _) _)
  generalize (w.alloc (.cells (Tab.names4.map strV).toArray 9)) = W at *
  go_wp2_with fail
  refine (refEnds_is ⟨#[115, 114, 108, 105, 119]⟩ ⟨#[46, 119]⟩ false _ (by decide +kernel) (by decide +kernel)).mono ?_
  rintro e w1 ⟨rfl, rfl⟩
  go_wp2_with fail
  refine (refEnds_is ⟨#[115, 114, 108, 105, 119]⟩ ⟨#[46, 100]⟩ false _ (by decide +kernel) (by decide +kernel)).mono ?_
  rintro e w1 ⟨rfl, rfl⟩
  have g3 : (((⟨#[115, 114, 108, 105, 119]⟩ : ByteArray).extract 0 3).toList == [99, 115, 114]) = false := by decide +kernel
  go_wp2_with fail
  go_ret
  exact ⟨rfl, HB.out⟩
set_option maxHeartbeats 2000000 in
theorem refClass_44 (w : World) : Calls Tryd.prog 91 #[.int .i64 44] w fun e w' => e = .returned (.int .i64 1) ∧ Below w.heap.size w w' := by
  go_enter Tryd.func91, Tryd.ntmps91
  go_wp2_with fail
  refine (refNames4_c _).mono ?_
  rintro e w1 ⟨rfl, rfl⟩
  have c : _ = some (Value.string ⟨#[115, 114, 97, 105, 119]⟩) := names4_cell w 44 (by omega)
  have HB := Lib.hid (show Below w.heap.size w (w.alloc (.cells (Tab.names4.map strV).toArray 9)) from (Below.refl _ _).alloc (Nat.le_refl _) _)
  generalize (w.alloc (.cells (Tab.names4.map strV).toArray 9)) = W at *
  go_wp2_with fail
  refine (refEnds_is ⟨#[115, 114, 97, 105, 119]⟩ ⟨#[46, 119]⟩ false _ (by decide +kernel) (by decide +kernel)).mono ?_
  rintro e w1 ⟨rfl, rfl⟩
  go_wp2_with fail
  refine (refEnds_is ⟨#[115, 114, 97, 105, 119]⟩ ⟨#[46, 100]⟩ false _ (by decide +kernel) (by decide +kernel)).mono ?_
  rintro e w1 ⟨rfl, rfl⟩
  have g3 : (((⟨#[115, 114, 97, 105, 119]⟩ : ByteArray).extract 0 3).toList == [99, 115, 114]) = false := by decide +kernel
  go_wp2_with fail
  go_ret
  exact ⟨rfl, HB.out⟩
set_option maxHeartbeats 2000000 in
theorem refClass_45 (w : World) : Calls Tryd.prog 91 #[.int .i64 45] w fun e w' => e = .returned (.int .i64 1) ∧ Below w.heap.size w w' := by
  go_enter Tryd.func91, Tryd.ntmps91
  go_wp2_with fail
  refine (refNames4_c _).mono ?_
  rintro e w1 ⟨rfl, rfl⟩
  have c : _ = some (Value.string ⟨#[97, 100, 100, 119]⟩) := names4_cell w 45 (by omega)
  have HB := Lib.hid (show Below w.heap.size w (w.alloc (.cells (Tab.names4.map strV).toArray 9)) from (Below.refl _ _).alloc (Nat.le_refl _) _)
  generalize (w.alloc (.cells (Tab.names4.map strV).toArray 9)) = W at *
  go_wp2_with fail
  refine (refEnds_is ⟨#[97, 100, 100, 119]⟩ ⟨#[46, 119]⟩ false _ (by decide +kernel) (by decide +kernel)).mono ?_
  rintro e w1 ⟨rfl, rfl⟩
  go_wp2_with fail
  refine (refEnds_is ⟨#[97, 100, 100, 119]⟩ ⟨#[46, 100]⟩ false _ (by decide +kernel) (by decide +kernel)).mono ?_
  rintro e w1 ⟨rfl, rfl⟩
  have g3 : (((⟨#[97, 100, 100, 119]⟩ : ByteArray).extract 0 3).toList == [99, 115, 114]) = false := by decide +kernel
  go_wp2_with fail
  go_ret
  exact ⟨rfl, HB.out⟩
set_option maxHeartbeats 2000000 in
theorem refClass_46 (w : World) : Calls Tryd.prog 91 #[.int .i64 46] w fun e w' => e = .returned (.int .i64 1) ∧ Below w.heap.size w w' := by
  go_enter Tryd.func91, Tryd.ntmps91
  go_wp2_with fail
  refine (refNames4_c _).mono ?_
  rintro e w1 ⟨rfl, rfl⟩
  have c : _ = some (Value.string ⟨#[115, 117, 98, 119]⟩) := names4_cell w 46 (by omega)
  have HB := Lib.hid (show Below w.heap.size w (w.alloc (.cells (Tab.names4.map strV).toArray 9)) from (Below.refl _ _).alloc (Nat.le_refl _) _)
  generalize (w.alloc (.cells (Tab.names4.map strV).toArray 9)) = W at *
  go_wp2_with fail
  refine (refEnds_is ⟨#[115, 117, 98, 119]⟩ ⟨#[46, 119]⟩ false _ (by decide +kernel) (by decide +kernel)).mono ?_
  rintro e w1 ⟨rfl, rfl⟩
  go_wp2_with fail
  refine (refEnds_is ⟨#[115, 117, 98, 119]⟩ ⟨#[46, 100]⟩ false _ (by decide +kernel) (by decide +kernel)).mono ?_
  rintro e w1 ⟨rfl, rfl⟩
  have g3 : (((⟨#[115, 117, 98, 119]⟩ : ByteArray).extract 0 3).toList == [99, 115, 114]) = false := by decide +kernel
  go_wp2_with fail
  go_ret
  exact ⟨rfl, HB.out⟩
set_option maxHeartbeats 2000000 in
theorem refClass_47 (w : World) : Calls Tryd.prog 91 #[.int .i64 47] w fun e w' => e = .returned (.int .i64 1) ∧ Below w.heap.size w w' := by
  go_enter Tryd.func91, Tryd.ntmps91
  go_wp2_with fail
  refine (refNames4_c _).mono ?_
  rintro e w1 ⟨rfl, rfl⟩
  have c : _ = some (Value.string ⟨#[115, 108, 108, 119]⟩) := names4_cell w 47 (by omega)
  have HB := Lib.hid (show Below w.heap.size w (w.alloc (.cells (Tab.names4.map strV).toArray 9)) from (Below.refl _ _).alloc (Nat.le_refl _) _)
  generalize (w.alloc (.cells (Tab.names4.map strV).toArray 9)) = W at *
  go_wp2_with fail
  refine (refEnds_is ⟨#[115, 108, 108, 119]⟩ ⟨#[46, 119]⟩ false _ (by decide +kernel) (by decide +kernel)).mono ?_
  rintro e w1 ⟨rfl, rfl⟩
  go_wp2_with fail
  refine (refEnds_is ⟨#[115, 108, 108, 119]⟩ ⟨#[46, 100]⟩ false _ (by decide +kernel) (by decide +kernel)).mono ?_
  rintro e w1 ⟨rfl, rfl⟩
  have g3 : (((⟨#[115, 108, 108, 119]⟩ : ByteArray).extract 0 3).toList == [99, 115, 114]) = false := by decide +kernel
  go_wp2_with fail
  go_ret
  exact ⟨rfl, HB.out⟩
set_option maxHeartbeats 2000000 in
theorem refClass_48 (w : World) : Calls Tryd.prog 91 #[.int .i64 48] w fun e w' => e = .returned (.int .i64 1) ∧ Below w.heap.size w w' := by
  go_enter Tryd.func91, Tryd.ntmps91
  go_wp2_with fail
  refine (refNames4_c _).mono ?_
  rintro e w1 ⟨rfl, rfl⟩
  have c : _ = some (Value.string ⟨#[115, 114, 108, 119]⟩) := names4_cell w 48 (by omega)
  have HB := Lib.hid (show Below w.heap.size w (w.alloc (.cells (Tab.names4.map strV).toArray 9)) from (Below.refl _ _).alloc (Nat.le_refl _) _)
  generalize (w.alloc (.cells (Tab.names4.map strV).toArray 9)) = W at *
  go_wp2_with fail
  refine (refEnds_is ⟨#[115, 114, 108, 119]⟩ ⟨#[46, 119]⟩ false _ (by decide +kernel) (by decide +kernel)).mono ?_
  rintro e w1 ⟨rfl, rfl⟩
  go_wp2_with fail
  refine (refEnds_is ⟨#[115, 114, 108, 119]⟩ ⟨#[46, 100]⟩ false _ (by decide +kernel) (by decide +kernel)).mono ?_
  rintro e w1 ⟨rfl, rfl⟩
  have g3 : (((⟨#[115, 114, 108, 119]⟩ : ByteArray).extract 0 3).toList == [99, 115, 114]) = false := by decide +kernel
  go_wp2_with fail
  go_ret
  exact ⟨rfl, HB.out⟩
set_option maxHeartbeats 2000000 in
theorem refClass_49 (w : World) : Calls Tryd.prog 91 #[.int .i64 49] w fun e w' => e = .returned (.int .i64 1) ∧ Below w.heap.size w w' := by
  go_enter Tryd.func91, Tryd.ntmps91
  go_wp2_with fail
  refine (refNames4_c _).mono ?_
  rintro e w1 ⟨rfl, rfl⟩
  have c : _ = some (Value.string ⟨#[115, 114, 97, 119]⟩) := names4_cell w 49 (by omega)
  have HB := Lib.hid (show Below w.heap.size w (w.alloc (.cells (Tab.names4.map strV).toArray 9)) from (Below.refl _ _).alloc (Nat.le_refl _) _)
  generalize (w.alloc (.cells (Tab.names4.map strV).toArray 9)) = W at *
  go_wp2_with fail
  refine (refEnds_is ⟨#[115, 114, 97, 119]⟩ ⟨#[46, 119]⟩ false _ (by decide +kernel) (by decide +kernel)).mono ?_
  rintro e w1 ⟨rfl, rfl⟩
  go_wp2_with fail
  refine (refEnds_is ⟨#[115, 114, 97, 119]⟩ ⟨#[46, 100]⟩ false _ (by decide +kernel) (by decide +kernel)).mono ?_
  rintro e w1 ⟨rfl, rfl⟩
  have g3 : (((⟨#[115, 114, 97, 119]⟩ : ByteArray).extract 0 3).toList == [99, 115, 114]) = false := by decide +kernel
  go_wp2_with fail
  go_ret
  exact ⟨rfl, HB.out⟩
set_option maxHeartbeats 2000000 in
theorem refClass_50 (w : World) : Calls Tryd.prog 91 #[.int .i64 50] w fun e w' => e = .returned (.int .i64 9) ∧ Below w.heap.size w w' := by
  go_enter Tryd.func91, Tryd.ntmps91
  go_wp2_with fail
  refine (refNames4_c _).mono ?_
  rintro e w1 ⟨rfl, rfl⟩
  have c : _ = some (Value.string ⟨#[102, 101, 110, 99, 101]⟩) := names4_cell w 50 (by omega)
  have HB := Lib.hid (show Below w.heap.size w (w.alloc (.cells (Tab.names4.map strV).toArray 9)) from (Below.refl _ _).alloc (Nat.le_refl _) _)
  generalize (w.alloc (.cells (Tab.names4.map strV).toArray 9)) = W at *
  go_wp2_with fail
  go_ret
  exact ⟨rfl, HB.out⟩
set_option maxHeartbeats 2000000 in
theorem refClass_51 (w : World) : Calls Tryd.prog 91 #[.int .i64 51] w fun e w' => e = .returned (.int .i64 9) ∧ Below w.heap.size w w' := by
  go_enter Tryd.func91, Tryd.ntmps91
  go_wp2_with fail
  refine (refNames4_c _).mono ?_
  rintro e w1 ⟨rfl, rfl⟩
  have c : _ = some (Value.string ⟨#[102, 101, 110, 99, 101, 46, 105]⟩) := names4_cell w 51 (by omega)
  have HB := Lib.hid (show Below w.heap.size w (w.alloc (.cells (Tab.names4.map strV).toArray 9)) from (Below.refl _ _).alloc (Nat.le_refl _) _)
  generalize (w.alloc (.cells (Tab.names4.map strV).toArray 9)) = W at *
  go_wp2_with fail
  go_ret
  exact ⟨rfl, HB.out⟩
set_option maxHeartbeats 2000000 in
theorem refClass_52 (w : World) : Calls Tryd.prog 91 #[.int .i64 52] w fun e w' => e = .returned (.int .i64 10) ∧ Below w.heap.size w w' := by
  go_enter Tryd.func91, Tryd.ntmps91
  go_wp2_with fail
  refine (refNames4_c _).mono ?_
  rintro e w1 ⟨rfl, rfl⟩
  have c : _ = some (Value.string ⟨#[101, 99, 97, 108, 108]⟩) := names4_cell w 52 (by omega)
  have HB := Lib.hid (show Below w.heap.size w (w.alloc (.cells (Tab.names4.map strV).toArray 9)) from (Below.refl _ _).alloc (Nat.le_refl _) _)
  generalize (w.alloc (.cells (Tab.names4.map strV).toArray 9)) = W at *
  go_wp2_with fail
  go_ret
  exact ⟨rfl, HB.out⟩
set_option maxHeartbeats 2000000 in
theorem refClass_53 (w : World) : Calls Tryd.prog 91 #[.int .i64 53] w fun e w' => e = .returned (.int .i64 10) ∧ Below w.heap.size w w' := by
  go_enter Tryd.func91, Tryd.ntmps91
  go_wp2_with fail
  refine (refNames4_c _).mono ?_
  rintro e w1 ⟨rfl, rfl⟩
  have c : _ = some (Value.string ⟨#[101, 98, 114, 101, 97, 107]⟩) := names4_cell w 53 (by omega)
  have HB := Lib.hid (show Below w.heap.size w (w.alloc (.cells (Tab.names4.map strV).toArray 9)) from (Below.refl _ _).alloc (Nat.le_refl _) _)
  generalize (w.alloc (.cells (Tab.names4.map strV).toArray 9)) = W at *
  go_wp2_with fail
  go_ret
  exact ⟨rfl, HB.out⟩
set_option maxHeartbeats 2000000 in
theorem refClass_54 (w : World) : Calls Tryd.prog 91 #[.int .i64 54] w fun e w' => e = .returned (.int .i64 1) ∧ Below w.heap.size w w' := by
  go_enter Tryd.func91, Tryd.ntmps91
  go_wp2_with fail
  refine (refNames4_c _).mono ?_
  rintro e w1 ⟨rfl, rfl⟩
  have c : _ = some (Value.string ⟨#[109, 117, 108]⟩) := names4_cell w 54 (by omega)
  have HB := Lib.hid (show Below w.heap.size w (w.alloc (.cells (Tab.names4.map strV).toArray 9)) from (Below.refl _ _).alloc (Nat.le_refl _) _)
  generalize (w.alloc (.cells (Tab.names4.map strV).toArray 9)) = W at *
  go_wp2_with fail
  refine (refEnds_is ⟨#[109, 117, 108]⟩ ⟨#[46, 119]⟩ false _ (by decide +kernel) (by decide +kernel)).mono ?_
  rintro e w1 ⟨rfl, rfl⟩
  go_wp2_with fail
  refine (refEnds_is ⟨#[109, 117, 108]⟩ ⟨#[46, 100]⟩ false _ (by decide +kernel) (by decide +kernel)).mono ?_
  rintro e w1 ⟨rfl, rfl⟩
  go_wp2_with fail
  go_ret
  exact ⟨rfl, HB.out⟩
set_option maxHeartbeats 2000000 in
theorem refClass_55 (w : World) : Calls Tryd.prog 91 #[.int .i64 55] w fun e w' => e = .returned (.int .i64 1) ∧ Below w.heap.size w w' := by
  go_enter Tryd.func91, Tryd.ntmps91
  go_wp2_with fail
  refine (refNames4_c _).mono ?_
  rintro e w1 ⟨rfl, rfl⟩
  have c : _ = some (Value.string ⟨#[109, 117, 108, 104]⟩) := names4_cell w 55 (by omega)
  have HB := Lib.hid (show Below w.heap.size w (w.alloc (.cells (Tab.names4.map strV).toArray 9)) from (Below.refl _ _).alloc (Nat.le_refl _) _)
  generalize (w.alloc (.cells (Tab.names4.map strV).toArray 9)) = W at *
  go_wp2_with fail
  refine (refEnds_is ⟨#[109, 117, 108, 104]⟩ ⟨#[46, 119]⟩ false _ (by decide +kernel) (by decide +kernel)).mono ?_
  rintro e w1 ⟨rfl, rfl⟩
  go_wp2_with fail
  refine (refEnds_is ⟨#[109, 117, 108, 104]⟩ ⟨#[46, 100]⟩ false _ (by decide +kernel) (by decide +kernel)).mono ?_
  rintro e w1 ⟨rfl, rfl⟩
  have g3 : (((⟨#[109, 117, 108, 104]⟩ : ByteArray).extract 0 3).toList == [99, 115, 114]) = false := by decide +kernel
  go_wp2_with fail
  go_ret
  exact ⟨rfl, HB.out⟩
set_option maxHeartbeats 2000000 in
theorem refClass_56 (w : World) : Calls Tryd.prog 91 #[.int .i64 56] w fun e w' => e = .returned (.int .i64 1) ∧ Below w.heap.size w w' := by
  go_enter Tryd.func91, Tryd.ntmps91
  go_wp2_with fail
  refine (refNames4_c _).mono ?_
  rintro e w1 ⟨rfl, rfl⟩
  have c : _ = some (Value.string ⟨#[109, 117, 108, 104, 115, 117]⟩) := names4_cell w 56 (by omega)
  have HB := Lib.hid (show Below w.heap.size w (w.alloc (.cells (Tab.names4.map strV).toArray 9)) from (Below.refl _ _).alloc (Nat.le_refl _) _)
  generalize (w.alloc (.cells (Tab.names4.map strV).toArray 9)) = W at *
  go_wp2_with fail
  refine (refEnds_is ⟨#[109, 117, 108, 104, 115, 117]⟩ ⟨#[46, 119]⟩ false _ (by decide +kernel) (by decide +kernel)).mono ?_
  rintro e w1 ⟨rfl, rfl⟩
  go_wp2_with fail
  refine (refEnds_is ⟨#[109, 117, 108, 104, 115, 117]⟩ ⟨#[46, 100]⟩ false _ (by decide +kernel) (by decide +kernel)).mono ?_
  rintro e w1 ⟨rfl, rfl⟩
  have g3 : (((⟨#[109, 117, 108, 104, 115, 117]⟩ : ByteArray).extract 0 3).toList == [99, 115, 114]) = false := by decide +kernel
  go_wp2_with fail
  go_ret
  exact ⟨rfl, HB.out⟩
set_option maxHeartbeats 2000000 in
theorem refClass_57 (w : World) : Calls Tryd.prog 91 #[.int .i64 57] w fun e w' => e = .returned (.int .i64 1) ∧ Below w.heap.size w w' := by
  go_enter Tryd.func91, Tryd.ntmps91
  go_wp2_with fail
  refine (refNames4_c _).mono ?_
  rintro e w1 ⟨rfl, rfl⟩
  have c : _ = some (Value.string ⟨#[109, 117, 108, 104, 117]⟩) := names4_cell w 57 (by omega)
  have HB := Lib.hid (show Below w.heap.size w (w.alloc (.cells (Tab.names4.map strV).toArray 9)) from (Below.refl _ _).alloc (Nat.le_refl _) _)
  generalize (w.alloc (.cells (Tab.names4.map strV).toArray 9)) = W at *
  go_wp2_with fail
  refine (refEnds_is ⟨#[109, 117, 108, 104, 117]⟩ ⟨#[46, 119]⟩ false _ (by decide +kernel) (by decide +kernel)).mono ?_
  rintro e w1 ⟨rfl, rfl⟩
  go_wp2_with fail
  refine (refEnds_is ⟨#[109, 117, 108, 104, 117]⟩ ⟨#[46, 100]⟩ false _ (by decide +kernel) (by decide +kernel)).mono ?_
  rintro e w1 ⟨rfl, rfl⟩
  have g3 : (((⟨#[109, 117, 108, 104, 117]⟩ : ByteArray).extract 0 3).toList == [99, 115, 114]) = false := by decide +kernel
  go_wp2_with fail
  go_ret
  exact ⟨rfl, HB.out⟩
set_option maxHeartbeats 2000000 in
theorem refClass_58 (w : World) : Calls Tryd.prog 91 #[.int .i64 58] w fun e w' => e = .returned (.int .i64 1) ∧ Below w.heap.size w w' := by
  go_enter Tryd.func91, Tryd.ntmps91
  go_wp2_with fail
  refine (refNames4_c _).mono ?_
  rintro e w1 ⟨rfl, rfl⟩
  have c : _ = some (Value.string ⟨#[100, 105, 118]⟩) := names4_cell w 58 (by omega)
  have HB := Lib.hid (show Below w.heap.size w (w.alloc (.cells (Tab.names4.map strV).toArray 9)) from (Below.refl _ _).alloc (Nat.le_refl _) _)
  generalize (w.alloc (.cells (Tab.names4.map strV).toArray 9)) = W at *
  go_wp2_with fail
  refine (refEnds_is ⟨#[100, 105, 118]⟩ ⟨#[46, 119]⟩ false _ (by decide +kernel) (by decide +kernel)).mono ?_
  rintro e w1 ⟨rfl, rfl⟩
  go_wp2_with fail
  refine (refEnds_is ⟨#[100, 105, 118]⟩ ⟨#[46, 100]⟩ false _ (by decide +kernel) (by decide +kernel)).mono ?_
  rintro e w1 ⟨rfl, rfl⟩
  go_wp2_with fail
  go_ret
  exact ⟨rfl, HB.out⟩
set_option maxHeartbeats 2000000 in
theorem refClass_59 (w : World) : Calls Tryd.prog 91 #[.int .i64 59] w fun e w' => e = .returned (.int .i64 1) ∧ Below w.heap.size w w' := by
  go_enter Tryd.func91, Tryd.ntmps91
  go_wp2_with fail
  refine (refNames4_c _).mono ?_
  rintro e w1 ⟨rfl, rfl⟩
  have c : _ = some (Value.string ⟨#[100, 105, 118, 117]⟩) := names4_cell w 59 (by omega)
  have HB := Lib.hid (show Below w.heap.size w (w.alloc (.cells (Tab.names4.map strV).toArray 9)) from (Below.refl _ _).alloc (Nat.le_refl _) _)
  generalize (w.alloc (.cells (Tab.names4.map strV).toArray 9)) = W at *
  go_wp2_with fail
  refine (refEnds_is ⟨#[100, 105, 118, 117]⟩ ⟨#[46, 119]⟩ false _ (by decide +kernel) (by decide +kernel)).mono ?_
  rintro e w1 ⟨rfl, rfl⟩
  go_wp2_with fail
  refine (refEnds_is ⟨#[100, 105, 118, 117]⟩ ⟨#[46, 100]⟩ false _ (by decide +kernel) (by decide +kernel)).mono ?_
  rintro e w1 ⟨rfl, rfl⟩
  have g3 : (((⟨#[100, 105, 118, 117]⟩ : ByteArray).extract 0 3).toList == [99, 115, 114]) = false := by decide +kernel
  go_wp2_with fail
  go_ret
  exact ⟨rfl, HB.out⟩
set_option maxHeartbeats 2000000 in
theorem refClass_60 (w : World) : Calls Tryd.prog 91 #[.int .i64 60] w fun e w' => e = .returned (.int .i64 1) ∧ Below w.heap.size w w' := by
  go_enter Tryd.func91, Tryd.ntmps91
  go_wp2_with fail
  refine (refNames4_c _).mono ?_
  rintro e w1 ⟨rfl, rfl⟩
  have c : _ = some (Value.string ⟨#[114, 101, 109]⟩) := names4_cell w 60 (by omega)
  have HB := Lib.hid (show Below w.heap.size w (w.alloc (.cells (Tab.names4.map strV).toArray 9)) from (Below.refl _ _).alloc (Nat.le_refl _) _)
  generalize (w.alloc (.cells (Tab.names4.map strV).toArray 9)) = W at *
  go_wp2_with fail
  refine (refEnds_is ⟨#[114, 101, 109]⟩ ⟨#[46, 119]⟩ false _ (by decide +kernel) (by decide +kernel)).mono ?_
  rintro e w1 ⟨rfl, rfl⟩
  go_wp2_with fail
  refine (refEnds_is ⟨#[114, 101, 109]⟩ ⟨#[46, 100]⟩ false _ (by decide +kernel) (by decide +kernel)).mono ?_
  rintro e w1 ⟨rfl, rfl⟩
  go_wp2_with fail
  go_ret
  exact ⟨rfl, HB.out⟩
set_option maxHeartbeats 2000000 in
theorem refClass_61 (w : World) : Calls Tryd.prog 91 #[.int .i64 61] w fun e w' => e = .returned (.int .i64 1) ∧ Below w.heap.size w w' := by
  go_enter Tryd.func91, Tryd.ntmps91
  go_wp2_with fail
  refine (refNames4_c _).mono ?_
  rintro e w1 ⟨rfl, rfl⟩
  have c : _ = some (Value.string ⟨#[114, 101, 109, 117]⟩) := names4_cell w 61 (by omega)
  have HB := Lib.hid (show Below w.heap.size w (w.alloc (.cells (Tab.names4.map strV).toArray 9)) from (Below.refl _ _).alloc (Nat.le_refl _) _)
  generalize (w.alloc (.cells (Tab.names4.map strV).toArray 9)) = W at *
  go_wp2_with fail
  refine (refEnds_is ⟨#[114, 101, 109, 117]⟩ ⟨#[46, 119]⟩ false _ (by decide +kernel) (by decide +kernel)).mono ?_
  rintro e w1 ⟨rfl, rfl⟩
  go_wp2_with fail
  refine (refEnds_is ⟨#[114, 101, 109, 117]⟩ ⟨#[46, 100]⟩ false _ (by decide +kernel) (by decide +kernel)).mono ?_
  rintro e w1 ⟨rfl, rfl⟩
  have g3 : (((⟨#[114, 101, 109, 117]⟩ : ByteArray).extract 0 3).toList == [99, 115, 114]) = false := by decide +kernel
  go_wp2_with fail
  go_ret
  exact ⟨rfl, HB.out⟩
set_option maxHeartbeats 2000000 in
theorem refClass_62 (w : World) : Calls Tryd.prog 91 #[.int .i64 62] w fun e w' => e = .returned (.int .i64 1) ∧ Below w.heap.size w w' := by
  go_enter Tryd.func91, Tryd.ntmps91
  go_wp2_with fail
  refine (refNames4_c _).mono ?_
  rintro e w1 ⟨rfl, rfl⟩
  have c : _ = some (Value.string ⟨#[109, 117, 108, 119]⟩) := names4_cell w 62 (by omega)
  have HB := Lib.hid (show Below w.heap.size w (w.alloc (.cells (Tab.names4.map strV).toArray 9)) from (Below.refl _ _).alloc (Nat.le_refl _) _)
  generalize (w.alloc (.cells (Tab.names4.map strV).toArray 9)) = W at *
  go_wp2_with fail
  refine (refEnds_is ⟨#[109, 117, 108, 119]⟩ ⟨#[46, 119]⟩ false _ (by decide +kernel) (by decide +kernel)).mono ?_
  rintro e w1 ⟨rfl, rfl⟩
  go_wp2_with fail
  refine (refEnds_is ⟨#[109, 117, 108, 119]⟩ ⟨#[46, 100]⟩ false _ (by decide +kernel) (by decide +kernel)).mono ?_
  rintro e w1 ⟨rfl, rfl⟩
  have g3 : (((⟨#[109, 117, 108, 119]⟩ : ByteArray).extract 0 3).toList == [99, 115, 114]) = false := by decide +kernel
  go_wp2_with fail
  go_ret
  exact ⟨rfl, HB.out⟩
set_option maxHeartbeats 2000000 in
theorem refClass_63 (w : World) : Calls Tryd.prog 91 #[.int .i64 63] w fun e w' => e = .returned (.int .i64 1) ∧ Below w.heap.size w w' := by
  go_enter Tryd.func91, Tryd.ntmps91
  go_wp2_with fail
  refine (refNames4_c _).mono ?_
  rintro e w1 ⟨rfl, rfl⟩
  have c : _ = some (Value.string ⟨#[100, 105, 118, 119]⟩) := names4_cell w 63 (by omega)
  have HB := Lib.hid (show Below w.heap.size w (w.alloc (.cells (Tab.names4.map strV).toArray 9)) from (Below.refl _ _).alloc (Nat.le_refl _) _)
  generalize (w.alloc (.cells (Tab.names4.map strV).toArray 9)) = W at *
  go_wp2_with fail
  refine (refEnds_is ⟨#[100, 105, 118, 119]⟩ ⟨#[46, 119]⟩ false _ (by decide +kernel) (by decide +kernel)).mono ?_
  rintro e w1 ⟨rfl, rfl⟩
  go_wp2_with fail
  refine (refEnds_is ⟨#[100, 105, 118, 119]⟩ ⟨#[46, 100]⟩ false _ (by decide +kernel) (by decide +kernel)).mono ?_
  rintro e w1 ⟨rfl, rfl⟩
  have g3 : (((⟨#[100, 105, 118, 119]⟩ : ByteArray).extract 0 3).toList == [99, 115, 114]) = false := by decide +kernel
  go_wp2_with fail
  go_ret
  exact ⟨rfl, HB.out⟩
set_option maxHeartbeats 2000000 in
theorem refClass_64 (w : World) : Calls Tryd.prog 91 #[.int .i64 64] w fun e w' => e = .returned (.int .i64 1) ∧ Below w.heap.size w w' := by
  go_enter Tryd.func91, Tryd.ntmps91
  go_wp2_with fail
  refine (refNames4_c _).mono ?_
  rintro e w1 ⟨rfl, rfl⟩
  have c : _ = some (Value.string ⟨#[100, 105, 118, 117, 119]⟩) := names4_cell w 64 (by omega)
  have HB := Lib.hid (show Below w.heap.size w (w.alloc (.cells (Tab.names4.map strV).toArray 9)) from (Below.refl _ _).alloc (Nat.le_refl _) _)
  generalize (w.alloc (.cells (Tab.names4.map strV).toArray 9)) = W at *
  go_wp2_with fail
  refine (refEnds_is ⟨#[100, 105, 118, 117, 119]⟩ ⟨#[46, 119]⟩ false _ (by decide +kernel) (by decide +kernel)).mono ?_
  rintro e w1 ⟨rfl, rfl⟩
  go_wp2_with fail
  refine (refEnds_is ⟨#[100, 105, 118, 117, 119]⟩ ⟨#[46, 100]⟩ false _ (by decide +kernel) (by decide +kernel)).mono ?_
  rintro e w1 ⟨rfl, rfl⟩
  have g3 : (((⟨#[100, 105, 118, 117, 119]⟩ : ByteArray).extract 0 3).toList == [99, 115, 114]) = false := by decide +kernel
  go_wp2_with fail
  go_ret
  exact ⟨rfl, HB.out⟩
set_option maxHeartbeats 2000000 in
theorem refClass_65 (w : World) : Calls Tryd.prog 91 #[.int .i64 65] w fun e w' => e = .returned (.int .i64 1) ∧ Below w.heap.size w w' := by
  go_enter Tryd.func91, Tryd.ntmps91
  go_wp2_with fail
  refine (refNames4_c _).mono ?_
  rintro e w1 ⟨rfl, rfl⟩
  have c : _ = some (Value.string ⟨#[114, 101, 109, 119]⟩) := names4_cell w 65 (by omega)
  have HB := Lib.hid (show Below w.heap.size w (w.alloc (.cells (Tab.names4.map strV).toArray 9)) from (Below.refl _ _).alloc (Nat.le_refl _) _)
  generalize (w.alloc (.cells (Tab.names4.map strV).toArray 9)) = W at *
  go_wp2_with fail
  refine (refEnds_is ⟨#[114, 101, 109, 119]⟩ ⟨#[46, 119]⟩ false _ (by decide +kernel) (by decide +kernel)).mono ?_
  rintro e w1 ⟨rfl, rfl⟩
  go_wp2_with fail
  refine (refEnds_is ⟨#[114, 101, 109, 119]⟩ ⟨#[46, 100]⟩ false _ (by decide +kernel) (by decide +kernel)).mono ?_
  rintro e w1 ⟨rfl, rfl⟩
  have g3 : (((⟨#[114, 101, 109, 119]⟩ : ByteArray).extract 0 3).toList == [99, 115, 114]) = false := by decide +kernel
  go_wp2_with fail
  go_ret
  exact ⟨rfl, HB.out⟩
set_option maxHeartbeats 2000000 in
theorem refClass_66 (w : World) : Calls Tryd.prog 91 #[.int .i64 66] w fun e w' => e = .returned (.int .i64 1) ∧ Below w.heap.size w w' := by
  go_enter Tryd.func91, Tryd.ntmps91
  go_wp2_with fail
  refine (refNames4_c _).mono ?_
  rintro e w1 ⟨rfl, rfl⟩
  have c : _ = some (Value.string ⟨#[114, 101, 109, 117, 119]⟩) := names4_cell w 66 (by omega)
  have HB := Lib.hid (show Below w.heap.size w (w.alloc (.cells (Tab.names4.map strV).toArray 9)) from (Below.refl _ _).alloc (Nat.le_refl _) _)
  generalize (w.alloc (.cells (Tab.names4.map strV).toArray 9)) = W at *
  go_wp2_with fail
  refine (refEnds_is ⟨#[114, 101, 109, 117, 119]⟩ ⟨#[46, 119]⟩ false _ (by decide +kernel) (by decide +kernel)).mono ?_
  rintro e w1 ⟨rfl, rfl⟩
  go_wp2_with fail
  refine (refEnds_is ⟨#[114, 101, 109, 117, 119]⟩ ⟨#[46, 100]⟩ false _ (by decide +kernel) (by decide +kernel)).mono ?_
  rintro e w1 ⟨rfl, rfl⟩
  have g3 : (((⟨#[114, 101, 109, 117, 119]⟩ : ByteArray).extract 0 3).toList == [99, 115, 114]) = false := by decide +kernel
  go_wp2_with fail
  go_ret
  exact ⟨rfl, HB.out⟩
set_option maxHeartbeats 2000000 in
theorem refClass_67 (w : World) : Calls Tryd.prog 91 #[.int .i64 67] w fun e w' => e = .returned (.int .i64 7) ∧ Below w.heap.size w w' := by
  go_enter Tryd.func91, Tryd.ntmps91
  go_wp2_with fail
  refine (refNames4_c _).mono ?_
  rintro e w1 ⟨rfl, rfl⟩
  have c : _ = some (Value.string ⟨#[108, 114, 46, 119]⟩) := names4_cell w 67 (by omega)
  have HB := Lib.hid (show Below w.heap.size w (w.alloc (.cells (Tab.names4.map strV).toArray 9)) from (Below.refl _ _).alloc (Nat.le_refl _) _)
  generalize (w.alloc (.cells (Tab.names4.map strV).toArray 9)) = W at *
  go_wp2_with fail
  refine (refEnds_is ⟨#[108, 114, 46, 119]⟩ ⟨#[46, 119]⟩ true _ (by decide +kernel) (by decide +kernel)).mono ?_
  rintro e w1 ⟨rfl, rfl⟩
  go_wp2_with fail
  go_ret
  exact ⟨rfl, HB.out⟩
set_option maxHeartbeats 2000000 in
theorem refClass_68 (w : World) : Calls Tryd.prog 91 #[.int .i64 68] w fun e w' => e = .returned (.int .i64 7) ∧ Below w.heap.size w w' := by
  go_enter Tryd.func91, Tryd.ntmps91
  go_wp2_with fail
  refine (refNames4_c _).mono ?_
  rintro e w1 ⟨rfl, rfl⟩
  have c : _ = some (Value.string ⟨#[115, 99, 46, 119]⟩) := names4_cell w 68 (by omega)
  have HB := Lib.hid (show Below w.heap.size w (w.alloc (.cells (Tab.names4.map strV).toArray 9)) from (Below.refl _ _).alloc (Nat.le_refl _) _)
  generalize (w.alloc (.cells (Tab.names4.map strV).toArray 9)) = W at *
  go_wp2_with fail
  refine (refEnds_is ⟨#[115, 99, 46, 119]⟩ ⟨#[46, 119]⟩ true _ (by decide +kernel) (by decide +kernel)).mono ?_
  rintro e w1 ⟨rfl, rfl⟩
  go_wp2_with fail
  go_ret
  exact ⟨rfl, HB.out⟩
set_option maxHeartbeats 2000000 in
theorem refClass_69 (w : World) : Calls Tryd.prog 91 #[.int .i64 69] w fun e w' => e = .returned (.int .i64 7) ∧ Below w.heap.size w w' := by
  go_enter Tryd.func91, Tryd.ntmps91
  go_wp2_with fail
  refine (refNames4_c _).mono ?_
  rintro e w1 ⟨rfl, rfl⟩
  have c : _ = some (Value.string ⟨#[97, 109, 111, 115, 119, 97, 112, 46, 119]⟩) := names4_cell w 69 (by omega)
  have HB := Lib.hid (show Below w.heap.size w (w.alloc (.cells (Tab.names4.map strV).toArray 9)) from (Below.refl _ _).alloc (Nat.le_refl _) _)
  generalize (w.alloc (.cells (Tab.names4.map strV).toArray 9)) = W at *
  go_wp2_with fail
  refine (refEnds_is ⟨#[97, 109, 111, 115, 119, 97, 112, 46, 119]⟩ ⟨#[46, 119]⟩ true _ (by decide +kernel) (by decide +kernel)).mono ?_
  rintro e w1 ⟨rfl, rfl⟩
  go_wp2_with fail
  go_ret
  exact ⟨rfl, HB.out⟩
set_option maxHeartbeats 2000000 in
theorem refClass_70 (w : World) : Calls Tryd.prog 91 #[.int .i64 70] w fun e w' => e = .returned (.int .i64 7) ∧ Below w.heap.size w w' := by
  go_enter Tryd.func91, Tryd.ntmps91
  go_wp2_with fail
  refine (refNames4_c _).mono ?_
  rintro e w1 ⟨rfl, rfl⟩
  have c : _ = some (Value.string ⟨#[97, 109, 111, 97, 100, 100, 46, 119]⟩) := names4_cell w 70 (by omega)
  have HB := Lib.hid (show Below w.heap.size w (w.alloc (.cells (Tab.names4.map strV).toArray 9)) from (Below.refl _ _).alloc (Nat.le_refl _) _)
  generalize (w.alloc (.cells (Tab.names4.map strV).toArray 9)) = W at *
  go_wp2_with fail
  refine (refEnds_is ⟨#[97, 109, 111, 97, 100, 100, 46, 119]⟩ ⟨#[46, 119]⟩ true _ (by decide +kernel) (by decide +kernel)).mono ?_
  rintro e w1 ⟨rfl, rfl⟩
  go_wp2_with fail
  go_ret
  exact ⟨rfl, HB.out⟩
set_option maxHeartbeats 2000000 in
theorem refClass_71 (w : World) : Calls Tryd.prog 91 #[.int .i64 71] w fun e w' => e = .returned (.int .i64 7) ∧ Below w.heap.size w w' := by
  go_enter Tryd.func91, Tryd.ntmps91
  go_wp2_with fail
  refine (refNames4_c _).mono ?_
  rintro e w1 ⟨rfl, rfl⟩
  have c : _ = some (Value.string ⟨#[97, 109, 111, 120, 111, 114, 46, 119]⟩) := names4_cell w 71 (by omega)
  have HB := Lib.hid (show Below w.heap.size w (w.alloc (.cells (Tab.names4.map strV).toArray 9)) from (Below.refl _ _).alloc (Nat.le_refl _) _)
  generalize (w.alloc (.cells (Tab.names4.map strV).toArray 9)) = W at *
  go_wp2_with fail
  refine (refEnds_is ⟨#[97, 109, 111, 120, 111, 114, 46, 119]⟩ ⟨#[46, 119]⟩ true _ (by decide +kernel) (by decide +kernel)).mono ?_
  rintro e w1 ⟨rfl, rfl⟩
  go_wp2_with fail
  go_ret
  exact ⟨rfl, HB.out⟩
set_option maxHeartbeats 2000000 in
theorem refClass_72 (w : World) : Calls Tryd.prog 91 #[.int .i64 72] w fun e w' => e = .returned (.int .i64 7) ∧ Below w.heap.size w w' := by
  go_enter Tryd.func91, Tryd.ntmps91
  go_wp2_with fail
  refine (refNames4_c _).mono ?_
  rintro e w1 ⟨rfl, rfl⟩
  have c : _ = some (Value.string ⟨#[97, 109, 111, 97, 110, 100, 46, 119]⟩) := names4_cell w 72 (by omega)
  have HB := Lib.hid (show Below w.heap.size w (w.alloc (.cells (Tab.names4.map strV).toArray 9)) from (Below.refl _ _).alloc (Nat.le_refl _) _)
  generalize (w.alloc (.cells (Tab.names4.map strV).toArray 9)) = W at *
  go_wp2_with fail
  refine (refEnds_is ⟨#[97, 109, 111, 97, 110, 100, 46, 119]⟩ ⟨#[46, 119]⟩ true _ (by decide +kernel) (by decide +kernel)).mono ?_
  rintro e w1 ⟨rfl, rfl⟩
  go_wp2_with fail
  go_ret
  exact ⟨rfl, HB.out⟩
set_option maxHeartbeats 2000000 in
theorem refClass_73 (w : World) : Calls Tryd.prog 91 #[.int .i64 73] w fun e w' => e = .returned (.int .i64 7) ∧ Below w.heap.size w w' := by
  go_enter Tryd.func91, Tryd.ntmps91
  go_wp2_with fail
  refine (refNames4_c _).mono ?_
  rintro e w1 ⟨rfl, rfl⟩
  have c : _ = some (Value.string ⟨#[97, 109, 111, 111, 114, 46, 119]⟩) := names4_cell w 73 (by omega)
  have HB := Lib.hid (show Below w.heap.size w (w.alloc (.cells (Tab.names4.map strV).toArray 9)) from (Below.refl _ _).alloc (Nat.le_refl _) _)
  generalize (w.alloc (.cells (Tab.names4.map strV).toArray 9)) = W at *
  go_wp2_with fail
  refine (refEnds_is ⟨#[97, 109, 111, 111, 114, 46, 119]⟩ ⟨#[46, 119]⟩ true _ (by decide +kernel) (by decide +kernel)).mono ?_
  rintro e w1 ⟨rfl, rfl⟩
  go_wp2_with fail
  go_ret
  exact ⟨rfl, HB.out⟩
set_option maxHeartbeats 2000000 in
theorem refClass_74 (w : World) : Calls Tryd.prog 91 #[.int .i64 74] w fun e w' => e = .returned (.int .i64 7) ∧ Below w.heap.size w w' := by
  go_enter Tryd.func91, Tryd.ntmps91
  go_wp2_with fail
  refine (refNames4_c _).mono ?_
  rintro e w1 ⟨rfl, rfl⟩
  have c : _ = some (Value.string ⟨#[97, 109, 111, 109, 105, 110, 46, 119]⟩) := names4_cell w 74 (by omega)
  have HB := Lib.hid (show Below w.heap.size w (w.alloc (.cells (Tab.names4.map strV).toArray 9)) from (Below.refl _ _).alloc (Nat.le_refl _) _)
  generalize (w.alloc (.cells (Tab.names4.map strV).toArray 9)) = W at *
  go_wp2_with fail
  refine (refEnds_is ⟨#[97, 109, 111, 109, 105, 110, 46, 119]⟩ ⟨#[46, 119]⟩ true _ (by decide +kernel) (by decide +kernel)).mono ?_
  rintro e w1 ⟨rfl, rfl⟩
  go_wp2_with fail
  go_ret
  exact ⟨rfl, HB.out⟩
set_option maxHeartbeats 2000000 in
theorem refClass_75 (w : World) : Calls Tryd.prog 91 #[.int .i64 75] w fun e w' => e = .returned (.int .i64 7) ∧ Below w.heap.size w w' := by
  go_enter Tryd.func91, Tryd.ntmps91
  go_wp2_with fail
  refine (refNames4_c _).mono ?_
  rintro e w1 ⟨rfl, rfl⟩
  have c : _ = some (Value.string ⟨#[97, 109, 111, 109, 97, 120, 46, 119]⟩) := names4_cell w 75 (by omega)
  have HB := Lib.hid (show Below w.heap.size w (w.alloc (.cells (Tab.names4.map strV).toArray 9)) from (Below.refl _ _).alloc (Nat.le_refl _) _)
  generalize (w.alloc (.cells (Tab.names4.map strV).toArray 9)) = W at *
  go_wp2_with fail
  refine (refEnds_is ⟨#[97, 109, 111, 109, 97, 120, 46, 119]⟩ ⟨#[46, 119]⟩ true _ (by decide +kernel) (by decide +kernel)).mono ?_
  rintro e w1 ⟨rfl, rfl⟩
  go_wp2_with fail
  go_ret
  exact ⟨rfl, HB.out⟩
set_option maxHeartbeats 2000000 in
theorem refClass_76 (w : World) : Calls Tryd.prog 91 #[.int .i64 76] w fun e w' => e = .returned (.int .i64 7) ∧ Below w.heap.size w w' := by
  go_enter Tryd.func91, Tryd.ntmps91
  go_wp2_with fail
  refine (refNames4_c _).mono ?_
  rintro e w1 ⟨rfl, rfl⟩
  have c : _ = some (Value.string ⟨#[97, 109, 111, 109, 105, 110, 117, 46, 119]⟩) := names4_cell w 76 (by omega)
  have HB := Lib.hid (show Below w.heap.size w (w.alloc (.cells (Tab.names4.map strV).toArray 9)) from (Below.refl _ _).alloc (Nat.le_refl _) _)
  generalize (w.alloc (.cells (Tab.names4.map strV).toArray 9)) = W at *
  go_wp2_with fail
  refine (refEnds_is ⟨#[97, 109, 111, 109, 105, 110, 117, 46, 119]⟩ ⟨#[46, 119]⟩ true _ (by decide +kernel) (by decide +kernel)).mono ?_
  rintro e w1 ⟨rfl, rfl⟩
  go_wp2_with fail
  go_ret
  exact ⟨rfl, HB.out⟩
set_option maxHeartbeats 2000000 in
theorem refClass_77 (w : World) : Calls Tryd.prog 91 #[.int .i64 77] w fun e w' => e = .returned (.int .i64 7) ∧ Below w.heap.size w w' := by
  go_enter Tryd.func91, Tryd.ntmps91
  go_wp2_with fail
  refine (refNames4_c _).mono ?_
  rintro e w1 ⟨rfl, rfl⟩
  have c : _ = some (Value.string ⟨#[97, 109, 111, 109, 97, 120, 117, 46, 119]⟩) := names4_cell w 77 (by omega)
  have HB := Lib.hid (show Below w.heap.size w (w.alloc (.cells (Tab.names4.map strV).toArray 9)) from (Below.refl _ _).alloc (Nat.le_refl _) _)
  generalize (w.alloc (.cells (Tab.names4.map strV).toArray 9)) = W at *
  go_wp2_with fail
  refine (refEnds_is ⟨#[97, 109, 111, 109, 97, 120, 117, 46, 119]⟩ ⟨#[46, 119]⟩ true _ (by decide +kernel) (by decide +kernel)).mono ?_
  rintro e w1 ⟨rfl, rfl⟩
  go_wp2_with fail
  go_ret
  exact ⟨rfl, HB.out⟩
set_option maxHeartbeats 2000000 in
theorem refClass_78 (w : World) : Calls Tryd.prog 91 #[.int .i64 78] w fun e w' => e = .returned (.int .i64 7) ∧ Below w.heap.size w w' := by
  go_enter Tryd.func91, Tryd.ntmps91
  go_wp2_with fail
  refine (refNames4_c _).mono ?_
  rintro e w1 ⟨rfl, rfl⟩
  have c : _ = some (Value.string ⟨#[108, 114, 46, 100]⟩) := names4_cell w 78 (by omega)
  have HB := Lib.hid (show Below w.heap.size w (w.alloc (.cells (Tab.names4.map strV).toArray 9)) from (Below.refl _ _).alloc (Nat.le_refl _) _)
  generalize (w.alloc (.cells (Tab.names4.map strV).toArray 9)) = W at *
  go_wp2_with fail
  refine (refEnds_is ⟨#[108, 114, 46, 100]⟩ ⟨#[46, 119]⟩ false _ (by decide +kernel) (by decide +kernel)).mono ?_
  rintro e w1 ⟨rfl, rfl⟩
  go_wp2_with fail
  refine (refEnds_is ⟨#[108, 114, 46, 100]⟩ ⟨#[46, 100]⟩ true _ (by decide +kernel) (by decide +kernel)).mono ?_
  rintro e w1 ⟨rfl, rfl⟩
  go_wp2_with fail
  go_ret
  exact ⟨rfl, HB.out⟩
set_option maxHeartbeats 2000000 in
theorem refClass_79 (w : World) : Calls Tryd.prog 91 #[.int .i64 79] w fun e w' => e = .returned (.int .i64 7) ∧ Below w.heap.size w w' := by
  go_enter Tryd.func91, Tryd.ntmps91
  go_wp2_with fail
  refine (refNames4_c _).mono ?_
  rintro e w1 ⟨rfl, rfl⟩
  have c : _ = some (Value.string ⟨#[115, 99, 46, 100]⟩) := names4_cell w 79 (by omega)
  have HB := Lib.hid (show Below w.heap.size w (w.alloc (.cells (Tab.names4.map strV).toArray 9)) from (Below.refl _ _).alloc (Nat.le_refl _) _)
  generalize (w.alloc (.cells (Tab.names4.map strV).toArray 9)) = W at *
  go_wp2_with fail
  refine (refEnds_is ⟨#[115, 99, 46, 100]⟩ ⟨#[46, 119]⟩ false _ (by decide +kernel) (by decide +kernel)).mono ?_
  rintro e w1 ⟨rfl, rfl⟩
  go_wp2_with fail
  refine (refEnds_is ⟨#[115, 99, 46, 100]⟩ ⟨#[46, 100]⟩ true _ (by decide +kernel) (by decide +kernel)).mono ?_
  rintro e w1 ⟨rfl, rfl⟩
  go_wp2_with fail
  go_ret
  exact ⟨rfl, HB.out⟩
set_option maxHeartbeats 2000000 in
theorem refClass_80 (w : World) : Calls Tryd.prog 91 #[.int .i64 80] w fun e w' => e = .returned (.int .i64 7) ∧ Below w.heap.size w w' := by
  go_enter Tryd.func91, Tryd.ntmps91
  go_wp2_with fail
  refine (refNames4_c _).mono ?_
  rintro e w1 ⟨rfl, rfl⟩
  have c : _ = some (Value.string ⟨#[97, 109, 111, 115, 119, 97, 112, 46, 100]⟩) := names4_cell w 80 (by omega)
  have HB := Lib.hid (show Below w.heap.size w (w.alloc (.cells (Tab.names4.map strV).toArray 9)) from (Below.refl _ _).alloc (Nat.le_refl _) _)
  generalize (w.alloc (.cells (Tab.names4.map strV).toArray 9)) = W at *
  go_wp2_with fail
  refine (refEnds_is ⟨#[97, 109, 111, 115, 119, 97, 112, 46, 100]⟩ ⟨#[46, 119]⟩ false _ (by decide +kernel) (by decide +kernel)).mono ?_
  rintro e w1 ⟨rfl, rfl⟩
  go_wp2_with fail
  refine (refEnds_is ⟨#[97, 109, 111, 115, 119, 97, 112, 46, 100]⟩ ⟨#[46, 100]⟩ true _ (by decide +kernel) (by decide +kernel)).mono ?_
  rintro e w1 ⟨rfl, rfl⟩
  go_wp2_with fail
  go_ret
  exact ⟨rfl, HB.out⟩
set_option maxHeartbeats 2000000 in
theorem refClass_81 (w : World) : Calls Tryd.prog 91 #[.int .i64 81] w fun e w' => e = .returned (.int .i64 7) ∧ Below w.heap.size w w' := by
  go_enter Tryd.func91, Tryd.ntmps91
  go_wp2_with fail
  refine (refNames4_c _).mono ?_
  rintro e w1 ⟨rfl, rfl⟩
  have c : _ = some (Value.string ⟨#[97, 109, 111, 97, 100, 100, 46, 100]⟩) := names4_cell w 81 (by omega)
  have HB := Lib.hid (show Below w.heap.size w (w.alloc (.cells (Tab.names4.map strV).toArray 9)) from (Below.refl _ _).alloc (Nat.le_refl _) _)
  generalize (w.alloc (.cells (Tab.names4.map strV).toArray 9)) = W at *
  go_wp2_with fail
  refine (refEnds_is ⟨#[97, 109, 111, 97, 100, 100, 46, 100]⟩ ⟨#[46, 119]⟩ false _ (by decide +kernel) (by decide +kernel)).mono ?_
  rintro e w1 ⟨rfl, rfl⟩
  go_wp2_with fail
  refine (refEnds_is ⟨#[97, 109, 111, 97, 100, 100, 46, 100]⟩ ⟨#[46, 100]⟩ true _ (by decide +kernel) (by decide +kernel)).mono ?_
  rintro e w1 ⟨rfl, rfl⟩
  go_wp2_with fail
  go_ret
  exact ⟨rfl, HB.out⟩
set_option maxHeartbeats 2000000 in
theorem refClass_82 (w : World) : Calls Tryd.prog 91 #[.int .i64 82] w fun e w' => e = .returned (.int .i64 7) ∧ Below w.heap.size w w' := by
  go_enter Tryd.func91, Tryd.ntmps91
  go_wp2_with fail
  refine (refNames4_c _).mono ?_
  rintro e w1 ⟨rfl, rfl⟩
  have c : _ = some (Value.string ⟨#[97, 109, 111, 120, 111, 114, 46, 100]⟩) := names4_cell w 82 (by omega)
  have HB := Lib.hid (show Below w.heap.size w (w.alloc (.cells (Tab.names4.map strV).toArray 9)) from (Below.refl _ _).alloc (Nat.le_refl _) _)
  generalize (w.alloc (.cells (Tab.names4.map strV).toArray 9)) = W at *
  go_wp2_with fail
  refine (refEnds_is ⟨#[97, 109, 111, 120, 111, 114, 46, 100]⟩ ⟨#[46, 119]⟩ false _ (by decide +kernel) (by decide +kernel)).mono ?_
  rintro e w1 ⟨rfl, rfl⟩
  go_wp2_with fail
  refine (refEnds_is ⟨#[97, 109, 111, 120, 111, 114, 46, 100]⟩ ⟨#[46, 100]⟩ true _ (by decide +kernel) (by decide +kernel)).mono ?_
  rintro e w1 ⟨rfl, rfl⟩
  go_wp2_with fail
  go_ret
  exact ⟨rfl, HB.out⟩
set_option maxHeartbeats 2000000 in
theorem refClass_83 (w : World) : Calls Tryd.prog 91 #[.int .i64 83] w fun e w' => e = .returned (.int .i64 7) ∧ Below w.heap.size w w' := by
  go_enter Tryd.func91, Tryd.ntmps91
  go_wp2_with fail
  refine (refNames4_c _).mono ?_
  rintro e w1 ⟨rfl, rfl⟩
  have c : _ = some (Value.string ⟨#[97, 109, 111, 97, 110, 100, 46, 100]⟩) := names4_cell w 83 (by omega)
  have HB := Lib.hid (show Below w.heap.size w (w.alloc (.cells (Tab.names4.map strV).toArray 9)) from (Below.refl _ _).alloc (Nat.le_refl _) _)
  generalize (w.alloc (.cells (Tab.names4.map strV).toArray 9)) = W at *
  go_wp2_with fail
  refine (refEnds_is ⟨#[97, 109, 111, 97, 110, 100, 46, 100]⟩ ⟨#[46, 119]⟩ false _ (by decide +kernel) (by decide +kernel)).mono ?_
  rintro e w1 ⟨rfl, rfl⟩
  go_wp2_with fail
  refine (refEnds_is ⟨#[97, 109, 111, 97, 110, 100, 46, 100]⟩ ⟨#[46, 100]⟩ true _ (by decide +kernel) (by decide +kernel)).mono ?_
  rintro e w1 ⟨rfl, rfl⟩
  go_wp2_with fail
  go_ret
  exact ⟨rfl, HB.out⟩
set_option maxHeartbeats 2000000 in
theorem refClass_84 (w : World) : Calls Tryd.prog 91 #[.int .i64 84] w fun e w' => e = .returned (.int .i64 7) ∧ Below w.heap.size w w' := by
  go_enter Tryd.func91, Tryd.ntmps91
  go_wp2_with fail
  refine (refNames4_c _).mono ?_
  rintro e w1 ⟨rfl, rfl⟩
  have c : _ = some (Value.string ⟨#[97, 109, 111, 111, 114, 46, 100]⟩) := names4_cell w 84 (by omega)
  have HB := Lib.hid (show Below w.heap.size w (w.alloc (.cells (Tab.names4.map strV).toArray 9)) from (Below.refl _ _).alloc (Nat.le_refl _) _)
  generalize (w.alloc (.cells (Tab.names4.map strV).toArray 9)) = W at *
  go_wp2_with fail
  refine (refEnds_is ⟨#[97, 109, 111, 111, 114, 46, 100]⟩ ⟨#[46, 119]⟩ false _ (by decide +kernel) (by decide +kernel)).mono ?_
  rintro e w1 ⟨rfl, rfl⟩
  go_wp2_with fail
  refine (refEnds_is ⟨#[97, 109, 111, 111, 114, 46, 100]⟩ ⟨#[46, 100]⟩ true _ (by decide +kernel) (by decide +kernel)).mono ?_
  rintro e w1 ⟨rfl, rfl⟩
  go_wp2_with fail
  go_ret
  exact ⟨rfl, HB.out⟩
set_option maxHeartbeats 2000000 in
theorem refClass_85 (w : World) : Calls Tryd.prog 91 #[.int .i64 85] w fun e w' => e = .returned (.int .i64 7) ∧ Below w.heap.size w w' := by
  go_enter Tryd.func91, Tryd.ntmps91
  go_wp2_with fail
  refine (refNames4_c _).mono ?_
  rintro e w1 ⟨rfl, rfl⟩
  have c : _ = some (Value.string ⟨#[97, 109, 111, 109, 105, 110, 46, 100]⟩) := names4_cell w 85 (by omega)
  have HB := Lib.hid (show Below w.heap.size w (w.alloc (.cells (Tab.names4.map strV).toArray 9)) from (Below.refl _ _).alloc (Nat.le_refl _) _)
  generalize (w.alloc (.cells (Tab.names4.map strV).toArray 9)) = W at *
  go_wp2_with fail
  refine (refEnds_is ⟨#[97, 109, 111, 109, 105, 110, 46, 100]⟩ ⟨#[46, 119]⟩ false _ (by decide +kernel) (by decide +kernel)).mono ?_
  rintro e w1 ⟨rfl, rfl⟩
  go_wp2_with fail
  refine (refEnds_is ⟨#[97, 109, 111, 109, 105, 110, 46, 100]⟩ ⟨#[46, 100]⟩ true _ (by decide +kernel) (by decide +kernel)).mono ?_
  rintro e w1 ⟨rfl, rfl⟩
  go_wp2_with fail
  go_ret
  exact ⟨rfl, HB.out⟩
set_option maxHeartbeats 2000000 in
theorem refClass_86 (w : World) : Calls Tryd.prog 91 #[.int .i64 86] w fun e w' => e = .returned (.int .i64 7) ∧ Below w.heap.size w w' := by
  go_enter Tryd.func91, Tryd.ntmps91
  go_wp2_with fail
  refine (refNames4_c _).mono ?_
  rintro e w1 ⟨rfl, rfl⟩
  have c : _ = some (Value.string ⟨#[97, 109, 111, 109, 97, 120, 46, 100]⟩) := names4_cell w 86 (by omega)
  have HB := Lib.hid (show Below w.heap.size w (w.alloc (.cells (Tab.names4.map strV).toArray 9)) from (Below.refl _ _).alloc (Nat.le_refl _) _)
  generalize (w.alloc (.cells (Tab.names4.map strV).toArray 9)) = W at *
  go_wp2_with fail
  refine (refEnds_is ⟨#[97, 109, 111, 109, 97, 120, 46, 100]⟩ ⟨#[46, 119]⟩ false _ (by decide +kernel) (by decide +kernel)).mono ?_
  rintro e w1 ⟨rfl, rfl⟩
  go_wp2_with fail
  refine (refEnds_is ⟨#[97, 109, 111, 109, 97, 120, 46, 100]⟩ ⟨#[46, 100]⟩ true _ (by decide +kernel) (by decide +kernel)).mono ?_
  rintro e w1 ⟨rfl, rfl⟩
  go_wp2_with fail
  go_ret
  exact ⟨rfl, HB.out⟩
set_option maxHeartbeats 2000000 in
theorem refClass_87 (w : World) : Calls Tryd.prog 91 #[.int .i64 87] w fun e w' => e = .returned (.int .i64 7) ∧ Below w.heap.size w w' := by
  go_enter Tryd.func91, Tryd.ntmps91
  go_wp2_with fail
  refine (refNames4_c _).mono ?_
  rintro e w1 ⟨rfl, rfl⟩
  have c : _ = some (Value.string ⟨#[97, 109, 111, 109, 105, 110, 117, 46, 100]⟩) := names4_cell w 87 (by omega)
  have HB := Lib.hid (show Below w.heap.size w (w.alloc (.cells (Tab.names4.map strV).toArray 9)) from (Below.refl _ _).alloc (Nat.le_refl _) _)
  generalize (w.alloc (.cells (Tab.names4.map strV).toArray 9)) = W at *
  go_wp2_with fail
  refine (refEnds_is ⟨#[97, 109, 111, 109, 105, 110, 117, 46, 100]⟩ ⟨#[46, 119]⟩ false _ (by decide +kernel) (by decide +kernel)).mono ?_
  rintro e w1 ⟨rfl, rfl⟩
  go_wp2_with fail
  refine (refEnds_is ⟨#[97, 109, 111, 109, 105, 110, 117, 46, 100]⟩ ⟨#[46, 100]⟩ true _ (by decide +kernel) (by decide +kernel)).mono ?_
  rintro e w1 ⟨rfl, rfl⟩
  go_wp2_with fail
  go_ret
  exact ⟨rfl, HB.out⟩
set_option maxHeartbeats 2000000 in
theorem refClass_88 (w : World) : Calls Tryd.prog 91 #[.int .i64 88] w fun e w' => e = .returned (.int .i64 7) ∧ Below w.heap.size w w' := by
  go_enter Tryd.func91, Tryd.ntmps91
  go_wp2_with fail
  refine (refNames4_c _).mono ?_
  rintro e w1 ⟨rfl, rfl⟩
  have c : _ = some (Value.string ⟨#[97, 109, 111, 109, 97, 120, 117, 46, 100]⟩) := names4_cell w 88 (by omega)
  have HB := Lib.hid (show Below w.heap.size w (w.alloc (.cells (Tab.names4.map strV).toArray 9)) from (Below.refl _ _).alloc (Nat.le_refl _) _)
  generalize (w.alloc (.cells (Tab.names4.map strV).toArray 9)) = W at *
  go_wp2_with fail
  refine (refEnds_is ⟨#[97, 109, 111, 109, 97, 120, 117, 46, 100]⟩ ⟨#[46, 119]⟩ false _ (by decide +kernel) (by decide +kernel)).mono ?_
  rintro e w1 ⟨rfl, rfl⟩
  go_wp2_with fail
  refine (refEnds_is ⟨#[97, 109, 111, 109, 97, 120, 117, 46, 100]⟩ ⟨#[46, 100]⟩ true _ (by decide +kernel) (by decide +kernel)).mono ?_
  rintro e w1 ⟨rfl, rfl⟩
  go_wp2_with fail
  go_ret
  exact ⟨rfl, HB.out⟩
set_option maxHeartbeats 2000000 in
theorem refClass_89 (w : World) : Calls Tryd.prog 91 #[.int .i64 89] w fun e w' => e = .returned (.int .i64 8) ∧ Below w.heap.size w w' := by
  go_enter Tryd.func91, Tryd.ntmps91
  go_wp2_with fail
  refine (refNames4_c _).mono ?_
  rintro e w1 ⟨rfl, rfl⟩
  have c : _ = some (Value.string ⟨#[99, 115, 114, 114, 119]⟩) := names4_cell w 89 (by omega)
  have HB := Lib.hid (show Below w.heap.size w (w.alloc (.cells (Tab.names4.map strV).toArray 9)) from (Below.refl _ _).alloc (Nat.le_refl _) _)
  generalize (w.alloc (.cells (Tab.names4.map strV).toArray 9)) = W at *
  go_wp2_with fail
  refine (refEnds_is ⟨#[99, 115, 114, 114, 119]⟩ ⟨#[46, 119]⟩ false _ (by decide +kernel) (by decide +kernel)).mono ?_
  rintro e w1 ⟨rfl, rfl⟩
  go_wp2_with fail
  refine (refEnds_is ⟨#[99, 115, 114, 114, 119]⟩ ⟨#[46, 100]⟩ false _ (by decide +kernel) (by decide +kernel)).mono ?_
  rintro e w1 ⟨rfl, rfl⟩
  have g3 : (((⟨#[99, 115, 114, 114, 119]⟩ : ByteArray).extract 0 3).toList == [99, 115, 114]) = true := by decide +kernel
  go_wp2_with fail
  go_ret
  exact ⟨rfl, HB.out⟩
set_option maxHeartbeats 2000000 in
theorem refClass_90 (w : World) : Calls Tryd.prog 91 #[.int .i64 90] w fun e w' => e = .returned (.int .i64 8) ∧ Below w.heap.size w w' := by
  go_enter Tryd.func91, Tryd.ntmps91
  go_wp2_with fail
  refine (refNames4_c _).mono ?_
  rintro e w1 ⟨rfl, rfl⟩
  have c : _ = some (Value.string ⟨#[99, 115, 114, 114, 115]⟩) := names4_cell w 90 (by omega)
  have HB := Lib.hid (show Below w.heap.size w (w.alloc (.cells (Tab.names4.map strV).toArray 9)) from (Below.refl _ _).alloc (Nat.le_refl _) _)
  generalize (w.alloc (.cells (Tab.names4.map strV).toArray 9)) = W at *
  go_wp2_with fail
  refine (refEnds_is ⟨#[99, 115, 114, 114, 115]⟩ ⟨#[46, 119]⟩ false _ (by decide +kernel) (by decide +kernel)).mono ?_
  rintro e w1 ⟨rfl, rfl⟩
  go_wp2_with fail
  refine (refEnds_is ⟨#[99, 115, 114, 114, 115]⟩ ⟨#[46, 100]⟩ false _ (by decide +kernel) (by decide +kernel)).mono ?_
  rintro e w1 ⟨rfl, rfl⟩
  have g3 : (((⟨#[99, 115, 114, 114, 115]⟩ : ByteArray).extract 0 3).toList == [99, 115, 114]) = true := by decide +kernel
  go_wp2_with fail
  go_ret
  exact ⟨rfl, HB.out⟩
set_option maxHeartbeats 2000000 in
theorem refClass_91 (w : World) : Calls Tryd.prog 91 #[.int .i64 91] w fun e w' => e = .returned (.int .i64 8) ∧ Below w.heap.size w w' := by
  go_enter Tryd.func91, Tryd.ntmps91
  go_wp2_with fail
  refine (refNames4_c _).mono ?_
  rintro e w1 ⟨rfl, rfl⟩
  have c : _ = some (Value.string ⟨#[99, 115, 114, 114, 99]⟩) := names4_cell w 91 (by omega)
  have HB := Lib.hid (show Below w.heap.size w (w.alloc (.cells (Tab.names4.map strV).toArray 9)) from (Below.refl _ _).alloc (Nat.le_refl _) _)
  generalize (w.alloc (.cells (Tab.names4.map strV).toArray 9)) = W at *
  go_wp2_with fail
  refine (refEnds_is ⟨#[99, 115, 114, 114, 99]⟩ ⟨#[46, 119]⟩ false _ (by decide +kernel) (by decide +kernel)).mono ?_
  rintro e w1 ⟨rfl, rfl⟩
  go_wp2_with fail
  refine (refEnds_is ⟨#[99, 115, 114, 114, 99]⟩ ⟨#[46, 100]⟩ false _ (by decide +kernel) (by decide +kernel)).mono ?_
  rintro e w1 ⟨rfl, rfl⟩
  have g3 : (((⟨#[99, 115, 114, 114, 99]⟩ : ByteArray).extract 0 3).toList == [99, 115, 114]) = true := by decide +kernel
  go_wp2_with fail
  go_ret
  exact ⟨rfl, HB.out⟩
set_option maxHeartbeats 2000000 in
theorem refClass_92 (w : World) : Calls Tryd.prog 91 #[.int .i64 92] w fun e w' => e = .returned (.int .i64 8) ∧ Below w.heap.size w w' := by
  go_enter Tryd.func91, Tryd.ntmps91
  go_wp2_with fail
  refine (refNames4_c _).mono ?_
  rintro e w1 ⟨rfl, rfl⟩
  have c : _ = some (Value.string ⟨#[99, 115, 114, 114, 119, 105]⟩) := names4_cell w 92 (by omega)
  have HB := Lib.hid (show Below w.heap.size w (w.alloc (.cells (Tab.names4.map strV).toArray 9)) from (Below.refl _ _).alloc (Nat.le_refl _) _)
  generalize (w.alloc (.cells (Tab.names4.map strV).toArray 9)) = W at *
  go_wp2_with fail
  refine (refEnds_is ⟨#[99, 115, 114, 114, 119, 105]⟩ ⟨#[46, 119]⟩ false _ (by decide +kernel) (by decide +kernel)).mono ?_
  rintro e w1 ⟨rfl, rfl⟩
  go_wp2_with fail
  refine (refEnds_is ⟨#[99, 115, 114, 114, 119, 105]⟩ ⟨#[46, 100]⟩ false _ (by decide +kernel) (by decide +kernel)).mono ?_
  rintro e w1 ⟨rfl, rfl⟩
  have g3 : (((⟨#[99, 115, 114, 114, 119, 105]⟩ : ByteArray).extract 0 3).toList == [99, 115, 114]) = true := by decide +kernel
  go_wp2_with fail
  go_ret
  exact ⟨rfl, HB.out⟩
set_option maxHeartbeats 2000000 in
theorem refClass_93 (w : World) : Calls Tryd.prog 91 #[.int .i64 93] w fun e w' => e = .returned (.int .i64 8) ∧ Below w.heap.size w w' := by
  go_enter Tryd.func91, Tryd.ntmps91
  go_wp2_with fail
  refine (refNames4_c _).mono ?_
  rintro e w1 ⟨rfl, rfl⟩
  have c : _ = some (Value.string ⟨#[99, 115, 114, 114, 115, 105]⟩) := names4_cell w 93 (by omega)
  have HB := Lib.hid (show Below w.heap.size w (w.alloc (.cells (Tab.names4.map strV).toArray 9)) from (Below.refl _ _).alloc (Nat.le_refl _) _)
  generalize (w.alloc (.cells (Tab.names4.map strV).toArray 9)) = W at *
  go_wp2_with fail
  refine (refEnds_is ⟨#[99, 115, 114, 114, 115, 105]⟩ ⟨#[46, 119]⟩ false _ (by decide +kernel) (by decide +kernel)).mono ?_
  rintro e w1 ⟨rfl, rfl⟩
  go_wp2_with fail
  refine (refEnds_is ⟨#[99, 115, 114, 114, 115, 105]⟩ ⟨#[46, 100]⟩ false _ (by decide +kernel) (by decide +kernel)).mono ?_
  rintro e w1 ⟨rfl, rfl⟩
  have g3 : (((⟨#[99, 115, 114, 114, 115, 105]⟩ : ByteArray).extract 0 3).toList == [99, 115, 114]) = true := by decide +kernel
  go_wp2_with fail
  go_ret
  exact ⟨rfl, HB.out⟩
set_option maxHeartbeats 2000000 in
theorem refClass_94 (w : World) : Calls Tryd.prog 91 #[.int .i64 94] w fun e w' => e = .returned (.int .i64 8) ∧ Below w.heap.size w w' := by
  go_enter Tryd.func91, Tryd.ntmps91
  go_wp2_with fail
  refine (refNames4_c _).mono ?_
  rintro e w1 ⟨rfl, rfl⟩
  have c : _ = some (Value.string ⟨#[99, 115, 114, 114, 99, 105]⟩) := names4_cell w 94 (by omega)
  have HB := Lib.hid (show Below w.heap.size w (w.alloc (.cells (Tab.names4.map strV).toArray 9)) from (Below.refl _ _).alloc (Nat.le_refl _) _)
  generalize (w.alloc (.cells (Tab.names4.map strV).toArray 9)) = W at *
  go_wp2_with fail
  refine (refEnds_is ⟨#[99, 115, 114, 114, 99, 105]⟩ ⟨#[46, 119]⟩ false _ (by decide +kernel) (by decide +kernel)).mono ?_
  rintro e w1 ⟨rfl, rfl⟩
  go_wp2_with fail
  refine (refEnds_is ⟨#[99, 115, 114, 114, 99, 105]⟩ ⟨#[46, 100]⟩ false _ (by decide +kernel) (by decide +kernel)).mono ?_
  rintro e w1 ⟨rfl, rfl⟩
  have g3 : (((⟨#[99, 115, 114, 114, 99, 105]⟩ : ByteArray).extract 0 3).toList == [99, 115, 114]) = true := by decide +kernel
  go_wp2_with fail
  go_ret
  exact ⟨rfl, HB.out⟩
set_option maxHeartbeats 2000000 in
theorem refClass_95 (w : World) : Calls Tryd.prog 91 #[.int .i64 95] w fun e w' => e = .returned (.int .i64 10) ∧ Below w.heap.size w w' := by
  go_enter Tryd.func91, Tryd.ntmps91
  go_wp2_with fail
  refine (refNames4_c _).mono ?_
  rintro e w1 ⟨rfl, rfl⟩
  have c : _ = some (Value.string ⟨#[109, 114, 101, 116]⟩) := names4_cell w 95 (by omega)
  have HB := Lib.hid (show Below w.heap.size w (w.alloc (.cells (Tab.names4.map strV).toArray 9)) from (Below.refl _ _).alloc (Nat.le_refl _) _)
  generalize (w.alloc (.cells (Tab.names4.map strV).toArray 9)) = W at *
  go_wp2_with fail
  go_ret
  exact ⟨rfl, HB.out⟩
set_option maxHeartbeats 2000000 in
theorem refClass_96 (w : World) : Calls Tryd.prog 91 #[.int .i64 96] w fun e w' => e = .returned (.int .i64 10) ∧ Below w.heap.size w w' := by
  go_enter Tryd.func91, Tryd.ntmps91
  go_wp2_with fail
  refine (refNames4_c _).mono ?_
  rintro e w1 ⟨rfl, rfl⟩
  have c : _ = some (Value.string ⟨#[115, 114, 101, 116]⟩) := names4_cell w 96 (by omega)
  have HB := Lib.hid (show Below w.heap.size w (w.alloc (.cells (Tab.names4.map strV).toArray 9)) from (Below.refl _ _).alloc (Nat.le_refl _) _)
  generalize (w.alloc (.cells (Tab.names4.map strV).toArray 9)) = W at *
  go_wp2_with fail
  go_ret
  exact ⟨rfl, HB.out⟩
set_option maxHeartbeats 2000000 in
theorem refClass_97 (w : World) : Calls Tryd.prog 91 #[.int .i64 97] w fun e w' => e = .returned (.int .i64 10) ∧ Below w.heap.size w w' := by
  go_enter Tryd.func91, Tryd.ntmps91
  go_wp2_with fail
  refine (refNames4_c _).mono ?_
  rintro e w1 ⟨rfl, rfl⟩
  have c : _ = some (Value.string ⟨#[119, 102, 105]⟩) := names4_cell w 97 (by omega)
  have HB := Lib.hid (show Below w.heap.size w (w.alloc (.cells (Tab.names4.map strV).toArray 9)) from (Below.refl _ _).alloc (Nat.le_refl _) _)
  generalize (w.alloc (.cells (Tab.names4.map strV).toArray 9)) = W at *
  go_wp2_with fail
  go_ret
  exact ⟨rfl, HB.out⟩
set_option maxHeartbeats 2000000 in
theorem refClass_98 (w : World) : Calls Tryd.prog 91 #[.int .i64 98] w fun e w' => e = .returned (.int .i64 10) ∧ Below w.heap.size w w' := by
  go_enter Tryd.func91, Tryd.ntmps91
  go_wp2_with fail
  refine (refNames4_c _).mono ?_
  rintro e w1 ⟨rfl, rfl⟩
  have c : _ = some (Value.string ⟨#[115, 102, 101, 110, 99, 101, 46, 118, 109, 97]⟩) := names4_cell w 98 (by omega)
  have HB := Lib.hid (show Below w.heap.size w (w.alloc (.cells (Tab.names4.map strV).toArray 9)) from (Below.refl _ _).alloc (Nat.le_refl _) _)
  generalize (w.alloc (.cells (Tab.names4.map strV).toArray 9)) = W at *
  go_wp2_with fail
  go_ret
  exact ⟨rfl, HB.out⟩
set_option maxHeartbeats 2000000 in
theorem refClass_no (op : Int) (h : ¬ (1 ≤ op ∧ op ≤ 98)) (w : World) : Calls Tryd.prog 91 #[.int .i64 op] w fun e w' => e = .returned (.int .i64 0) ∧ Below w.heap.size w w' := by
  by_cases c : op < 1
  · have g : decide (op < 1) = true := decide_eq_true c
    clear h
    go_enter Tryd.func91, Tryd.ntmps91
    go_wp2_with fail
    go_ret
    exact ⟨rfl, Below.refl _ _⟩
  · have g : decide (op < 1) = false := decide_eq_false c
    have g2 : decide (98 < op) = true := decide_eq_true (by omega)
    clear h
    go_enter Tryd.func91, Tryd.ntmps91
    go_wp2_with fail
    go_ret
    exact ⟨rfl, Below.refl _ _⟩
end Go.Proofs.YtkbgmppbkllnmaaDoor
