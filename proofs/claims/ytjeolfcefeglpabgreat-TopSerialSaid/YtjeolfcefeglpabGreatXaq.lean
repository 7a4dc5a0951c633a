/-
  Contracts of the reference of layer 4: Size, Signed, Writes. Contracts of kind.between, Class, Size, Signed, Writes, and of the reference's Signed. Contracts of package amo (layer 8).
-/
import Derived.Test.YtjeolfcefeglpabGreatXap
import Derived.Test.YtjeolfcefeglpabGreatXao
set_option maxRecDepth 20000
namespace Go.Proofs.YtjeolfcefeglpabGreat
open Go.ChangeShapes Go.WideShapes Go.ChangeAt Go.RowKit Wd


theorem refClass_yes (k : Nat) (h0 : 1 ≤ k) (h1 : k ≤ 98) (w : World) : Calls Tryz.prog 131 #[.int .i64 k] w fun e w' => e = .returned (.int .i64 (classL.getD k 0 : Nat)) ∧ Below w.heap.size w w' := by
  match k, h0, h1 with
  | 1, _, _ => exact refClass_1 w
  | 2, _, _ => exact refClass_2 w
  | 3, _, _ => exact refClass_3 w
  | 4, _, _ => exact refClass_4 w
  | 5, _, _ => exact refClass_5 w
  | 6, _, _ => exact refClass_6 w
  | 7, _, _ => exact refClass_7 w
  | 8, _, _ => exact refClass_8 w
  | 9, _, _ => exact refClass_9 w
  | 10, _, _ => exact refClass_10 w
  | 11, _, _ => exact refClass_11 w
  | 12, _, _ => exact refClass_12 w
  | 13, _, _ => exact refClass_13 w
  | 14, _, _ => exact refClass_14 w
  | 15, _, _ => exact refClass_15 w
  | 16, _, _ => exact refClass_16 w
  | 17, _, _ => exact refClass_17 w
  | 18, _, _ => exact refClass_18 w
  | 19, _, _ => exact refClass_19 w
  | 20, _, _ => exact refClass_20 w
  | 21, _, _ => exact refClass_21 w
  | 22, _, _ => exact refClass_22 w
  | 23, _, _ => exact refClass_23 w
  | 24, _, _ => exact refClass_24 w
  | 25, _, _ => exact refClass_25 w
  | 26, _, _ => exact refClass_26 w
  | 27, _, _ => exact refClass_27 w
  | 28, _, _ => exact refClass_28 w
  | 29, _, _ => exact refClass_29 w
  | 30, _, _ => exact refClass_30 w
  | 31, _, _ => exact refClass_31 w
  | 32, _, _ => exact refClass_32 w
  | 33, _, _ => exact refClass_33 w
  | 34, _, _ => exact refClass_34 w
  | 35, _, _ => exact refClass_35 w
  | 36, _, _ => exact refClass_36 w
  | 37, _, _ => exact refClass_37 w
  | 38, _, _ => exact refClass_38 w
  | 39, _, _ => exact refClass_39 w
  | 40, _, _ => exact refClass_40 w
  | 41, _, _ => exact refClass_41 w
  | 42, _, _ => exact refClass_42 w
  | 43, _, _ => exact refClass_43 w
  | 44, _, _ => exact refClass_44 w
  | 45, _, _ => exact refClass_45 w
  | 46, _, _ => exact refClass_46 w
  | 47, _, _ => exact refClass_47 w
  | 48, _, _ => exact refClass_48 w
  | 49, _, _ => exact refClass_49 w
  | 50, _, _ => exact refClass_50 w
  | 51, _, _ => exact refClass_51 w
  | 52, _, _ => exact refClass_52 w
  | 53, _, _ => exact refClass_53 w
  | 54, _, _ => exact refClass_54 w
  | 55, _, _ => exact refClass_55 w
  | 56, _, _ => exact refClass_56 w
  | 57, _, _ => exact refClass_57 w
  | 58, _, _ => exact refClass_58 w
  | 59, _, _ => exact refClass_59 w
  | 60, _, _ => exact refClass_60 w
  | 61, _, _ => exact refClass_61 w
  | 62, _, _ => exact refClass_62 w
  | 63, _, _ => exact refClass_63 w
  | 64, _, _ => exact refClass_64 w
  | 65, _, _ => exact refClass_65 w
  | 66, _, _ => exact refClass_66 w
  | 67, _, _ => exact refClass_67 w
  | 68, _, _ => exact refClass_68 w
  | 69, _, _ => exact refClass_69 w
  | 70, _, _ => exact refClass_70 w
  | 71, _, _ => exact refClass_71 w
  | 72, _, _ => exact refClass_72 w
  | 73, _, _ => exact refClass_73 w
  | 74, _, _ => exact refClass_74 w
  | 75, _, _ => exact refClass_75 w
  | 76, _, _ => exact refClass_76 w
  | 77, _, _ => exact refClass_77 w
  | 78, _, _ => exact refClass_78 w
  | 79, _, _ => exact refClass_79 w
  | 80, _, _ => exact refClass_80 w
  | 81, _, _ => exact refClass_81 w
  | 82, _, _ => exact refClass_82 w
  | 83, _, _ => exact refClass_83 w
  | 84, _, _ => exact refClass_84 w
  | 85, _, _ => exact refClass_85 w
  | 86, _, _ => exact refClass_86 w
  | 87, _, _ => exact refClass_87 w
  | 88, _, _ => exact refClass_88 w
  | 89, _, _ => exact refClass_89 w
  | 90, _, _ => exact refClass_90 w
  | 91, _, _ => exact refClass_91 w
  | 92, _, _ => exact refClass_92 w
  | 93, _, _ => exact refClass_93 w
  | 94, _, _ => exact refClass_94 w
  | 95, _, _ => exact refClass_95 w
  | 96, _, _ => exact refClass_96 w
  | 97, _, _ => exact refClass_97 w
  | 98, _, _ => exact refClass_98 w
  | n + 99, _, h => exact absurd h (by omega)
theorem refClass_c (op : Int) (w : World) : Calls Tryz.prog 131 #[.int .i64 op] w fun e w' => e = .returned (.int .i64 (classS op)) ∧ Below w.heap.size w w' := by
  by_cases h : 1 ≤ op ∧ op ≤ 98
  · have e : classS op = (classL.getD op.toNat 0 : Nat) := by unfold classS; rw [if_pos h]
    rw [e]
    have := refClass_yes op.toNat (by omega) (by omega) w
    rw [show ((op.toNat : Nat) : Int) = op by omega] at this
    exact this
  · have e : classS op = 0 := by unfold classS; rw [if_neg h]
    rw [e]
    exact refClass_no op h w

theorem class_of {op : Int} : classS op = 0 ∨ classS op = 1 ∨ classS op = 2 ∨ classS op = 3 ∨ classS op = 4 ∨ classS op = 5 ∨ classS op = 6 ∨ classS op = 7 ∨ classS op = 8 ∨ classS op = 9 ∨ classS op = 10 := by
  by_cases h : 1 ≤ op ∧ op ≤ 98
  · have e : classS op = (classL.getD op.toNat 0 : Nat) := by unfold classS; rw [if_pos h]
    have l : ∀ k : Fin 99, classL.getD k.val 0 ≤ 10 := by decide +kernel
    have := l ⟨op.toNat, by omega⟩
    simp only at this
    omega
  · exact .inl (by unfold classS; rw [if_neg h])
def writesS (op : Int) : Bool := classS op == 1 || classS op == 2 || classS op == 3 || classS op == 5 || classS op == 7 || classS op == 8
def sizeL : List Nat := [0, 0, 0, 0, 0, 0, 0, 0, 0, 0, 0, 1, 2, 4, 8, 1, 2, 4, 1, 2, 4, 8, 0, 0, 0, 0, 0, 0, 0, 0, 0, 0, 0, 0, 0, 0, 0, 0, 0, 0, 0, 0, 0, 0, 0, 0, 0, 0, 0, 0, 0, 0, 0, 0, 0, 0, 0, 0, 0, 0, 0, 0, 0, 0, 0, 0, 0, 4, 4, 4, 4, 4, 4, 4, 4, 4, 4, 4, 8, 8, 8, 8, 8, 8, 8, 8, 8, 8, 8, 0, 0, 0, 0, 0, 0, 0, 0, 0, 0]
def sizeS (op : Int) : Int := if 1 ≤ op ∧ op ≤ 98 then (sizeL.getD op.toNat 0 : Nat) else 0
set_option maxHeartbeats 2000000 in
theorem refSize_no (op : Int) (w : World) (h5 : classS op ≠ 5) (h6 : classS op ≠ 6) (h7 : classS op ≠ 7) : Calls Tryz.prog 87 #[.int .i64 op] w fun e w' => e = .returned (.int .i64 0) ∧ Below w.heap.size w w' := by
  have HC := Lib.hid (class_of (op := op))
  have H5 := Lib.hid h5
  have H6 := Lib.hid h6
  have H7 := Lib.hid h7
  clear h5 h6 h7
  go_enter Tryz.func87, Tryz.ntmps87
  go_wp2_with fail
  refine (refClass_c op _).mono ?_
  rintro e w1 ⟨rfl, hb⟩
  have HB := Lib.hid hb
  clear hb
  rcases HC.out with h | h | h | h | h | h | h | h | h | h | h
  case inr.inr.inr.inr.inr.inl => exact absurd h H5.out
  case inr.inr.inr.inr.inr.inr.inl => exact absurd h H6.out
  case inr.inr.inr.inr.inr.inr.inr.inl => exact absurd h H7.out
  all_goals
    rw [h]
    clear h HC H5 H6 H7
    go_wp2_with fail
    go_ret
    exact ⟨rfl, HB.out⟩
set_option maxHeartbeats 2000000 in
theorem refSize_11 (w : World) : Calls Tryz.prog 87 #[.int .i64 11] w fun e w' => e = .returned (.int .i64 1) ∧ Below w.heap.size w w' := by
  go_enter Tryz.func87, Tryz.ntmps87
  go_wp2_with fail
  refine (refClass_11 _).mono ?_
  rintro e w1 ⟨rfl, hb⟩
  go_wp2_with fail
  refine (refNames4_c _).mono ?_
  rintro e w2 ⟨rfl, rfl⟩
  have c : _ = some (Value.string ⟨#[108, 98]⟩) := names4_cell w1 11 (by omega)
  have HB := Lib.hid (show Below w.heap.size w (w1.alloc (.cells (Tab.names4.map strV).toArray 9)) from hb.alloc hb.size _)
  clear hb
  generalize (w1.alloc (.cells (Tab.names4.map strV).toArray 9)) = W at *
  go_wp2_with fail
  go_ret
  exact ⟨rfl, HB.out⟩
set_option maxHeartbeats 2000000 in
theorem refSize_12 (w : World) : Calls Tryz.prog 87 #[.int .i64 12] w fun e w' => e = .returned (.int .i64 2) ∧ Below w.heap.size w w' := by
  go_enter Tryz.func87, Tryz.ntmps87
  go_wp2_with fail
  refine (refClass_12 _).mono ?_
  rintro e w1 ⟨rfl, hb⟩
  go_wp2_with fail
  refine (refNames4_c _).mono ?_
  rintro e w2 ⟨rfl, rfl⟩
  have c : _ = some (Value.string ⟨#[108, 104]⟩) := names4_cell w1 12 (by omega)
  have HB := Lib.hid (show Below w.heap.size w (w1.alloc (.cells (Tab.names4.map strV).toArray 9)) from hb.alloc hb.size _)
  clear hb
  generalize (w1.alloc (.cells (Tab.names4.map strV).toArray 9)) = W at *
  go_wp2_with fail
  go_ret
  exact ⟨rfl, HB.out⟩
set_option maxHeartbeats 2000000 in
theorem refSize_13 (w : World) : Calls Tryz.prog 87 #[.int .i64 13] w fun e w' => e = .returned (.int .i64 4) ∧ Below w.heap.size w w' := by
  go_enter Tryz.func87, Tryz.ntmps87
  go_wp2_with fail
  refine (refClass_13 _).mono ?_
  rintro e w1 ⟨rfl, hb⟩
  go_wp2_with fail
  refine (refNames4_c _).mono ?_
  rintro e w2 ⟨rfl, rfl⟩
  have c : _ = some (Value.string ⟨#[108, 119]⟩) := names4_cell w1 13 (by omega)
  have HB := Lib.hid (show Below w.heap.size w (w1.alloc (.cells (Tab.names4.map strV).toArray 9)) from hb.alloc hb.size _)
  clear hb
  generalize (w1.alloc (.cells (Tab.names4.map strV).toArray 9)) = W at *
  go_wp2_with fail
  go_ret
  exact ⟨rfl, HB.out⟩
set_option maxHeartbeats 2000000 in
theorem refSize_14 (w : World) : Calls Tryz.prog 87 #[.int .i64 14] w fun e w' => e = .returned (.int .i64 8) ∧ Below w.heap.size w w' := by
  go_enter Tryz.func87, Tryz.ntmps87
  go_wp2_with fail
  refine (refClass_14 _).mono ?_
  rintro e w1 ⟨rfl, hb⟩
  go_wp2_with fail
  refine (refNames4_c _).mono ?_
  rintro e w2 ⟨rfl, rfl⟩
  have c : _ = some (Value.string ⟨#[108, 100]⟩) := names4_cell w1 14 (by omega)
  have HB := Lib.hid (show Below w.heap.size w (w1.alloc (.cells (Tab.names4.map strV).toArray 9)) from hb.alloc hb.size _)
  clear hb
  generalize (w1.alloc (.cells (Tab.names4.map strV).toArray 9)) = W at *
  go_wp2_with fail
  go_ret
  exact ⟨rfl, HB.out⟩
set_option maxHeartbeats 2000000 in
theorem refSize_15 (w : World) : Calls Tryz.prog 87 #[.int .i64 15] w fun e w' => e = .returned (.int .i64 1) ∧ Below w.heap.size w w' := by
  go_enter Tryz.func87, Tryz.ntmps87
  go_wp2_with fail
  refine (refClass_15 _).mono ?_
  rintro e w1 ⟨rfl, hb⟩
  go_wp2_with fail
  refine (refNames4_c _).mono ?_
  rintro e w2 ⟨rfl, rfl⟩
  have c : _ = some (Value.string ⟨#[108, 98, 117]⟩) := names4_cell w1 15 (by omega)
  have HB := Lib.hid (show Below w.heap.size w (w1.alloc (.cells (Tab.names4.map strV).toArray 9)) from hb.alloc hb.size _)
  clear hb
  generalize (w1.alloc (.cells (Tab.names4.map strV).toArray 9)) = W at *
  go_wp2_with fail
  go_ret
  exact ⟨rfl, HB.out⟩
set_option maxHeartbeats 2000000 in
theorem refSize_16 (w : World) : Calls Tryz.prog 87 #[.int .i64 16] w fun e w' => e = .returned (.int .i64 2) ∧ Below w.heap.size w w' := by
  go_enter Tryz.func87, Tryz.ntmps87
  go_wp2_with fail
  refine (refClass_16 _).mono ?_
  rintro e w1 ⟨rfl, hb⟩
  go_wp2_with fail
  refine (refNames4_c _).mono ?_
  rintro e w2 ⟨rfl, rfl⟩
  have c : _ = some (Value.string ⟨#[108, 104, 117]⟩) := names4_cell w1 16 (by omega)
  have HB := Lib.hid (show Below w.heap.size w (w1.alloc (.cells (Tab.names4.map strV).toArray 9)) from hb.alloc hb.size _)
  clear hb
  generalize (w1.alloc (.cells (Tab.names4.map strV).toArray 9)) = W at *
  go_wp2_with fail
  go_ret
  exact ⟨rfl, HB.out⟩
set_option maxHeartbeats 2000000 in
theorem refSize_17 (w : World) : Calls Tryz.prog 87 #[.int .i64 17] w fun e w' => e = .returned (.int .i64 4) ∧ Below w.heap.size w w' := by
  go_enter Tryz.func87, Tryz.ntmps87
  go_wp2_with fail
  refine (refClass_17 _).mono ?_
  rintro e w1 ⟨rfl, hb⟩
  go_wp2_with fail
  refine (refNames4_c _).mono ?_
  rintro e w2 ⟨rfl, rfl⟩
  have c : _ = some (Value.string ⟨#[108, 119, 117]⟩) := names4_cell w1 17 (by omega)
  have HB := Lib.hid (show Below w.heap.size w (w1.alloc (.cells (Tab.names4.map strV).toArray 9)) from hb.alloc hb.size _)
  clear hb
  generalize (w1.alloc (.cells (Tab.names4.map strV).toArray 9)) = W at *
  go_wp2_with fail
  go_ret
  exact ⟨rfl, HB.out⟩
set_option maxHeartbeats 2000000 in
theorem refSize_18 (w : World) : Calls Tryz.prog 87 #[.int .i64 18] w fun e w' => e = .returned (.int .i64 1) ∧ Below w.heap.size w w' := by
  go_enter Tryz.func87, Tryz.ntmps87
  go_wp2_with fail
  refine (refClass_18 _).mono ?_
  rintro e w1 ⟨rfl, hb⟩
  go_wp2_with fail
  refine (refNames4_c _).mono ?_
  rintro e w2 ⟨rfl, rfl⟩
  have c : _ = some (Value.string ⟨#[115, 98]⟩) := names4_cell w1 18 (by omega)
  have HB := Lib.hid (show Below w.heap.size w (w1.alloc (.cells (Tab.names4.map strV).toArray 9)) from hb.alloc hb.size _)
  clear hb
  generalize (w1.alloc (.cells (Tab.names4.map strV).toArray 9)) = W at *
  go_wp2_with fail
  go_ret
  exact ⟨rfl, HB.out⟩
set_option maxHeartbeats 2000000 in
theorem refSize_19 (w : World) : Calls Tryz.prog 87 #[.int .i64 19] w fun e w' => e = .returned (.int .i64 2) ∧ Below w.heap.size w w' := by
  go_enter Tryz.func87, Tryz.ntmps87
  go_wp2_with fail
  refine (refClass_19 _).mono ?_
  rintro e w1 ⟨rfl, hb⟩
  go_wp2_with fail
  refine (refNames4_c _).mono ?_
  rintro e w2 ⟨rfl, rfl⟩
  have c : _ = some (Value.string ⟨#[115, 104]⟩) := names4_cell w1 19 (by omega)
  have HB := Lib.hid (show Below w.heap.size w (w1.alloc (.cells (Tab.names4.map strV).toArray 9)) from hb.alloc hb.size _)
  clear hb
  generalize (w1.alloc (.cells (Tab.names4.map strV).toArray 9)) = W at *
  go_wp2_with fail
  go_ret
  exact ⟨rfl, HB.out⟩
set_option maxHeartbeats 2000000 in
theorem refSize_20 (w : World) : Calls Tryz.prog 87 #[.int .i64 20] w fun e w' => e = .returned (.int .i64 4) ∧ Below w.heap.size w w' := by
  go_enter Tryz.func87, Tryz.ntmps87
  go_wp2_with fail
  refine (refClass_20 _).mono ?_
  rintro e w1 ⟨rfl, hb⟩
  go_wp2_with fail
  refine (refNames4_c _).mono ?_
  rintro e w2 ⟨rfl, rfl⟩
  have c : _ = some (Value.string ⟨#[115, 119]⟩) := names4_cell w1 20 (by omega)
  have HB := Lib.hid (show Below w.heap.size w (w1.alloc (.cells (Tab.names4.map strV).toArray 9)) from hb.alloc hb.size _)
  clear hb
  generalize (w1.alloc (.cells (Tab.names4.map strV).toArray 9)) = W at *
  go_wp2_with fail
  go_ret
  exact ⟨rfl, HB.out⟩
set_option maxHeartbeats 2000000 in
theorem refSize_21 (w : World) : Calls Tryz.prog 87 #[.int .i64 21] w fun e w' => e = .returned (.int .i64 8) ∧ Below w.heap.size w w' := by
  go_enter Tryz.func87, Tryz.ntmps87
  go_wp2_with fail
  refine (refClass_21 _).mono ?_
  rintro e w1 ⟨rfl, hb⟩
  go_wp2_with fail
  refine (refNames4_c _).mono ?_
  rintro e w2 ⟨rfl, rfl⟩
  have c : _ = some (Value.string ⟨#[115, 100]⟩) := names4_cell w1 21 (by omega)
  have HB := Lib.hid (show Below w.heap.size w (w1.alloc (.cells (Tab.names4.map strV).toArray 9)) from hb.alloc hb.size _)
  clear hb
  generalize (w1.alloc (.cells (Tab.names4.map strV).toArray 9)) = W at *
  go_wp2_with fail
  go_ret
  exact ⟨rfl, HB.out⟩
set_option maxHeartbeats 2000000 in
theorem refSize_67 (w : World) : Calls Tryz.prog 87 #[.int .i64 67] w fun e w' => e = .returned (.int .i64 4) ∧ Below w.heap.size w w' := by
  go_enter Tryz.func87, Tryz.ntmps87
  go_wp2_with fail
  refine (refClass_67 _).mono ?_
  rintro e w1 ⟨rfl, hb⟩
  go_wp2_with fail
  refine (refNames4_c _).mono ?_
  rintro e w2 ⟨rfl, rfl⟩
  have c : _ = some (Value.string ⟨#[108, 114, 46, 119]⟩) := names4_cell w1 67 (by omega)
  have HB := Lib.hid (show Below w.heap.size w (w1.alloc (.cells (Tab.names4.map strV).toArray 9)) from hb.alloc hb.size _)
  clear hb
  generalize (w1.alloc (.cells (Tab.names4.map strV).toArray 9)) = W at *
  go_wp2_with fail
  refine (refEnds_is ⟨#[108, 114, 46, 119]⟩ ⟨#[46, 119]⟩ true _ (by decide +kernel) (by decide +kernel)).mono ?_
  rintro e w1 ⟨rfl, rfl⟩
  go_wp2_with fail
  go_ret
  exact ⟨rfl, HB.out⟩
set_option maxHeartbeats 2000000 in
theorem refSize_68 (w : World) : Calls Tryz.prog 87 #[.int .i64 68] w fun e w' => e = .returned (.int .i64 4) ∧ Below w.heap.size w w' := by
  go_enter Tryz.func87, Tryz.ntmps87
  go_wp2_with fail
  refine (refClass_68 _).mono ?_
  rintro e w1 ⟨rfl, hb⟩
  go_wp2_with fail
  refine (refNames4_c _).mono ?_
  rintro e w2 ⟨rfl, rfl⟩
  have c : _ = some (Value.string ⟨#[115, 99, 46, 119]⟩) := names4_cell w1 68 (by omega)
  have HB := Lib.hid (show Below w.heap.size w (w1.alloc (.cells (Tab.names4.map strV).toArray 9)) from hb.alloc hb.size _)
  clear hb
  generalize (w1.alloc (.cells (Tab.names4.map strV).toArray 9)) = W at *
  go_wp2_with fail
  refine (refEnds_is ⟨#[115, 99, 46, 119]⟩ ⟨#[46, 119]⟩ true _ (by decide +kernel) (by decide +kernel)).mono ?_
  rintro e w1 ⟨rfl, rfl⟩
  go_wp2_with fail
  go_ret
  exact ⟨rfl, HB.out⟩
set_option maxHeartbeats 2000000 in
theorem refSize_69 (w : World) : Calls Tryz.prog 87 #[.int .i64 69] w fun e w' => e = .returned (.int .i64 4) ∧ Below w.heap.size w w' := by
  go_enter Tryz.func87, Tryz.ntmps87
  go_wp2_with fail
  refine (refClass_69 _).mono ?_
  rintro e w1 ⟨rfl, hb⟩
  go_wp2_with fail
  refine (refNames4_c _).mono ?_
  rintro e w2 ⟨rfl, rfl⟩
  have c : _ = some (Value.string ⟨#[97, 109, 111, 115, 119, 97, 112, 46, 119]⟩) := names4_cell w1 69 (by omega)
  have HB := Lib.hid (show Below w.heap.size w (w1.alloc (.cells (Tab.names4.map strV).toArray 9)) from hb.alloc hb.size _)
  clear hb
  generalize (w1.alloc (.cells (Tab.names4.map strV).toArray 9)) = W at *
  go_wp2_with fail
  refine (refEnds_is ⟨#[97, 109, 111, 115, 119, 97, 112, 46, 119]⟩ ⟨#[46, 119]⟩ true _ (by decide +kernel) (by decide +kernel)).mono ?_
  rintro e w1 ⟨rfl, rfl⟩
  go_wp2_with fail
  go_ret
  exact ⟨rfl, HB.out⟩
set_option maxHeartbeats 2000000 in
theorem refSize_70 (w : World) : Calls Tryz.prog 87 #[.int .i64 70] w fun e w' => e = .returned (.int .i64 4) ∧ Below w.heap.size w w' := by
  go_enter Tryz.func87, Tryz.ntmps87
  go_wp2_with fail
  refine (refClass_70 _).mono ?_
  rintro e w1 ⟨rfl, hb⟩
  go_wp2_with fail
  refine (refNames4_c _).mono ?_
  rintro e w2 ⟨rfl, rfl⟩
  have c : _ = some (Value.string ⟨#[97, 109, 111, 97, 100, 100, 46, 119]⟩) := names4_cell w1 70 (by omega)
  have HB := Lib.hid (show Below w.heap.size w (w1.alloc (.cells (Tab.names4.map strV).toArray 9)) from hb.alloc hb.size _)
  clear hb
  generalize (w1.alloc (.cells (Tab.names4.map strV).toArray 9)) = W at *
  go_wp2_with fail
  refine (refEnds_is ⟨#[97, 109, 111, 97, 100, 100, 46, 119]⟩ ⟨#[46, 119]⟩ true _ (by decide +kernel) (by decide +kernel)).mono ?_
  rintro e w1 ⟨rfl, rfl⟩
  go_wp2_with fail
  go_ret
  exact ⟨rfl, HB.out⟩
set_option maxHeartbeats 2000000 in
theorem refSize_71 (w : World) : Calls Tryz.prog 87 #[.int .i64 71] w fun e w' => e = .returned (.int .i64 4) ∧ Below w.heap.size w w' := by
  go_enter Tryz.func87, Tryz.ntmps87
  go_wp2_with fail
  refine (refClass_71 _).mono ?_
  rintro e w1 ⟨rfl, hb⟩
  go_wp2_with fail
  refine (refNames4_c _).mono ?_
  rintro e w2 ⟨rfl, rfl⟩
  have c : _ = some (Value.string ⟨#[97, 109, 111, 120, 111, 114, 46, 119]⟩) := names4_cell w1 71 (by omega)
  have HB := Lib.hid (show Below w.heap.size w (w1.alloc (.cells (Tab.names4.map strV).toArray 9)) from hb.alloc hb.size _)
  clear hb
  generalize (w1.alloc (.cells (Tab.names4.map strV).toArray 9)) = W at *
  go_wp2_with fail
  refine (refEnds_is ⟨#[97, 109, 111, 120, 111, 114, 46, 119]⟩ ⟨#[46, 119]⟩ true _ (by decide +kernel) (by decide +kernel)).mono ?_
  rintro e w1 ⟨rfl, rfl⟩
  go_wp2_with fail
  go_ret
  exact ⟨rfl, HB.out⟩
set_option maxHeartbeats 2000000 in
theorem refSize_72 (w : World) : Calls Tryz.prog 87 #[.int .i64 72] w fun e w' => e = .returned (.int .i64 4) ∧ Below w.heap.size w w' := by
  go_enter Tryz.func87, Tryz.ntmps87
  go_wp2_with fail
  refine (refClass_72 _).mono ?_
  rintro e w1 ⟨rfl, hb⟩
  go_wp2_with fail
  refine (refNames4_c _).mono ?_
  rintro e w2 ⟨rfl, rfl⟩
  have c : _ = some (Value.string ⟨#[97, 109, 111, 97, 110, 100, 46, 119]⟩) := names4_cell w1 72 (by omega)
  have HB := Lib.hid (show Below w.heap.size w (w1.alloc (.cells (Tab.names4.map strV).toArray 9)) from hb.alloc hb.size _)
  clear hb
  generalize (w1.alloc (.cells (Tab.names4.map strV).toArray 9)) = W at *
  go_wp2_with fail
  refine (refEnds_is ⟨#[97, 109, 111, 97, 110, 100, 46, 119]⟩ ⟨#[46, 119]⟩ true _ (by decide +kernel) (by decide +kernel)).mono ?_
  rintro e w1 ⟨rfl, rfl⟩
  go_wp2_with fail
  go_ret
  exact ⟨rfl, HB.out⟩
set_option maxHeartbeats 2000000 in
theorem refSize_73 (w : World) : Calls Tryz.prog 87 #[.int .i64 73] w fun e w' => e = .returned (.int .i64 4) ∧ Below w.heap.size w w' := by
  go_enter Tryz.func87, Tryz.ntmps87
  go_wp2_with fail
  refine (refClass_73 _).mono ?_
  rintro e w1 ⟨rfl, hb⟩
  go_wp2_with fail
  refine (refNames4_c _).mono ?_
  rintro e w2 ⟨rfl, rfl⟩
  have c : _ = some (Value.string ⟨#[97, 109, 111, 111, 114, 46, 119]⟩) := names4_cell w1 73 (by omega)
  have HB := Lib.hid (show Below w.heap.size w (w1.alloc (.cells (Tab.names4.map strV).toArray 9)) from hb.alloc hb.size _)
  clear hb
  generalize (w1.alloc (.cells (Tab.names4.map strV).toArray 9)) = W at *
  go_wp2_with fail
  refine (refEnds_is ⟨#[97, 109, 111, 111, 114, 46, 119]⟩ ⟨#[46, 119]⟩ true _ (by decide +kernel) (by decide +kernel)).mono ?_
  rintro e w1 ⟨rfl, rfl⟩
  go_wp2_with fail
  go_ret
  exact ⟨rfl, HB.out⟩
set_option maxHeartbeats 2000000 in
theorem refSize_74 (w : World) : Calls Tryz.prog 87 #[.int .i64 74] w fun e w' => e = .returned (.int .i64 4) ∧ Below w.heap.size w w' := by
  go_enter Tryz.func87, Tryz.ntmps87
  go_wp2_with fail
  refine (refClass_74 _).mono ?_
  rintro e w1 ⟨rfl, hb⟩
  go_wp2_with fail
  refine (refNames4_c _).mono ?_
  rintro e w2 ⟨rfl, rfl⟩
  have c : _ = some (Value.string ⟨#[97, 109, 111, 109, 105, 110, 46, 119]⟩) := names4_cell w1 74 (by omega)
  have HB := Lib.hid (show Below w.heap.size w (w1.alloc (.cells (Tab.names4.map strV).toArray 9)) from hb.alloc hb.size _)
  clear hb
  generalize (w1.alloc (.cells (Tab.names4.map strV).toArray 9)) = W at *
  go_wp2_with fail
  refine (refEnds_is ⟨#[97, 109, 111, 109, 105, 110, 46, 119]⟩ ⟨#[46, 119]⟩ true _ (by decide +kernel) (by decide +kernel)).mono ?_
  rintro e w1 ⟨rfl, rfl⟩
  go_wp2_with fail
  go_ret
  exact ⟨rfl, HB.out⟩
set_option maxHeartbeats 2000000 in
theorem refSize_75 (w : World) : Calls Tryz.prog 87 #[.int .i64 75] w fun e w' => e = .returned (.int .i64 4) ∧ Below w.heap.size w w' := by
  go_enter Tryz.func87, Tryz.ntmps87
  go_wp2_with fail
  refine (refClass_75 _).mono ?_
  rintro e w1 ⟨rfl, hb⟩
  go_wp2_with fail
  refine (refNames4_c _).mono ?_
  rintro e w2 ⟨rfl, rfl⟩
  have c : _ = some (Value.string ⟨#[97, 109, 111, 109, 97, 120, 46, 119]⟩) := names4_cell w1 75 (by omega)
  have HB := Lib.hid (show Below w.heap.size w (w1.alloc (.cells (Tab.names4.map strV).toArray 9)) from hb.alloc hb.size _)
  clear hb
  generalize (w1.alloc (.cells (Tab.names4.map strV).toArray 9)) = W at *
  go_wp2_with fail
  refine (refEnds_is ⟨#[97, 109, 111, 109, 97, 120, 46, 119]⟩ ⟨#[46, 119]⟩ true _ (by decide +kernel) (by decide +kernel)).mono ?_
  rintro e w1 ⟨rfl, rfl⟩
  go_wp2_with fail
  go_ret
  exact ⟨rfl, HB.out⟩
set_option maxHeartbeats 2000000 in
theorem refSize_76 (w : World) : Calls Tryz.prog 87 #[.int .i64 76] w fun e w' => e = .returned (.int .i64 4) ∧ Below w.heap.size w w' := by
  go_enter Tryz.func87, Tryz.ntmps87
  go_wp2_with fail
  refine (refClass_76 _).mono ?_
  rintro e w1 ⟨rfl, hb⟩
  go_wp2_with fail
  refine (refNames4_c _).mono ?_
  rintro e w2 ⟨rfl, rfl⟩
  have c : _ = some (Value.string ⟨#[97, 109, 111, 109, 105, 110, 117, 46, 119]⟩) := names4_cell w1 76 (by omega)
  have HB := Lib.hid (show Below w.heap.size w (w1.alloc (.cells (Tab.names4.map strV).toArray 9)) from hb.alloc hb.size _)
  clear hb
  generalize (w1.alloc (.cells (Tab.names4.map strV).toArray 9)) = W at *
  go_wp2_with fail
  refine (refEnds_is ⟨#[97, 109, 111, 109, 105, 110, 117, 46, 119]⟩ ⟨#[46, 119]⟩ true _ (by decide +kernel) (by decide +kernel)).mono ?_
  rintro e w1 ⟨rfl, rfl⟩
  go_wp2_with fail
  go_ret
  exact ⟨rfl, HB.out⟩
set_option maxHeartbeats 2000000 in
theorem refSize_77 (w : World) : Calls Tryz.prog 87 #[.int .i64 77] w fun e w' => e = .returned (.int .i64 4) ∧ Below w.heap.size w w' := by
  go_enter Tryz.func87, Tryz.ntmps87
  go_wp2_with fail
  refine (refClass_77 _).mono ?_
  rintro e w1 ⟨rfl, hb⟩
  go_wp2_with fail
  refine (refNames4_c _).mono ?_
  rintro e w2 ⟨rfl, rfl⟩
  have c : _ = some (Value.string ⟨#[97, 109, 111, 109, 97, 120, 117, 46, 119]⟩) := names4_cell w1 77 (by omega)
  have HB := Lib.hid (show Below w.heap.size w (w1.alloc (.cells (Tab.names4.map strV).toArray 9)) from hb.alloc hb.size _)
  clear hb
  generalize (w1.alloc (.cells (Tab.names4.map strV).toArray 9)) = W at *
  go_wp2_with fail
  refine (refEnds_is ⟨#[97, 109, 111, 109, 97, 120, 117, 46, 119]⟩ ⟨#[46, 119]⟩ true _ (by decide +kernel) (by decide +kernel)).mono ?_
  rintro e w1 ⟨rfl, rfl⟩
  go_wp2_with fail
  go_ret
  exact ⟨rfl, HB.out⟩
set_option maxHeartbeats 2000000 in
theorem refSize_78 (w : World) : Calls Tryz.prog 87 #[.int .i64 78] w fun e w' => e = .returned (.int .i64 8) ∧ Below w.heap.size w w' := by
  go_enter Tryz.func87, Tryz.ntmps87
  go_wp2_with fail
  refine (refClass_78 _).mono ?_
  rintro e w1 ⟨rfl, hb⟩
  go_wp2_with fail
  refine (refNames4_c _).mono ?_
  rintro e w2 ⟨rfl, rfl⟩
  have c : _ = some (Value.string ⟨#[108, 114, 46, 100]⟩) := names4_cell w1 78 (by omega)
  have HB := Lib.hid (show Below w.heap.size w (w1.alloc (.cells (Tab.names4.map strV).toArray 9)) from hb.alloc hb.size _)
  clear hb
  generalize (w1.alloc (.cells (Tab.names4.map strV).toArray 9)) = W at *
  go_wp2_with fail
  refine (refEnds_is ⟨#[108, 114, 46, 100]⟩ ⟨#[46, 119]⟩ false _ (by decide +kernel) (by decide +kernel)).mono ?_
  rintro e w1 ⟨rfl, rfl⟩
  go_wp2_with fail
  go_ret
  exact ⟨rfl, HB.out⟩
set_option maxHeartbeats 2000000 in
theorem refSize_79 (w : World) : Calls Tryz.prog 87 #[.int .i64 79] w fun e w' => e = .returned (.int .i64 8) ∧ Below w.heap.size w w' := by
  go_enter Tryz.func87, Tryz.ntmps87
  go_wp2_with fail
  refine (refClass_79 _).mono ?_
  rintro e w1 ⟨rfl, hb⟩
  go_wp2_with fail
  refine (refNames4_c _).mono ?_
  rintro e w2 ⟨rfl, rfl⟩
  have c : _ = some (Value.string ⟨#[115, 99, 46, 100]⟩) := names4_cell w1 79 (by omega)
  have HB := Lib.hid (show Below w.heap.size w (w1.alloc (.cells (Tab.names4.map strV).toArray 9)) from hb.alloc hb.size _)
  clear hb
  generalize (w1.alloc (.cells (Tab.names4.map strV).toArray 9)) = W at *
  go_wp2_with fail
  refine (refEnds_is ⟨#[115, 99, 46, 100]⟩ ⟨#[46, 119]⟩ false _ (by decide +kernel) (by decide +kernel)).mono ?_
  rintro e w1 ⟨rfl, rfl⟩
  go_wp2_with fail
  go_ret
  exact ⟨rfl, HB.out⟩
set_option maxHeartbeats 2000000 in
theorem refSize_80 (w : World) : Calls Tryz.prog 87 #[.int .i64 80] w fun e w' => e = .returned (.int .i64 8) ∧ Below w.heap.size w w' := by
  go_enter Tryz.func87, Tryz.ntmps87
  go_wp2_with fail
  refine (refClass_80 _).mono ?_
  rintro e w1 ⟨rfl, hb⟩
  go_wp2_with fail
  refine (refNames4_c _).mono ?_
  rintro e w2 ⟨rfl, rfl⟩
  have c : _ = some (Value.string ⟨#[97, 109, 111, 115, 119, 97, 112, 46, 100]⟩) := names4_cell w1 80 (by omega)
  have HB := Lib.hid (show Below w.heap.size w (w1.alloc (.cells (Tab.names4.map strV).toArray 9)) from hb.alloc hb.size _)
  clear hb
  generalize (w1.alloc (.cells (Tab.names4.map strV).toArray 9)) = W at *
  go_wp2_with fail
  refine (refEnds_is ⟨#[97, 109, 111, 115, 119, 97, 112, 46, 100]⟩ ⟨#[46, 119]⟩ false _ (by decide +kernel) (by decide +kernel)).mono ?_
  rintro e w1 ⟨rfl, rfl⟩
  go_wp2_with fail
  go_ret
  exact ⟨rfl, HB.out⟩
set_option maxHeartbeats 2000000 in
theorem refSize_81 (w : World) : Calls Tryz.prog 87 #[.int .i64 81] w fun e w' => e = .returned (.int .i64 8) ∧ Below w.heap.size w w' := by
  go_enter Tryz.func87, Tryz.ntmps87
  go_wp2_with fail
  refine (refClass_81 _).mono ?_
  rintro e w1 ⟨rfl, hb⟩
  go_wp2_with fail
  refine (refNames4_c _).mono ?_
  rintro e w2 ⟨rfl, rfl⟩
  have c : _ = some (Value.string ⟨#[97, 109, 111, 97, 100, 100, 46, 100]⟩) := names4_cell w1 81 (by omega)
  have HB := Lib.hid (show Below w.heap.size w (w1.alloc (.cells (Tab.names4.map strV).toArray 9)) from hb.alloc hb.size _)
  clear hb
  generalize (w1.alloc (.cells (Tab.names4.map strV).toArray 9)) = W at *
  go_wp2_with fail
  refine (refEnds_is ⟨#[97, 109, 111, 97, 100, 100, 46, 100]⟩ ⟨#[46, 119]⟩ false _ (by decide +kernel) (by decide +kernel)).mono ?_
  rintro e w1 ⟨rfl, rfl⟩
  go_wp2_with fail
  go_ret
  exact ⟨rfl, HB.out⟩
set_option maxHeartbeats 2000000 in
theorem refSize_82 (w : World) : Calls Tryz.prog 87 #[.int .i64 82] w fun e w' => e = .returned (.int .i64 8) ∧ Below w.heap.size w w' := by
  go_enter Tryz.func87, Tryz.ntmps87
  go_wp2_with fail
  refine (refClass_82 _).mono ?_
  rintro e w1 ⟨rfl, hb⟩
  go_wp2_with fail
  refine (refNames4_c _).mono ?_
  rintro e w2 ⟨rfl, rfl⟩
  have c : _ = some (Value.string ⟨#[97, 109, 111, 120, 111, 114, 46, 100]⟩) := names4_cell w1 82 (by omega)
  have HB := Lib.hid (show Below w.heap.size w (w1.alloc (.cells (Tab.names4.map strV).toArray 9)) from hb.alloc hb.size _)
  clear hb
  generalize (w1.alloc (.cells (Tab.names4.map strV).toArray 9)) = W at *
  go_wp2_with fail
  refine (refEnds_is ⟨#[97, 109, 111, 120, 111, 114, 46, 100]⟩ ⟨#[46, 119]⟩ false _ (by decide +kernel) (by decide +kernel)).mono ?_
  rintro e w1 ⟨rfl, rfl⟩
  go_wp2_with fail
  go_ret
  exact ⟨rfl, HB.out⟩
set_option maxHeartbeats 2000000 in
theorem refSize_83 (w : World) : Calls Tryz.prog 87 #[.int .i64 83] w fun e w' => e = .returned (.int .i64 8) ∧ Below w.heap.size w w' := by
  go_enter Tryz.func87, Tryz.ntmps87
  go_wp2_with fail
  refine (refClass_83 _).mono ?_
  rintro e w1 ⟨rfl, hb⟩
  go_wp2_with fail
  refine (refNames4_c _).mono ?_
  rintro e w2 ⟨rfl, rfl⟩
  have c : _ = some (Value.string ⟨#[97, 109, 111, 97, 110, 100, 46, 100]⟩) := names4_cell w1 83 (by omega)
  have HB := Lib.hid (show Below w.heap.size w (w1.alloc (.cells (Tab.names4.map strV).toArray 9)) from hb.alloc hb.size _)
  clear hb
  generalize (w1.alloc (.cells (Tab.names4.map strV).toArray 9)) = W at *
  go_wp2_with fail
  refine (refEnds_is ⟨#[97, 109, 111, 97, 110, 100, 46, 100]⟩ ⟨#[46, 119]⟩ false _ (by decide +kernel) (by decide +kernel)).mono ?_
  rintro e w1 ⟨rfl, rfl⟩
  go_wp2_with fail
  go_ret
  exact ⟨rfl, HB.out⟩
set_option maxHeartbeats 2000000 in
theorem refSize_84 (w : World) : Calls Tryz.prog 87 #[.int .i64 84] w fun e w' => e = .returned (.int .i64 8) ∧ Below w.heap.size w w' := by
  go_enter Tryz.func87, Tryz.ntmps87
  go_wp2_with fail
  refine (refClass_84 _).mono ?_
  rintro e w1 ⟨rfl, hb⟩
  go_wp2_with fail
  refine (refNames4_c _).mono ?_
  rintro e w2 ⟨rfl, rfl⟩
  have c : _ = some (Value.string ⟨#[97, 109, 111, 111, 114, 46, 100]⟩) := names4_cell w1 84 (by omega)
  have HB := Lib.hid (show Below w.heap.size w (w1.alloc (.cells (Tab.names4.map strV).toArray 9)) from hb.alloc hb.size _)
  clear hb
  generalize (w1.alloc (.cells (Tab.names4.map strV).toArray 9)) = W at *
  go_wp2_with fail
  refine (refEnds_is ⟨#[97, 109, 111, 111, 114, 46, 100]⟩ ⟨#[46, 119]⟩ false _ (by decide +kernel) (by decide +kernel)).mono ?_
  rintro e w1 ⟨rfl, rfl⟩
  go_wp2_with fail
  go_ret
  exact ⟨rfl, HB.out⟩
set_option maxHeartbeats 2000000 in
theorem refSize_85 (w : World) : Calls Tryz.prog 87 #[.int .i64 85] w fun e w' => e = .returned (.int .i64 8) ∧ Below w.heap.size w w' := by
  go_enter Tryz.func87, Tryz.ntmps87
  go_wp2_with fail
  refine (refClass_85 _).mono ?_
  rintro e w1 ⟨rfl, hb⟩
  go_wp2_with fail
  refine (refNames4_c _).mono ?_
  rintro e w2 ⟨rfl, rfl⟩
  have c : _ = some (Value.string ⟨#[97, 109, 111, 109, 105, 110, 46, 100]⟩) := names4_cell w1 85 (by omega)
  have HB := Lib.hid (show Below w.heap.size w (w1.alloc (.cells (Tab.names4.map strV).toArray 9)) from hb.alloc hb.size _)
  clear hb
  generalize (w1.alloc (.cells (Tab.names4.map strV).toArray 9)) = W at *
  go_wp2_with fail
  refine (refEnds_is ⟨#[97, 109, 111, 109, 105, 110, 46, 100]⟩ ⟨#[46, 119]⟩ false _ (by decide +kernel) (by decide +kernel)).mono ?_
  rintro e w1 ⟨rfl, rfl⟩
  go_wp2_with fail
  go_ret
  exact ⟨rfl, HB.out⟩
set_option maxHeartbeats 2000000 in
theorem refSize_86 (w : World) : Calls Tryz.prog 87 #[.int .i64 86] w fun e w' => e = .returned (.int .i64 8) ∧ Below w.heap.size w w' := by
  go_enter Tryz.func87, Tryz.ntmps87
  go_wp2_with fail
  refine (refClass_86 _).mono ?_
  rintro e w1 ⟨rfl, hb⟩
  go_wp2_with fail
  refine (refNames4_c _).mono ?_
  rintro e w2 ⟨rfl, rfl⟩
  have c : _ = some (Value.string ⟨#[97, 109, 111, 109, 97, 120, 46, 100]⟩) := names4_cell w1 86 (by omega)
  have HB := Lib.hid (show Below w.heap.size w (w1.alloc (.cells (Tab.names4.map strV).toArray 9)) from hb.alloc hb.size _)
  clear hb
  generalize (w1.alloc (.cells (Tab.names4.map strV).toArray 9)) = W at *
  go_wp2_with fail
  refine (refEnds_is ⟨#[97, 109, 111, 109, 97, 120, 46, 100]⟩ ⟨#[46, 119]⟩ false _ (by decide +kernel) (by decide +kernel)).mono ?_
  rintro e w1 ⟨rfl, rfl⟩
  go_wp2_with fail
  go_ret
  exact ⟨rfl, HB.out⟩
set_option maxHeartbeats 2000000 in
theorem refSize_87 (w : World) : Calls Tryz.prog 87 #[.int .i64 87] w fun e w' => e = .returned (.int .i64 8) ∧ Below w.heap.size w w' := by
  go_enter Tryz.func87, Tryz.ntmps87
  go_wp2_with fail
  refine (refClass_87 _).mono ?_
  rintro e w1 ⟨rfl, hb⟩
  go_wp2_with fail
  refine (refNames4_c _).mono ?_
  rintro e w2 ⟨rfl, rfl⟩
  have c : _ = some (Value.string ⟨#[97, 109, 111, 109, 105, 110, 117, 46, 100]⟩) := names4_cell w1 87 (by omega)
  have HB := Lib.hid (show Below w.heap.size w (w1.alloc (.cells (Tab.names4.map strV).toArray 9)) from hb.alloc hb.size _)
  clear hb
  generalize (w1.alloc (.cells (Tab.names4.map strV).toArray 9)) = W at *
  go_wp2_with fail
  refine (refEnds_is ⟨#[97, 109, 111, 109, 105, 110, 117, 46, 100]⟩ ⟨#[46, 119]⟩ false _ (by decide +kernel) (by decide +kernel)).mono ?_
  rintro e w1 ⟨rfl, rfl⟩
  go_wp2_with fail
  go_ret
  exact ⟨rfl, HB.out⟩
set_option maxHeartbeats 2000000 in
theorem refSize_88 (w : World) : Calls Tryz.prog 87 #[.int .i64 88] w fun e w' => e = .returned (.int .i64 8) ∧ Below w.heap.size w w' := by
  go_enter Tryz.func87, Tryz.ntmps87
  go_wp2_with fail
  refine (refClass_88 _).mono ?_
  rintro e w1 ⟨rfl, hb⟩
  go_wp2_with fail
  refine (refNames4_c _).mono ?_
  rintro e w2 ⟨rfl, rfl⟩
  have c : _ = some (Value.string ⟨#[97, 109, 111, 109, 97, 120, 117, 46, 100]⟩) := names4_cell w1 88 (by omega)
  have HB := Lib.hid (show Below w.heap.size w (w1.alloc (.cells (Tab.names4.map strV).toArray 9)) from hb.alloc hb.size _)
  clear hb
  generalize (w1.alloc (.cells (Tab.names4.map strV).toArray 9)) = W at *
  go_wp2_with fail
  refine (refEnds_is ⟨#[97, 109, 111, 109, 97, 120, 117, 46, 100]⟩ ⟨#[46, 119]⟩ false _ (by decide +kernel) (by decide +kernel)).mono ?_
  rintro e w1 ⟨rfl, rfl⟩
  go_wp2_with fail
  go_ret
  exact ⟨rfl, HB.out⟩
theorem refSize_yes (k : Nat) (h : 11 ≤ k ∧ k ≤ 21 ∨ 67 ≤ k ∧ k ≤ 88) (w : World) : Calls Tryz.prog 87 #[.int .i64 k] w fun e w' => e = .returned (.int .i64 (sizeL.getD k 0 : Nat)) ∧ Below w.heap.size w w' := by
  have hk : k = 11 ∨ k = 12 ∨ k = 13 ∨ k = 14 ∨ k = 15 ∨ k = 16 ∨ k = 17 ∨ k = 18 ∨ k = 19 ∨ k = 20 ∨ k = 21 ∨ k = 67 ∨ k = 68 ∨ k = 69 ∨ k = 70 ∨ k = 71 ∨ k = 72 ∨ k = 73 ∨ k = 74 ∨ k = 75 ∨ k = 76 ∨ k = 77 ∨ k = 78 ∨ k = 79 ∨ k = 80 ∨ k = 81 ∨ k = 82 ∨ k = 83 ∨ k = 84 ∨ k = 85 ∨ k = 86 ∨ k = 87 ∨ k = 88 := by omega
  rcases hk with rfl | rfl | rfl | rfl | rfl | rfl | rfl | rfl | rfl | rfl | rfl | rfl | rfl | rfl | rfl | rfl | rfl | rfl | rfl | rfl | rfl | rfl | rfl | rfl | rfl | rfl | rfl | rfl | rfl | rfl | rfl | rfl | rfl
  · exact refSize_11 w
  · exact refSize_12 w
  · exact refSize_13 w
  · exact refSize_14 w
  · exact refSize_15 w
  · exact refSize_16 w
  · exact refSize_17 w
  · exact refSize_18 w
  · exact refSize_19 w
  · exact refSize_20 w
  · exact refSize_21 w
  · exact refSize_67 w
  · exact refSize_68 w
  · exact refSize_69 w
  · exact refSize_70 w
  · exact refSize_71 w
  · exact refSize_72 w
  · exact refSize_73 w
  · exact refSize_74 w
  · exact refSize_75 w
  · exact refSize_76 w
  · exact refSize_77 w
  · exact refSize_78 w
  · exact refSize_79 w
  · exact refSize_80 w
  · exact refSize_81 w
  · exact refSize_82 w
  · exact refSize_83 w
  · exact refSize_84 w
  · exact refSize_85 w
  · exact refSize_86 w
  · exact refSize_87 w
  · exact refSize_88 w
theorem class_mem : ∀ k : Fin 99, ¬ (11 ≤ k.val ∧ k.val ≤ 21 ∨ 67 ≤ k.val ∧ k.val ≤ 88) → classL.getD k.val 0 ≠ 5 ∧ classL.getD k.val 0 ≠ 6 ∧ classL.getD k.val 0 ≠ 7 ∧ sizeL.getD k.val 0 = 0 := by decide +kernel
theorem refSize_c (op : Int) (w : World) : Calls Tryz.prog 87 #[.int .i64 op] w fun e w' => e = .returned (.int .i64 (sizeS op)) ∧ Below w.heap.size w w' := by
  by_cases h : 1 ≤ op ∧ op ≤ 98
  · have e : sizeS op = (sizeL.getD op.toNat 0 : Nat) := by unfold sizeS; rw [if_pos h]
    have e2 : classS op = (classL.getD op.toNat 0 : Nat) := by unfold classS; rw [if_pos h]
    by_cases m : 11 ≤ op.toNat ∧ op.toNat ≤ 21 ∨ 67 ≤ op.toNat ∧ op.toNat ≤ 88
    · rw [e]
      have := refSize_yes op.toNat m w
      rw [show ((op.toNat : Nat) : Int) = op by omega] at this
      exact this
    · obtain ⟨m5, m6, m7, m0⟩ := class_mem ⟨op.toNat, by omega⟩ m
      simp only at m5 m6 m7 m0
      rw [e, m0]
      exact refSize_no op w (by omega) (by omega) (by omega)
  · have e : sizeS op = 0 := by unfold sizeS; rw [if_neg h]
    have e2 : classS op = 0 := by unfold classS; rw [if_neg h]
    rw [e]
    exact refSize_no op w (by omega) (by omega) (by omega)
end Go.Proofs.YtjeolfcefeglpabGreat
set_option maxRecDepth 20000
namespace Go.Proofs.YtjeolfcefeglpabGreat
open Go.ChangeShapes Go.WideShapes Go.ChangeAt Go.RowKit Wd

def btw (op a b : Int) : Bool := decide (a ≤ op) && decide (op ≤ b)
theorem btw_iff {op a b : Int} : btw op a b = true ↔ a ≤ op ∧ op ≤ b := by simp [btw]
set_option maxHeartbeats 400000 in
theorem between_c (op a b : Int) (w : World) : Calls Tryz.prog 123 #[.int .i64 op, .int .i64 a, .int .i64 b] w fun e w' => e = .returned (.bool (btw op a b)) ∧ w = w' := by
  by_cases h1 : a ≤ op
  · have d1 : decide (a ≤ op) = true := by simpa using h1
    have HB := Lib.hid (show decide (op ≤ b) = btw op a b by simp [btw, d1])
    clear h1
    go_enter Tryz.func123, Tryz.ntmps123
    go_wp2_with fail
    go_ret
    exact ⟨ret_b HB.out, rfl⟩
  · have d1 : decide (a ≤ op) = false := by simpa using h1
    have HB := Lib.hid (show false = btw op a b by simp [btw, d1])
    clear h1
    go_enter Tryz.func123, Tryz.ntmps123
    go_wp2_with fail
    go_ret
    exact ⟨ret_b HB.out, rfl⟩

theorem btw_no {op a b : Int} (h : ¬ (a ≤ op ∧ op ≤ b)) : btw op a b = false := by
  cases hb : btw op a b
  · rfl
  · exact absurd (btw_iff.1 hb) h
def classI (op : Int) : Int := if btw op 1 2 then 2 else if btw op 3 4 then 3 else if btw op 5 10 then 4 else if btw op 11 17 then 5 else if btw op 18 21 then 6 else if btw op 22 49 then 1 else if btw op 54 66 then 1 else if btw op 50 51 then 9 else if btw op 67 88 then 7 else if btw op 89 94 then 8 else if btw op 52 53 then 10 else if btw op 95 98 then 10 else 0
theorem class_tab (op : Int) : classS op = classI op := by
  by_cases h : 1 ≤ op ∧ op ≤ 98
  · have l : ∀ k : Fin 99, 1 ≤ k.val → ((classL.getD k.val 0 : Nat) : Int) = classI (k.val : Nat) := by decide +kernel
    have := l ⟨op.toNat, by omega⟩ (by simp only; omega)
    simp only at this
    unfold classS
    rw [if_pos h, this]
    congr 1; omega
  · unfold classS classI
    rw [if_neg h]
    have n : ∀ a b : Int, 1 ≤ a → b ≤ 98 → btw op a b = false := fun a b ha hb => btw_no (by omega)
    rw [n 1 2, n 3 4, n 5 10, n 11 17, n 18 21, n 22 49, n 54 66, n 50 51, n 67 88, n 89 94, n 52 53, n 95 98] <;> first | rfl | decide
def sizeI (op : Int) : Int := if op == 11 then 1 else if op == 15 then 1 else if op == 18 then 1 else if op == 12 then 2 else if op == 16 then 2 else if op == 19 then 2 else if op == 13 then 4 else if op == 17 then 4 else if op == 20 then 4 else if op == 14 then 8 else if op == 21 then 8 else if btw op 67 77 then 4 else if btw op 78 88 then 8 else 0
theorem size_tab (op : Int) : sizeS op = sizeI op := by
  by_cases h : 1 ≤ op ∧ op ≤ 98
  · have l : ∀ k : Fin 99, 1 ≤ k.val → ((sizeL.getD k.val 0 : Nat) : Int) = sizeI (k.val : Nat) := by decide +kernel
    have := l ⟨op.toNat, by omega⟩ (by simp only; omega)
    simp only at this
    unfold sizeS
    rw [if_pos h, this]
    congr 1; omega
  · unfold sizeS sizeI
    rw [if_neg h]
    have n : ∀ a b : Int, 1 ≤ a → b ≤ 98 → btw op a b = false := fun a b ha hb => btw_no (by omega)
    have m : ∀ a : Int, 1 ≤ a → a ≤ 98 → (op == a) = false := fun a ha hb => by simp; omega
    rw [n 67 77, n 78 88, m 11, m 12, m 13, m 14, m 15, m 16, m 17, m 18, m 19, m 20, m 21] <;> first | rfl | decide
set_option maxHeartbeats 4000000 in
theorem class_c (op : Int) (w : World) : Calls Tryz.prog 120 #[.int .i64 op] w fun e w' => e = .returned (.int .i64 (classS op)) ∧ w = w' := by
  generalize hc : classS op = c
  rw [class_tab] at hc
  have HC := Lib.hid hc
  clear hc
  go_enter Tryz.func120, Tryz.ntmps120
  go_wp2_with (go_at_call 123; refine (between_c _ _ _ _).mono ?_; rintro e w' ⟨rfl, rfl⟩)
  all_goals
    first
    | (exfalso; simp_all; done)
    | (go_ret; exact ⟨ret_u (by rw [← HC.out]; simp_all [classI]), rfl⟩)
set_option maxHeartbeats 4000000 in
theorem size_c (op : Int) (w : World) : Calls Tryz.prog 70 #[.int .i64 op] w fun e w' => e = .returned (.int .i64 (sizeS op)) ∧ w = w' := by
  generalize hc : sizeS op = c
  rw [size_tab] at hc
  have HC := Lib.hid hc
  clear hc
  go_enter Tryz.func70, Tryz.ntmps70
  go_wp2_with (go_at_call 123; refine (between_c _ _ _ _).mono ?_; rintro e w' ⟨rfl, rfl⟩)
  all_goals
    first
    | (exfalso; simp_all; done)
    | (go_ret; exact ⟨ret_u (by rw [← HC.out]; simp_all [sizeI]), rfl⟩)
def signS4 (op : Int) : Bool := btw op 11 14 || classS op == 7
theorem sign_tab : ∀ k : Fin 99, classL.getD k.val 0 = 5 → ((Tab.names4.getD k.val []).length == 2) = btw (k.val : Nat) 11 14 := by decide +kernel
theorem sign_tab2 : ∀ k : Fin 99, btw (k.val : Nat) 11 14 = true → classL.getD k.val 0 = 5 := by decide +kernel
theorem signS_not {op : Int} (h7 : classS op ≠ 7) (h5 : classS op ≠ 5) : signS4 op = false := by
  unfold signS4
  have e7 : (classS op == 7) = false := by simpa using h7
  rw [e7, Bool.or_false]
  apply btw_no
  intro hb
  apply h5
  have := sign_tab2 ⟨op.toNat, by omega⟩ (btw_iff.2 (by simp only; omega))
  unfold classS
  rw [if_pos (by omega), this]
  rfl
end Go.Proofs.YtjeolfcefeglpabGreat
set_option maxRecDepth 20000
namespace Go.Proofs.YtjeolfcefeglpabGreat
open Go.ChangeShapes Go.WideShapes Go.ChangeAt Go.RowKit Wd

def linkB (op : Int) : Bool := op == 67 || op == 78
def condB (op : Int) : Bool := op == 68 || op == 79
def isB (op : Int) : Bool := classS op == 7 && !linkB op && !condB op
theorem link_c (op : Int) (w : World) : Calls Tryz.prog 121 #[.int .i64 op] w fun e w' => e = .returned (.bool (linkB op)) ∧ w = w' := by
  cases h : (op == 67)
  · have HS := Lib.hid (show (op == 78) = linkB op by simp only [linkB, h, Bool.false_or])
    go_enter Tryz.func121, Tryz.ntmps121
    go_wp2
    go_ret
    exact ⟨ret_b HS.out, rfl⟩
  · have HS := Lib.hid (show true = linkB op by simp only [linkB, h, Bool.true_or])
    go_enter Tryz.func121, Tryz.ntmps121
    go_wp2
    go_ret
    exact ⟨ret_b HS.out, rfl⟩
theorem cond_c (op : Int) (w : World) : Calls Tryz.prog 122 #[.int .i64 op] w fun e w' => e = .returned (.bool (condB op)) ∧ w = w' := by
  cases h : (op == 68)
  · have HS := Lib.hid (show (op == 79) = condB op by simp only [condB, h, Bool.false_or])
    go_enter Tryz.func122, Tryz.ntmps122
    go_wp2
    go_ret
    exact ⟨ret_b HS.out, rfl⟩
  · have HS := Lib.hid (show true = condB op by simp only [condB, h, Bool.true_or])
    go_enter Tryz.func122, Tryz.ntmps122
    go_wp2
    go_ret
    exact ⟨ret_b HS.out, rfl⟩
set_option maxHeartbeats 1000000 in
theorem is_c (op : Int) (w : World) : Calls Tryz.prog 69 #[.int .i64 op] w fun e w' => e = .returned (.bool (isB op)) ∧ w = w' := by
  cases h : (classS op == 7)
  · have HS := Lib.hid (show false = isB op by simp only [isB, h, Bool.false_and])
    go_enter Tryz.func69, Tryz.ntmps69
    go_wp2_with (first | (go_at_call 120; refine (class_c _ _).mono ?_; rintro e w' ⟨rfl, rfl⟩) | (go_at_call 121; refine (link_c _ _).mono ?_; rintro e w' ⟨rfl, rfl⟩) | (go_at_call 122; refine (cond_c _ _).mono ?_; rintro e w' ⟨rfl, rfl⟩))
    go_ret
    exact ⟨ret_b HS.out, rfl⟩
  · cases hl : linkB op
    · have HS := Lib.hid (show (!condB op) = isB op by simp only [isB, h, hl, Bool.true_and, Bool.not_false])
      go_enter Tryz.func69, Tryz.ntmps69
      go_wp2_with (first | (go_at_call 120; refine (class_c _ _).mono ?_; rintro e w' ⟨rfl, rfl⟩) | (go_at_call 121; refine (link_c _ _).mono ?_; rintro e w' ⟨rfl, rfl⟩) | (go_at_call 122; refine (cond_c _ _).mono ?_; rintro e w' ⟨rfl, rfl⟩))
      go_ret
      exact ⟨ret_b HS.out, rfl⟩
    · have HS := Lib.hid (show false = isB op by simp only [isB, h, hl, Bool.true_and, Bool.not_true, Bool.false_and])
      go_enter Tryz.func69, Tryz.ntmps69
      go_wp2_with (first | (go_at_call 120; refine (class_c _ _).mono ?_; rintro e w' ⟨rfl, rfl⟩) | (go_at_call 121; refine (link_c _ _).mono ?_; rintro e w' ⟨rfl, rfl⟩) | (go_at_call 122; refine (cond_c _ _).mono ?_; rintro e w' ⟨rfl, rfl⟩))
      go_ret
      exact ⟨ret_b HS.out, rfl⟩
theorem least_i64_y (m x : Int) (w : World) (h : x < m) : Calls Tryz.prog 124 #[.int .i64 m, .int .i64 x] w fun e w' => e = .returned (.int .i64 x) ∧ w = w' := by
  go_enter Tryz.func124, Tryz.ntmps124
  go_wp2
  go_ret
  exact ⟨rfl, rfl⟩
theorem least_i64_n (m x : Int) (w : World) (h : m ≤ x) : Calls Tryz.prog 124 #[.int .i64 m, .int .i64 x] w fun e w' => e = .returned (.int .i64 m) ∧ w = w' := by
  go_enter Tryz.func124, Tryz.ntmps124
  go_wp2
  go_ret
  exact ⟨rfl, rfl⟩
theorem least_u64_y (m x : Int) (w : World) (h : x < m) : Calls Tryz.prog 126 #[.int .u64 m, .int .u64 x] w fun e w' => e = .returned (.int .u64 x) ∧ w = w' := by
  go_enter Tryz.func126, Tryz.ntmps126
  go_wp2
  go_ret
  exact ⟨rfl, rfl⟩
theorem least_u64_n (m x : Int) (w : World) (h : m ≤ x) : Calls Tryz.prog 126 #[.int .u64 m, .int .u64 x] w fun e w' => e = .returned (.int .u64 m) ∧ w = w' := by
  go_enter Tryz.func126, Tryz.ntmps126
  go_wp2
  go_ret
  exact ⟨rfl, rfl⟩
theorem greatest_i64_y (m x : Int) (w : World) (h : m < x) : Calls Tryz.prog 125 #[.int .i64 m, .int .i64 x] w fun e w' => e = .returned (.int .i64 x) ∧ w = w' := by
  go_enter Tryz.func125, Tryz.ntmps125
  go_wp2
  go_ret
  exact ⟨rfl, rfl⟩
theorem greatest_i64_n (m x : Int) (w : World) (h : x ≤ m) : Calls Tryz.prog 125 #[.int .i64 m, .int .i64 x] w fun e w' => e = .returned (.int .i64 m) ∧ w = w' := by
  go_enter Tryz.func125, Tryz.ntmps125
  go_wp2
  go_ret
  exact ⟨rfl, rfl⟩
theorem greatest_u64_y (m x : Int) (w : World) (h : m < x) : Calls Tryz.prog 127 #[.int .u64 m, .int .u64 x] w fun e w' => e = .returned (.int .u64 x) ∧ w = w' := by
  go_enter Tryz.func127, Tryz.ntmps127
  go_wp2
  go_ret
  exact ⟨rfl, rfl⟩
theorem greatest_u64_n (m x : Int) (w : World) (h : x ≤ m) : Calls Tryz.prog 127 #[.int .u64 m, .int .u64 x] w fun e w' => e = .returned (.int .u64 m) ∧ w = w' := by
  go_enter Tryz.func127, Tryz.ntmps127
  go_wp2
  go_ret
  exact ⟨rfl, rfl⟩
def amoG : Nat → Int → Int → Int
  | 0, _, x => x
  | 1, m, x => IntKind.u64.wrap (m + x)
  | 2, m, x => bits .xor .u64 m x
  | 3, m, x => bits .and .u64 m x
  | 4, m, x => bits .or .u64 m x
  | 5, m, x => if wrap64 x < wrap64 m then x else m
  | 6, m, x => if wrap64 m < wrap64 x then x else m
  | 7, m, x => if x < m then x else m
  | _, m, x => if m < x then x else m
theorem back_u64 {x : Int} (h0 : 0 ≤ x) (h : x < 18446744073709551616) : IntKind.u64.wrap (wrap64 x) = x := by rw [wrap_wrap64, IntKind.wrap_u64]; omega
theorem pick_u64 {m x : Int} (c : Prop) [Decidable c] (hm0 : 0 ≤ m) (hm : m < 18446744073709551616) (hx0 : 0 ≤ x) (hx : x < 18446744073709551616) : IntKind.u64.wrap (if c then wrap64 x else wrap64 m) = if c then x else m := by
  split
  · exact back_u64 hx0 hx
  · exact back_u64 hm0 hm
theorem change_0 (m x : Int) (w : World) (_hm0 : 0 ≤ m) (_hm : m < 18446744073709551616) (_hx0 : 0 ≤ x) (_hx : x < 18446744073709551616) : Calls Tryz.prog 71 #[.int .i64 80, .int .u64 m, .int .u64 x] w fun e w' => e = .returned (.int .u64 (amoG 0 m x)) ∧ w = w' := by
  go_enter Tryz.func71, Tryz.ntmps71
  go_wp2_with fail
  go_ret
  exact ⟨rfl, rfl⟩
theorem change_1 (m x : Int) (w : World) (_hm0 : 0 ≤ m) (_hm : m < 18446744073709551616) (_hx0 : 0 ≤ x) (_hx : x < 18446744073709551616) : Calls Tryz.prog 71 #[.int .i64 81, .int .u64 m, .int .u64 x] w fun e w' => e = .returned (.int .u64 (amoG 1 m x)) ∧ w = w' := by
  go_enter Tryz.func71, Tryz.ntmps71
  go_wp2_with fail
  go_ret
  exact ⟨rfl, rfl⟩
theorem change_2 (m x : Int) (w : World) (_hm0 : 0 ≤ m) (_hm : m < 18446744073709551616) (_hx0 : 0 ≤ x) (_hx : x < 18446744073709551616) : Calls Tryz.prog 71 #[.int .i64 82, .int .u64 m, .int .u64 x] w fun e w' => e = .returned (.int .u64 (amoG 2 m x)) ∧ w = w' := by
  go_enter Tryz.func71, Tryz.ntmps71
  go_wp2_with fail
  go_ret
  exact ⟨rfl, rfl⟩
theorem change_3 (m x : Int) (w : World) (_hm0 : 0 ≤ m) (_hm : m < 18446744073709551616) (_hx0 : 0 ≤ x) (_hx : x < 18446744073709551616) : Calls Tryz.prog 71 #[.int .i64 83, .int .u64 m, .int .u64 x] w fun e w' => e = .returned (.int .u64 (amoG 3 m x)) ∧ w = w' := by
  go_enter Tryz.func71, Tryz.ntmps71
  go_wp2_with fail
  go_ret
  exact ⟨rfl, rfl⟩
theorem change_4 (m x : Int) (w : World) (_hm0 : 0 ≤ m) (_hm : m < 18446744073709551616) (_hx0 : 0 ≤ x) (_hx : x < 18446744073709551616) : Calls Tryz.prog 71 #[.int .i64 84, .int .u64 m, .int .u64 x] w fun e w' => e = .returned (.int .u64 (amoG 4 m x)) ∧ w = w' := by
  go_enter Tryz.func71, Tryz.ntmps71
  go_wp2_with fail
  go_ret
  exact ⟨rfl, rfl⟩
theorem change_5 (m x : Int) (w : World) (hm0 : 0 ≤ m) (hm : m < 18446744073709551616) (hx0 : 0 ≤ x) (hx : x < 18446744073709551616) : Calls Tryz.prog 71 #[.int .i64 85, .int .u64 m, .int .u64 x] w fun e w' => e = .returned (.int .u64 (amoG 5 m x)) ∧ w = w' := by
  by_cases c : wrap64 x < wrap64 m
  · have HV := Lib.hid (show IntKind.u64.wrap (wrap64 x) = amoG 5 m x from by rw [back_u64 hx0 hx]; show x = if wrap64 x < wrap64 m then x else m; rw [if_pos c])
    have HC := Lib.hid (c)
    clear c
    go_enter Tryz.func71, Tryz.ntmps71
    go_wp2_with fail
    refine (least_i64_y _ _ _ HC.out).mono ?_
    rintro e w' ⟨rfl, rfl⟩
    go_wp2_with fail
    go_ret
    exact ⟨ret_u HV.out, rfl⟩
  · have HV := Lib.hid (show IntKind.u64.wrap (wrap64 m) = amoG 5 m x from by rw [back_u64 hm0 hm]; show m = if wrap64 x < wrap64 m then x else m; rw [if_neg c])
    have HC := Lib.hid (Int.not_lt.1 c)
    clear c
    go_enter Tryz.func71, Tryz.ntmps71
    go_wp2_with fail
    refine (least_i64_n _ _ _ HC.out).mono ?_
    rintro e w' ⟨rfl, rfl⟩
    go_wp2_with fail
    go_ret
    exact ⟨ret_u HV.out, rfl⟩
theorem change_6 (m x : Int) (w : World) (hm0 : 0 ≤ m) (hm : m < 18446744073709551616) (hx0 : 0 ≤ x) (hx : x < 18446744073709551616) : Calls Tryz.prog 71 #[.int .i64 86, .int .u64 m, .int .u64 x] w fun e w' => e = .returned (.int .u64 (amoG 6 m x)) ∧ w = w' := by
  by_cases c : wrap64 m < wrap64 x
  · have HV := Lib.hid (show IntKind.u64.wrap (wrap64 x) = amoG 6 m x from by rw [back_u64 hx0 hx]; show x = if wrap64 m < wrap64 x then x else m; rw [if_pos c])
    have HC := Lib.hid (c)
    clear c
    go_enter Tryz.func71, Tryz.ntmps71
    go_wp2_with fail
    refine (greatest_i64_y _ _ _ HC.out).mono ?_
    rintro e w' ⟨rfl, rfl⟩
    go_wp2_with fail
    go_ret
    exact ⟨ret_u HV.out, rfl⟩
  · have HV := Lib.hid (show IntKind.u64.wrap (wrap64 m) = amoG 6 m x from by rw [back_u64 hm0 hm]; show m = if wrap64 m < wrap64 x then x else m; rw [if_neg c])
    have HC := Lib.hid (Int.not_lt.1 c)
    clear c
    go_enter Tryz.func71, Tryz.ntmps71
    go_wp2_with fail
    refine (greatest_i64_n _ _ _ HC.out).mono ?_
    rintro e w' ⟨rfl, rfl⟩
    go_wp2_with fail
    go_ret
    exact ⟨ret_u HV.out, rfl⟩
theorem change_7 (m x : Int) (w : World) (_hm0 : 0 ≤ m) (_hm : m < 18446744073709551616) (_hx0 : 0 ≤ x) (_hx : x < 18446744073709551616) : Calls Tryz.prog 71 #[.int .i64 87, .int .u64 m, .int .u64 x] w fun e w' => e = .returned (.int .u64 (amoG 7 m x)) ∧ w = w' := by
  by_cases c : x < m
  · have HV := Lib.hid (show x = amoG 7 m x from by show x = if x < m then x else m; rw [if_pos c])
    have HC := Lib.hid (c)
    clear c
    go_enter Tryz.func71, Tryz.ntmps71
    go_wp2_with fail
    refine (least_u64_y _ _ _ HC.out).mono ?_
    rintro e w' ⟨rfl, rfl⟩
    go_wp2_with fail
    go_ret
    exact ⟨ret_u HV.out, rfl⟩
  · have HV := Lib.hid (show m = amoG 7 m x from by show m = if x < m then x else m; rw [if_neg c])
    have HC := Lib.hid (Int.not_lt.1 c)
    clear c
    go_enter Tryz.func71, Tryz.ntmps71
    go_wp2_with fail
    refine (least_u64_n _ _ _ HC.out).mono ?_
    rintro e w' ⟨rfl, rfl⟩
    go_wp2_with fail
    go_ret
    exact ⟨ret_u HV.out, rfl⟩
theorem change_8 (m x : Int) (w : World) (_hm0 : 0 ≤ m) (_hm : m < 18446744073709551616) (_hx0 : 0 ≤ x) (_hx : x < 18446744073709551616) : Calls Tryz.prog 71 #[.int .i64 88, .int .u64 m, .int .u64 x] w fun e w' => e = .returned (.int .u64 (amoG 8 m x)) ∧ w = w' := by
  by_cases c : m < x
  · have HV := Lib.hid (show x = amoG 8 m x from by show x = if m < x then x else m; rw [if_pos c])
    have HC := Lib.hid (c)
    clear c
    go_enter Tryz.func71, Tryz.ntmps71
    go_wp2_with fail
    refine (greatest_u64_y _ _ _ HC.out).mono ?_
    rintro e w' ⟨rfl, rfl⟩
    go_wp2_with fail
    go_ret
    exact ⟨ret_u HV.out, rfl⟩
  · have HV := Lib.hid (show m = amoG 8 m x from by show m = if m < x then x else m; rw [if_neg c])
    have HC := Lib.hid (Int.not_lt.1 c)
    clear c
    go_enter Tryz.func71, Tryz.ntmps71
    go_wp2_with fail
    refine (greatest_u64_n _ _ _ HC.out).mono ?_
    rintro e w' ⟨rfl, rfl⟩
    go_wp2_with fail
    go_ret
    exact ⟨ret_u HV.out, rfl⟩
theorem amo_long (op : Int) (w : World) (h0 : 67 ≤ op) (h1 : op ≤ 88) : Calls Tryz.prog 72 #[.int .i64 op] w fun e w' => e = .returned (.int .i64 (op + 11)) ∧ w = w' := by
  have h := Lib.hid (show op - 67 + 78 = op + 11 from by omega)
  go_enter Tryz.func72, Tryz.ntmps72
  go_wp2
  go_ret
  exact ⟨ret_u h.out, rfl⟩
set_option maxHeartbeats 1000000 in
theorem amo_d0 (m x : Int) (w : World) (hm0 : 0 ≤ m) (hm : m < 18446744073709551616) (hx0 : 0 ≤ x) (hx : x < 18446744073709551616) : Calls Tryz.prog 39 #[.int .i64 80, .int .u64 m, .int .u64 x] w fun e w' => e = .returned (.tuple #[.int .u64 (amoG 0 m x), .bool true]) ∧ w = w' := by
  have hi : isB 80 = true := by decide +kernel
  have hs : sizeS 80 = 8 := by decide +kernel
  go_enter Tryz.func39, Tryz.ntmps39
  go_wp2_with fail
  refine (is_c _ _).mono ?_
  rintro e w' ⟨rfl, rfl⟩
  rw [hi]
  go_wp2_with fail
  refine (size_c _ _).mono ?_
  rintro e w' ⟨rfl, rfl⟩
  rw [hs]
  go_wp2_with fail
  refine (change_0 _ _ _ hm0 hm hx0 hx).mono ?_
  rintro e w' ⟨rfl, rfl⟩
  go_wp2_with fail
  go_ret2
  exact ⟨rfl, rfl⟩
set_option maxHeartbeats 1000000 in
theorem amo_w0 (m x : Int) (w : World) (hm0 : 0 ≤ m) (hm : m < 18446744073709551616) (hx0 : 0 ≤ x) (hx : x < 18446744073709551616) : Calls Tryz.prog 39 #[.int .i64 69, .int .u64 m, .int .u64 x] w fun e w' => e = .returned (.tuple #[.int .u64 (amoG 0 (signS m 32) (signS x 32) % 4294967296), .bool true]) ∧ w = w' := by
  have hi : isB 69 = true := by decide +kernel
  have hs : sizeS 69 = 4 := by decide +kernel
  obtain ⟨p0, p1⟩ := signS_range m 32
  obtain ⟨q0, q1⟩ := signS_range x 32
  generalize hP : signS m 32 = P at *
  generalize hQ : signS x 32 = Q at *
  have HP := Lib.hid (And.intro hP hQ)
  clear hP hQ
  go_enter Tryz.func39, Tryz.ntmps39
  go_wp2_with fail
  refine (is_c _ _).mono ?_
  rintro e w' ⟨rfl, rfl⟩
  rw [hi]
  go_wp2_with fail
  refine (size_c _ _).mono ?_
  rintro e w' ⟨rfl, rfl⟩
  rw [hs]
  go_wp2_with fail
  refine (amo_long _ _ (by omega) (by omega)).mono ?_
  rintro e w' ⟨rfl, rfl⟩
  go_wp2_with fail
  refine (word_c _ _ hm0 hm).mono ?_
  rintro e w' ⟨rfl, rfl⟩
  rw [HP.out.1]
  go_wp2_with fail
  refine (word_c _ _ hx0 hx).mono ?_
  rintro e w' ⟨rfl, rfl⟩
  rw [HP.out.2]
  go_wp2_with fail
  refine (change_0 _ _ _ p0 p1 q0 q1).mono ?_
  rintro e w' ⟨rfl, rfl⟩
  go_wp2_with fail
  go_ret2
  exact ⟨rfl, rfl⟩
set_option maxHeartbeats 1000000 in
theorem amo_d1 (m x : Int) (w : World) (hm0 : 0 ≤ m) (hm : m < 18446744073709551616) (hx0 : 0 ≤ x) (hx : x < 18446744073709551616) : Calls Tryz.prog 39 #[.int .i64 81, .int .u64 m, .int .u64 x] w fun e w' => e = .returned (.tuple #[.int .u64 (amoG 1 m x), .bool true]) ∧ w = w' := by
  have hi : isB 81 = true := by decide +kernel
  have hs : sizeS 81 = 8 := by decide +kernel
  go_enter Tryz.func39, Tryz.ntmps39
  go_wp2_with fail
  refine (is_c _ _).mono ?_
  rintro e w' ⟨rfl, rfl⟩
  rw [hi]
  go_wp2_with fail
  refine (size_c _ _).mono ?_
  rintro e w' ⟨rfl, rfl⟩
  rw [hs]
  go_wp2_with fail
  refine (change_1 _ _ _ hm0 hm hx0 hx).mono ?_
  rintro e w' ⟨rfl, rfl⟩
  go_wp2_with fail
  go_ret2
  exact ⟨rfl, rfl⟩
set_option maxHeartbeats 1000000 in
theorem amo_w1 (m x : Int) (w : World) (hm0 : 0 ≤ m) (hm : m < 18446744073709551616) (hx0 : 0 ≤ x) (hx : x < 18446744073709551616) : Calls Tryz.prog 39 #[.int .i64 70, .int .u64 m, .int .u64 x] w fun e w' => e = .returned (.tuple #[.int .u64 (amoG 1 (signS m 32) (signS x 32) % 4294967296), .bool true]) ∧ w = w' := by
  have hi : isB 70 = true := by decide +kernel
  have hs : sizeS 70 = 4 := by decide +kernel
  obtain ⟨p0, p1⟩ := signS_range m 32
  obtain ⟨q0, q1⟩ := signS_range x 32
  generalize hP : signS m 32 = P at *
  generalize hQ : signS x 32 = Q at *
  have HP := Lib.hid (And.intro hP hQ)
  clear hP hQ
  go_enter Tryz.func39, Tryz.ntmps39
  go_wp2_with fail
  refine (is_c _ _).mono ?_
  rintro e w' ⟨rfl, rfl⟩
  rw [hi]
  go_wp2_with fail
  refine (size_c _ _).mono ?_
  rintro e w' ⟨rfl, rfl⟩
  rw [hs]
  go_wp2_with fail
  refine (amo_long _ _ (by omega) (by omega)).mono ?_
  rintro e w' ⟨rfl, rfl⟩
  go_wp2_with fail
  refine (word_c _ _ hm0 hm).mono ?_
  rintro e w' ⟨rfl, rfl⟩
  rw [HP.out.1]
  go_wp2_with fail
  refine (word_c _ _ hx0 hx).mono ?_
  rintro e w' ⟨rfl, rfl⟩
  rw [HP.out.2]
  go_wp2_with fail
  refine (change_1 _ _ _ p0 p1 q0 q1).mono ?_
  rintro e w' ⟨rfl, rfl⟩
  go_wp2_with fail
  go_ret2
  exact ⟨rfl, rfl⟩
set_option maxHeartbeats 1000000 in
theorem amo_d2 (m x : Int) (w : World) (hm0 : 0 ≤ m) (hm : m < 18446744073709551616) (hx0 : 0 ≤ x) (hx : x < 18446744073709551616) : Calls Tryz.prog 39 #[.int .i64 82, .int .u64 m, .int .u64 x] w fun e w' => e = .returned (.tuple #[.int .u64 (amoG 2 m x), .bool true]) ∧ w = w' := by
  have hi : isB 82 = true := by decide +kernel
  have hs : sizeS 82 = 8 := by decide +kernel
  go_enter Tryz.func39, Tryz.ntmps39
  go_wp2_with fail
  refine (is_c _ _).mono ?_
  rintro e w' ⟨rfl, rfl⟩
  rw [hi]
  go_wp2_with fail
  refine (size_c _ _).mono ?_
  rintro e w' ⟨rfl, rfl⟩
  rw [hs]
  go_wp2_with fail
  refine (change_2 _ _ _ hm0 hm hx0 hx).mono ?_
  rintro e w' ⟨rfl, rfl⟩
  go_wp2_with fail
  go_ret2
  exact ⟨rfl, rfl⟩
set_option maxHeartbeats 1000000 in
theorem amo_w2 (m x : Int) (w : World) (hm0 : 0 ≤ m) (hm : m < 18446744073709551616) (hx0 : 0 ≤ x) (hx : x < 18446744073709551616) : Calls Tryz.prog 39 #[.int .i64 71, .int .u64 m, .int .u64 x] w fun e w' => e = .returned (.tuple #[.int .u64 (amoG 2 (signS m 32) (signS x 32) % 4294967296), .bool true]) ∧ w = w' := by
  have hi : isB 71 = true := by decide +kernel
  have hs : sizeS 71 = 4 := by decide +kernel
  obtain ⟨p0, p1⟩ := signS_range m 32
  obtain ⟨q0, q1⟩ := signS_range x 32
  generalize hP : signS m 32 = P at *
  generalize hQ : signS x 32 = Q at *
  have HP := Lib.hid (And.intro hP hQ)
  clear hP hQ
  go_enter Tryz.func39, Tryz.ntmps39
  go_wp2_with fail
  refine (is_c _ _).mono ?_
  rintro e w' ⟨rfl, rfl⟩
  rw [hi]
  go_wp2_with fail
  refine (size_c _ _).mono ?_
  rintro e w' ⟨rfl, rfl⟩
  rw [hs]
  go_wp2_with fail
  refine (amo_long _ _ (by omega) (by omega)).mono ?_
  rintro e w' ⟨rfl, rfl⟩
  go_wp2_with fail
  refine (word_c _ _ hm0 hm).mono ?_
  rintro e w' ⟨rfl, rfl⟩
  rw [HP.out.1]
  go_wp2_with fail
  refine (word_c _ _ hx0 hx).mono ?_
  rintro e w' ⟨rfl, rfl⟩
  rw [HP.out.2]
  go_wp2_with fail
  refine (change_2 _ _ _ p0 p1 q0 q1).mono ?_
  rintro e w' ⟨rfl, rfl⟩
  go_wp2_with fail
  go_ret2
  exact ⟨rfl, rfl⟩
set_option maxHeartbeats 1000000 in
theorem amo_d3 (m x : Int) (w : World) (hm0 : 0 ≤ m) (hm : m < 18446744073709551616) (hx0 : 0 ≤ x) (hx : x < 18446744073709551616) : Calls Tryz.prog 39 #[.int .i64 83, .int .u64 m, .int .u64 x] w fun e w' => e = .returned (.tuple #[.int .u64 (amoG 3 m x), .bool true]) ∧ w = w' := by
  have hi : isB 83 = true := by decide +kernel
  have hs : sizeS 83 = 8 := by decide +kernel
  go_enter Tryz.func39, Tryz.ntmps39
  go_wp2_with fail
  refine (is_c _ _).mono ?_
  rintro e w' ⟨rfl, rfl⟩
  rw [hi]
  go_wp2_with fail
  refine (size_c _ _).mono ?_
  rintro e w' ⟨rfl, rfl⟩
  rw [hs]
  go_wp2_with fail
  refine (change_3 _ _ _ hm0 hm hx0 hx).mono ?_
  rintro e w' ⟨rfl, rfl⟩
  go_wp2_with fail
  go_ret2
  exact ⟨rfl, rfl⟩
set_option maxHeartbeats 1000000 in
theorem amo_w3 (m x : Int) (w : World) (hm0 : 0 ≤ m) (hm : m < 18446744073709551616) (hx0 : 0 ≤ x) (hx : x < 18446744073709551616) : Calls Tryz.prog 39 #[.int .i64 72, .int .u64 m, .int .u64 x] w fun e w' => e = .returned (.tuple #[.int .u64 (amoG 3 (signS m 32) (signS x 32) % 4294967296), .bool true]) ∧ w = w' := by
  have hi : isB 72 = true := by decide +kernel
  have hs : sizeS 72 = 4 := by decide +kernel
  obtain ⟨p0, p1⟩ := signS_range m 32
  obtain ⟨q0, q1⟩ := signS_range x 32
  generalize hP : signS m 32 = P at *
  generalize hQ : signS x 32 = Q at *
  have HP := Lib.hid (And.intro hP hQ)
  clear hP hQ
  go_enter Tryz.func39, Tryz.ntmps39
  go_wp2_with fail
  refine (is_c _ _).mono ?_
  rintro e w' ⟨rfl, rfl⟩
  rw [hi]
  go_wp2_with fail
  refine (size_c _ _).mono ?_
  rintro e w' ⟨rfl, rfl⟩
  rw [hs]
  go_wp2_with fail
  refine (amo_long _ _ (by omega) (by omega)).mono ?_
  rintro e w' ⟨rfl, rfl⟩
  go_wp2_with fail
  refine (word_c _ _ hm0 hm).mono ?_
  rintro e w' ⟨rfl, rfl⟩
  rw [HP.out.1]
  go_wp2_with fail
  refine (word_c _ _ hx0 hx).mono ?_
  rintro e w' ⟨rfl, rfl⟩
  rw [HP.out.2]
  go_wp2_with fail
  refine (change_3 _ _ _ p0 p1 q0 q1).mono ?_
  rintro e w' ⟨rfl, rfl⟩
  go_wp2_with fail
  go_ret2
  exact ⟨rfl, rfl⟩
set_option maxHeartbeats 1000000 in
theorem amo_d4 (m x : Int) (w : World) (hm0 : 0 ≤ m) (hm : m < 18446744073709551616) (hx0 : 0 ≤ x) (hx : x < 18446744073709551616) : Calls Tryz.prog 39 #[.int .i64 84, .int .u64 m, .int .u64 x] w fun e w' => e = .returned (.tuple #[.int .u64 (amoG 4 m x), .bool true]) ∧ w = w' := by
  have hi : isB 84 = true := by decide +kernel
  have hs : sizeS 84 = 8 := by decide +kernel
  go_enter Tryz.func39, Tryz.ntmps39
  go_wp2_with fail
  refine (is_c _ _).mono ?_
  rintro e w' ⟨rfl, rfl⟩
  rw [hi]
  go_wp2_with fail
  refine (size_c _ _).mono ?_
  rintro e w' ⟨rfl, rfl⟩
  rw [hs]
  go_wp2_with fail
  refine (change_4 _ _ _ hm0 hm hx0 hx).mono ?_
  rintro e w' ⟨rfl, rfl⟩
  go_wp2_with fail
  go_ret2
  exact ⟨rfl, rfl⟩
set_option maxHeartbeats 1000000 in
theorem amo_w4 (m x : Int) (w : World) (hm0 : 0 ≤ m) (hm : m < 18446744073709551616) (hx0 : 0 ≤ x) (hx : x < 18446744073709551616) : Calls Tryz.prog 39 #[.int .i64 73, .int .u64 m, .int .u64 x] w fun e w' => e = .returned (.tuple #[.int .u64 (amoG 4 (signS m 32) (signS x 32) % 4294967296), .bool true]) ∧ w = w' := by
  have hi : isB 73 = true := by decide +kernel
  have hs : sizeS 73 = 4 := by decide +kernel
  obtain ⟨p0, p1⟩ := signS_range m 32
  obtain ⟨q0, q1⟩ := signS_range x 32
  generalize hP : signS m 32 = P at *
  generalize hQ : signS x 32 = Q at *
  have HP := Lib.hid (And.intro hP hQ)
  clear hP hQ
  go_enter Tryz.func39, Tryz.ntmps39
  go_wp2_with fail
  refine (is_c _ _).mono ?_
  rintro e w' ⟨rfl, rfl⟩
  rw [hi]
  go_wp2_with fail
  refine (size_c _ _).mono ?_
  rintro e w' ⟨rfl, rfl⟩
  rw [hs]
  go_wp2_with fail
  refine (amo_long _ _ (by omega) (by omega)).mono ?_
  rintro e w' ⟨rfl, rfl⟩
  go_wp2_with fail
  refine (word_c _ _ hm0 hm).mono ?_
  rintro e w' ⟨rfl, rfl⟩
  rw [HP.out.1]
  go_wp2_with fail
  refine (word_c _ _ hx0 hx).mono ?_
  rintro e w' ⟨rfl, rfl⟩
  rw [HP.out.2]
  go_wp2_with fail
  refine (change_4 _ _ _ p0 p1 q0 q1).mono ?_
  rintro e w' ⟨rfl, rfl⟩
  go_wp2_with fail
  go_ret2
  exact ⟨rfl, rfl⟩
set_option maxHeartbeats 1000000 in
theorem amo_d5 (m x : Int) (w : World) (hm0 : 0 ≤ m) (hm : m < 18446744073709551616) (hx0 : 0 ≤ x) (hx : x < 18446744073709551616) : Calls Tryz.prog 39 #[.int .i64 85, .int .u64 m, .int .u64 x] w fun e w' => e = .returned (.tuple #[.int .u64 (amoG 5 m x), .bool true]) ∧ w = w' := by
  have hi : isB 85 = true := by decide +kernel
  have hs : sizeS 85 = 8 := by decide +kernel
  go_enter Tryz.func39, Tryz.ntmps39
  go_wp2_with fail
  refine (is_c _ _).mono ?_
  rintro e w' ⟨rfl, rfl⟩
  rw [hi]
  go_wp2_with fail
  refine (size_c _ _).mono ?_
  rintro e w' ⟨rfl, rfl⟩
  rw [hs]
  go_wp2_with fail
  refine (change_5 _ _ _ hm0 hm hx0 hx).mono ?_
  rintro e w' ⟨rfl, rfl⟩
  go_wp2_with fail
  go_ret2
  exact ⟨rfl, rfl⟩
set_option maxHeartbeats 1000000 in
theorem amo_w5 (m x : Int) (w : World) (hm0 : 0 ≤ m) (hm : m < 18446744073709551616) (hx0 : 0 ≤ x) (hx : x < 18446744073709551616) : Calls Tryz.prog 39 #[.int .i64 74, .int .u64 m, .int .u64 x] w fun e w' => e = .returned (.tuple #[.int .u64 (amoG 5 (signS m 32) (signS x 32) % 4294967296), .bool true]) ∧ w = w' := by
  have hi : isB 74 = true := by decide +kernel
  have hs : sizeS 74 = 4 := by decide +kernel
  obtain ⟨p0, p1⟩ := signS_range m 32
  obtain ⟨q0, q1⟩ := signS_range x 32
  generalize hP : signS m 32 = P at *
  generalize hQ : signS x 32 = Q at *
  have HP := Lib.hid (And.intro hP hQ)
  clear hP hQ
  go_enter Tryz.func39, Tryz.ntmps39
  go_wp2_with fail
  refine (is_c _ _).mono ?_
  rintro e w' ⟨rfl, rfl⟩
  rw [hi]
  go_wp2_with fail
  refine (size_c _ _).mono ?_
  rintro e w' ⟨rfl, rfl⟩
  rw [hs]
  go_wp2_with fail
  refine (amo_long _ _ (by omega) (by omega)).mono ?_
  rintro e w' ⟨rfl, rfl⟩
  go_wp2_with fail
  refine (word_c _ _ hm0 hm).mono ?_
  rintro e w' ⟨rfl, rfl⟩
  rw [HP.out.1]
  go_wp2_with fail
  refine (word_c _ _ hx0 hx).mono ?_
  rintro e w' ⟨rfl, rfl⟩
  rw [HP.out.2]
  go_wp2_with fail
  refine (change_5 _ _ _ p0 p1 q0 q1).mono ?_
  rintro e w' ⟨rfl, rfl⟩
  go_wp2_with fail
  go_ret2
  exact ⟨rfl, rfl⟩
set_option maxHeartbeats 1000000 in
theorem amo_d6 (m x : Int) (w : World) (hm0 : 0 ≤ m) (hm : m < 18446744073709551616) (hx0 : 0 ≤ x) (hx : x < 18446744073709551616) : Calls Tryz.prog 39 #[.int .i64 86, .int .u64 m, .int .u64 x] w fun e w' => e = .returned (.tuple #[.int .u64 (amoG 6 m x), .bool true]) ∧ w = w' := by
  have hi : isB 86 = true := by decide +kernel
  have hs : sizeS 86 = 8 := by decide +kernel
  go_enter Tryz.func39, Tryz.ntmps39
  go_wp2_with fail
  refine (is_c _ _).mono ?_
  rintro e w' ⟨rfl, rfl⟩
  rw [hi]
  go_wp2_with fail
  refine (size_c _ _).mono ?_
  rintro e w' ⟨rfl, rfl⟩
  rw [hs]
  go_wp2_with fail
  refine (change_6 _ _ _ hm0 hm hx0 hx).mono ?_
  rintro e w' ⟨rfl, rfl⟩
  go_wp2_with fail
  go_ret2
  exact ⟨rfl, rfl⟩
set_option maxHeartbeats 1000000 in
theorem amo_w6 (m x : Int) (w : World) (hm0 : 0 ≤ m) (hm : m < 18446744073709551616) (hx0 : 0 ≤ x) (hx : x < 18446744073709551616) : Calls Tryz.prog 39 #[.int .i64 75, .int .u64 m, .int .u64 x] w fun e w' => e = .returned (.tuple #[.int .u64 (amoG 6 (signS m 32) (signS x 32) % 4294967296), .bool true]) ∧ w = w' := by
  have hi : isB 75 = true := by decide +kernel
  have hs : sizeS 75 = 4 := by decide +kernel
  obtain ⟨p0, p1⟩ := signS_range m 32
  obtain ⟨q0, q1⟩ := signS_range x 32
  generalize hP : signS m 32 = P at *
  generalize hQ : signS x 32 = Q at *
  have HP := Lib.hid (And.intro hP hQ)
  clear hP hQ
  go_enter Tryz.func39, Tryz.ntmps39
  go_wp2_with fail
  refine (is_c _ _).mono ?_
  rintro e w' ⟨rfl, rfl⟩
  rw [hi]
  go_wp2_with fail
  refine (size_c _ _).mono ?_
  rintro e w' ⟨rfl, rfl⟩
  rw [hs]
  go_wp2_with fail
  refine (amo_long _ _ (by omega) (by omega)).mono ?_
  rintro e w' ⟨rfl, rfl⟩
  go_wp2_with fail
  refine (word_c _ _ hm0 hm).mono ?_
  rintro e w' ⟨rfl, rfl⟩
  rw [HP.out.1]
  go_wp2_with fail
  refine (word_c _ _ hx0 hx).mono ?_
  rintro e w' ⟨rfl, rfl⟩
  rw [HP.out.2]
  go_wp2_with fail
  refine (change_6 _ _ _ p0 p1 q0 q1).mono ?_
  rintro e w' ⟨rfl, rfl⟩
  go_wp2_with fail
  go_ret2
  exact ⟨rfl, rfl⟩
set_option maxHeartbeats 1000000 in
theorem amo_d7 (m x : Int) (w : World) (hm0 : 0 ≤ m) (hm : m < 18446744073709551616) (hx0 : 0 ≤ x) (hx : x < 18446744073709551616) : Calls Tryz.prog 39 #[.int .i64 87, .int .u64 m, .int .u64 x] w fun e w' => e = .returned (.tuple #[.int .u64 (amoG 7 m x), .bool true]) ∧ w = w' := by
  have hi : isB 87 = true := by decide +kernel
  have hs : sizeS 87 = 8 := by decide +kernel
  go_enter Tryz.func39, Tryz.ntmps39
  go_wp2_with fail
  refine (is_c _ _).mono ?_
  rintro e w' ⟨rfl, rfl⟩
  rw [hi]
  go_wp2_with fail
  refine (size_c _ _).mono ?_
  rintro e w' ⟨rfl, rfl⟩
  rw [hs]
  go_wp2_with fail
  refine (change_7 _ _ _ hm0 hm hx0 hx).mono ?_
  rintro e w' ⟨rfl, rfl⟩
  go_wp2_with fail
  go_ret2
  exact ⟨rfl, rfl⟩
set_option maxHeartbeats 1000000 in
theorem amo_w7 (m x : Int) (w : World) (hm0 : 0 ≤ m) (hm : m < 18446744073709551616) (hx0 : 0 ≤ x) (hx : x < 18446744073709551616) : Calls Tryz.prog 39 #[.int .i64 76, .int .u64 m, .int .u64 x] w fun e w' => e = .returned (.tuple #[.int .u64 (amoG 7 (signS m 32) (signS x 32) % 4294967296), .bool true]) ∧ w = w' := by
  have hi : isB 76 = true := by decide +kernel
  have hs : sizeS 76 = 4 := by decide +kernel
  obtain ⟨p0, p1⟩ := signS_range m 32
  obtain ⟨q0, q1⟩ := signS_range x 32
  generalize hP : signS m 32 = P at *
  generalize hQ : signS x 32 = Q at *
  have HP := Lib.hid (And.intro hP hQ)
  clear hP hQ
  go_enter Tryz.func39, Tryz.ntmps39
  go_wp2_with fail
  refine (is_c _ _).mono ?_
  rintro e w' ⟨rfl, rfl⟩
  rw [hi]
  go_wp2_with fail
  refine (size_c _ _).mono ?_
  rintro e w' ⟨rfl, rfl⟩
  rw [hs]
  go_wp2_with fail
  refine (amo_long _ _ (by omega) (by omega)).mono ?_
  rintro e w' ⟨rfl, rfl⟩
  go_wp2_with fail
  refine (word_c _ _ hm0 hm).mono ?_
  rintro e w' ⟨rfl, rfl⟩
  rw [HP.out.1]
  go_wp2_with fail
  refine (word_c _ _ hx0 hx).mono ?_
  rintro e w' ⟨rfl, rfl⟩
  rw [HP.out.2]
  go_wp2_with fail
  refine (change_7 _ _ _ p0 p1 q0 q1).mono ?_
  rintro e w' ⟨rfl, rfl⟩
  go_wp2_with fail
  go_ret2
  exact ⟨rfl, rfl⟩
set_option maxHeartbeats 1000000 in
theorem amo_d8 (m x : Int) (w : World) (hm0 : 0 ≤ m) (hm : m < 18446744073709551616) (hx0 : 0 ≤ x) (hx : x < 18446744073709551616) : Calls Tryz.prog 39 #[.int .i64 88, .int .u64 m, .int .u64 x] w fun e w' => e = .returned (.tuple #[.int .u64 (amoG 8 m x), .bool true]) ∧ w = w' := by
  have hi : isB 88 = true := by decide +kernel
  have hs : sizeS 88 = 8 := by decide +kernel
  go_enter Tryz.func39, Tryz.ntmps39
  go_wp2_with fail
  refine (is_c _ _).mono ?_
  rintro e w' ⟨rfl, rfl⟩
  rw [hi]
  go_wp2_with fail
  refine (size_c _ _).mono ?_
  rintro e w' ⟨rfl, rfl⟩
  rw [hs]
  go_wp2_with fail
  refine (change_8 _ _ _ hm0 hm hx0 hx).mono ?_
  rintro e w' ⟨rfl, rfl⟩
  go_wp2_with fail
  go_ret2
  exact ⟨rfl, rfl⟩
set_option maxHeartbeats 1000000 in
theorem amo_w8 (m x : Int) (w : World) (hm0 : 0 ≤ m) (hm : m < 18446744073709551616) (hx0 : 0 ≤ x) (hx : x < 18446744073709551616) : Calls Tryz.prog 39 #[.int .i64 77, .int .u64 m, .int .u64 x] w fun e w' => e = .returned (.tuple #[.int .u64 (amoG 8 (signS m 32) (signS x 32) % 4294967296), .bool true]) ∧ w = w' := by
  have hi : isB 77 = true := by decide +kernel
  have hs : sizeS 77 = 4 := by decide +kernel
  obtain ⟨p0, p1⟩ := signS_range m 32
  obtain ⟨q0, q1⟩ := signS_range x 32
  generalize hP : signS m 32 = P at *
  generalize hQ : signS x 32 = Q at *
  have HP := Lib.hid (And.intro hP hQ)
  clear hP hQ
  go_enter Tryz.func39, Tryz.ntmps39
  go_wp2_with fail
  refine (is_c _ _).mono ?_
  rintro e w' ⟨rfl, rfl⟩
  rw [hi]
  go_wp2_with fail
  refine (size_c _ _).mono ?_
  rintro e w' ⟨rfl, rfl⟩
  rw [hs]
  go_wp2_with fail
  refine (amo_long _ _ (by omega) (by omega)).mono ?_
  rintro e w' ⟨rfl, rfl⟩
  go_wp2_with fail
  refine (word_c _ _ hm0 hm).mono ?_
  rintro e w' ⟨rfl, rfl⟩
  rw [HP.out.1]
  go_wp2_with fail
  refine (word_c _ _ hx0 hx).mono ?_
  rintro e w' ⟨rfl, rfl⟩
  rw [HP.out.2]
  go_wp2_with fail
  refine (change_8 _ _ _ p0 p1 q0 q1).mono ?_
  rintro e w' ⟨rfl, rfl⟩
  go_wp2_with fail
  go_ret2
  exact ⟨rfl, rfl⟩
theorem amo_no (op m x : Int) (w : World) (h : isB op = false) : Calls Tryz.prog 39 #[.int .i64 op, .int .u64 m, .int .u64 x] w fun e w' => e = .returned (.tuple #[.int .u64 0, .bool false]) ∧ w = w' := by
  go_enter Tryz.func39, Tryz.ntmps39
  go_wp2_with fail
  refine (is_c _ _).mono ?_
  rintro e w' ⟨rfl, rfl⟩
  rw [h]
  go_wp2_with fail
  go_ret2
  exact ⟨rfl, rfl⟩
def loadedS (op m : Int) : Int := if classS op = 7 then if sizeS op = 4 then signS m 32 else m else 0
end Go.Proofs.YtjeolfcefeglpabGreat
