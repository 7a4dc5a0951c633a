/-
  Contracts of the reference of layer 4: Size, Signed, Writes.
-/
import Derived.Test.YtgfdielipbcfeaaRef4b
namespace Go.Proofs.Ytgfdielipbcfeaa
open Go.ChangeShapes Go.WideShapes Go.ChangeAt Go.RowKit Wd


theorem refClass_yes (k : Nat) (h0 : 1 ≤ k) (h1 : k ≤ 98) (w : World) : Calls Try.prog 32 #[.int .i64 k] w fun e w' => e = .returned (.int .i64 (classL.getD k 0 : Nat)) ∧ Below w.heap.size w w' := by
  match k, h0, h1 with
  | 1, _, _ => exact refClass_1 w
  | 2, _, _ => exact refClass_2 w
  | 3, _, _ => exact refClass_3 w
  | 4, _, _ => exact refClass_4 w
  | 5, _, _ => exact refClass_5 w
  | 6, _, _ => exact refClass_6 w
  | 7, _, _ => exact refClass_7 w
  | 8, _, _ => exact refClass_8 w
  | 9, _, _ => exact refClass_9 w
  | 10, _, _ => exact refClass_10 w
  | 11, _, _ => exact refClass_11 w
  | 12, _, _ => exact refClass_12 w
  | 13, _, _ => exact refClass_13 w
  | 14, _, _ => exact refClass_14 w
  | 15, _, _ => exact refClass_15 w
  | 16, _, _ => exact refClass_16 w
  | 17, _, _ => exact refClass_17 w
  | 18, _, _ => exact refClass_18 w
  | 19, _, _ => exact refClass_19 w
  | 20, _, _ => exact refClass_20 w
  | 21, _, _ => exact refClass_21 w
  | 22, _, _ => exact refClass_22 w
  | 23, _, _ => exact refClass_23 w
  | 24, _, _ => exact refClass_24 w
  | 25, _, _ => exact refClass_25 w
  | 26, _, _ => exact refClass_26 w
  | 27, _, _ => exact refClass_27 w
  | 28, _, _ => exact refClass_28 w
  | 29, _, _ => exact refClass_29 w
  | 30, _, _ => exact refClass_30 w
  | 31, _, _ => exact refClass_31 w
  | 32, _, _ => exact refClass_32 w
  | 33, _, _ => exact refClass_33 w
  | 34, _, _ => exact refClass_34 w
  | 35, _, _ => exact refClass_35 w
  | 36, _, _ => exact refClass_36 w
  | 37, _, _ => exact refClass_37 w
  | 38, _, _ => exact refClass_38 w
  | 39, _, _ => exact refClass_39 w
  | 40, _, _ => exact refClass_40 w
  | 41, _, _ => exact refClass_41 w
  | 42, _, _ => exact refClass_42 w
  | 43, _, _ => exact refClass_43 w
  | 44, _, _ => exact refClass_44 w
  | 45, _, _ => exact refClass_45 w
  | 46, _, _ => exact refClass_46 w
  | 47, _, _ => exact refClass_47 w
  | 48, _, _ => exact refClass_48 w
  | 49, _, _ => exact refClass_49 w
  | 50, _, _ => exact refClass_50 w
  | 51, _, _ => exact refClass_51 w
  | 52, _, _ => exact refClass_52 w
  | 53, _, _ => exact refClass_53 w
  | 54, _, _ => exact refClass_54 w
  | 55, _, _ => exact refClass_55 w
  | 56, _, _ => exact refClass_56 w
  | 57, _, _ => exact refClass_57 w
  | 58, _, _ => exact refClass_58 w
  | 59, _, _ => exact refClass_59 w
  | 60, _, _ => exact refClass_60 w
  | 61, _, _ => exact refClass_61 w
  | 62, _, _ => exact refClass_62 w
  | 63, _, _ => exact refClass_63 w
  | 64, _, _ => exact refClass_64 w
  | 65, _, _ => exact refClass_65 w
  | 66, _, _ => exact refClass_66 w
  | 67, _, _ => exact refClass_67 w
  | 68, _, _ => exact refClass_68 w
  | 69, _, _ => exact refClass_69 w
  | 70, _, _ => exact refClass_70 w
  | 71, _, _ => exact refClass_71 w
  | 72, _, _ => exact refClass_72 w
  | 73, _, _ => exact refClass_73 w
  | 74, _, _ => exact refClass_74 w
  | 75, _, _ => exact refClass_75 w
  | 76, _, _ => exact refClass_76 w
  | 77, _, _ => exact refClass_77 w
  | 78, _, _ => exact refClass_78 w
  | 79, _, _ => exact refClass_79 w
  | 80, _, _ => exact refClass_80 w
  | 81, _, _ => exact refClass_81 w
  | 82, _, _ => exact refClass_82 w
  | 83, _, _ => exact refClass_83 w
  | 84, _, _ => exact refClass_84 w
  | 85, _, _ => exact refClass_85 w
  | 86, _, _ => exact refClass_86 w
  | 87, _, _ => exact refClass_87 w
  | 88, _, _ => exact refClass_88 w
  | 89, _, _ => exact refClass_89 w
  | 90, _, _ => exact refClass_90 w
  | 91, _, _ => exact refClass_91 w
  | 92, _, _ => exact refClass_92 w
  | 93, _, _ => exact refClass_93 w
  | 94, _, _ => exact refClass_94 w
  | 95, _, _ => exact refClass_95 w
  | 96, _, _ => exact refClass_96 w
  | 97, _, _ => exact refClass_97 w
  | 98, _, _ => exact refClass_98 w
  | n + 99, _, h => exact absurd h (by omega)
theorem refClass_c (op : Int) (w : World) : Calls Try.prog 32 #[.int .i64 op] w fun e w' => e = .returned (.int .i64 (classS op)) ∧ Below w.heap.size w w' := by
  by_cases h : 1 ≤ op ∧ op ≤ 98
  · have e : classS op = (classL.getD op.toNat 0 : Nat) := by unfold classS; rw [if_pos h]
    rw [e]
    have := refClass_yes op.toNat (by omega) (by omega) w
    rw [show ((op.toNat : Nat) : Int) = op by omega] at this
    exact this
  · have e : classS op = 0 := by unfold classS; rw [if_neg h]
    rw [e]
    exact refClass_no op h w

theorem class_of {op : Int} : classS op = 0 ∨ classS op = 1 ∨ classS op = 2 ∨ classS op = 3 ∨ classS op = 4 ∨ classS op = 5 ∨ classS op = 6 ∨ classS op = 7 ∨ classS op = 8 ∨ classS op = 9 ∨ classS op = 10 := by
  by_cases h : 1 ≤ op ∧ op ≤ 98
  · have e : classS op = (classL.getD op.toNat 0 : Nat) := by unfold classS; rw [if_pos h]
    have l : ∀ k : Fin 99, classL.getD k.val 0 ≤ 10 := by decide +kernel
    have := l ⟨op.toNat, by omega⟩
    simp only at this
    omega
  · exact .inl (by unfold classS; rw [if_neg h])
def writesS (op : Int) : Bool := classS op == 1 || classS op == 2 || classS op == 3 || classS op == 5 || classS op == 7 || classS op == 8
def sizeL : List Nat := [0, 0, 0, 0, 0, 0, 0, 0, 0, 0, 0, 1, 2, 4, 8, 1, 2, 4, 1, 2, 4, 8, 0, 0, 0, 0, 0, 0, 0, 0, 0, 0, 0, 0, 0, 0, 0, 0, 0, 0, 0, 0, 0, 0, 0, 0, 0, 0, 0, 0, 0, 0, 0, 0, 0, 0, 0, 0, 0, 0, 0, 0, 0, 0, 0, 0, 0, 4, 4, 4, 4, 4, 4, 4, 4, 4, 4, 4, 8, 8, 8, 8, 8, 8, 8, 8, 8, 8, 8, 0, 0, 0, 0, 0, 0, 0, 0, 0, 0]
def sizeS (op : Int) : Int := if 1 ≤ op ∧ op ≤ 98 then (sizeL.getD op.toNat 0 : Nat) else 0
set_option maxHeartbeats 2000000 in
theorem refSize_no (op : Int) (w : World) (h5 : classS op ≠ 5) (h6 : classS op ≠ 6) (h7 : classS op ≠ 7) : Calls Try.prog 19 #[.int .i64 op] w fun e w' => e = .returned (.int .i64 0) ∧ Below w.heap.size w w' := by
  have HC := Lib.hid (class_of (op := op))
  have H5 := Lib.hid h5
  have H6 := Lib.hid h6
  have H7 := Lib.hid h7
  clear h5 h6 h7
  go_enter Try.func19, Try.ntmps19
  go_wp2_with fail
  refine (refClass_c op _).mono ?_
  rintro e w1 ⟨rfl, hb⟩
  have HB := Lib.hid hb
  clear hb
  rcases HC.out with h | h | h | h | h | h | h | h | h | h | h
  case inr.inr.inr.inr.inr.inl => exact absurd h H5.out
  case inr.inr.inr.inr.inr.inr.inl => exact absurd h H6.out
  case inr.inr.inr.inr.inr.inr.inr.inl => exact absurd h H7.out
  all_goals
    rw [h]
    clear h HC H5 H6 H7
    go_wp2_with fail
    go_ret
    exact ⟨rfl, HB.out⟩
set_option maxHeartbeats 2000000 in
theorem refSize_11 (w : World) : Calls Try.prog 19 #[.int .i64 11] w fun e w' => e = .returned (.int .i64 1) ∧ Below w.heap.size w w' := by
  go_enter Try.func19, Try.ntmps19
  go_wp2_with fail
  refine (refClass_11 _).mono ?_
  rintro e w1 ⟨rfl, hb⟩
  go_wp2_with fail
  refine (refNames4_c _).mono ?_
  rintro e w2 ⟨rfl, rfl⟩
  have c : _ = some (Value.string ⟨#[108, 98]⟩) := names4_cell w1 11 (by omega)
  have HB := Lib.hid (show Below w.heap.size w (w1.alloc (.cells (Tab.names4.map strV).toArray 9)) from hb.alloc hb.size _)
  clear hb
  generalize (w1.alloc (.cells (Tab.names4.map strV).toArray 9)) = W at *
  go_wp2_with fail
  go_ret
  exact ⟨rfl, HB.out⟩
set_option maxHeartbeats 2000000 in
theorem refSize_12 (w : World) : Calls Try.prog 19 #[.int .i64 12] w fun e w' => e = .returned (.int .i64 2) ∧ Below w.heap.size w w' := by
  go_enter Try.func19, Try.ntmps19
  go_wp2_with fail
  refine (refClass_12 _).mono ?_
  rintro e w1 ⟨rfl, hb⟩
  go_wp2_with fail
  refine (refNames4_c _).mono ?_
  rintro e w2 ⟨rfl, rfl⟩
  have c : _ = some (Value.string ⟨#[108, 104]⟩) := names4_cell w1 12 (by omega)
  have HB := Lib.hid (show Below w.heap.size w (w1.alloc (.cells (Tab.names4.map strV).toArray 9)) from hb.alloc hb.size _)
  clear hb
  generalize (w1.alloc (.cells (Tab.names4.map strV).toArray 9)) = W at *
  go_wp2_with fail
  go_ret
  exact ⟨rfl, HB.out⟩
set_option maxHeartbeats 2000000 in
theorem refSize_13 (w : World) : Calls Try.prog 19 #[.int .i64 13] w fun e w' => e = .returned (.int .i64 4) ∧ Below w.heap.size w w' := by
  go_enter Try.func19, Try.ntmps19
  go_wp2_with fail
  refine (refClass_13 _).mono ?_
  rintro e w1 ⟨rfl, hb⟩
  go_wp2_with fail
  refine (refNames4_c _).mono ?_
  rintro e w2 ⟨rfl, rfl⟩
  have c : _ = some (Value.string ⟨#[108, 119]⟩) := names4_cell w1 13 (by omega)
  have HB := Lib.hid (show Below w.heap.size w (w1.alloc (.cells (Tab.names4.map strV).toArray 9)) from hb.alloc hb.size _)
  clear hb
  generalize (w1.alloc (.cells (Tab.names4.map strV).toArray 9)) = W at *
  go_wp2_with fail
  go_ret
  exact ⟨rfl, HB.out⟩
set_option maxHeartbeats 2000000 in
theorem refSize_14 (w : World) : Calls Try.prog 19 #[.int .i64 14] w fun e w' => e = .returned (.int .i64 8) ∧ Below w.heap.size w w' := by
  go_enter Try.func19, Try.ntmps19
  go_wp2_with fail
  refine (refClass_14 _).mono ?_
  rintro e w1 ⟨rfl, hb⟩
  go_wp2_with fail
  refine (refNames4_c _).mono ?_
  rintro e w2 ⟨rfl, rfl⟩
  have c : _ = some (Value.string ⟨#[108, 100]⟩) := names4_cell w1 14 (by omega)
  have HB := Lib.hid (show Below w.heap.size w (w1.alloc (.cells (Tab.names4.map strV).toArray 9)) from hb.alloc hb.size _)
  clear hb
  generalize (w1.alloc (.cells (Tab.names4.map strV).toArray 9)) = W at *
  go_wp2_with fail
  go_ret
  exact ⟨rfl, HB.out⟩
set_option maxHeartbeats 2000000 in
theorem refSize_15 (w : World) : Calls Try.prog 19 #[.int .i64 15] w fun e w' => e = .returned (.int .i64 1) ∧ Below w.heap.size w w' := by
  go_enter Try.func19, Try.ntmps19
  go_wp2_with fail
  refine (refClass_15 _).mono ?_
  rintro e w1 ⟨rfl, hb⟩
  go_wp2_with fail
  refine (refNames4_c _).mono ?_
  rintro e w2 ⟨rfl, rfl⟩
  have c : _ = some (Value.string ⟨#[108, 98, 117]⟩) := names4_cell w1 15 (by omega)
  have HB := Lib.hid (show Below w.heap.size w (w1.alloc (.cells (Tab.names4.map strV).toArray 9)) from hb.alloc hb.size _)
  clear hb
  generalize (w1.alloc (.cells (Tab.names4.map strV).toArray 9)) = W at *
  go_wp2_with fail
  go_ret
  exact ⟨rfl, HB.out⟩
set_option maxHeartbeats 2000000 in
theorem refSize_16 (w : World) : Calls Try.prog 19 #[.int .i64 16] w fun e w' => e = .returned (.int .i64 2) ∧ Below w.heap.size w w' := by
  go_enter Try.func19, Try.ntmps19
  go_wp2_with fail
  refine (refClass_16 _).mono ?_
  rintro e w1 ⟨rfl, hb⟩
  go_wp2_with fail
  refine (refNames4_c _).mono ?_
  rintro e w2 ⟨rfl, rfl⟩
  have c : _ = some (Value.string ⟨#[108, 104, 117]⟩) := names4_cell w1 16 (by omega)
  have HB := Lib.hid (show Below w.heap.size w (w1.alloc (.cells (Tab.names4.map strV).toArray 9)) from hb.alloc hb.size _)
  clear hb
  generalize (w1.alloc (.cells (Tab.names4.map strV).toArray 9)) = W at *
  go_wp2_with fail
  go_ret
  exact ⟨rfl, HB.out⟩
set_option maxHeartbeats 2000000 in
theorem refSize_17 (w : World) : Calls Try.prog 19 #[.int .i64 17] w fun e w' => e = .returned (.int .i64 4) ∧ Below w.heap.size w w' := by
  go_enter Try.func19, Try.ntmps19
  go_wp2_with fail
  refine (refClass_17 _).mono ?_
  rintro e w1 ⟨rfl, hb⟩
  go_wp2_with fail
  refine (refNames4_c _).mono ?_
  rintro e w2 ⟨rfl, rfl⟩
  have c : _ = some (Value.string ⟨#[108, 119, 117]⟩) := names4_cell w1 17 (by omega)
  have HB := Lib.hid (show Below w.heap.size w (w1.alloc (.cells (Tab.names4.map strV).toArray 9)) from hb.alloc hb.size _)
  clear hb
  generalize (w1.alloc (.cells (Tab.names4.map strV).toArray 9)) = W at *
  go_wp2_with fail
  go_ret
  exact ⟨rfl, HB.out⟩
set_option maxHeartbeats 2000000 in
theorem refSize_18 (w : World) : Calls Try.prog 19 #[.int .i64 18] w fun e w' => e = .returned (.int .i64 1) ∧ Below w.heap.size w w' := by
  go_enter Try.func19, Try.ntmps19
  go_wp2_with fail
  refine (refClass_18 _).mono ?_
  rintro e w1 ⟨rfl, hb⟩
  go_wp2_with fail
  refine (refNames4_c _).mono ?_
  rintro e w2 ⟨rfl, rfl⟩
  have c : _ = some (Value.string ⟨#[115, 98]⟩) := names4_cell w1 18 (by omega)
  have HB := Lib.hid (show Below w.heap.size w (w1.alloc (.cells (Tab.names4.map strV).toArray 9)) from hb.alloc hb.size _)
  clear hb
  generalize (w1.alloc (.cells (Tab.names4.map strV).toArray 9)) = W at *
  go_wp2_with fail
  go_ret
  exact ⟨rfl, HB.out⟩
set_option maxHeartbeats 2000000 in
theorem refSize_19 (w : World) : Calls Try.prog 19 #[.int .i64 19] w fun e w' => e = .returned (.int .i64 2) ∧ Below w.heap.size w w' := by
  go_enter Try.func19, Try.ntmps19
  go_wp2_with fail
  refine (refClass_19 _).mono ?_
  rintro e w1 ⟨rfl, hb⟩
  go_wp2_with fail
  refine (refNames4_c _).mono ?_
  rintro e w2 ⟨rfl, rfl⟩
  have c : _ = some (Value.string ⟨#[115, 104]⟩) := names4_cell w1 19 (by omega)
  have HB := Lib.hid (show Below w.heap.size w (w1.alloc (.cells (Tab.names4.map strV).toArray 9)) from hb.alloc hb.size _)
  clear hb
  generalize (w1.alloc (.cells (Tab.names4.map strV).toArray 9)) = W at *
  go_wp2_with fail
  go_ret
  exact ⟨rfl, HB.out⟩
set_option maxHeartbeats 2000000 in
theorem refSize_20 (w : World) : Calls Try.prog 19 #[.int .i64 20] w fun e w' => e = .returned (.int .i64 4) ∧ Below w.heap.size w w' := by
  go_enter Try.func19, Try.ntmps19
  go_wp2_with fail
  refine (refClass_20 _).mono ?_
  rintro e w1 ⟨rfl, hb⟩
  go_wp2_with fail
  refine (refNames4_c _).mono ?_
  rintro e w2 ⟨rfl, rfl⟩
  have c : _ = some (Value.string ⟨#[115, 119]⟩) := names4_cell w1 20 (by omega)
  have HB := Lib.hid (show Below w.heap.size w (w1.alloc (.cells (Tab.names4.map strV).toArray 9)) from hb.alloc hb.size _)
  clear hb
  generalize (w1.alloc (.cells (Tab.names4.map strV).toArray 9)) = W at *
  go_wp2_with fail
  go_ret
  exact ⟨rfl, HB.out⟩
set_option maxHeartbeats 2000000 in
theorem refSize_21 (w : World) : Calls Try.prog 19 #[.int .i64 21] w fun e w' => e = .returned (.int .i64 8) ∧ Below w.heap.size w w' := by
  go_enter Try.func19, Try.ntmps19
  go_wp2_with fail
  refine (refClass_21 _).mono ?_
  rintro e w1 ⟨rfl, hb⟩
  go_wp2_with fail
  refine (refNames4_c _).mono ?_
  rintro e w2 ⟨rfl, rfl⟩
  have c : _ = some (Value.string ⟨#[115, 100]⟩) := names4_cell w1 21 (by omega)
  have HB := Lib.hid (show Below w.heap.size w (w1.alloc (.cells (Tab.names4.map strV).toArray 9)) from hb.alloc hb.size _)
  clear hb
  generalize (w1.alloc (.cells (Tab.names4.map strV).toArray 9)) = W at *
  go_wp2_with fail
  go_ret
  exact ⟨rfl, HB.out⟩
set_option maxHeartbeats 2000000 in
theorem refSize_67 (w : World) : Calls Try.prog 19 #[.int .i64 67] w fun e w' => e = .returned (.int .i64 4) ∧ Below w.heap.size w w' := by
  go_enter Try.func19, Try.ntmps19
  go_wp2_with fail
  refine (refClass_67 _).mono ?_
  rintro e w1 ⟨rfl, hb⟩
  go_wp2_with fail
  refine (refNames4_c _).mono ?_
  rintro e w2 ⟨rfl, rfl⟩
  have c : _ = some (Value.string ⟨#[108, 114, 46, 119]⟩) := names4_cell w1 67 (by omega)
  have HB := Lib.hid (show Below w.heap.size w (w1.alloc (.cells (Tab.names4.map strV).toArray 9)) from hb.alloc hb.size _)
  clear hb
  generalize (w1.alloc (.cells (Tab.names4.map strV).toArray 9)) = W at *
  go_wp2_with fail
  refine (refEnds_is ⟨#[108, 114, 46, 119]⟩ ⟨#[46, 119]⟩ true _ (by decide +kernel) (by decide +kernel)).mono ?_
  rintro e w1 ⟨rfl, rfl⟩
  go_wp2_with fail
  go_ret
  exact ⟨rfl, HB.out⟩
set_option maxHeartbeats 2000000 in
theorem refSize_68 (w : World) : Calls Try.prog 19 #[.int .i64 68] w fun e w' => e = .returned (.int .i64 4) ∧ Below w.heap.size w w' := by
  go_enter Try.func19, Try.ntmps19
  go_wp2_with fail
  refine (refClass_68 _).mono ?_
  rintro e w1 ⟨rfl, hb⟩
  go_wp2_with fail
  refine (refNames4_c _).mono ?_
  rintro e w2 ⟨rfl, rfl⟩
  have c : _ = some (Value.string ⟨#[115, 99, 46, 119]⟩) := names4_cell w1 68 (by omega)
  have HB := Lib.hid (show Below w.heap.size w (w1.alloc (.cells (Tab.names4.map strV).toArray 9)) from hb.alloc hb.size _)
  clear hb
  generalize (w1.alloc (.cells (Tab.names4.map strV).toArray 9)) = W at *
  go_wp2_with fail
  refine (refEnds_is ⟨#[115, 99, 46, 119]⟩ ⟨#[46, 119]⟩ true _ (by decide +kernel) (by decide +kernel)).mono ?_
  rintro e w1 ⟨rfl, rfl⟩
  go_wp2_with fail
  go_ret
  exact ⟨rfl, HB.out⟩
set_option maxHeartbeats 2000000 in
theorem refSize_69 (w : World) : Calls Try.prog 19 #[.int .i64 69] w fun e w' => e = .returned (.int .i64 4) ∧ Below w.heap.size w w' := by
  go_enter Try.func19, Try.ntmps19
  go_wp2_with fail
  refine (refClass_69 _).mono ?_
  rintro e w1 ⟨rfl, hb⟩
  go_wp2_with fail
  refine (refNames4_c _).mono ?_
  rintro e w2 ⟨rfl, rfl⟩
  have c : _ = some (Value.string ⟨#[97, 109, 111, 115, 119, 97, 112, 46, 119]⟩) := names4_cell w1 69 (by omega)
  have HB := Lib.hid (show Below w.heap.size w (w1.alloc (.cells (Tab.names4.map strV).toArray 9)) from hb.alloc hb.size _)
  clear hb
  generalize (w1.alloc (.cells (Tab.names4.map strV).toArray 9)) = W at *
  go_wp2_with fail
  refine (refEnds_is ⟨#[97, 109, 111, 115, 119, 97, 112, 46, 119]⟩ ⟨#[46, 119]⟩ true _ (by decide +kernel) (by decide +kernel)).mono ?_
  rintro e w1 ⟨rfl, rfl⟩
  go_wp2_with fail
  go_ret
  exact ⟨rfl, HB.out⟩
set_option maxHeartbeats 2000000 in
theorem refSize_70 (w : World) : Calls Try.prog 19 #[.int .i64 70] w fun e w' => e = .returned (.int .i64 4) ∧ Below w.heap.size w w' := by
  go_enter Try.func19, Try.ntmps19
  go_wp2_with fail
  refine (refClass_70 _).mono ?_
  rintro e w1 ⟨rfl, hb⟩
  go_wp2_with fail
  refine (refNames4_c _).mono ?_
  rintro e w2 ⟨rfl, rfl⟩
  have c : _ = some (Value.string ⟨#[97, 109, 111, 97, 100, 100, 46, 119]⟩) := names4_cell w1 70 (by omega)
  have HB := Lib.hid (show Below w.heap.size w (w1.alloc (.cells (Tab.names4.map strV).toArray 9)) from hb.alloc hb.size _)
  clear hb
  generalize (w1.alloc (.cells (Tab.names4.map strV).toArray 9)) = W at *
  go_wp2_with fail
  refine (refEnds_is ⟨#[97, 109, 111, 97, 100, 100, 46, 119]⟩ ⟨#[46, 119]⟩ true _ (by decide +kernel) (by decide +kernel)).mono ?_
  rintro e w1 ⟨rfl, rfl⟩
  go_wp2_with fail
  go_ret
  exact ⟨rfl, HB.out⟩
set_option maxHeartbeats 2000000 in
theorem refSize_71 (w : World) : Calls Try.prog 19 #[.int .i64 71] w fun e w' => e = .returned (.int .i64 4) ∧ Below w.heap.size w w' := by
  go_enter Try.func19, Try.ntmps19
  go_wp2_with fail
  refine (refClass_71 _).mono ?_
  rintro e w1 ⟨rfl, hb⟩
  go_wp2_with fail
  refine (refNames4_c _).mono ?_
  rintro e w2 ⟨rfl, rfl⟩
  have c : _ = some (Value.string ⟨#[97, 109, 111, 120, 111, 114, 46, 119]⟩) := names4_cell w1 71 (by omega)
  have HB := Lib.hid (show Below w.heap.size w (w1.alloc (.cells (Tab.names4.map strV).toArray 9)) from hb.alloc hb.size _)
  clear hb
  generalize (w1.alloc (.cells (Tab.names4.map strV).toArray 9)) = W at *
  go_wp2_with fail
  refine (refEnds_is ⟨#[97, 109, 111, 120, 111, 114, 46, 119]⟩ ⟨#[46, 119]⟩ true _ (by decide +kernel) (by decide +kernel)).mono ?_
  rintro e w1 ⟨rfl, rfl⟩
  go_wp2_with fail
  go_ret
  exact ⟨rfl, HB.out⟩
set_option maxHeartbeats 2000000 in
theorem refSize_72 (w : World) : Calls Try.prog 19 #[.int .i64 72] w fun e w' => e = .returned (.int .i64 4) ∧ Below w.heap.size w w' := by
  go_enter Try.func19, Try.ntmps19
  go_wp2_with fail
  refine (refClass_72 _).mono ?_
  rintro e w1 ⟨rfl, hb⟩
  go_wp2_with fail
  refine (refNames4_c _).mono ?_
  rintro e w2 ⟨rfl, rfl⟩
  have c : _ = some (Value.string ⟨#[97, 109, 111, 97, 110, 100, 46, 119]⟩) := names4_cell w1 72 (by omega)
  have HB := Lib.hid (show Below w.heap.size w (w1.alloc (.cells (Tab.names4.map strV).toArray 9)) from hb.alloc hb.size _)
  clear hb
  generalize (w1.alloc (.cells (Tab.names4.map strV).toArray 9)) = W at *
  go_wp2_with fail
  refine (refEnds_is ⟨#[97, 109, 111, 97, 110, 100, 46, 119]⟩ ⟨#[46, 119]⟩ true _ (by decide +kernel) (by decide +kernel)).mono ?_
  rintro e w1 ⟨rfl, rfl⟩
  go_wp2_with fail
  go_ret
  exact ⟨rfl, HB.out⟩
set_option maxHeartbeats 2000000 in
theorem refSize_73 (w : World) : Calls Try.prog 19 #[.int .i64 73] w fun e w' => e = .returned (.int .i64 4) ∧ Below w.heap.size w w' := by
  go_enter Try.func19, Try.ntmps19
  go_wp2_with fail
  refine (refClass_73 _).mono ?_
  rintro e w1 ⟨rfl, hb⟩
  go_wp2_with fail
  refine (refNames4_c _).mono ?_
  rintro e w2 ⟨rfl, rfl⟩
  have c : _ = some (Value.string ⟨#[97, 109, 111, 111, 114, 46, 119]⟩) := names4_cell w1 73 (by omega)
  have HB := Lib.hid (show Below w.heap.size w (w1.alloc (.cells (Tab.names4.map strV).toArray 9)) from hb.alloc hb.size _)
  clear hb
  generalize (w1.alloc (.cells (Tab.names4.map strV).toArray 9)) = W at *
  go_wp2_with fail
  refine (refEnds_is ⟨#[97, 109, 111, 111, 114, 46, 119]⟩ ⟨#[46, 119]⟩ true _ (by decide +kernel) (by decide +kernel)).mono ?_
  rintro e w1 ⟨rfl, rfl⟩
  go_wp2_with fail
  go_ret
  exact ⟨rfl, HB.out⟩
set_option maxHeartbeats 2000000 in
theorem refSize_74 (w : World) : Calls Try.prog 19 #[.int .i64 74] w fun e w' => e = .returned (.int .i64 4) ∧ Below w.heap.size w w' := by
  go_enter Try.func19, Try.ntmps19
  go_wp2_with fail
  refine (refClass_74 _).mono ?_
  rintro e w1 ⟨rfl, hb⟩
  go_wp2_with fail
  refine (refNames4_c _).mono ?_
  rintro e w2 ⟨rfl, rfl⟩
  have c : _ = some (Value.string ⟨#[97, 109, 111, 109, 105, 110, 46, 119]⟩) := names4_cell w1 74 (by omega)
  have HB := Lib.hid (show Below w.heap.size w (w1.alloc (.cells (Tab.names4.map strV).toArray 9)) from hb.alloc hb.size _)
  clear hb
  generalize (w1.alloc (.cells (Tab.names4.map strV).toArray 9)) = W at *
  go_wp2_with fail
  refine (refEnds_is ⟨#[97, 109, 111, 109, 105, 110, 46, 119]⟩ ⟨#[46, 119]⟩ true _ (by decide +kernel) (by decide +kernel)).mono ?_
  rintro e w1 ⟨rfl, rfl⟩
  go_wp2_with fail
  go_ret
  exact ⟨rfl, HB.out⟩
set_option maxHeartbeats 2000000 in
theorem refSize_75 (w : World) : Calls Try.prog 19 #[.int .i64 75] w fun e w' => e = .returned (.int .i64 4) ∧ Below w.heap.size w w' := by
  go_enter Try.func19, Try.ntmps19
  go_wp2_with fail
  refine (refClass_75 _).mono ?_
  rintro e w1 ⟨rfl, hb⟩
  go_wp2_with fail
  refine (refNames4_c _).mono ?_
  rintro e w2 ⟨rfl, rfl⟩
  have c : _ = some (Value.string ⟨#[97, 109, 111, 109, 97, 120, 46, 119]⟩) := names4_cell w1 75 (by omega)
  have HB := Lib.hid (show Below w.heap.size w (w1.alloc (.cells (Tab.names4.map strV).toArray 9)) from hb.alloc hb.size _)
  clear hb
  generalize (w1.alloc (.cells (Tab.names4.map strV).toArray 9)) = W at *
  go_wp2_with fail
  refine (refEnds_is ⟨#[97, 109, 111, 109, 97, 120, 46, 119]⟩ ⟨#[46, 119]⟩ true _ (by decide +kernel) (by decide +kernel)).mono ?_
  rintro e w1 ⟨rfl, rfl⟩
  go_wp2_with fail
  go_ret
  exact ⟨rfl, HB.out⟩
set_option maxHeartbeats 2000000 in
theorem refSize_76 (w : World) : Calls Try.prog 19 #[.int .i64 76] w fun e w' => e = .returned (.int .i64 4) ∧ Below w.heap.size w w' := by
  go_enter Try.func19, Try.ntmps19
  go_wp2_with fail
  refine (refClass_76 _).mono ?_
  rintro e w1 ⟨rfl, hb⟩
  go_wp2_with fail
  refine (refNames4_c _).mono ?_
  rintro e w2 ⟨rfl, rfl⟩
  have c : _ = some (Value.string ⟨#[97, 109, 111, 109, 105, 110, 117, 46, 119]⟩) := names4_cell w1 76 (by omega)
  have HB := Lib.hid (show Below w.heap.size w (w1.alloc (.cells (Tab.names4.map strV).toArray 9)) from hb.alloc hb.size _)
  clear hb
  generalize (w1.alloc (.cells (Tab.names4.map strV).toArray 9)) = W at *
  go_wp2_with fail
  refine (refEnds_is ⟨#[97, 109, 111, 109, 105, 110, 117, 46, 119]⟩ ⟨#[46, 119]⟩ true _ (by decide +kernel) (by decide +kernel)).mono ?_
  rintro e w1 ⟨rfl, rfl⟩
  go_wp2_with fail
  go_ret
  exact ⟨rfl, HB.out⟩
set_option maxHeartbeats 2000000 in
theorem refSize_77 (w : World) : Calls Try.prog 19 #[.int .i64 77] w fun e w' => e = .returned (.int .i64 4) ∧ Below w.heap.size w w' := by
  go_enter Try.func19, Try.ntmps19
  go_wp2_with fail
  refine (refClass_77 _).mono ?_
  rintro e w1 ⟨rfl, hb⟩
  go_wp2_with fail
  refine (refNames4_c _).mono ?_
  rintro e w2 ⟨rfl, rfl⟩
  have c : _ = some (Value.string ⟨#[97, 109, 111, 109, 97, 120, 117, 46, 119]⟩) := names4_cell w1 77 (by omega)
  have HB := Lib.hid (show Below w.heap.size w (w1.alloc (.cells (Tab.names4.map strV).toArray 9)) from hb.alloc hb.size _)
  clear hb
  generalize (w1.alloc (.cells (Tab.names4.map strV).toArray 9)) = W at *
  go_wp2_with fail
  refine (refEnds_is ⟨#[97, 109, 111, 109, 97, 120, 117, 46, 119]⟩ ⟨#[46, 119]⟩ true _ (by decide +kernel) (by decide +kernel)).mono ?_
  rintro e w1 ⟨rfl, rfl⟩
  go_wp2_with fail
  go_ret
  exact ⟨rfl, HB.out⟩
set_option maxHeartbeats 2000000 in
theorem refSize_78 (w : World) : Calls Try.prog 19 #[.int .i64 78] w fun e w' => e = .returned (.int .i64 8) ∧ Below w.heap.size w w' := by
  go_enter Try.func19, Try.ntmps19
  go_wp2_with fail
  refine (refClass_78 _).mono ?_
  rintro e w1 ⟨rfl, hb⟩
  go_wp2_with fail
  refine (refNames4_c _).mono ?_
  rintro e w2 ⟨rfl, rfl⟩
  have c : _ = some (Value.string ⟨#[108, 114, 46, 100]⟩) := names4_cell w1 78 (by omega)
  have HB := Lib.hid (show Below w.heap.size w (w1.alloc (.cells (Tab.names4.map strV).toArray 9)) from hb.alloc hb.size _)
  clear hb
  generalize (w1.alloc (.cells (Tab.names4.map strV).toArray 9)) = W at *
  go_wp2_with fail
  refine (refEnds_is ⟨#[108, 114, 46, 100]⟩ ⟨#[46, 119]⟩ false _ (by decide +kernel) (by decide +kernel)).mono ?_
  rintro e w1 ⟨rfl, rfl⟩
  go_wp2_with fail
  go_ret
  exact ⟨rfl, HB.out⟩
set_option maxHeartbeats 2000000 in
theorem refSize_79 (w : World) : Calls Try.prog 19 #[.int .i64 79] w fun e w' => e = .returned (.int .i64 8) ∧ Below w.heap.size w w' := by
  go_enter Try.func19, Try.ntmps19
  go_wp2_with fail
  refine (refClass_79 _).mono ?_
  rintro e w1 ⟨rfl, hb⟩
  go_wp2_with fail
  refine (refNames4_c _).mono ?_
  rintro e w2 ⟨rfl, rfl⟩
  have c : _ = some (Value.string ⟨#[115, 99, 46, 100]⟩) := names4_cell w1 79 (by omega)
  have HB := Lib.hid (show Below w.heap.size w (w1.alloc (.cells (Tab.names4.map strV).toArray 9)) from hb.alloc hb.size _)
  clear hb
  generalize (w1.alloc (.cells (Tab.names4.map strV).toArray 9)) = W at *
  go_wp2_with fail
  refine (refEnds_is ⟨#[115, 99, 46, 100]⟩ ⟨#[46, 119]⟩ false _ (by decide +kernel) (by decide +kernel)).mono ?_
  rintro e w1 ⟨rfl, rfl⟩
  go_wp2_with fail
  go_ret
  exact ⟨rfl, HB.out⟩
set_option maxHeartbeats 2000000 in
theorem refSize_80 (w : World) : Calls Try.prog 19 #[.int .i64 80] w fun e w' => e = .returned (.int .i64 8) ∧ Below w.heap.size w w' := by
  go_enter Try.func19, Try.ntmps19
  go_wp2_with fail
  refine (refClass_80 _).mono ?_
  rintro e w1 ⟨rfl, hb⟩
  go_wp2_with fail
  refine (refNames4_c _).mono ?_
  rintro e w2 ⟨rfl, rfl⟩
  have c : _ = some (Value.string ⟨#[97, 109, 111, 115, 119, 97, 112, 46, 100]⟩) := names4_cell w1 80 (by omega)
  have HB := Lib.hid (show Below w.heap.size w (w1.alloc (.cells (Tab.names4.map strV).toArray 9)) from hb.alloc hb.size _)
  clear hb
  generalize (w1.alloc (.cells (Tab.names4.map strV).toArray 9)) = W at *
  go_wp2_with fail
  refine (refEnds_is ⟨#[97, 109, 111, 115, 119, 97, 112, 46, 100]⟩ ⟨#[46, 119]⟩ false _ (by decide +kernel) (by decide +kernel)).mono ?_
  rintro e w1 ⟨rfl, rfl⟩
  go_wp2_with fail
  go_ret
  exact ⟨rfl, HB.out⟩
set_option maxHeartbeats 2000000 in
theorem refSize_81 (w : World) : Calls Try.prog 19 #[.int .i64 81] w fun e w' => e = .returned (.int .i64 8) ∧ Below w.heap.size w w' := by
  go_enter Try.func19, Try.ntmps19
  go_wp2_with fail
  refine (refClass_81 _).mono ?_
  rintro e w1 ⟨rfl, hb⟩
  go_wp2_with fail
  refine (refNames4_c _).mono ?_
  rintro e w2 ⟨rfl, rfl⟩
  have c : _ = some (Value.string ⟨#[97, 109, 111, 97, 100, 100, 46, 100]⟩) := names4_cell w1 81 (by omega)
  have HB := Lib.hid (show Below w.heap.size w (w1.alloc (.cells (Tab.names4.map strV).toArray 9)) from hb.alloc hb.size _)
  clear hb
  generalize (w1.alloc (.cells (Tab.names4.map strV).toArray 9)) = W at *
  go_wp2_with fail
  refine (refEnds_is ⟨#[97, 109, 111, 97, 100, 100, 46, 100]⟩ ⟨#[46, 119]⟩ false _ (by decide +kernel) (by decide +kernel)).mono ?_
  rintro e w1 ⟨rfl, rfl⟩
  go_wp2_with fail
  go_ret
  exact ⟨rfl, HB.out⟩
set_option maxHeartbeats 2000000 in
theorem refSize_82 (w : World) : Calls Try.prog 19 #[.int .i64 82] w fun e w' => e = .returned (.int .i64 8) ∧ Below w.heap.size w w' := by
  go_enter Try.func19, Try.ntmps19
  go_wp2_with fail
  refine (refClass_82 _).mono ?_
  rintro e w1 ⟨rfl, hb⟩
  go_wp2_with fail
  refine (refNames4_c _).mono ?_
  rintro e w2 ⟨rfl, rfl⟩
  have c : _ = some (Value.string ⟨#[97, 109, 111, 120, 111, 114, 46, 100]⟩) := names4_cell w1 82 (by omega)
  have HB := Lib.hid (show Below w.heap.size w (w1.alloc (.cells (Tab.names4.map strV).toArray 9)) from hb.alloc hb.size _)
  clear hb
  generalize (w1.alloc (.cells (Tab.names4.map strV).toArray 9)) = W at *
  go_wp2_with fail
  refine (refEnds_is ⟨#[97, 109, 111, 120, 111, 114, 46, 100]⟩ ⟨#[46, 119]⟩ false _ (by decide +kernel) (by decide +kernel)).mono ?_
  rintro e w1 ⟨rfl, rfl⟩
  go_wp2_with fail
  go_ret
  exact ⟨rfl, HB.out⟩
set_option maxHeartbeats 2000000 in
theorem refSize_83 (w : World) : Calls Try.prog 19 #[.int .i64 83] w fun e w' => e = .returned (.int .i64 8) ∧ Below w.heap.size w w' := by
  go_enter Try.func19, Try.ntmps19
  go_wp2_with fail
  refine (refClass_83 _).mono ?_
  rintro e w1 ⟨rfl, hb⟩
  go_wp2_with fail
  refine (refNames4_c _).mono ?_
  rintro e w2 ⟨rfl, rfl⟩
  have c : _ = some (Value.string ⟨#[97, 109, 111, 97, 110, 100, 46, 100]⟩) := names4_cell w1 83 (by omega)
  have HB := Lib.hid (show Below w.heap.size w (w1.alloc (.cells (Tab.names4.map strV).toArray 9)) from hb.alloc hb.size _)
  clear hb
  generalize (w1.alloc (.cells (Tab.names4.map strV).toArray 9)) = W at *
  go_wp2_with fail
  refine (refEnds_is ⟨#[97, 109, 111, 97, 110, 100, 46, 100]⟩ ⟨#[46, 119]⟩ false _ (by decide +kernel) (by decide +kernel)).mono ?_
  rintro e w1 ⟨rfl, rfl⟩
  go_wp2_with fail
  go_ret
  exact ⟨rfl, HB.out⟩
set_option maxHeartbeats 2000000 in
theorem refSize_84 (w : World) : Calls Try.prog 19 #[.int .i64 84] w fun e w' => e = .returned (.int .i64 8) ∧ Below w.heap.size w w' := by
  go_enter Try.func19, Try.ntmps19
  go_wp2_with fail
  refine (refClass_84 _).mono ?_
  rintro e w1 ⟨rfl, hb⟩
  go_wp2_with fail
  refine (refNames4_c _).mono ?_
  rintro e w2 ⟨rfl, rfl⟩
  have c : _ = some (Value.string ⟨#[97, 109, 111, 111, 114, 46, 100]⟩) := names4_cell w1 84 (by omega)
  have HB := Lib.hid (show Below w.heap.size w (w1.alloc (.cells (Tab.names4.map strV).toArray 9)) from hb.alloc hb.size _)
  clear hb
  generalize (w1.alloc (.cells (Tab.names4.map strV).toArray 9)) = W at *
  go_wp2_with fail
  refine (refEnds_is ⟨#[97, 109, 111, 111, 114, 46, 100]⟩ ⟨#[46, 119]⟩ false _ (by decide +kernel) (by decide +kernel)).mono ?_
  rintro e w1 ⟨rfl, rfl⟩
  go_wp2_with fail
  go_ret
  exact ⟨rfl, HB.out⟩
set_option maxHeartbeats 2000000 in
theorem refSize_85 (w : World) : Calls Try.prog 19 #[.int .i64 85] w fun e w' => e = .returned (.int .i64 8) ∧ Below w.heap.size w w' := by
  go_enter Try.func19, Try.ntmps19
  go_wp2_with fail
  refine (refClass_85 _).mono ?_
  rintro e w1 ⟨rfl, hb⟩
  go_wp2_with fail
  refine (refNames4_c _).mono ?_
  rintro e w2 ⟨rfl, rfl⟩
  have c : _ = some (Value.string ⟨#[97, 109, 111, 109, 105, 110, 46, 100]⟩) := names4_cell w1 85 (by omega)
  have HB := Lib.hid (show Below w.heap.size w (w1.alloc (.cells (Tab.names4.map strV).toArray 9)) from hb.alloc hb.size _)
  clear hb
  generalize (w1.alloc (.cells (Tab.names4.map strV).toArray 9)) = W at *
  go_wp2_with fail
  refine (refEnds_is ⟨#[97, 109, 111, 109, 105, 110, 46, 100]⟩ ⟨#[46, 119]⟩ false _ (by decide +kernel) (by decide +kernel)).mono ?_
  rintro e w1 ⟨rfl, rfl⟩
  go_wp2_with fail
  go_ret
  exact ⟨rfl, HB.out⟩
set_option maxHeartbeats 2000000 in
theorem refSize_86 (w : World) : Calls Try.prog 19 #[.int .i64 86] w fun e w' => e = .returned (.int .i64 8) ∧ Below w.heap.size w w' := by
  go_enter Try.func19, Try.ntmps19
  go_wp2_with fail
  refine (refClass_86 _).mono ?_
  rintro e w1 ⟨rfl, hb⟩
  go_wp2_with fail
  refine (refNames4_c _).mono ?_
  rintro e w2 ⟨rfl, rfl⟩
  have c : _ = some (Value.string ⟨#[97, 109, 111, 109, 97, 120, 46, 100]⟩) := names4_cell w1 86 (by omega)
  have HB := Lib.hid (show Below w.heap.size w (w1.alloc (.cells (Tab.names4.map strV).toArray 9)) from hb.alloc hb.size _)
  clear hb
  generalize (w1.alloc (.cells (Tab.names4.map strV).toArray 9)) = W at *
  go_wp2_with fail
  refine (refEnds_is ⟨#[97, 109, 111, 109, 97, 120, 46, 100]⟩ ⟨#[46, 119]⟩ false _ (by decide +kernel) (by decide +kernel)).mono ?_
  rintro e w1 ⟨rfl, rfl⟩
  go_wp2_with fail
  go_ret
  exact ⟨rfl, HB.out⟩
set_option maxHeartbeats 2000000 in
theorem refSize_87 (w : World) : Calls Try.prog 19 #[.int .i64 87] w fun e w' => e = .returned (.int .i64 8) ∧ Below w.heap.size w w' := by
  go_enter Try.func19, Try.ntmps19
  go_wp2_with fail
  refine (refClass_87 _).mono ?_
  rintro e w1 ⟨rfl, hb⟩
  go_wp2_with fail
  refine (refNames4_c _).mono ?_
  rintro e w2 ⟨rfl, rfl⟩
  have c : _ = some (Value.string ⟨#[97, 109, 111, 109, 105, 110, 117, 46, 100]⟩) := names4_cell w1 87 (by omega)
  have HB := Lib.hid (show Below w.heap.size w (w1.alloc (.cells (Tab.names4.map strV).toArray 9)) from hb.alloc hb.size _)
  clear hb
  generalize (w1.alloc (.cells (Tab.names4.map strV).toArray 9)) = W at *
  go_wp2_with fail
  refine (refEnds_is ⟨#[97, 109, 111, 109, 105, 110, 117, 46, 100]⟩ ⟨#[46, 119]⟩ false _ (by decide +kernel) (by decide +kernel)).mono ?_
  rintro e w1 ⟨rfl, rfl⟩
  go_wp2_with fail
  go_ret
  exact ⟨rfl, HB.out⟩
set_option maxHeartbeats 2000000 in
theorem refSize_88 (w : World) : Calls Try.prog 19 #[.int .i64 88] w fun e w' => e = .returned (.int .i64 8) ∧ Below w.heap.size w w' := by
  go_enter Try.func19, Try.ntmps19
  go_wp2_with fail
  refine (refClass_88 _).mono ?_
  rintro e w1 ⟨rfl, hb⟩
  go_wp2_with fail
  refine (refNames4_c _).mono ?_
  rintro e w2 ⟨rfl, rfl⟩
  have c : _ = some (Value.string ⟨#[97, 109, 111, 109, 97, 120, 117, 46, 100]⟩) := names4_cell w1 88 (by omega)
  have HB := Lib.hid (show Below w.heap.size w (w1.alloc (.cells (Tab.names4.map strV).toArray 9)) from hb.alloc hb.size _)
  clear hb
  generalize (w1.alloc (.cells (Tab.names4.map strV).toArray 9)) = W at *
  go_wp2_with fail
  refine (refEnds_is ⟨#[97, 109, 111, 109, 97, 120, 117, 46, 100]⟩ ⟨#[46, 119]⟩ false _ (by decide +kernel) (by decide +kernel)).mono ?_
  rintro e w1 ⟨rfl, rfl⟩
  go_wp2_with fail
  go_ret
  exact ⟨rfl, HB.out⟩
theorem refSize_yes (k : Nat) (h : 11 ≤ k ∧ k ≤ 21 ∨ 67 ≤ k ∧ k ≤ 88) (w : World) : Calls Try.prog 19 #[.int .i64 k] w fun e w' => e = .returned (.int .i64 (sizeL.getD k 0 : Nat)) ∧ Below w.heap.size w w' := by
  have hk : k = 11 ∨ k = 12 ∨ k = 13 ∨ k = 14 ∨ k = 15 ∨ k = 16 ∨ k = 17 ∨ k = 18 ∨ k = 19 ∨ k = 20 ∨ k = 21 ∨ k = 67 ∨ k = 68 ∨ k = 69 ∨ k = 70 ∨ k = 71 ∨ k = 72 ∨ k = 73 ∨ k = 74 ∨ k = 75 ∨ k = 76 ∨ k = 77 ∨ k = 78 ∨ k = 79 ∨ k = 80 ∨ k = 81 ∨ k = 82 ∨ k = 83 ∨ k = 84 ∨ k = 85 ∨ k = 86 ∨ k = 87 ∨ k = 88 := by omega
  rcases hk with rfl | rfl | rfl | rfl | rfl | rfl | rfl | rfl | rfl | rfl | rfl | rfl | rfl | rfl | rfl | rfl | rfl | rfl | rfl | rfl | rfl | rfl | rfl | rfl | rfl | rfl | rfl | rfl | rfl | rfl | rfl | rfl | rfl
  · exact refSize_11 w
  · exact refSize_12 w
  · exact refSize_13 w
  · exact refSize_14 w
  · exact refSize_15 w
  · exact refSize_16 w
  · exact refSize_17 w
  · exact refSize_18 w
  · exact refSize_19 w
  · exact refSize_20 w
  · exact refSize_21 w
  · exact refSize_67 w
  · exact refSize_68 w
  · exact refSize_69 w
  · exact refSize_70 w
  · exact refSize_71 w
  · exact refSize_72 w
  · exact refSize_73 w
  · exact refSize_74 w
  · exact refSize_75 w
  · exact refSize_76 w
  · exact refSize_77 w
  · exact refSize_78 w
  · exact refSize_79 w
  · exact refSize_80 w
  · exact refSize_81 w
  · exact refSize_82 w
  · exact refSize_83 w
  · exact refSize_84 w
  · exact refSize_85 w
  · exact refSize_86 w
  · exact refSize_87 w
  · exact refSize_88 w
theorem class_mem : ∀ k : Fin 99, ¬ (11 ≤ k.val ∧ k.val ≤ 21 ∨ 67 ≤ k.val ∧ k.val ≤ 88) → classL.getD k.val 0 ≠ 5 ∧ classL.getD k.val 0 ≠ 6 ∧ classL.getD k.val 0 ≠ 7 ∧ sizeL.getD k.val 0 = 0 := by decide +kernel
theorem refSize_c (op : Int) (w : World) : Calls Try.prog 19 #[.int .i64 op] w fun e w' => e = .returned (.int .i64 (sizeS op)) ∧ Below w.heap.size w w' := by
  by_cases h : 1 ≤ op ∧ op ≤ 98
  · have e : sizeS op = (sizeL.getD op.toNat 0 : Nat) := by unfold sizeS; rw [if_pos h]
    have e2 : classS op = (classL.getD op.toNat 0 : Nat) := by unfold classS; rw [if_pos h]
    by_cases m : 11 ≤ op.toNat ∧ op.toNat ≤ 21 ∨ 67 ≤ op.toNat ∧ op.toNat ≤ 88
    · rw [e]
      have := refSize_yes op.toNat m w
      rw [show ((op.toNat : Nat) : Int) = op by omega] at this
      exact this
    · obtain ⟨m5, m6, m7, m0⟩ := class_mem ⟨op.toNat, by omega⟩ m
      simp only at m5 m6 m7 m0
      rw [e, m0]
      exact refSize_no op w (by omega) (by omega) (by omega)
  · have e : sizeS op = 0 := by unfold sizeS; rw [if_neg h]
    have e2 : classS op = 0 := by unfold classS; rw [if_neg h]
    rw [e]
    exact refSize_no op w (by omega) (by omega) (by omega)
end Go.Proofs.Ytgfdielipbcfeaa
