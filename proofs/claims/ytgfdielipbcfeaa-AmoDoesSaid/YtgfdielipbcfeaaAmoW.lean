/-
  Contracts of the reference of layer 8: word, Is.
-/
import Derived.Test.YtgfdielipbcfeaaAluN
namespace Go.Proofs.Ytgfdielipbcfeaa
open Go.ChangeShapes Go.WideShapes Go.ChangeAt Go.RowKit Wd

set_option maxHeartbeats 2000000 in
theorem refWord_67 (w : World) : Calls Try.prog 23 #[.int .i64 67] w fun e w' => e = .returned (.string ⟨#[108, 114]⟩) ∧ Below w.heap.size w w' := by
  have hcl : classS 67 = 7 := by decide +kernel
  go_enter Try.func23, Try.ntmps23
  go_wp2_with fail
  refine (refClass_c 67 _).mono ?_
  rintro e w1 ⟨rfl, hb⟩
  rw [hcl]
  have HB := Lib.hid hb
  clear hb hcl
  go_wp2_with fail
  refine (refNames4_c _).mono ?_
  rintro e w2 ⟨rfl, rfl⟩
  have c : _ = some (Value.string ⟨#[108, 114, 46, 119]⟩) := names4_cell w1 67 (by omega)
  have HB2 := Lib.hid (HB.out.alloc HB.out.size (.cells (Tab.names4.map strV).toArray 9))
  generalize (w1.alloc (.cells (Tab.names4.map strV).toArray 9)) = W at *
  go_wp2_with fail
  go_ret
  exact ⟨ret_s (by decide +kernel), HB2.out⟩
theorem refIs_67 (w : World) : Calls Try.prog 7 #[.int .i64 67] w fun e w' => e = .returned (.int .i64 2) ∧ Below w.heap.size w w' := by
  go_enter Try.func7, Try.ntmps7
  go_wp2_with fail
  refine (refWord_67 _).mono ?_
  rintro e w1 ⟨rfl, hb⟩
  have HB := Lib.hid hb
  clear hb
  go_wp2_with fail
  go_ret
  exact ⟨rfl, HB.out⟩
set_option maxHeartbeats 2000000 in
theorem refWord_68 (w : World) : Calls Try.prog 23 #[.int .i64 68] w fun e w' => e = .returned (.string ⟨#[115, 99]⟩) ∧ Below w.heap.size w w' := by
  have hcl : classS 68 = 7 := by decide +kernel
  go_enter Try.func23, Try.ntmps23
  go_wp2_with fail
  refine (refClass_c 68 _).mono ?_
  rintro e w1 ⟨rfl, hb⟩
  rw [hcl]
  have HB := Lib.hid hb
  clear hb hcl
  go_wp2_with fail
  refine (refNames4_c _).mono ?_
  rintro e w2 ⟨rfl, rfl⟩
  have c : _ = some (Value.string ⟨#[115, 99, 46, 119]⟩) := names4_cell w1 68 (by omega)
  have HB2 := Lib.hid (HB.out.alloc HB.out.size (.cells (Tab.names4.map strV).toArray 9))
  generalize (w1.alloc (.cells (Tab.names4.map strV).toArray 9)) = W at *
  go_wp2_with fail
  go_ret
  exact ⟨ret_s (by decide +kernel), HB2.out⟩
theorem refIs_68 (w : World) : Calls Try.prog 7 #[.int .i64 68] w fun e w' => e = .returned (.int .i64 3) ∧ Below w.heap.size w w' := by
  go_enter Try.func7, Try.ntmps7
  go_wp2_with fail
  refine (refWord_68 _).mono ?_
  rintro e w1 ⟨rfl, hb⟩
  have HB := Lib.hid hb
  clear hb
  go_wp2_with fail
  go_ret
  exact ⟨rfl, HB.out⟩
set_option maxHeartbeats 2000000 in
theorem refWord_69 (w : World) : Calls Try.prog 23 #[.int .i64 69] w fun e w' => e = .returned (.string ⟨#[97, 109, 111, 115, 119, 97, 112]⟩) ∧ Below w.heap.size w w' := by
  have hcl : classS 69 = 7 := by decide +kernel
  go_enter Try.func23, Try.ntmps23
  go_wp2_with fail
  refine (refClass_c 69 _).mono ?_
  rintro e w1 ⟨rfl, hb⟩
  rw [hcl]
  have HB := Lib.hid hb
  clear hb hcl
  go_wp2_with fail
  refine (refNames4_c _).mono ?_
  rintro e w2 ⟨rfl, rfl⟩
  have c : _ = some (Value.string ⟨#[97, 109, 111, 115, 119, 97, 112, 46, 119]⟩) := names4_cell w1 69 (by omega)
  have HB2 := Lib.hid (HB.out.alloc HB.out.size (.cells (Tab.names4.map strV).toArray 9))
  generalize (w1.alloc (.cells (Tab.names4.map strV).toArray 9)) = W at *
  go_wp2_with fail
  go_ret
  exact ⟨ret_s (by decide +kernel), HB2.out⟩
theorem refIs_69 (w : World) : Calls Try.prog 7 #[.int .i64 69] w fun e w' => e = .returned (.int .i64 1) ∧ Below w.heap.size w w' := by
  go_enter Try.func7, Try.ntmps7
  go_wp2_with fail
  refine (refWord_69 _).mono ?_
  rintro e w1 ⟨rfl, hb⟩
  have HB := Lib.hid hb
  clear hb
  go_wp2_with fail
  go_ret
  exact ⟨rfl, HB.out⟩
set_option maxHeartbeats 2000000 in
theorem refWord_70 (w : World) : Calls Try.prog 23 #[.int .i64 70] w fun e w' => e = .returned (.string ⟨#[97, 109, 111, 97, 100, 100]⟩) ∧ Below w.heap.size w w' := by
  have hcl : classS 70 = 7 := by decide +kernel
  go_enter Try.func23, Try.ntmps23
  go_wp2_with fail
  refine (refClass_c 70 _).mono ?_
  rintro e w1 ⟨rfl, hb⟩
  rw [hcl]
  have HB := Lib.hid hb
  clear hb hcl
  go_wp2_with fail
  refine (refNames4_c _).mono ?_
  rintro e w2 ⟨rfl, rfl⟩
  have c : _ = some (Value.string ⟨#[97, 109, 111, 97, 100, 100, 46, 119]⟩) := names4_cell w1 70 (by omega)
  have HB2 := Lib.hid (HB.out.alloc HB.out.size (.cells (Tab.names4.map strV).toArray 9))
  generalize (w1.alloc (.cells (Tab.names4.map strV).toArray 9)) = W at *
  go_wp2_with fail
  go_ret
  exact ⟨ret_s (by decide +kernel), HB2.out⟩
theorem refIs_70 (w : World) : Calls Try.prog 7 #[.int .i64 70] w fun e w' => e = .returned (.int .i64 1) ∧ Below w.heap.size w w' := by
  go_enter Try.func7, Try.ntmps7
  go_wp2_with fail
  refine (refWord_70 _).mono ?_
  rintro e w1 ⟨rfl, hb⟩
  have HB := Lib.hid hb
  clear hb
  go_wp2_with fail
  go_ret
  exact ⟨rfl, HB.out⟩
set_option maxHeartbeats 2000000 in
theorem refWord_71 (w : World) : Calls Try.prog 23 #[.int .i64 71] w fun e w' => e = .returned (.string ⟨#[97, 109, 111, 120, 111, 114]⟩) ∧ Below w.heap.size w w' := by
  have hcl : classS 71 = 7 := by decide +kernel
  go_enter Try.func23, Try.ntmps23
  go_wp2_with fail
  refine (refClass_c 71 _).mono ?_
  rintro e w1 ⟨rfl, hb⟩
  rw [hcl]
  have HB := Lib.hid hb
  clear hb hcl
  go_wp2_with fail
  refine (refNames4_c _).mono ?_
  rintro e w2 ⟨rfl, rfl⟩
  have c : _ = some (Value.string ⟨#[97, 109, 111, 120, 111, 114, 46, 119]⟩) := names4_cell w1 71 (by omega)
  have HB2 := Lib.hid (HB.out.alloc HB.out.size (.cells (Tab.names4.map strV).toArray 9))
  generalize (w1.alloc (.cells (Tab.names4.map strV).toArray 9)) = W at *
  go_wp2_with fail
  go_ret
  exact ⟨ret_s (by decide +kernel), HB2.out⟩
theorem refIs_71 (w : World) : Calls Try.prog 7 #[.int .i64 71] w fun e w' => e = .returned (.int .i64 1) ∧ Below w.heap.size w w' := by
  go_enter Try.func7, Try.ntmps7
  go_wp2_with fail
  refine (refWord_71 _).mono ?_
  rintro e w1 ⟨rfl, hb⟩
  have HB := Lib.hid hb
  clear hb
  go_wp2_with fail
  go_ret
  exact ⟨rfl, HB.out⟩
set_option maxHeartbeats 2000000 in
theorem refWord_72 (w : World) : Calls Try.prog 23 #[.int .i64 72] w fun e w' => e = .returned (.string ⟨#[97, 109, 111, 97, 110, 100]⟩) ∧ Below w.heap.size w w' := by
  have hcl : classS 72 = 7 := by decide +kernel
  go_enter Try.func23, Try.ntmps23
  go_wp2_with fail
  refine (refClass_c 72 _).mono ?_
  rintro e w1 ⟨rfl, hb⟩
  rw [hcl]
  have HB := Lib.hid hb
  clear hb hcl
  go_wp2_with fail
  refine (refNames4_c _).mono ?_
  rintro e w2 ⟨rfl, rfl⟩
  have c : _ = some (Value.string ⟨#[97, 109, 111, 97, 110, 100, 46, 119]⟩) := names4_cell w1 72 (by omega)
  have HB2 := Lib.hid (HB.out.alloc HB.out.size (.cells (Tab.names4.map strV).toArray 9))
  generalize (w1.alloc (.cells (Tab.names4.map strV).toArray 9)) = W at *
  go_wp2_with fail
  go_ret
  exact ⟨ret_s (by decide +kernel), HB2.out⟩
theorem refIs_72 (w : World) : Calls Try.prog 7 #[.int .i64 72] w fun e w' => e = .returned (.int .i64 1) ∧ Below w.heap.size w w' := by
  go_enter Try.func7, Try.ntmps7
  go_wp2_with fail
  refine (refWord_72 _).mono ?_
  rintro e w1 ⟨rfl, hb⟩
  have HB := Lib.hid hb
  clear hb
  go_wp2_with fail
  go_ret
  exact ⟨rfl, HB.out⟩
set_option maxHeartbeats 2000000 in
theorem refWord_73 (w : World) : Calls Try.prog 23 #[.int .i64 73] w fun e w' => e = .returned (.string ⟨#[97, 109, 111, 111, 114]⟩) ∧ Below w.heap.size w w' := by
  have hcl : classS 73 = 7 := by decide +kernel
  go_enter Try.func23, Try.ntmps23
  go_wp2_with fail
  refine (refClass_c 73 _).mono ?_
  rintro e w1 ⟨rfl, hb⟩
  rw [hcl]
  have HB := Lib.hid hb
  clear hb hcl
  go_wp2_with fail
  refine (refNames4_c _).mono ?_
  rintro e w2 ⟨rfl, rfl⟩
  have c : _ = some (Value.string ⟨#[97, 109, 111, 111, 114, 46, 119]⟩) := names4_cell w1 73 (by omega)
  have HB2 := Lib.hid (HB.out.alloc HB.out.size (.cells (Tab.names4.map strV).toArray 9))
  generalize (w1.alloc (.cells (Tab.names4.map strV).toArray 9)) = W at *
  go_wp2_with fail
  go_ret
  exact ⟨ret_s (by decide +kernel), HB2.out⟩
theorem refIs_73 (w : World) : Calls Try.prog 7 #[.int .i64 73] w fun e w' => e = .returned (.int .i64 1) ∧ Below w.heap.size w w' := by
  go_enter Try.func7, Try.ntmps7
  go_wp2_with fail
  refine (refWord_73 _).mono ?_
  rintro e w1 ⟨rfl, hb⟩
  have HB := Lib.hid hb
  clear hb
  go_wp2_with fail
  go_ret
  exact ⟨rfl, HB.out⟩
set_option maxHeartbeats 2000000 in
theorem refWord_74 (w : World) : Calls Try.prog 23 #[.int .i64 74] w fun e w' => e = .returned (.string ⟨#[97, 109, 111, 109, 105, 110]⟩) ∧ Below w.heap.size w w' := by
  have hcl : classS 74 = 7 := by decide +kernel
  go_enter Try.func23, Try.ntmps23
  go_wp2_with fail
  refine (refClass_c 74 _).mono ?_
  rintro e w1 ⟨rfl, hb⟩
  rw [hcl]
  have HB := Lib.hid hb
  clear hb hcl
  go_wp2_with fail
  refine (refNames4_c _).mono ?_
  rintro e w2 ⟨rfl, rfl⟩
  have c : _ = some (Value.string ⟨#[97, 109, 111, 109, 105, 110, 46, 119]⟩) := names4_cell w1 74 (by omega)
  have HB2 := Lib.hid (HB.out.alloc HB.out.size (.cells (Tab.names4.map strV).toArray 9))
  generalize (w1.alloc (.cells (Tab.names4.map strV).toArray 9)) = W at *
  go_wp2_with fail
  go_ret
  exact ⟨ret_s (by decide +kernel), HB2.out⟩
theorem refIs_74 (w : World) : Calls Try.prog 7 #[.int .i64 74] w fun e w' => e = .returned (.int .i64 1) ∧ Below w.heap.size w w' := by
  go_enter Try.func7, Try.ntmps7
  go_wp2_with fail
  refine (refWord_74 _).mono ?_
  rintro e w1 ⟨rfl, hb⟩
  have HB := Lib.hid hb
  clear hb
  go_wp2_with fail
  go_ret
  exact ⟨rfl, HB.out⟩
set_option maxHeartbeats 2000000 in
theorem refWord_75 (w : World) : Calls Try.prog 23 #[.int .i64 75] w fun e w' => e = .returned (.string ⟨#[97, 109, 111, 109, 97, 120]⟩) ∧ Below w.heap.size w w' := by
  have hcl : classS 75 = 7 := by decide +kernel
  go_enter Try.func23, Try.ntmps23
  go_wp2_with fail
  refine (refClass_c 75 _).mono ?_
  rintro e w1 ⟨rfl, hb⟩
  rw [hcl]
  have HB := Lib.hid hb
  clear hb hcl
  go_wp2_with fail
  refine (refNames4_c _).mono ?_
  rintro e w2 ⟨rfl, rfl⟩
  have c : _ = some (Value.string ⟨#[97, 109, 111, 109, 97, 120, 46, 119]⟩) := names4_cell w1 75 (by omega)
  have HB2 := Lib.hid (HB.out.alloc HB.out.size (.cells (Tab.names4.map strV).toArray 9))
  generalize (w1.alloc (.cells (Tab.names4.map strV).toArray 9)) = W at *
  go_wp2_with fail
  go_ret
  exact ⟨ret_s (by decide +kernel), HB2.out⟩
theorem refIs_75 (w : World) : Calls Try.prog 7 #[.int .i64 75] w fun e w' => e = .returned (.int .i64 1) ∧ Below w.heap.size w w' := by
  go_enter Try.func7, Try.ntmps7
  go_wp2_with fail
  refine (refWord_75 _).mono ?_
  rintro e w1 ⟨rfl, hb⟩
  have HB := Lib.hid hb
  clear hb
  go_wp2_with fail
  go_ret
  exact ⟨rfl, HB.out⟩
set_option maxHeartbeats 2000000 in
theorem refWord_76 (w : World) : Calls Try.prog 23 #[.int .i64 76] w fun e w' => e = .returned (.string ⟨#[97, 109, 111, 109, 105, 110, 117]⟩) ∧ Below w.heap.size w w' := by
  have hcl : classS 76 = 7 := by decide +kernel
  go_enter Try.func23, Try.ntmps23
  go_wp2_with fail
  refine (refClass_c 76 _).mono ?_
  rintro e w1 ⟨rfl, hb⟩
  rw [hcl]
  have HB := Lib.hid hb
  clear hb hcl
  go_wp2_with fail
  refine (refNames4_c _).mono ?_
  rintro e w2 ⟨rfl, rfl⟩
  have c : _ = some (Value.string ⟨#[97, 109, 111, 109, 105, 110, 117, 46, 119]⟩) := names4_cell w1 76 (by omega)
  have HB2 := Lib.hid (HB.out.alloc HB.out.size (.cells (Tab.names4.map strV).toArray 9))
  generalize (w1.alloc (.cells (Tab.names4.map strV).toArray 9)) = W at *
  go_wp2_with fail
  go_ret
  exact ⟨ret_s (by decide +kernel), HB2.out⟩
theorem refIs_76 (w : World) : Calls Try.prog 7 #[.int .i64 76] w fun e w' => e = .returned (.int .i64 1) ∧ Below w.heap.size w w' := by
  go_enter Try.func7, Try.ntmps7
  go_wp2_with fail
  refine (refWord_76 _).mono ?_
  rintro e w1 ⟨rfl, hb⟩
  have HB := Lib.hid hb
  clear hb
  go_wp2_with fail
  go_ret
  exact ⟨rfl, HB.out⟩
set_option maxHeartbeats 2000000 in
theorem refWord_77 (w : World) : Calls Try.prog 23 #[.int .i64 77] w fun e w' => e = .returned (.string ⟨#[97, 109, 111, 109, 97, 120, 117]⟩) ∧ Below w.heap.size w w' := by
  have hcl : classS 77 = 7 := by decide +kernel
  go_enter Try.func23, Try.ntmps23
  go_wp2_with fail
  refine (refClass_c 77 _).mono ?_
  rintro e w1 ⟨rfl, hb⟩
  rw [hcl]
  have HB := Lib.hid hb
  clear hb hcl
  go_wp2_with fail
  refine (refNames4_c _).mono ?_
  rintro e w2 ⟨rfl, rfl⟩
  have c : _ = some (Value.string ⟨#[97, 109, 111, 109, 97, 120, 117, 46, 119]⟩) := names4_cell w1 77 (by omega)
  have HB2 := Lib.hid (HB.out.alloc HB.out.size (.cells (Tab.names4.map strV).toArray 9))
  generalize (w1.alloc (.cells (Tab.names4.map strV).toArray 9)) = W at *
  go_wp2_with fail
  go_ret
  exact ⟨ret_s (by decide +kernel), HB2.out⟩
theorem refIs_77 (w : World) : Calls Try.prog 7 #[.int .i64 77] w fun e w' => e = .returned (.int .i64 1) ∧ Below w.heap.size w w' := by
  go_enter Try.func7, Try.ntmps7
  go_wp2_with fail
  refine (refWord_77 _).mono ?_
  rintro e w1 ⟨rfl, hb⟩
  have HB := Lib.hid hb
  clear hb
  go_wp2_with fail
  go_ret
  exact ⟨rfl, HB.out⟩
set_option maxHeartbeats 2000000 in
theorem refWord_78 (w : World) : Calls Try.prog 23 #[.int .i64 78] w fun e w' => e = .returned (.string ⟨#[108, 114]⟩) ∧ Below w.heap.size w w' := by
  have hcl : classS 78 = 7 := by decide +kernel
  go_enter Try.func23, Try.ntmps23
  go_wp2_with fail
  refine (refClass_c 78 _).mono ?_
  rintro e w1 ⟨rfl, hb⟩
  rw [hcl]
  have HB := Lib.hid hb
  clear hb hcl
  go_wp2_with fail
  refine (refNames4_c _).mono ?_
  rintro e w2 ⟨rfl, rfl⟩
  have c : _ = some (Value.string ⟨#[108, 114, 46, 100]⟩) := names4_cell w1 78 (by omega)
  have HB2 := Lib.hid (HB.out.alloc HB.out.size (.cells (Tab.names4.map strV).toArray 9))
  generalize (w1.alloc (.cells (Tab.names4.map strV).toArray 9)) = W at *
  go_wp2_with fail
  go_ret
  exact ⟨ret_s (by decide +kernel), HB2.out⟩
theorem refIs_78 (w : World) : Calls Try.prog 7 #[.int .i64 78] w fun e w' => e = .returned (.int .i64 2) ∧ Below w.heap.size w w' := by
  go_enter Try.func7, Try.ntmps7
  go_wp2_with fail
  refine (refWord_78 _).mono ?_
  rintro e w1 ⟨rfl, hb⟩
  have HB := Lib.hid hb
  clear hb
  go_wp2_with fail
  go_ret
  exact ⟨rfl, HB.out⟩
set_option maxHeartbeats 2000000 in
theorem refWord_79 (w : World) : Calls Try.prog 23 #[.int .i64 79] w fun e w' => e = .returned (.string ⟨#[115, 99]⟩) ∧ Below w.heap.size w w' := by
  have hcl : classS 79 = 7 := by decide +kernel
  go_enter Try.func23, Try.ntmps23
  go_wp2_with fail
  refine (refClass_c 79 _).mono ?_
  rintro e w1 ⟨rfl, hb⟩
  rw [hcl]
  have HB := Lib.hid hb
  clear hb hcl
  go_wp2_with fail
  refine (refNames4_c _).mono ?_
  rintro e w2 ⟨rfl, rfl⟩
  have c : _ = some (Value.string ⟨#[115, 99, 46, 100]⟩) := names4_cell w1 79 (by omega)
  have HB2 := Lib.hid (HB.out.alloc HB.out.size (.cells (Tab.names4.map strV).toArray 9))
  generalize (w1.alloc (.cells (Tab.names4.map strV).toArray 9)) = W at *
  go_wp2_with fail
  go_ret
  exact ⟨ret_s (by decide +kernel), HB2.out⟩
theorem refIs_79 (w : World) : Calls Try.prog 7 #[.int .i64 79] w fun e w' => e = .returned (.int .i64 3) ∧ Below w.heap.size w w' := by
  go_enter Try.func7, Try.ntmps7
  go_wp2_with fail
  refine (refWord_79 _).mono ?_
  rintro e w1 ⟨rfl, hb⟩
  have HB := Lib.hid hb
  clear hb
  go_wp2_with fail
  go_ret
  exact ⟨rfl, HB.out⟩
set_option maxHeartbeats 2000000 in
theorem refWord_80 (w : World) : Calls Try.prog 23 #[.int .i64 80] w fun e w' => e = .returned (.string ⟨#[97, 109, 111, 115, 119, 97, 112]⟩) ∧ Below w.heap.size w w' := by
  have hcl : classS 80 = 7 := by decide +kernel
  go_enter Try.func23, Try.ntmps23
  go_wp2_with fail
  refine (refClass_c 80 _).mono ?_
  rintro e w1 ⟨rfl, hb⟩
  rw [hcl]
  have HB := Lib.hid hb
  clear hb hcl
  go_wp2_with fail
  refine (refNames4_c _).mono ?_
  rintro e w2 ⟨rfl, rfl⟩
  have c : _ = some (Value.string ⟨#[97, 109, 111, 115, 119, 97, 112, 46, 100]⟩) := names4_cell w1 80 (by omega)
  have HB2 := Lib.hid (HB.out.alloc HB.out.size (.cells (Tab.names4.map strV).toArray 9))
  generalize (w1.alloc (.cells (Tab.names4.map strV).toArray 9)) = W at *
  go_wp2_with fail
  go_ret
  exact ⟨ret_s (by decide +kernel), HB2.out⟩
theorem refIs_80 (w : World) : Calls Try.prog 7 #[.int .i64 80] w fun e w' => e = .returned (.int .i64 1) ∧ Below w.heap.size w w' := by
  go_enter Try.func7, Try.ntmps7
  go_wp2_with fail
  refine (refWord_80 _).mono ?_
  rintro e w1 ⟨rfl, hb⟩
  have HB := Lib.hid hb
  clear hb
  go_wp2_with fail
  go_ret
  exact ⟨rfl, HB.out⟩
set_option maxHeartbeats 2000000 in
theorem refWord_81 (w : World) : Calls Try.prog 23 #[.int .i64 81] w fun e w' => e = .returned (.string ⟨#[97, 109, 111, 97, 100, 100]⟩) ∧ Below w.heap.size w w' := by
  have hcl : classS 81 = 7 := by decide +kernel
  go_enter Try.func23, Try.ntmps23
  go_wp2_with fail
  refine (refClass_c 81 _).mono ?_
  rintro e w1 ⟨rfl, hb⟩
  rw [hcl]
  have HB := Lib.hid hb
  clear hb hcl
  go_wp2_with fail
  refine (refNames4_c _).mono ?_
  rintro e w2 ⟨rfl, rfl⟩
  have c : _ = some (Value.string ⟨#[97, 109, 111, 97, 100, 100, 46, 100]⟩) := names4_cell w1 81 (by omega)
  have HB2 := Lib.hid (HB.out.alloc HB.out.size (.cells (Tab.names4.map strV).toArray 9))
  generalize (w1.alloc (.cells (Tab.names4.map strV).toArray 9)) = W at *
  go_wp2_with fail
  go_ret
  exact ⟨ret_s (by decide +kernel), HB2.out⟩
theorem refIs_81 (w : World) : Calls Try.prog 7 #[.int .i64 81] w fun e w' => e = .returned (.int .i64 1) ∧ Below w.heap.size w w' := by
  go_enter Try.func7, Try.ntmps7
  go_wp2_with fail
  refine (refWord_81 _).mono ?_
  rintro e w1 ⟨rfl, hb⟩
  have HB := Lib.hid hb
  clear hb
  go_wp2_with fail
  go_ret
  exact ⟨rfl, HB.out⟩
set_option maxHeartbeats 2000000 in
theorem refWord_82 (w : World) : Calls Try.prog 23 #[.int .i64 82] w fun e w' => e = .returned (.string ⟨#[97, 109, 111, 120, 111, 114]⟩) ∧ Below w.heap.size w w' := by
  have hcl : classS 82 = 7 := by decide +kernel
  go_enter Try.func23, Try.ntmps23
  go_wp2_with fail
  refine (refClass_c 82 _).mono ?_
  rintro e w1 ⟨rfl, hb⟩
  rw [hcl]
  have HB := Lib.hid hb
  clear hb hcl
  go_wp2_with fail
  refine (refNames4_c _).mono ?_
  rintro e w2 ⟨rfl, rfl⟩
  have c : _ = some (Value.string ⟨#[97, 109, 111, 120, 111, 114, 46, 100]⟩) := names4_cell w1 82 (by omega)
  have HB2 := Lib.hid (HB.out.alloc HB.out.size (.cells (Tab.names4.map strV).toArray 9))
  generalize (w1.alloc (.cells (Tab.names4.map strV).toArray 9)) = W at *
  go_wp2_with fail
  go_ret
  exact ⟨ret_s (by decide +kernel), HB2.out⟩
theorem refIs_82 (w : World) : Calls Try.prog 7 #[.int .i64 82] w fun e w' => e = .returned (.int .i64 1) ∧ Below w.heap.size w w' := by
  go_enter Try.func7, Try.ntmps7
  go_wp2_with fail
  refine (refWord_82 _).mono ?_
  rintro e w1 ⟨rfl, hb⟩
  have HB := Lib.hid hb
  clear hb
  go_wp2_with fail
  go_ret
  exact ⟨rfl, HB.out⟩
set_option maxHeartbeats 2000000 in
theorem refWord_83 (w : World) : Calls Try.prog 23 #[.int .i64 83] w fun e w' => e = .returned (.string ⟨#[97, 109, 111, 97, 110, 100]⟩) ∧ Below w.heap.size w w' := by
  have hcl : classS 83 = 7 := by decide +kernel
  go_enter Try.func23, Try.ntmps23
  go_wp2_with fail
  refine (refClass_c 83 _).mono ?_
  rintro e w1 ⟨rfl, hb⟩
  rw [hcl]
  have HB := Lib.hid hb
  clear hb hcl
  go_wp2_with fail
  refine (refNames4_c _).mono ?_
  rintro e w2 ⟨rfl, rfl⟩
  have c : _ = some (Value.string ⟨#[97, 109, 111, 97, 110, 100, 46, 100]⟩) := names4_cell w1 83 (by omega)
  have HB2 := Lib.hid (HB.out.alloc HB.out.size (.cells (Tab.names4.map strV).toArray 9))
  generalize (w1.alloc (.cells (Tab.names4.map strV).toArray 9)) = W at *
  go_wp2_with fail
  go_ret
  exact ⟨ret_s (by decide +kernel), HB2.out⟩
theorem refIs_83 (w : World) : Calls Try.prog 7 #[.int .i64 83] w fun e w' => e = .returned (.int .i64 1) ∧ Below w.heap.size w w' := by
  go_enter Try.func7, Try.ntmps7
  go_wp2_with fail
  refine (refWord_83 _).mono ?_
  rintro e w1 ⟨rfl, hb⟩
  have HB := Lib.hid hb
  clear hb
  go_wp2_with fail
  go_ret
  exact ⟨rfl, HB.out⟩
set_option maxHeartbeats 2000000 in
theorem refWord_84 (w : World) : Calls Try.prog 23 #[.int .i64 84] w fun e w' => e = .returned (.string ⟨#[97, 109, 111, 111, 114]⟩) ∧ Below w.heap.size w w' := by
  have hcl : classS 84 = 7 := by decide +kernel
  go_enter Try.func23, Try.ntmps23
  go_wp2_with fail
  refine (refClass_c 84 _).mono ?_
  rintro e w1 ⟨rfl, hb⟩
  rw [hcl]
  have HB := Lib.hid hb
  clear hb hcl
  go_wp2_with fail
  refine (refNames4_c _).mono ?_
  rintro e w2 ⟨rfl, rfl⟩
  have c : _ = some (Value.string ⟨#[97, 109, 111, 111, 114, 46, 100]⟩) := names4_cell w1 84 (by omega)
  have HB2 := Lib.hid (HB.out.alloc HB.out.size (.cells (Tab.names4.map strV).toArray 9))
  generalize (w1.alloc (.cells (Tab.names4.map strV).toArray 9)) = W at *
  go_wp2_with fail
  go_ret
  exact ⟨ret_s (by decide +kernel), HB2.out⟩
theorem refIs_84 (w : World) : Calls Try.prog 7 #[.int .i64 84] w fun e w' => e = .returned (.int .i64 1) ∧ Below w.heap.size w w' := by
  go_enter Try.func7, Try.ntmps7
  go_wp2_with fail
  refine (refWord_84 _).mono ?_
  rintro e w1 ⟨rfl, hb⟩
  have HB := Lib.hid hb
  clear hb
  go_wp2_with fail
  go_ret
  exact ⟨rfl, HB.out⟩
set_option maxHeartbeats 2000000 in
theorem refWord_85 (w : World) : Calls Try.prog 23 #[.int .i64 85] w fun e w' => e = .returned (.string ⟨#[97, 109, 111, 109, 105, 110]⟩) ∧ Below w.heap.size w w' := by
  have hcl : classS 85 = 7 := by decide +kernel
  go_enter Try.func23, Try.ntmps23
  go_wp2_with fail
  refine (refClass_c 85 _).mono ?_
  rintro e w1 ⟨rfl, hb⟩
  rw [hcl]
  have HB := Lib.hid hb
  clear hb hcl
  go_wp2_with fail
  refine (refNames4_c _).mono ?_
  rintro e w2 ⟨rfl, rfl⟩
  have c : _ = some (Value.string ⟨#[97, 109, 111, 109, 105, 110, 46, 100]⟩) := names4_cell w1 85 (by omega)
  have HB2 := Lib.hid (HB.out.alloc HB.out.size (.cells (Tab.names4.map strV).toArray 9))
  generalize (w1.alloc (.cells (Tab.names4.map strV).toArray 9)) = W at *
  go_wp2_with fail
  go_ret
  exact ⟨ret_s (by decide +kernel), HB2.out⟩
theorem refIs_85 (w : World) : Calls Try.prog 7 #[.int .i64 85] w fun e w' => e = .returned (.int .i64 1) ∧ Below w.heap.size w w' := by
  go_enter Try.func7, Try.ntmps7
  go_wp2_with fail
  refine (refWord_85 _).mono ?_
  rintro e w1 ⟨rfl, hb⟩
  have HB := Lib.hid hb
  clear hb
  go_wp2_with fail
  go_ret
  exact ⟨rfl, HB.out⟩
set_option maxHeartbeats 2000000 in
theorem refWord_86 (w : World) : Calls Try.prog 23 #[.int .i64 86] w fun e w' => e = .returned (.string ⟨#[97, 109, 111, 109, 97, 120]⟩) ∧ Below w.heap.size w w' := by
  have hcl : classS 86 = 7 := by decide +kernel
  go_enter Try.func23, Try.ntmps23
  go_wp2_with fail
  refine (refClass_c 86 _).mono ?_
  rintro e w1 ⟨rfl, hb⟩
  rw [hcl]
  have HB := Lib.hid hb
  clear hb hcl
  go_wp2_with fail
  refine (refNames4_c _).mono ?_
  rintro e w2 ⟨rfl, rfl⟩
  have c : _ = some (Value.string ⟨#[97, 109, 111, 109, 97, 120, 46, 100]⟩) := names4_cell w1 86 (by omega)
  have HB2 := Lib.hid (HB.out.alloc HB.out.size (.cells (Tab.names4.map strV).toArray 9))
  generalize (w1.alloc (.cells (Tab.names4.map strV).toArray 9)) = W at *
  go_wp2_with fail
  go_ret
  exact ⟨ret_s (by decide +kernel), HB2.out⟩
theorem refIs_86 (w : World) : Calls Try.prog 7 #[.int .i64 86] w fun e w' => e = .returned (.int .i64 1) ∧ Below w.heap.size w w' := by
  go_enter Try.func7, Try.ntmps7
  go_wp2_with fail
  refine (refWord_86 _).mono ?_
  rintro e w1 ⟨rfl, hb⟩
  have HB := Lib.hid hb
  clear hb
  go_wp2_with fail
  go_ret
  exact ⟨rfl, HB.out⟩
set_option maxHeartbeats 2000000 in
theorem refWord_87 (w : World) : Calls Try.prog 23 #[.int .i64 87] w fun e w' => e = .returned (.string ⟨#[97, 109, 111, 109, 105, 110, 117]⟩) ∧ Below w.heap.size w w' := by
  have hcl : classS 87 = 7 := by decide +kernel
  go_enter Try.func23, Try.ntmps23
  go_wp2_with fail
  refine (refClass_c 87 _).mono ?_
  rintro e w1 ⟨rfl, hb⟩
  rw [hcl]
  have HB := Lib.hid hb
  clear hb hcl
  go_wp2_with fail
  refine (refNames4_c _).mono ?_
  rintro e w2 ⟨rfl, rfl⟩
  have c : _ = some (Value.string ⟨#[97, 109, 111, 109, 105, 110, 117, 46, 100]⟩) := names4_cell w1 87 (by omega)
  have HB2 := Lib.hid (HB.out.alloc HB.out.size (.cells (Tab.names4.map strV).toArray 9))
  generalize (w1.alloc (.cells (Tab.names4.map strV).toArray 9)) = W at *
  go_wp2_with fail
  go_ret
  exact ⟨ret_s (by decide +kernel), HB2.out⟩
theorem refIs_87 (w : World) : Calls Try.prog 7 #[.int .i64 87] w fun e w' => e = .returned (.int .i64 1) ∧ Below w.heap.size w w' := by
  go_enter Try.func7, Try.ntmps7
  go_wp2_with fail
  refine (refWord_87 _).mono ?_
  rintro e w1 ⟨rfl, hb⟩
  have HB := Lib.hid hb
  clear hb
  go_wp2_with fail
  go_ret
  exact ⟨rfl, HB.out⟩
set_option maxHeartbeats 2000000 in
theorem refWord_88 (w : World) : Calls Try.prog 23 #[.int .i64 88] w fun e w' => e = .returned (.string ⟨#[97, 109, 111, 109, 97, 120, 117]⟩) ∧ Below w.heap.size w w' := by
  have hcl : classS 88 = 7 := by decide +kernel
  go_enter Try.func23, Try.ntmps23
  go_wp2_with fail
  refine (refClass_c 88 _).mono ?_
  rintro e w1 ⟨rfl, hb⟩
  rw [hcl]
  have HB := Lib.hid hb
  clear hb hcl
  go_wp2_with fail
  refine (refNames4_c _).mono ?_
  rintro e w2 ⟨rfl, rfl⟩
  have c : _ = some (Value.string ⟨#[97, 109, 111, 109, 97, 120, 117, 46, 100]⟩) := names4_cell w1 88 (by omega)
  have HB2 := Lib.hid (HB.out.alloc HB.out.size (.cells (Tab.names4.map strV).toArray 9))
  generalize (w1.alloc (.cells (Tab.names4.map strV).toArray 9)) = W at *
  go_wp2_with fail
  go_ret
  exact ⟨ret_s (by decide +kernel), HB2.out⟩
theorem refIs_88 (w : World) : Calls Try.prog 7 #[.int .i64 88] w fun e w' => e = .returned (.int .i64 1) ∧ Below w.heap.size w w' := by
  go_enter Try.func7, Try.ntmps7
  go_wp2_with fail
  refine (refWord_88 _).mono ?_
  rintro e w1 ⟨rfl, hb⟩
  have HB := Lib.hid hb
  clear hb
  go_wp2_with fail
  go_ret
  exact ⟨rfl, HB.out⟩
set_option maxHeartbeats 2000000 in
theorem refWord_no (op : Int) (h : classS op ≠ 7) (w : World) : Calls Try.prog 23 #[.int .i64 op] w fun e w' => e = .returned (.string ⟨#[]⟩) ∧ Below w.heap.size w w' := by
  have e1 : (classS op != 7) = true := by simpa using h
  go_enter Try.func23, Try.ntmps23
  go_wp2_with fail
  refine (refClass_c op _).mono ?_
  rintro e w1 ⟨rfl, hb⟩
  have HB := Lib.hid hb
  clear hb
  go_wp2_with fail
  go_ret
  exact ⟨rfl, HB.out⟩
theorem refIs_no (op : Int) (h : classS op ≠ 7) (w : World) : Calls Try.prog 7 #[.int .i64 op] w fun e w' => e = .returned (.int .i64 0) ∧ Below w.heap.size w w' := by
  go_enter Try.func7, Try.ntmps7
  go_wp2_with fail
  refine (refWord_no op h _).mono ?_
  rintro e w1 ⟨rfl, hb⟩
  have HB := Lib.hid hb
  clear hb
  go_wp2_with fail
  go_ret
  exact ⟨rfl, HB.out⟩
end Go.Proofs.Ytgfdielipbcfeaa
