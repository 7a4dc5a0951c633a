/-
  Contracts of the reference's Name (layer 7), op by op.
-/
import Derived.Test.YtgfdielipbcfeaaRef4c
namespace Go.Proofs.Ytgfdielipbcfeaa
open Go.ChangeShapes Go.WideShapes Go.ChangeAt Go.RowKit Wd

theorem ret_s {a b : ByteArray} (h : a = b) : Ending.returned (.string a) = .returned (.string b) := by rw [h]
set_option maxHeartbeats 2000000 in
theorem refName_22 (w : World) : Calls Try.prog 38 #[.int .i64 22] w fun e w' => e = .returned (.string ⟨#[97, 100, 100]⟩) ∧ Below w.heap.size w w' := by
  have hcl : classS 22 = 1 := by decide +kernel
  go_enter Try.func38, Try.ntmps38
  go_wp2_with fail
  refine (refClass_c 22 _).mono ?_
  rintro e w1 ⟨rfl, hb⟩
  rw [hcl]
  have HB := Lib.hid hb
  clear hb hcl
  go_wp2_with fail
  refine (refNames4_c _).mono ?_
  rintro e w2 ⟨rfl, rfl⟩
  have c : _ = some (Value.string ⟨#[97, 100, 100, 105]⟩) := names4_cell w1 22 (by omega)
  have HB2 := Lib.hid (HB.out.alloc HB.out.size (.cells (Tab.names4.map strV).toArray 9))
  generalize (w1.alloc (.cells (Tab.names4.map strV).toArray 9)) = W at *
  go_wp2_with fail
  go_ret
  exact ⟨ret_s (by decide +kernel), HB2.out⟩
set_option maxHeartbeats 2000000 in
theorem refName_23 (w : World) : Calls Try.prog 38 #[.int .i64 23] w fun e w' => e = .returned (.string ⟨#[115, 108, 116]⟩) ∧ Below w.heap.size w w' := by
  have hcl : classS 23 = 1 := by decide +kernel
  go_enter Try.func38, Try.ntmps38
  go_wp2_with fail
  refine (refClass_c 23 _).mono ?_
  rintro e w1 ⟨rfl, hb⟩
  rw [hcl]
  have HB := Lib.hid hb
  clear hb hcl
  go_wp2_with fail
  refine (refNames4_c _).mono ?_
  rintro e w2 ⟨rfl, rfl⟩
  have c : _ = some (Value.string ⟨#[115, 108, 116, 105]⟩) := names4_cell w1 23 (by omega)
  have HB2 := Lib.hid (HB.out.alloc HB.out.size (.cells (Tab.names4.map strV).toArray 9))
  generalize (w1.alloc (.cells (Tab.names4.map strV).toArray 9)) = W at *
  go_wp2_with fail
  go_ret
  exact ⟨ret_s (by decide +kernel), HB2.out⟩
set_option maxHeartbeats 2000000 in
theorem refName_24 (w : World) : Calls Try.prog 38 #[.int .i64 24] w fun e w' => e = .returned (.string ⟨#[115, 108, 116, 117]⟩) ∧ Below w.heap.size w w' := by
  have hcl : classS 24 = 1 := by decide +kernel
  go_enter Try.func38, Try.ntmps38
  go_wp2_with fail
  refine (refClass_c 24 _).mono ?_
  rintro e w1 ⟨rfl, hb⟩
  rw [hcl]
  have HB := Lib.hid hb
  clear hb hcl
  go_wp2_with fail
  refine (refNames4_c _).mono ?_
  rintro e w2 ⟨rfl, rfl⟩
  have c : _ = some (Value.string ⟨#[115, 108, 116, 105, 117]⟩) := names4_cell w1 24 (by omega)
  have HB2 := Lib.hid (HB.out.alloc HB.out.size (.cells (Tab.names4.map strV).toArray 9))
  generalize (w1.alloc (.cells (Tab.names4.map strV).toArray 9)) = W at *
  go_wp2_with fail
  go_ret
  exact ⟨ret_s (by decide +kernel), HB2.out⟩
set_option maxHeartbeats 2000000 in
theorem refName_25 (w : World) : Calls Try.prog 38 #[.int .i64 25] w fun e w' => e = .returned (.string ⟨#[120, 111, 114]⟩) ∧ Below w.heap.size w w' := by
  have hcl : classS 25 = 1 := by decide +kernel
  go_enter Try.func38, Try.ntmps38
  go_wp2_with fail
  refine (refClass_c 25 _).mono ?_
  rintro e w1 ⟨rfl, hb⟩
  rw [hcl]
  have HB := Lib.hid hb
  clear hb hcl
  go_wp2_with fail
  refine (refNames4_c _).mono ?_
  rintro e w2 ⟨rfl, rfl⟩
  have c : _ = some (Value.string ⟨#[120, 111, 114, 105]⟩) := names4_cell w1 25 (by omega)
  have HB2 := Lib.hid (HB.out.alloc HB.out.size (.cells (Tab.names4.map strV).toArray 9))
  generalize (w1.alloc (.cells (Tab.names4.map strV).toArray 9)) = W at *
  go_wp2_with fail
  go_ret
  exact ⟨ret_s (by decide +kernel), HB2.out⟩
set_option maxHeartbeats 2000000 in
theorem refName_26 (w : World) : Calls Try.prog 38 #[.int .i64 26] w fun e w' => e = .returned (.string ⟨#[111, 114]⟩) ∧ Below w.heap.size w w' := by
  have hcl : classS 26 = 1 := by decide +kernel
  go_enter Try.func38, Try.ntmps38
  go_wp2_with fail
  refine (refClass_c 26 _).mono ?_
  rintro e w1 ⟨rfl, hb⟩
  rw [hcl]
  have HB := Lib.hid hb
  clear hb hcl
  go_wp2_with fail
  refine (refNames4_c _).mono ?_
  rintro e w2 ⟨rfl, rfl⟩
  have c : _ = some (Value.string ⟨#[111, 114, 105]⟩) := names4_cell w1 26 (by omega)
  have HB2 := Lib.hid (HB.out.alloc HB.out.size (.cells (Tab.names4.map strV).toArray 9))
  generalize (w1.alloc (.cells (Tab.names4.map strV).toArray 9)) = W at *
  go_wp2_with fail
  go_ret
  exact ⟨ret_s (by decide +kernel), HB2.out⟩
set_option maxHeartbeats 2000000 in
theorem refName_27 (w : World) : Calls Try.prog 38 #[.int .i64 27] w fun e w' => e = .returned (.string ⟨#[97, 110, 100]⟩) ∧ Below w.heap.size w w' := by
  have hcl : classS 27 = 1 := by decide +kernel
  go_enter Try.func38, Try.ntmps38
  go_wp2_with fail
  refine (refClass_c 27 _).mono ?_
  rintro e w1 ⟨rfl, hb⟩
  rw [hcl]
  have HB := Lib.hid hb
  clear hb hcl
  go_wp2_with fail
  refine (refNames4_c _).mono ?_
  rintro e w2 ⟨rfl, rfl⟩
  have c : _ = some (Value.string ⟨#[97, 110, 100, 105]⟩) := names4_cell w1 27 (by omega)
  have HB2 := Lib.hid (HB.out.alloc HB.out.size (.cells (Tab.names4.map strV).toArray 9))
  generalize (w1.alloc (.cells (Tab.names4.map strV).toArray 9)) = W at *
  go_wp2_with fail
  go_ret
  exact ⟨ret_s (by decide +kernel), HB2.out⟩
set_option maxHeartbeats 2000000 in
theorem refName_28 (w : World) : Calls Try.prog 38 #[.int .i64 28] w fun e w' => e = .returned (.string ⟨#[115, 108, 108]⟩) ∧ Below w.heap.size w w' := by
  have hcl : classS 28 = 1 := by decide +kernel
  go_enter Try.func38, Try.ntmps38
  go_wp2_with fail
  refine (refClass_c 28 _).mono ?_
  rintro e w1 ⟨rfl, hb⟩
  rw [hcl]
  have HB := Lib.hid hb
  clear hb hcl
  go_wp2_with fail
  refine (refNames4_c _).mono ?_
  rintro e w2 ⟨rfl, rfl⟩
  have c : _ = some (Value.string ⟨#[115, 108, 108, 105]⟩) := names4_cell w1 28 (by omega)
  have HB2 := Lib.hid (HB.out.alloc HB.out.size (.cells (Tab.names4.map strV).toArray 9))
  generalize (w1.alloc (.cells (Tab.names4.map strV).toArray 9)) = W at *
  go_wp2_with fail
  go_ret
  exact ⟨ret_s (by decide +kernel), HB2.out⟩
set_option maxHeartbeats 2000000 in
theorem refName_29 (w : World) : Calls Try.prog 38 #[.int .i64 29] w fun e w' => e = .returned (.string ⟨#[115, 114, 108]⟩) ∧ Below w.heap.size w w' := by
  have hcl : classS 29 = 1 := by decide +kernel
  go_enter Try.func38, Try.ntmps38
  go_wp2_with fail
  refine (refClass_c 29 _).mono ?_
  rintro e w1 ⟨rfl, hb⟩
  rw [hcl]
  have HB := Lib.hid hb
  clear hb hcl
  go_wp2_with fail
  refine (refNames4_c _).mono ?_
  rintro e w2 ⟨rfl, rfl⟩
  have c : _ = some (Value.string ⟨#[115, 114, 108, 105]⟩) := names4_cell w1 29 (by omega)
  have HB2 := Lib.hid (HB.out.alloc HB.out.size (.cells (Tab.names4.map strV).toArray 9))
  generalize (w1.alloc (.cells (Tab.names4.map strV).toArray 9)) = W at *
  go_wp2_with fail
  go_ret
  exact ⟨ret_s (by decide +kernel), HB2.out⟩
set_option maxHeartbeats 2000000 in
theorem refName_30 (w : World) : Calls Try.prog 38 #[.int .i64 30] w fun e w' => e = .returned (.string ⟨#[115, 114, 97]⟩) ∧ Below w.heap.size w w' := by
  have hcl : classS 30 = 1 := by decide +kernel
  go_enter Try.func38, Try.ntmps38
  go_wp2_with fail
  refine (refClass_c 30 _).mono ?_
  rintro e w1 ⟨rfl, hb⟩
  rw [hcl]
  have HB := Lib.hid hb
  clear hb hcl
  go_wp2_with fail
  refine (refNames4_c _).mono ?_
  rintro e w2 ⟨rfl, rfl⟩
  have c : _ = some (Value.string ⟨#[115, 114, 97, 105]⟩) := names4_cell w1 30 (by omega)
  have HB2 := Lib.hid (HB.out.alloc HB.out.size (.cells (Tab.names4.map strV).toArray 9))
  generalize (w1.alloc (.cells (Tab.names4.map strV).toArray 9)) = W at *
  go_wp2_with fail
  go_ret
  exact ⟨ret_s (by decide +kernel), HB2.out⟩
set_option maxHeartbeats 2000000 in
theorem refName_31 (w : World) : Calls Try.prog 38 #[.int .i64 31] w fun e w' => e = .returned (.string ⟨#[97, 100, 100]⟩) ∧ Below w.heap.size w w' := by
  have hcl : classS 31 = 1 := by decide +kernel
  go_enter Try.func38, Try.ntmps38
  go_wp2_with fail
  refine (refClass_c 31 _).mono ?_
  rintro e w1 ⟨rfl, hb⟩
  rw [hcl]
  have HB := Lib.hid hb
  clear hb hcl
  go_wp2_with fail
  refine (refNames4_c _).mono ?_
  rintro e w2 ⟨rfl, rfl⟩
  have c : _ = some (Value.string ⟨#[97, 100, 100]⟩) := names4_cell w1 31 (by omega)
  have HB2 := Lib.hid (HB.out.alloc HB.out.size (.cells (Tab.names4.map strV).toArray 9))
  generalize (w1.alloc (.cells (Tab.names4.map strV).toArray 9)) = W at *
  go_wp2_with fail
  go_ret
  exact ⟨ret_s (by decide +kernel), HB2.out⟩
set_option maxHeartbeats 2000000 in
theorem refName_32 (w : World) : Calls Try.prog 38 #[.int .i64 32] w fun e w' => e = .returned (.string ⟨#[115, 117, 98]⟩) ∧ Below w.heap.size w w' := by
  have hcl : classS 32 = 1 := by decide +kernel
  go_enter Try.func38, Try.ntmps38
  go_wp2_with fail
  refine (refClass_c 32 _).mono ?_
  rintro e w1 ⟨rfl, hb⟩
  rw [hcl]
  have HB := Lib.hid hb
  clear hb hcl
  go_wp2_with fail
  refine (refNames4_c _).mono ?_
  rintro e w2 ⟨rfl, rfl⟩
  have c : _ = some (Value.string ⟨#[115, 117, 98]⟩) := names4_cell w1 32 (by omega)
  have HB2 := Lib.hid (HB.out.alloc HB.out.size (.cells (Tab.names4.map strV).toArray 9))
  generalize (w1.alloc (.cells (Tab.names4.map strV).toArray 9)) = W at *
  go_wp2_with fail
  go_ret
  exact ⟨ret_s (by decide +kernel), HB2.out⟩
set_option maxHeartbeats 2000000 in
theorem refName_33 (w : World) : Calls Try.prog 38 #[.int .i64 33] w fun e w' => e = .returned (.string ⟨#[115, 108, 108]⟩) ∧ Below w.heap.size w w' := by
  have hcl : classS 33 = 1 := by decide +kernel
  go_enter Try.func38, Try.ntmps38
  go_wp2_with fail
  refine (refClass_c 33 _).mono ?_
  rintro e w1 ⟨rfl, hb⟩
  rw [hcl]
  have HB := Lib.hid hb
  clear hb hcl
  go_wp2_with fail
  refine (refNames4_c _).mono ?_
  rintro e w2 ⟨rfl, rfl⟩
  have c : _ = some (Value.string ⟨#[115, 108, 108]⟩) := names4_cell w1 33 (by omega)
  have HB2 := Lib.hid (HB.out.alloc HB.out.size (.cells (Tab.names4.map strV).toArray 9))
  generalize (w1.alloc (.cells (Tab.names4.map strV).toArray 9)) = W at *
  go_wp2_with fail
  go_ret
  exact ⟨ret_s (by decide +kernel), HB2.out⟩
set_option maxHeartbeats 2000000 in
theorem refName_34 (w : World) : Calls Try.prog 38 #[.int .i64 34] w fun e w' => e = .returned (.string ⟨#[115, 108, 116]⟩) ∧ Below w.heap.size w w' := by
  have hcl : classS 34 = 1 := by decide +kernel
  go_enter Try.func38, Try.ntmps38
  go_wp2_with fail
  refine (refClass_c 34 _).mono ?_
  rintro e w1 ⟨rfl, hb⟩
  rw [hcl]
  have HB := Lib.hid hb
  clear hb hcl
  go_wp2_with fail
  refine (refNames4_c _).mono ?_
  rintro e w2 ⟨rfl, rfl⟩
  have c : _ = some (Value.string ⟨#[115, 108, 116]⟩) := names4_cell w1 34 (by omega)
  have HB2 := Lib.hid (HB.out.alloc HB.out.size (.cells (Tab.names4.map strV).toArray 9))
  generalize (w1.alloc (.cells (Tab.names4.map strV).toArray 9)) = W at *
  go_wp2_with fail
  go_ret
  exact ⟨ret_s (by decide +kernel), HB2.out⟩
set_option maxHeartbeats 2000000 in
theorem refName_35 (w : World) : Calls Try.prog 38 #[.int .i64 35] w fun e w' => e = .returned (.string ⟨#[115, 108, 116, 117]⟩) ∧ Below w.heap.size w w' := by
  have hcl : classS 35 = 1 := by decide +kernel
  go_enter Try.func38, Try.ntmps38
  go_wp2_with fail
  refine (refClass_c 35 _).mono ?_
  rintro e w1 ⟨rfl, hb⟩
  rw [hcl]
  have HB := Lib.hid hb
  clear hb hcl
  go_wp2_with fail
  refine (refNames4_c _).mono ?_
  rintro e w2 ⟨rfl, rfl⟩
  have c : _ = some (Value.string ⟨#[115, 108, 116, 117]⟩) := names4_cell w1 35 (by omega)
  have HB2 := Lib.hid (HB.out.alloc HB.out.size (.cells (Tab.names4.map strV).toArray 9))
  generalize (w1.alloc (.cells (Tab.names4.map strV).toArray 9)) = W at *
  go_wp2_with fail
  go_ret
  exact ⟨ret_s (by decide +kernel), HB2.out⟩
set_option maxHeartbeats 2000000 in
theorem refName_36 (w : World) : Calls Try.prog 38 #[.int .i64 36] w fun e w' => e = .returned (.string ⟨#[120, 111, 114]⟩) ∧ Below w.heap.size w w' := by
  have hcl : classS 36 = 1 := by decide +kernel
  go_enter Try.func38, Try.ntmps38
  go_wp2_with fail
  refine (refClass_c 36 _).mono ?_
  rintro e w1 ⟨rfl, hb⟩
  rw [hcl]
  have HB := Lib.hid hb
  clear hb hcl
  go_wp2_with fail
  refine (refNames4_c _).mono ?_
  rintro e w2 ⟨rfl, rfl⟩
  have c : _ = some (Value.string ⟨#[120, 111, 114]⟩) := names4_cell w1 36 (by omega)
  have HB2 := Lib.hid (HB.out.alloc HB.out.size (.cells (Tab.names4.map strV).toArray 9))
  generalize (w1.alloc (.cells (Tab.names4.map strV).toArray 9)) = W at *
  go_wp2_with fail
  go_ret
  exact ⟨ret_s (by decide +kernel), HB2.out⟩
set_option maxHeartbeats 2000000 in
theorem refName_37 (w : World) : Calls Try.prog 38 #[.int .i64 37] w fun e w' => e = .returned (.string ⟨#[115, 114, 108]⟩) ∧ Below w.heap.size w w' := by
  have hcl : classS 37 = 1 := by decide +kernel
  go_enter Try.func38, Try.ntmps38
  go_wp2_with fail
  refine (refClass_c 37 _).mono ?_
  rintro e w1 ⟨rfl, hb⟩
  rw [hcl]
  have HB := Lib.hid hb
  clear hb hcl
  go_wp2_with fail
  refine (refNames4_c _).mono ?_
  rintro e w2 ⟨rfl, rfl⟩
  have c : _ = some (Value.string ⟨#[115, 114, 108]⟩) := names4_cell w1 37 (by omega)
  have HB2 := Lib.hid (HB.out.alloc HB.out.size (.cells (Tab.names4.map strV).toArray 9))
  generalize (w1.alloc (.cells (Tab.names4.map strV).toArray 9)) = W at *
  go_wp2_with fail
  go_ret
  exact ⟨ret_s (by decide +kernel), HB2.out⟩
set_option maxHeartbeats 2000000 in
theorem refName_38 (w : World) : Calls Try.prog 38 #[.int .i64 38] w fun e w' => e = .returned (.string ⟨#[115, 114, 97]⟩) ∧ Below w.heap.size w w' := by
  have hcl : classS 38 = 1 := by decide +kernel
  go_enter Try.func38, Try.ntmps38
  go_wp2_with fail
  refine (refClass_c 38 _).mono ?_
  rintro e w1 ⟨rfl, hb⟩
  rw [hcl]
  have HB := Lib.hid hb
  clear hb hcl
  go_wp2_with fail
  refine (refNames4_c _).mono ?_
  rintro e w2 ⟨rfl, rfl⟩
  have c : _ = some (Value.string ⟨#[115, 114, 97]⟩) := names4_cell w1 38 (by omega)
  have HB2 := Lib.hid (HB.out.alloc HB.out.size (.cells (Tab.names4.map strV).toArray 9))
  generalize (w1.alloc (.cells (Tab.names4.map strV).toArray 9)) = W at *
  go_wp2_with fail
  go_ret
  exact ⟨ret_s (by decide +kernel), HB2.out⟩
set_option maxHeartbeats 2000000 in
theorem refName_39 (w : World) : Calls Try.prog 38 #[.int .i64 39] w fun e w' => e = .returned (.string ⟨#[111, 114]⟩) ∧ Below w.heap.size w w' := by
  have hcl : classS 39 = 1 := by decide +kernel
  go_enter Try.func38, Try.ntmps38
  go_wp2_with fail
  refine (refClass_c 39 _).mono ?_
  rintro e w1 ⟨rfl, hb⟩
  rw [hcl]
  have HB := Lib.hid hb
  clear hb hcl
  go_wp2_with fail
  refine (refNames4_c _).mono ?_
  rintro e w2 ⟨rfl, rfl⟩
  have c : _ = some (Value.string ⟨#[111, 114]⟩) := names4_cell w1 39 (by omega)
  have HB2 := Lib.hid (HB.out.alloc HB.out.size (.cells (Tab.names4.map strV).toArray 9))
  generalize (w1.alloc (.cells (Tab.names4.map strV).toArray 9)) = W at *
  go_wp2_with fail
  go_ret
  exact ⟨ret_s (by decide +kernel), HB2.out⟩
set_option maxHeartbeats 2000000 in
theorem refName_40 (w : World) : Calls Try.prog 38 #[.int .i64 40] w fun e w' => e = .returned (.string ⟨#[97, 110, 100]⟩) ∧ Below w.heap.size w w' := by
  have hcl : classS 40 = 1 := by decide +kernel
  go_enter Try.func38, Try.ntmps38
  go_wp2_with fail
  refine (refClass_c 40 _).mono ?_
  rintro e w1 ⟨rfl, hb⟩
  rw [hcl]
  have HB := Lib.hid hb
  clear hb hcl
  go_wp2_with fail
  refine (refNames4_c _).mono ?_
  rintro e w2 ⟨rfl, rfl⟩
  have c : _ = some (Value.string ⟨#[97, 110, 100]⟩) := names4_cell w1 40 (by omega)
  have HB2 := Lib.hid (HB.out.alloc HB.out.size (.cells (Tab.names4.map strV).toArray 9))
  generalize (w1.alloc (.cells (Tab.names4.map strV).toArray 9)) = W at *
  go_wp2_with fail
  go_ret
  exact ⟨ret_s (by decide +kernel), HB2.out⟩
set_option maxHeartbeats 2000000 in
theorem refName_41 (w : World) : Calls Try.prog 38 #[.int .i64 41] w fun e w' => e = .returned (.string ⟨#[97, 100, 100, 119]⟩) ∧ Below w.heap.size w w' := by
  have hcl : classS 41 = 1 := by decide +kernel
  go_enter Try.func38, Try.ntmps38
  go_wp2_with fail
  refine (refClass_c 41 _).mono ?_
  rintro e w1 ⟨rfl, hb⟩
  rw [hcl]
  have HB := Lib.hid hb
  clear hb hcl
  go_wp2_with fail
  refine (refNames4_c _).mono ?_
  rintro e w2 ⟨rfl, rfl⟩
  have c : _ = some (Value.string ⟨#[97, 100, 100, 105, 119]⟩) := names4_cell w1 41 (by omega)
  have HB2 := Lib.hid (HB.out.alloc HB.out.size (.cells (Tab.names4.map strV).toArray 9))
  generalize (w1.alloc (.cells (Tab.names4.map strV).toArray 9)) = W at *
  go_wp2_with fail
  go_ret
  exact ⟨ret_s (by decide +kernel), HB2.out⟩
set_option maxHeartbeats 2000000 in
theorem refName_42 (w : World) : Calls Try.prog 38 #[.int .i64 42] w fun e w' => e = .returned (.string ⟨#[115, 108, 108, 119]⟩) ∧ Below w.heap.size w w' := by
  have hcl : classS 42 = 1 := by decide +kernel
  go_enter Try.func38, Try.ntmps38
  go_wp2_with fail
  refine (refClass_c 42 _).mono ?_
  rintro e w1 ⟨rfl, hb⟩
  rw [hcl]
  have HB := Lib.hid hb
  clear hb hcl
  go_wp2_with fail
  refine (refNames4_c _).mono ?_
  rintro e w2 ⟨rfl, rfl⟩
  have c : _ = some (Value.string ⟨#[115, 108, 108, 105, 119]⟩) := names4_cell w1 42 (by omega)
  have HB2 := Lib.hid (HB.out.alloc HB.out.size (.cells (Tab.names4.map strV).toArray 9))
  generalize (w1.alloc (.cells (Tab.names4.map strV).toArray 9)) = W at *
  go_wp2_with fail
  go_ret
  exact ⟨ret_s (by decide +kernel), HB2.out⟩
set_option maxHeartbeats 2000000 in
theorem refName_43 (w : World) : Calls Try.prog 38 #[.int .i64 43] w fun e w' => e = .returned (.string ⟨#[115, 114, 108, 119]⟩) ∧ Below w.heap.size w w' := by
  have hcl : classS 43 = 1 := by decide +kernel
  go_enter Try.func38, Try.ntmps38
  go_wp2_with fail
  refine (refClass_c 43 _).mono ?_
  rintro e w1 ⟨rfl, hb⟩
  rw [hcl]
  have HB := Lib.hid hb
  clear hb hcl
  go_wp2_with fail
  refine (refNames4_c _).mono ?_
  rintro e w2 ⟨rfl, rfl⟩
  have c : _ = some (Value.string ⟨#[115, 114, 108, 105, 119]⟩) := names4_cell w1 43 (by omega)
  have HB2 := Lib.hid (HB.out.alloc HB.out.size (.cells (Tab.names4.map strV).toArray 9))
  generalize (w1.alloc (.cells (Tab.names4.map strV).toArray 9)) = W at *
  go_wp2_with fail
  go_ret
  exact ⟨ret_s (by decide +kernel), HB2.out⟩
set_option maxHeartbeats 2000000 in
theorem refName_44 (w : World) : Calls Try.prog 38 #[.int .i64 44] w fun e w' => e = .returned (.string ⟨#[115, 114, 97, 119]⟩) ∧ Below w.heap.size w w' := by
  have hcl : classS 44 = 1 := by decide +kernel
  go_enter Try.func38, Try.ntmps38
  go_wp2_with fail
  refine (refClass_c 44 _).mono ?_
  rintro e w1 ⟨rfl, hb⟩
  rw [hcl]
  have HB := Lib.hid hb
  clear hb hcl
  go_wp2_with fail
  refine (refNames4_c _).mono ?_
  rintro e w2 ⟨rfl, rfl⟩
  have c : _ = some (Value.string ⟨#[115, 114, 97, 105, 119]⟩) := names4_cell w1 44 (by omega)
  have HB2 := Lib.hid (HB.out.alloc HB.out.size (.cells (Tab.names4.map strV).toArray 9))
  generalize (w1.alloc (.cells (Tab.names4.map strV).toArray 9)) = W at *
  go_wp2_with fail
  go_ret
  exact ⟨ret_s (by decide +kernel), HB2.out⟩
set_option maxHeartbeats 2000000 in
theorem refName_45 (w : World) : Calls Try.prog 38 #[.int .i64 45] w fun e w' => e = .returned (.string ⟨#[97, 100, 100, 119]⟩) ∧ Below w.heap.size w w' := by
  have hcl : classS 45 = 1 := by decide +kernel
  go_enter Try.func38, Try.ntmps38
  go_wp2_with fail
  refine (refClass_c 45 _).mono ?_
  rintro e w1 ⟨rfl, hb⟩
  rw [hcl]
  have HB := Lib.hid hb
  clear hb hcl
  go_wp2_with fail
  refine (refNames4_c _).mono ?_
  rintro e w2 ⟨rfl, rfl⟩
  have c : _ = some (Value.string ⟨#[97, 100, 100, 119]⟩) := names4_cell w1 45 (by omega)
  have HB2 := Lib.hid (HB.out.alloc HB.out.size (.cells (Tab.names4.map strV).toArray 9))
  generalize (w1.alloc (.cells (Tab.names4.map strV).toArray 9)) = W at *
  go_wp2_with fail
  go_ret
  exact ⟨ret_s (by decide +kernel), HB2.out⟩
set_option maxHeartbeats 2000000 in
theorem refName_46 (w : World) : Calls Try.prog 38 #[.int .i64 46] w fun e w' => e = .returned (.string ⟨#[115, 117, 98, 119]⟩) ∧ Below w.heap.size w w' := by
  have hcl : classS 46 = 1 := by decide +kernel
  go_enter Try.func38, Try.ntmps38
  go_wp2_with fail
  refine (refClass_c 46 _).mono ?_
  rintro e w1 ⟨rfl, hb⟩
  rw [hcl]
  have HB := Lib.hid hb
  clear hb hcl
  go_wp2_with fail
  refine (refNames4_c _).mono ?_
  rintro e w2 ⟨rfl, rfl⟩
  have c : _ = some (Value.string ⟨#[115, 117, 98, 119]⟩) := names4_cell w1 46 (by omega)
  have HB2 := Lib.hid (HB.out.alloc HB.out.size (.cells (Tab.names4.map strV).toArray 9))
  generalize (w1.alloc (.cells (Tab.names4.map strV).toArray 9)) = W at *
  go_wp2_with fail
  go_ret
  exact ⟨ret_s (by decide +kernel), HB2.out⟩
set_option maxHeartbeats 2000000 in
theorem refName_47 (w : World) : Calls Try.prog 38 #[.int .i64 47] w fun e w' => e = .returned (.string ⟨#[115, 108, 108, 119]⟩) ∧ Below w.heap.size w w' := by
  have hcl : classS 47 = 1 := by decide +kernel
  go_enter Try.func38, Try.ntmps38
  go_wp2_with fail
  refine (refClass_c 47 _).mono ?_
  rintro e w1 ⟨rfl, hb⟩
  rw [hcl]
  have HB := Lib.hid hb
  clear hb hcl
  go_wp2_with fail
  refine (refNames4_c _).mono ?_
  rintro e w2 ⟨rfl, rfl⟩
  have c : _ = some (Value.string ⟨#[115, 108, 108, 119]⟩) := names4_cell w1 47 (by omega)
  have HB2 := Lib.hid (HB.out.alloc HB.out.size (.cells (Tab.names4.map strV).toArray 9))
  generalize (w1.alloc (.cells (Tab.names4.map strV).toArray 9)) = W at *
  go_wp2_with fail
  go_ret
  exact ⟨ret_s (by decide +kernel), HB2.out⟩
set_option maxHeartbeats 2000000 in
theorem refName_48 (w : World) : Calls Try.prog 38 #[.int .i64 48] w fun e w' => e = .returned (.string ⟨#[115, 114, 108, 119]⟩) ∧ Below w.heap.size w w' := by
  have hcl : classS 48 = 1 := by decide +kernel
  go_enter Try.func38, Try.ntmps38
  go_wp2_with fail
  refine (refClass_c 48 _).mono ?_
  rintro e w1 ⟨rfl, hb⟩
  rw [hcl]
  have HB := Lib.hid hb
  clear hb hcl
  go_wp2_with fail
  refine (refNames4_c _).mono ?_
  rintro e w2 ⟨rfl, rfl⟩
  have c : _ = some (Value.string ⟨#[115, 114, 108, 119]⟩) := names4_cell w1 48 (by omega)
  have HB2 := Lib.hid (HB.out.alloc HB.out.size (.cells (Tab.names4.map strV).toArray 9))
  generalize (w1.alloc (.cells (Tab.names4.map strV).toArray 9)) = W at *
  go_wp2_with fail
  go_ret
  exact ⟨ret_s (by decide +kernel), HB2.out⟩
set_option maxHeartbeats 2000000 in
theorem refName_49 (w : World) : Calls Try.prog 38 #[.int .i64 49] w fun e w' => e = .returned (.string ⟨#[115, 114, 97, 119]⟩) ∧ Below w.heap.size w w' := by
  have hcl : classS 49 = 1 := by decide +kernel
  go_enter Try.func38, Try.ntmps38
  go_wp2_with fail
  refine (refClass_c 49 _).mono ?_
  rintro e w1 ⟨rfl, hb⟩
  rw [hcl]
  have HB := Lib.hid hb
  clear hb hcl
  go_wp2_with fail
  refine (refNames4_c _).mono ?_
  rintro e w2 ⟨rfl, rfl⟩
  have c : _ = some (Value.string ⟨#[115, 114, 97, 119]⟩) := names4_cell w1 49 (by omega)
  have HB2 := Lib.hid (HB.out.alloc HB.out.size (.cells (Tab.names4.map strV).toArray 9))
  generalize (w1.alloc (.cells (Tab.names4.map strV).toArray 9)) = W at *
  go_wp2_with fail
  go_ret
  exact ⟨ret_s (by decide +kernel), HB2.out⟩
set_option maxHeartbeats 2000000 in
theorem refName_54 (w : World) : Calls Try.prog 38 #[.int .i64 54] w fun e w' => e = .returned (.string ⟨#[109, 117, 108]⟩) ∧ Below w.heap.size w w' := by
  have hcl : classS 54 = 1 := by decide +kernel
  go_enter Try.func38, Try.ntmps38
  go_wp2_with fail
  refine (refClass_c 54 _).mono ?_
  rintro e w1 ⟨rfl, hb⟩
  rw [hcl]
  have HB := Lib.hid hb
  clear hb hcl
  go_wp2_with fail
  refine (refNames4_c _).mono ?_
  rintro e w2 ⟨rfl, rfl⟩
  have c : _ = some (Value.string ⟨#[109, 117, 108]⟩) := names4_cell w1 54 (by omega)
  have HB2 := Lib.hid (HB.out.alloc HB.out.size (.cells (Tab.names4.map strV).toArray 9))
  generalize (w1.alloc (.cells (Tab.names4.map strV).toArray 9)) = W at *
  go_wp2_with fail
  go_ret
  exact ⟨ret_s (by decide +kernel), HB2.out⟩
set_option maxHeartbeats 2000000 in
theorem refName_55 (w : World) : Calls Try.prog 38 #[.int .i64 55] w fun e w' => e = .returned (.string ⟨#[109, 117, 108, 104]⟩) ∧ Below w.heap.size w w' := by
  have hcl : classS 55 = 1 := by decide +kernel
  go_enter Try.func38, Try.ntmps38
  go_wp2_with fail
  refine (refClass_c 55 _).mono ?_
  rintro e w1 ⟨rfl, hb⟩
  rw [hcl]
  have HB := Lib.hid hb
  clear hb hcl
  go_wp2_with fail
  refine (refNames4_c _).mono ?_
  rintro e w2 ⟨rfl, rfl⟩
  have c : _ = some (Value.string ⟨#[109, 117, 108, 104]⟩) := names4_cell w1 55 (by omega)
  have HB2 := Lib.hid (HB.out.alloc HB.out.size (.cells (Tab.names4.map strV).toArray 9))
  generalize (w1.alloc (.cells (Tab.names4.map strV).toArray 9)) = W at *
  go_wp2_with fail
  go_ret
  exact ⟨ret_s (by decide +kernel), HB2.out⟩
set_option maxHeartbeats 2000000 in
theorem refName_56 (w : World) : Calls Try.prog 38 #[.int .i64 56] w fun e w' => e = .returned (.string ⟨#[109, 117, 108, 104, 115, 117]⟩) ∧ Below w.heap.size w w' := by
  have hcl : classS 56 = 1 := by decide +kernel
  go_enter Try.func38, Try.ntmps38
  go_wp2_with fail
  refine (refClass_c 56 _).mono ?_
  rintro e w1 ⟨rfl, hb⟩
  rw [hcl]
  have HB := Lib.hid hb
  clear hb hcl
  go_wp2_with fail
  refine (refNames4_c _).mono ?_
  rintro e w2 ⟨rfl, rfl⟩
  have c : _ = some (Value.string ⟨#[109, 117, 108, 104, 115, 117]⟩) := names4_cell w1 56 (by omega)
  have HB2 := Lib.hid (HB.out.alloc HB.out.size (.cells (Tab.names4.map strV).toArray 9))
  generalize (w1.alloc (.cells (Tab.names4.map strV).toArray 9)) = W at *
  go_wp2_with fail
  go_ret
  exact ⟨ret_s (by decide +kernel), HB2.out⟩
set_option maxHeartbeats 2000000 in
theorem refName_57 (w : World) : Calls Try.prog 38 #[.int .i64 57] w fun e w' => e = .returned (.string ⟨#[109, 117, 108, 104, 117]⟩) ∧ Below w.heap.size w w' := by
  have hcl : classS 57 = 1 := by decide +kernel
  go_enter Try.func38, Try.ntmps38
  go_wp2_with fail
  refine (refClass_c 57 _).mono ?_
  rintro e w1 ⟨rfl, hb⟩
  rw [hcl]
  have HB := Lib.hid hb
  clear hb hcl
  go_wp2_with fail
  refine (refNames4_c _).mono ?_
  rintro e w2 ⟨rfl, rfl⟩
  have c : _ = some (Value.string ⟨#[109, 117, 108, 104, 117]⟩) := names4_cell w1 57 (by omega)
  have HB2 := Lib.hid (HB.out.alloc HB.out.size (.cells (Tab.names4.map strV).toArray 9))
  generalize (w1.alloc (.cells (Tab.names4.map strV).toArray 9)) = W at *
  go_wp2_with fail
  go_ret
  exact ⟨ret_s (by decide +kernel), HB2.out⟩
set_option maxHeartbeats 2000000 in
theorem refName_58 (w : World) : Calls Try.prog 38 #[.int .i64 58] w fun e w' => e = .returned (.string ⟨#[100, 105, 118]⟩) ∧ Below w.heap.size w w' := by
  have hcl : classS 58 = 1 := by decide +kernel
  go_enter Try.func38, Try.ntmps38
  go_wp2_with fail
  refine (refClass_c 58 _).mono ?_
  rintro e w1 ⟨rfl, hb⟩
  rw [hcl]
  have HB := Lib.hid hb
  clear hb hcl
  go_wp2_with fail
  refine (refNames4_c _).mono ?_
  rintro e w2 ⟨rfl, rfl⟩
  have c : _ = some (Value.string ⟨#[100, 105, 118]⟩) := names4_cell w1 58 (by omega)
  have HB2 := Lib.hid (HB.out.alloc HB.out.size (.cells (Tab.names4.map strV).toArray 9))
  generalize (w1.alloc (.cells (Tab.names4.map strV).toArray 9)) = W at *
  go_wp2_with fail
  go_ret
  exact ⟨ret_s (by decide +kernel), HB2.out⟩
set_option maxHeartbeats 2000000 in
theorem refName_59 (w : World) : Calls Try.prog 38 #[.int .i64 59] w fun e w' => e = .returned (.string ⟨#[100, 105, 118, 117]⟩) ∧ Below w.heap.size w w' := by
  have hcl : classS 59 = 1 := by decide +kernel
  go_enter Try.func38, Try.ntmps38
  go_wp2_with fail
  refine (refClass_c 59 _).mono ?_
  rintro e w1 ⟨rfl, hb⟩
  rw [hcl]
  have HB := Lib.hid hb
  clear hb hcl
  go_wp2_with fail
  refine (refNames4_c _).mono ?_
  rintro e w2 ⟨rfl, rfl⟩
  have c : _ = some (Value.string ⟨#[100, 105, 118, 117]⟩) := names4_cell w1 59 (by omega)
  have HB2 := Lib.hid (HB.out.alloc HB.out.size (.cells (Tab.names4.map strV).toArray 9))
  generalize (w1.alloc (.cells (Tab.names4.map strV).toArray 9)) = W at *
  go_wp2_with fail
  go_ret
  exact ⟨ret_s (by decide +kernel), HB2.out⟩
set_option maxHeartbeats 2000000 in
theorem refName_60 (w : World) : Calls Try.prog 38 #[.int .i64 60] w fun e w' => e = .returned (.string ⟨#[114, 101, 109]⟩) ∧ Below w.heap.size w w' := by
  have hcl : classS 60 = 1 := by decide +kernel
  go_enter Try.func38, Try.ntmps38
  go_wp2_with fail
  refine (refClass_c 60 _).mono ?_
  rintro e w1 ⟨rfl, hb⟩
  rw [hcl]
  have HB := Lib.hid hb
  clear hb hcl
  go_wp2_with fail
  refine (refNames4_c _).mono ?_
  rintro e w2 ⟨rfl, rfl⟩
  have c : _ = some (Value.string ⟨#[114, 101, 109]⟩) := names4_cell w1 60 (by omega)
  have HB2 := Lib.hid (HB.out.alloc HB.out.size (.cells (Tab.names4.map strV).toArray 9))
  generalize (w1.alloc (.cells (Tab.names4.map strV).toArray 9)) = W at *
  go_wp2_with fail
  go_ret
  exact ⟨ret_s (by decide +kernel), HB2.out⟩
set_option maxHeartbeats 2000000 in
theorem refName_61 (w : World) : Calls Try.prog 38 #[.int .i64 61] w fun e w' => e = .returned (.string ⟨#[114, 101, 109, 117]⟩) ∧ Below w.heap.size w w' := by
  have hcl : classS 61 = 1 := by decide +kernel
  go_enter Try.func38, Try.ntmps38
  go_wp2_with fail
  refine (refClass_c 61 _).mono ?_
  rintro e w1 ⟨rfl, hb⟩
  rw [hcl]
  have HB := Lib.hid hb
  clear hb hcl
  go_wp2_with fail
  refine (refNames4_c _).mono ?_
  rintro e w2 ⟨rfl, rfl⟩
  have c : _ = some (Value.string ⟨#[114, 101, 109, 117]⟩) := names4_cell w1 61 (by omega)
  have HB2 := Lib.hid (HB.out.alloc HB.out.size (.cells (Tab.names4.map strV).toArray 9))
  generalize (w1.alloc (.cells (Tab.names4.map strV).toArray 9)) = W at *
  go_wp2_with fail
  go_ret
  exact ⟨ret_s (by decide +kernel), HB2.out⟩
set_option maxHeartbeats 2000000 in
theorem refName_62 (w : World) : Calls Try.prog 38 #[.int .i64 62] w fun e w' => e = .returned (.string ⟨#[109, 117, 108, 119]⟩) ∧ Below w.heap.size w w' := by
  have hcl : classS 62 = 1 := by decide +kernel
  go_enter Try.func38, Try.ntmps38
  go_wp2_with fail
  refine (refClass_c 62 _).mono ?_
  rintro e w1 ⟨rfl, hb⟩
  rw [hcl]
  have HB := Lib.hid hb
  clear hb hcl
  go_wp2_with fail
  refine (refNames4_c _).mono ?_
  rintro e w2 ⟨rfl, rfl⟩
  have c : _ = some (Value.string ⟨#[109, 117, 108, 119]⟩) := names4_cell w1 62 (by omega)
  have HB2 := Lib.hid (HB.out.alloc HB.out.size (.cells (Tab.names4.map strV).toArray 9))
  generalize (w1.alloc (.cells (Tab.names4.map strV).toArray 9)) = W at *
  go_wp2_with fail
  go_ret
  exact ⟨ret_s (by decide +kernel), HB2.out⟩
set_option maxHeartbeats 2000000 in
theorem refName_63 (w : World) : Calls Try.prog 38 #[.int .i64 63] w fun e w' => e = .returned (.string ⟨#[100, 105, 118, 119]⟩) ∧ Below w.heap.size w w' := by
  have hcl : classS 63 = 1 := by decide +kernel
  go_enter Try.func38, Try.ntmps38
  go_wp2_with fail
  refine (refClass_c 63 _).mono ?_
  rintro e w1 ⟨rfl, hb⟩
  rw [hcl]
  have HB := Lib.hid hb
  clear hb hcl
  go_wp2_with fail
  refine (refNames4_c _).mono ?_
  rintro e w2 ⟨rfl, rfl⟩
  have c : _ = some (Value.string ⟨#[100, 105, 118, 119]⟩) := names4_cell w1 63 (by omega)
  have HB2 := Lib.hid (HB.out.alloc HB.out.size (.cells (Tab.names4.map strV).toArray 9))
  generalize (w1.alloc (.cells (Tab.names4.map strV).toArray 9)) = W at *
  go_wp2_with fail
  go_ret
  exact ⟨ret_s (by decide +kernel), HB2.out⟩
set_option maxHeartbeats 2000000 in
theorem refName_64 (w : World) : Calls Try.prog 38 #[.int .i64 64] w fun e w' => e = .returned (.string ⟨#[100, 105, 118, 117, 119]⟩) ∧ Below w.heap.size w w' := by
  have hcl : classS 64 = 1 := by decide +kernel
  go_enter Try.func38, Try.ntmps38
  go_wp2_with fail
  refine (refClass_c 64 _).mono ?_
  rintro e w1 ⟨rfl, hb⟩
  rw [hcl]
  have HB := Lib.hid hb
  clear hb hcl
  go_wp2_with fail
  refine (refNames4_c _).mono ?_
  rintro e w2 ⟨rfl, rfl⟩
  have c : _ = some (Value.string ⟨#[100, 105, 118, 117, 119]⟩) := names4_cell w1 64 (by omega)
  have HB2 := Lib.hid (HB.out.alloc HB.out.size (.cells (Tab.names4.map strV).toArray 9))
  generalize (w1.alloc (.cells (Tab.names4.map strV).toArray 9)) = W at *
  go_wp2_with fail
  go_ret
  exact ⟨ret_s (by decide +kernel), HB2.out⟩
set_option maxHeartbeats 2000000 in
theorem refName_65 (w : World) : Calls Try.prog 38 #[.int .i64 65] w fun e w' => e = .returned (.string ⟨#[114, 101, 109, 119]⟩) ∧ Below w.heap.size w w' := by
  have hcl : classS 65 = 1 := by decide +kernel
  go_enter Try.func38, Try.ntmps38
  go_wp2_with fail
  refine (refClass_c 65 _).mono ?_
  rintro e w1 ⟨rfl, hb⟩
  rw [hcl]
  have HB := Lib.hid hb
  clear hb hcl
  go_wp2_with fail
  refine (refNames4_c _).mono ?_
  rintro e w2 ⟨rfl, rfl⟩
  have c : _ = some (Value.string ⟨#[114, 101, 109, 119]⟩) := names4_cell w1 65 (by omega)
  have HB2 := Lib.hid (HB.out.alloc HB.out.size (.cells (Tab.names4.map strV).toArray 9))
  generalize (w1.alloc (.cells (Tab.names4.map strV).toArray 9)) = W at *
  go_wp2_with fail
  go_ret
  exact ⟨ret_s (by decide +kernel), HB2.out⟩
set_option maxHeartbeats 2000000 in
theorem refName_66 (w : World) : Calls Try.prog 38 #[.int .i64 66] w fun e w' => e = .returned (.string ⟨#[114, 101, 109, 117, 119]⟩) ∧ Below w.heap.size w w' := by
  have hcl : classS 66 = 1 := by decide +kernel
  go_enter Try.func38, Try.ntmps38
  go_wp2_with fail
  refine (refClass_c 66 _).mono ?_
  rintro e w1 ⟨rfl, hb⟩
  rw [hcl]
  have HB := Lib.hid hb
  clear hb hcl
  go_wp2_with fail
  refine (refNames4_c _).mono ?_
  rintro e w2 ⟨rfl, rfl⟩
  have c : _ = some (Value.string ⟨#[114, 101, 109, 117, 119]⟩) := names4_cell w1 66 (by omega)
  have HB2 := Lib.hid (HB.out.alloc HB.out.size (.cells (Tab.names4.map strV).toArray 9))
  generalize (w1.alloc (.cells (Tab.names4.map strV).toArray 9)) = W at *
  go_wp2_with fail
  go_ret
  exact ⟨ret_s (by decide +kernel), HB2.out⟩
set_option maxHeartbeats 2000000 in
theorem refName_no (op : Int) (h : classS op ≠ 1) (w : World) : Calls Try.prog 38 #[.int .i64 op] w fun e w' => e = .returned (.string ⟨#[]⟩) ∧ Below w.heap.size w w' := by
  have e1 : (classS op == 1) = false := by simpa using h
  go_enter Try.func38, Try.ntmps38
  go_wp2_with fail
  refine (refClass_c op _).mono ?_
  rintro e w1 ⟨rfl, hb⟩
  have HB := Lib.hid hb
  clear hb
  go_wp2_with fail
  go_ret
  exact ⟨rfl, HB.out⟩
end Go.Proofs.Ytgfdielipbcfeaa
