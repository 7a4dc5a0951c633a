/-
  Contracts of the reference of layer 8: word, Is. Plain numbers, no program: what the reference of layer 8 reckons is what package amo reckons. Contracts of the reference's Do (layer 8), op by op.
-/
import Derived.Test.YtjeolfcefeglpabGreatXat
import Derived.Test.YtjeolfcefeglpabGreatXaq
set_option maxRecDepth 20000
namespace Go.Proofs.YtjeolfcefeglpabGreat
open Go.ChangeShapes Go.WideShapes Go.ChangeAt Go.RowKit Wd

set_option maxHeartbeats 2000000 in
theorem refWord_67 (w : World) : Calls Tryz.prog 91 #[.int .i64 67] w fun e w' => e = .returned (.string ⟨#[108, 114]⟩) ∧ Below w.heap.size w w' := by
  have hcl : classS 67 = 7 := by decide +kernel
  go_enter Tryz.func91, Tryz.ntmps91
  go_wp2_with fail
  refine (refClass_c 67 _).mono ?_
  rintro e w1 ⟨rfl, hb⟩
  rw [hcl]
  have HB := Lib.hid hb
  clear hb hcl
  go_wp2_with fail
  refine (refNames4_c _).mono ?_
  rintro e w2 ⟨rfl, rfl⟩
  have c : _ = some (Value.string ⟨#[108, 114, 46, 119]⟩) := names4_cell w1 67 (by omega)
  have HB2 := Lib.hid (HB.out.alloc HB.out.size (.cells (Tab.names4.map strV).toArray 9))
  generalize (w1.alloc (.cells (Tab.names4.map strV).toArray 9)) = W at *
  go_wp2_with fail
  go_ret
  exact ⟨ret_s (by decide +kernel), HB2.out⟩
theorem refIs_67 (w : World) : Calls Tryz.prog 86 #[.int .i64 67] w fun e w' => e = .returned (.int .i64 2) ∧ Below w.heap.size w w' := by
  go_enter Tryz.func86, Tryz.ntmps86
  go_wp2_with fail
  refine (refWord_67 _).mono ?_
  rintro e w1 ⟨rfl, hb⟩
  have HB := Lib.hid hb
  clear hb
  go_wp2_with fail
  go_ret
  exact ⟨rfl, HB.out⟩
set_option maxHeartbeats 2000000 in
theorem refWord_68 (w : World) : Calls Tryz.prog 91 #[.int .i64 68] w fun e w' => e = .returned (.string ⟨#[115, 99]⟩) ∧ Below w.heap.size w w' := by
  have hcl : classS 68 = 7 := by decide +kernel
  go_enter Tryz.func91, Tryz.ntmps91
  go_wp2_with fail
  refine (refClass_c 68 _).mono ?_
  rintro e w1 ⟨rfl, hb⟩
  rw [hcl]
  have HB := Lib.hid hb
  clear hb hcl
  go_wp2_with fail
  refine (refNames4_c _).mono ?_
  rintro e w2 ⟨rfl, rfl⟩
  have c : _ = some (Value.string ⟨#[115, 99, 46, 119]⟩) := names4_cell w1 68 (by omega)
  have HB2 := Lib.hid (HB.out.alloc HB.out.size (.cells (Tab.names4.map strV).toArray 9))
  generalize (w1.alloc (.cells (Tab.names4.map strV).toArray 9)) = W at *
  go_wp2_with fail
  go_ret
  exact ⟨ret_s (by decide +kernel), HB2.out⟩
theorem refIs_68 (w : World) : Calls Tryz.prog 86 #[.int .i64 68] w fun e w' => e = .returned (.int .i64 3) ∧ Below w.heap.size w w' := by
  go_enter Tryz.func86, Tryz.ntmps86
  go_wp2_with fail
  refine (refWord_68 _).mono ?_
  rintro e w1 ⟨rfl, hb⟩
  have HB := Lib.hid hb
  clear hb
  go_wp2_with fail
  go_ret
  exact ⟨rfl, HB.out⟩
set_option maxHeartbeats 2000000 in
theorem refWord_69 (w : World) : Calls Tryz.prog 91 #[.int .i64 69] w fun e w' => e = .returned (.string ⟨#[97, 109, 111, 115, 119, 97, 112]⟩) ∧ Below w.heap.size w w' := by
  have hcl : classS 69 = 7 := by decide +kernel
  go_enter Tryz.func91, Tryz.ntmps91
  go_wp2_with fail
  refine (refClass_c 69 _).mono ?_
  rintro e w1 ⟨rfl, hb⟩
  rw [hcl]
  have HB := Lib.hid hb
  clear hb hcl
  go_wp2_with fail
  refine (refNames4_c _).mono ?_
  rintro e w2 ⟨rfl, rfl⟩
  have c : _ = some (Value.string ⟨#[97, 109, 111, 115, 119, 97, 112, 46, 119]⟩) := names4_cell w1 69 (by omega)
  have HB2 := Lib.hid (HB.out.alloc HB.out.size (.cells (Tab.names4.map strV).toArray 9))
  generalize (w1.alloc (.cells (Tab.names4.map strV).toArray 9)) = W at *
  go_wp2_with fail
  go_ret
  exact ⟨ret_s (by decide +kernel), HB2.out⟩
theorem refIs_69 (w : World) : Calls Tryz.prog 86 #[.int .i64 69] w fun e w' => e = .returned (.int .i64 1) ∧ Below w.heap.size w w' := by
  go_enter Tryz.func86, Tryz.ntmps86
  go_wp2_with fail
  refine (refWord_69 _).mono ?_
  rintro e w1 ⟨rfl, hb⟩
  have HB := Lib.hid hb
  clear hb
  go_wp2_with fail
  go_ret
  exact ⟨rfl, HB.out⟩
set_option maxHeartbeats 2000000 in
theorem refWord_70 (w : World) : Calls Tryz.prog 91 #[.int .i64 70] w fun e w' => e = .returned (.string ⟨#[97, 109, 111, 97, 100, 100]⟩) ∧ Below w.heap.size w w' := by
  have hcl : classS 70 = 7 := by decide +kernel
  go_enter Tryz.func91, Tryz.ntmps91
  go_wp2_with fail
  refine (refClass_c 70 _).mono ?_
  rintro e w1 ⟨rfl, hb⟩
  rw [hcl]
  have HB := Lib.hid hb
  clear hb hcl
  go_wp2_with fail
  refine (refNames4_c _).mono ?_
  rintro e w2 ⟨rfl, rfl⟩
  have c : _ = some (Value.string ⟨#[97, 109, 111, 97, 100, 100, 46, 119]⟩) := names4_cell w1 70 (by omega)
  have HB2 := Lib.hid (HB.out.alloc HB.out.size (.cells (Tab.names4.map strV).toArray 9))
  generalize (w1.alloc (.cells (Tab.names4.map strV).toArray 9)) = W at *
  go_wp2_with fail
  go_ret
  exact ⟨ret_s (by decide +kernel), HB2.out⟩
theorem refIs_70 (w : World) : Calls Tryz.prog 86 #[.int .i64 70] w fun e w' => e = .returned (.int .i64 1) ∧ Below w.heap.size w w' := by
  go_enter Tryz.func86, Tryz.ntmps86
  go_wp2_with fail
  refine (refWord_70 _).mono ?_
  rintro e w1 ⟨rfl, hb⟩
  have HB := Lib.hid hb
  clear hb
  go_wp2_with fail
  go_ret
  exact ⟨rfl, HB.out⟩
set_option maxHeartbeats 2000000 in
theorem refWord_71 (w : World) : Calls Tryz.prog 91 #[.int .i64 71] w fun e w' => e = .returned (.string ⟨#[97, 109, 111, 120, 111, 114]⟩) ∧ Below w.heap.size w w' := by
  have hcl : classS 71 = 7 := by decide +kernel
  go_enter Tryz.func91, Tryz.ntmps91
  go_wp2_with fail
  refine (refClass_c 71 _).mono ?_
  rintro e w1 ⟨rfl, hb⟩
  rw [hcl]
  have HB := Lib.hid hb
  clear hb hcl
  go_wp2_with fail
  refine (refNames4_c _).mono ?_
  rintro e w2 ⟨rfl, rfl⟩
  have c : _ = some (Value.string ⟨#[97, 109, 111, 120, 111, 114, 46, 119]⟩) := names4_cell w1 71 (by omega)
  have HB2 := Lib.hid (HB.out.alloc HB.out.size (.cells (Tab.names4.map strV).toArray 9))
  generalize (w1.alloc (.cells (Tab.names4.map strV).toArray 9)) = W at *
  go_wp2_with fail
  go_ret
  exact ⟨ret_s (by decide +kernel), HB2.out⟩
theorem refIs_71 (w : World) : Calls Tryz.prog 86 #[.int .i64 71] w fun e w' => e = .returned (.int .i64 1) ∧ Below w.heap.size w w' := by
  go_enter Tryz.func86, Tryz.ntmps86
  go_wp2_with fail
  refine (refWord_71 _).mono ?_
  rintro e w1 ⟨rfl, hb⟩
  have HB := Lib.hid hb
  clear hb
  go_wp2_with fail
  go_ret
  exact ⟨rfl, HB.out⟩
set_option maxHeartbeats 2000000 in
theorem refWord_72 (w : World) : Calls Tryz.prog 91 #[.int .i64 72] w fun e w' => e = .returned (.string ⟨#[97, 109, 111, 97, 110, 100]⟩) ∧ Below w.heap.size w w' := by
  have hcl : classS 72 = 7 := by decide +kernel
  go_enter Tryz.func91, Tryz.ntmps91
  go_wp2_with fail
  refine (refClass_c 72 _).mono ?_
  rintro e w1 ⟨rfl, hb⟩
  rw [hcl]
  have HB := Lib.hid hb
  clear hb hcl
  go_wp2_with fail
  refine (refNames4_c _).mono ?_
  rintro e w2 ⟨rfl, rfl⟩
  have c : _ = some (Value.string ⟨#[97, 109, 111, 97, 110, 100, 46, 119]⟩) := names4_cell w1 72 (by omega)
  have HB2 := Lib.hid (HB.out.alloc HB.out.size (.cells (Tab.names4.map strV).toArray 9))
  generalize (w1.alloc (.cells (Tab.names4.map strV).toArray 9)) = W at *
  go_wp2_with fail
  go_ret
  exact ⟨ret_s (by decide +kernel), HB2.out⟩
theorem refIs_72 (w : World) : Calls Tryz.prog 86 #[.int .i64 72] w fun e w' => e = .returned (.int .i64 1) ∧ Below w.heap.size w w' := by
  go_enter Tryz.func86, Tryz.ntmps86
  go_wp2_with fail
  refine (refWord_72 _).mono ?_
  rintro e w1 ⟨rfl, hb⟩
  have HB := Lib.hid hb
  clear hb
  go_wp2_with fail
  go_ret
  exact ⟨rfl, HB.out⟩
set_option maxHeartbeats 2000000 in
theorem refWord_73 (w : World) : Calls Tryz.prog 91 #[.int .i64 73] w fun e w' => e = .returned (.string ⟨#[97, 109, 111, 111, 114]⟩) ∧ Below w.heap.size w w' := by
  have hcl : classS 73 = 7 := by decide +kernel
  go_enter Tryz.func91, Tryz.ntmps91
  go_wp2_with fail
  refine (refClass_c 73 _).mono ?_
  rintro e w1 ⟨rfl, hb⟩
  rw [hcl]
  have HB := Lib.hid hb
  clear hb hcl
  go_wp2_with fail
  refine (refNames4_c _).mono ?_
  rintro e w2 ⟨rfl, rfl⟩
  have c : _ = some (Value.string ⟨#[97, 109, 111, 111, 114, 46, 119]⟩) := names4_cell w1 73 (by omega)
  have HB2 := Lib.hid (HB.out.alloc HB.out.size (.cells (Tab.names4.map strV).toArray 9))
  generalize (w1.alloc (.cells (Tab.names4.map strV).toArray 9)) = W at *
  go_wp2_with fail
  go_ret
  exact ⟨ret_s (by decide +kernel), HB2.out⟩
theorem refIs_73 (w : World) : Calls Tryz.prog 86 #[.int .i64 73] w fun e w' => e = .returned (.int .i64 1) ∧ Below w.heap.size w w' := by
  go_enter Tryz.func86, Tryz.ntmps86
  go_wp2_with fail
  refine (refWord_73 _).mono ?_
  rintro e w1 ⟨rfl, hb⟩
  have HB := Lib.hid hb
  clear hb
  go_wp2_with fail
  go_ret
  exact ⟨rfl, HB.out⟩
set_option maxHeartbeats 2000000 in
theorem refWord_74 (w : World) : Calls Tryz.prog 91 #[.int .i64 74] w fun e w' => e = .returned (.string ⟨#[97, 109, 111, 109, 105, 110]⟩) ∧ Below w.heap.size w w' := by
  have hcl : classS 74 = 7 := by decide +kernel
  go_enter Tryz.func91, Tryz.ntmps91
  go_wp2_with fail
  refine (refClass_c 74 _).mono ?_
  rintro e w1 ⟨rfl, hb⟩
  rw [hcl]
  have HB := Lib.hid hb
  clear hb hcl
  go_wp2_with fail
  refine (refNames4_c _).mono ?_
  rintro e w2 ⟨rfl, rfl⟩
  have c : _ = some (Value.string ⟨#[97, 109, 111, 109, 105, 110, 46, 119]⟩) := names4_cell w1 74 (by omega)
  have HB2 := Lib.hid (HB.out.alloc HB.out.size (.cells (Tab.names4.map strV).toArray 9))
  generalize (w1.alloc (.cells (Tab.names4.map strV).toArray 9)) = W at *
  go_wp2_with fail
  go_ret
  exact ⟨ret_s (by decide +kernel), HB2.out⟩
theorem refIs_74 (w : World) : Calls Tryz.prog 86 #[.int .i64 74] w fun e w' => e = .returned (.int .i64 1) ∧ Below w.heap.size w w' := by
  go_enter Tryz.func86, Tryz.ntmps86
  go_wp2_with fail
  refine (refWord_74 _).mono ?_
  rintro e w1 ⟨rfl, hb⟩
  have HB := Lib.hid hb
  clear hb
  go_wp2_with fail
  go_ret
  exact ⟨rfl, HB.out⟩
set_option maxHeartbeats 2000000 in
theorem refWord_75 (w : World) : Calls Tryz.prog 91 #[.int .i64 75] w fun e w' => e = .returned (.string ⟨#[97, 109, 111, 109, 97, 120]⟩) ∧ Below w.heap.size w w' := by
  have hcl : classS 75 = 7 := by decide +kernel
  go_enter Tryz.func91, Tryz.ntmps91
  go_wp2_with fail
  refine (refClass_c 75 _).mono ?_
  rintro e w1 ⟨rfl, hb⟩
  rw [hcl]
  have HB := Lib.hid hb
  clear hb hcl
  go_wp2_with fail
  refine (refNames4_c _).mono ?_
  rintro e w2 ⟨rfl, rfl⟩
  have c : _ = some (Value.string ⟨#[97, 109, 111, 109, 97, 120, 46, 119]⟩) := names4_cell w1 75 (by omega)
  have HB2 := Lib.hid (HB.out.alloc HB.out.size (.cells (Tab.names4.map strV).toArray 9))
  generalize (w1.alloc (.cells (Tab.names4.map strV).toArray 9)) = W at *
  go_wp2_with fail
  go_ret
  exact ⟨ret_s (by decide +kernel), HB2.out⟩
theorem refIs_75 (w : World) : Calls Tryz.prog 86 #[.int .i64 75] w fun e w' => e = .returned (.int .i64 1) ∧ Below w.heap.size w w' := by
  go_enter Tryz.func86, Tryz.ntmps86
  go_wp2_with fail
  refine (refWord_75 _).mono ?_
  rintro e w1 ⟨rfl, hb⟩
  have HB := Lib.hid hb
  clear hb
  go_wp2_with fail
  go_ret
  exact ⟨rfl, HB.out⟩
set_option maxHeartbeats 2000000 in
theorem refWord_76 (w : World) : Calls Tryz.prog 91 #[.int .i64 76] w fun e w' => e = .returned (.string ⟨#[97, 109, 111, 109, 105, 110, 117]⟩) ∧ Below w.heap.size w w' := by
  have hcl : classS 76 = 7 := by decide +kernel
  go_enter Tryz.func91, Tryz.ntmps91
  go_wp2_with fail
  refine (refClass_c 76 _).mono ?_
  rintro e w1 ⟨rfl, hb⟩
  rw [hcl]
  have HB := Lib.hid hb
  clear hb hcl
  go_wp2_with fail
  refine (refNames4_c _).mono ?_
  rintro e w2 ⟨rfl, rfl⟩
  have c : _ = some (Value.string ⟨#[97, 109, 111, 109, 105, 110, 117, 46, 119]⟩) := names4_cell w1 76 (by omega)
  have HB2 := Lib.hid (HB.out.alloc HB.out.size (.cells (Tab.names4.map strV).toArray 9))
  generalize (w1.alloc (.cells (Tab.names4.map strV).toArray 9)) = W at *
  go_wp2_with fail
  go_ret
  exact ⟨ret_s (by decide +kernel), HB2.out⟩
theorem refIs_76 (w : World) : Calls Tryz.prog 86 #[.int .i64 76] w fun e w' => e = .returned (.int .i64 1) ∧ Below w.heap.size w w' := by
  go_enter Tryz.func86, Tryz.ntmps86
  go_wp2_with fail
  refine (refWord_76 _).mono ?_
  rintro e w1 ⟨rfl, hb⟩
  have HB := Lib.hid hb
  clear hb
  go_wp2_with fail
  go_ret
  exact ⟨rfl, HB.out⟩
set_option maxHeartbeats 2000000 in
theorem refWord_77 (w : World) : Calls Tryz.prog 91 #[.int .i64 77] w fun e w' => e = .returned (.string ⟨#[97, 109, 111, 109, 97, 120, 117]⟩) ∧ Below w.heap.size w w' := by
  have hcl : classS 77 = 7 := by decide +kernel
  go_enter Tryz.func91, Tryz.ntmps91
  go_wp2_with fail
  refine (refClass_c 77 _).mono ?_
  rintro e w1 ⟨rfl, hb⟩
  rw [hcl]
  have HB := Lib.hid hb
  clear hb hcl
  go_wp2_with fail
  refine (refNames4_c _).mono ?_
  rintro e w2 ⟨rfl, rfl⟩
  have c : _ = some (Value.string ⟨#[97, 109, 111, 109, 97, 120, 117, 46, 119]⟩) := names4_cell w1 77 (by omega)
  have HB2 := Lib.hid (HB.out.alloc HB.out.size (.cells (Tab.names4.map strV).toArray 9))
  generalize (w1.alloc (.cells (Tab.names4.map strV).toArray 9)) = W at *
  go_wp2_with fail
  go_ret
  exact ⟨ret_s (by decide +kernel), HB2.out⟩
theorem refIs_77 (w : World) : Calls Tryz.prog 86 #[.int .i64 77] w fun e w' => e = .returned (.int .i64 1) ∧ Below w.heap.size w w' := by
  go_enter Tryz.func86, Tryz.ntmps86
  go_wp2_with fail
  refine (refWord_77 _).mono ?_
  rintro e w1 ⟨rfl, hb⟩
  have HB := Lib.hid hb
  clear hb
  go_wp2_with fail
  go_ret
  exact ⟨rfl, HB.out⟩
set_option maxHeartbeats 2000000 in
theorem refWord_78 (w : World) : Calls Tryz.prog 91 #[.int .i64 78] w fun e w' => e = .returned (.string ⟨#[108, 114]⟩) ∧ Below w.heap.size w w' := by
  have hcl : classS 78 = 7 := by decide +kernel
  go_enter Tryz.func91, Tryz.ntmps91
  go_wp2_with fail
  refine (refClass_c 78 _).mono ?_
  rintro e w1 ⟨rfl, hb⟩
  rw [hcl]
  have HB := Lib.hid hb
  clear hb hcl
  go_wp2_with fail
  refine (refNames4_c _).mono ?_
  rintro e w2 ⟨rfl, rfl⟩
  have c : _ = some (Value.string ⟨#[108, 114, 46, 100]⟩) := names4_cell w1 78 (by omega)
  have HB2 := Lib.hid (HB.out.alloc HB.out.size (.cells (Tab.names4.map strV).toArray 9))
  generalize (w1.alloc (.cells (Tab.names4.map strV).toArray 9)) = W at *
  go_wp2_with fail
  go_ret
  exact ⟨ret_s (by decide +kernel), HB2.out⟩
theorem refIs_78 (w : World) : Calls Tryz.prog 86 #[.int .i64 78] w fun e w' => e = .returned (.int .i64 2) ∧ Below w.heap.size w w' := by
  go_enter Tryz.func86, Tryz.ntmps86
  go_wp2_with fail
  refine (refWord_78 _).mono ?_
  rintro e w1 ⟨rfl, hb⟩
  have HB := Lib.hid hb
  clear hb
  go_wp2_with fail
  go_ret
  exact ⟨rfl, HB.out⟩
set_option maxHeartbeats 2000000 in
theorem refWord_79 (w : World) : Calls Tryz.prog 91 #[.int .i64 79] w fun e w' => e = .returned (.string ⟨#[115, 99]⟩) ∧ Below w.heap.size w w' := by
  have hcl : classS 79 = 7 := by decide +kernel
  go_enter Tryz.func91, Tryz.ntmps91
  go_wp2_with fail
  refine (refClass_c 79 _).mono ?_
  rintro e w1 ⟨rfl, hb⟩
  rw [hcl]
  have HB := Lib.hid hb
  clear hb hcl
  go_wp2_with fail
  refine (refNames4_c _).mono ?_
  rintro e w2 ⟨rfl, rfl⟩
  have c : _ = some (Value.string ⟨#[115, 99, 46, 100]⟩) := names4_cell w1 79 (by omega)
  have HB2 := Lib.hid (HB.out.alloc HB.out.size (.cells (Tab.names4.map strV).toArray 9))
  generalize (w1.alloc (.cells (Tab.names4.map strV).toArray 9)) = W at *
  go_wp2_with fail
  go_ret
  exact ⟨ret_s (by decide +kernel), HB2.out⟩
theorem refIs_79 (w : World) : Calls Tryz.prog 86 #[.int .i64 79] w fun e w' => e = .returned (.int .i64 3) ∧ Below w.heap.size w w' := by
  go_enter Tryz.func86, Tryz.ntmps86
  go_wp2_with fail
  refine (refWord_79 _).mono ?_
  rintro e w1 ⟨rfl, hb⟩
  have HB := Lib.hid hb
  clear hb
  go_wp2_with fail
  go_ret
  exact ⟨rfl, HB.out⟩
set_option maxHeartbeats 2000000 in
theorem refWord_80 (w : World) : Calls Tryz.prog 91 #[.int .i64 80] w fun e w' => e = .returned (.string ⟨#[97, 109, 111, 115, 119, 97, 112]⟩) ∧ Below w.heap.size w w' := by
  have hcl : classS 80 = 7 := by decide +kernel
  go_enter Tryz.func91, Tryz.ntmps91
  go_wp2_with fail
  refine (refClass_c 80 _).mono ?_
  rintro e w1 ⟨rfl, hb⟩
  rw [hcl]
  have HB := Lib.hid hb
  clear hb hcl
  go_wp2_with fail
  refine (refNames4_c _).mono ?_
  rintro e w2 ⟨rfl, rfl⟩
  have c : _ = some (Value.string ⟨#[97, 109, 111, 115, 119, 97, 112, 46, 100]⟩) := names4_cell w1 80 (by omega)
  have HB2 := Lib.hid (HB.out.alloc HB.out.size (.cells (Tab.names4.map strV).toArray 9))
  generalize (w1.alloc (.cells (Tab.names4.map strV).toArray 9)) = W at *
  go_wp2_with fail
  go_ret
  exact ⟨ret_s (by decide +kernel), HB2.out⟩
theorem refIs_80 (w : World) : Calls Tryz.prog 86 #[.int .i64 80] w fun e w' => e = .returned (.int .i64 1) ∧ Below w.heap.size w w' := by
  go_enter Tryz.func86, Tryz.ntmps86
  go_wp2_with fail
  refine (refWord_80 _).mono ?_
  rintro e w1 ⟨rfl, hb⟩
  have HB := Lib.hid hb
  clear hb
  go_wp2_with fail
  go_ret
  exact ⟨rfl, HB.out⟩
set_option maxHeartbeats 2000000 in
theorem refWord_81 (w : World) : Calls Tryz.prog 91 #[.int .i64 81] w fun e w' => e = .returned (.string ⟨#[97, 109, 111, 97, 100, 100]⟩) ∧ Below w.heap.size w w' := by
  have hcl : classS 81 = 7 := by decide +kernel
  go_enter Tryz.func91, Tryz.ntmps91
  go_wp2_with fail
  refine (refClass_c 81 _).mono ?_
  rintro e w1 ⟨rfl, hb⟩
  rw [hcl]
  have HB := Lib.hid hb
  clear hb hcl
  go_wp2_with fail
  refine (refNames4_c _).mono ?_
  rintro e w2 ⟨rfl, rfl⟩
  have c : _ = some (Value.string ⟨#[97, 109, 111, 97, 100, 100, 46, 100]⟩) := names4_cell w1 81 (by omega)
  have HB2 := Lib.hid (HB.out.alloc HB.out.size (.cells (Tab.names4.map strV).toArray 9))
  generalize (w1.alloc (.cells (Tab.names4.map strV).toArray 9)) = W at *
  go_wp2_with fail
  go_ret
  exact ⟨ret_s (by decide +kernel), HB2.out⟩
theorem refIs_81 (w : World) : Calls Tryz.prog 86 #[.int .i64 81] w fun e w' => e = .returned (.int .i64 1) ∧ Below w.heap.size w w' := by
  go_enter Tryz.func86, Tryz.ntmps86
  go_wp2_with fail
  refine (refWord_81 _).mono ?_
  rintro e w1 ⟨rfl, hb⟩
  have HB := Lib.hid hb
  clear hb
  go_wp2_with fail
  go_ret
  exact ⟨rfl, HB.out⟩
set_option maxHeartbeats 2000000 in
theorem refWord_82 (w : World) : Calls Tryz.prog 91 #[.int .i64 82] w fun e w' => e = .returned (.string ⟨#[97, 109, 111, 120, 111, 114]⟩) ∧ Below w.heap.size w w' := by
  have hcl : classS 82 = 7 := by decide +kernel
  go_enter Tryz.func91, Tryz.ntmps91
  go_wp2_with fail
  refine (refClass_c 82 _).mono ?_
  rintro e w1 ⟨rfl, hb⟩
  rw [hcl]
  have HB := Lib.hid hb
  clear hb hcl
  go_wp2_with fail
  refine (refNames4_c _).mono ?_
  rintro e w2 ⟨rfl, rfl⟩
  have c : _ = some (Value.string ⟨#[97, 109, 111, 120, 111, 114, 46, 100]⟩) := names4_cell w1 82 (by omega)
  have HB2 := Lib.hid (HB.out.alloc HB.out.size (.cells (Tab.names4.map strV).toArray 9))
  generalize (w1.alloc (.cells (Tab.names4.map strV).toArray 9)) = W at *
  go_wp2_with fail
  go_ret
  exact ⟨ret_s (by decide +kernel), HB2.out⟩
theorem refIs_82 (w : World) : Calls Tryz.prog 86 #[.int .i64 82] w fun e w' => e = .returned (.int .i64 1) ∧ Below w.heap.size w w' := by
  go_enter Tryz.func86, Tryz.ntmps86
  go_wp2_with fail
  refine (refWord_82 _).mono ?_
  rintro e w1 ⟨rfl, hb⟩
  have HB := Lib.hid hb
  clear hb
  go_wp2_with fail
  go_ret
  exact ⟨rfl, HB.out⟩
set_option maxHeartbeats 2000000 in
theorem refWord_83 (w : World) : Calls Tryz.prog 91 #[.int .i64 83] w fun e w' => e = .returned (.string ⟨#[97, 109, 111, 97, 110, 100]⟩) ∧ Below w.heap.size w w' := by
  have hcl : classS 83 = 7 := by decide +kernel
  go_enter Tryz.func91, Tryz.ntmps91
  go_wp2_with fail
  refine (refClass_c 83 _).mono ?_
  rintro e w1 ⟨rfl, hb⟩
  rw [hcl]
  have HB := Lib.hid hb
  clear hb hcl
  go_wp2_with fail
  refine (refNames4_c _).mono ?_
  rintro e w2 ⟨rfl, rfl⟩
  have c : _ = some (Value.string ⟨#[97, 109, 111, 97, 110, 100, 46, 100]⟩) := names4_cell w1 83 (by omega)
  have HB2 := Lib.hid (HB.out.alloc HB.out.size (.cells (Tab.names4.map strV).toArray 9))
  generalize (w1.alloc (.cells (Tab.names4.map strV).toArray 9)) = W at *
  go_wp2_with fail
  go_ret
  exact ⟨ret_s (by decide +kernel), HB2.out⟩
theorem refIs_83 (w : World) : Calls Tryz.prog 86 #[.int .i64 83] w fun e w' => e = .returned (.int .i64 1) ∧ Below w.heap.size w w' := by
  go_enter Tryz.func86, Tryz.ntmps86
  go_wp2_with fail
  refine (refWord_83 _).mono ?_
  rintro e w1 ⟨rfl, hb⟩
  have HB := Lib.hid hb
  clear hb
  go_wp2_with fail
  go_ret
  exact ⟨rfl, HB.out⟩
set_option maxHeartbeats 2000000 in
theorem refWord_84 (w : World) : Calls Tryz.prog 91 #[.int .i64 84] w fun e w' => e = .returned (.string ⟨#[97, 109, 111, 111, 114]⟩) ∧ Below w.heap.size w w' := by
  have hcl : classS 84 = 7 := by decide +kernel
  go_enter Tryz.func91, Tryz.ntmps91
  go_wp2_with fail
  refine (refClass_c 84 _).mono ?_
  rintro e w1 ⟨rfl, hb⟩
  rw [hcl]
  have HB := Lib.hid hb
  clear hb hcl
  go_wp2_with fail
  refine (refNames4_c _).mono ?_
  rintro e w2 ⟨rfl, rfl⟩
  have c : _ = some (Value.string ⟨#[97, 109, 111, 111, 114, 46, 100]⟩) := names4_cell w1 84 (by omega)
  have HB2 := Lib.hid (HB.out.alloc HB.out.size (.cells (Tab.names4.map strV).toArray 9))
  generalize (w1.alloc (.cells (Tab.names4.map strV).toArray 9)) = W at *
  go_wp2_with fail
  go_ret
  exact ⟨ret_s (by decide +kernel), HB2.out⟩
theorem refIs_84 (w : World) : Calls Tryz.prog 86 #[.int .i64 84] w fun e w' => e = .returned (.int .i64 1) ∧ Below w.heap.size w w' := by
  go_enter Tryz.func86, Tryz.ntmps86
  go_wp2_with fail
  refine (refWord_84 _).mono ?_
  rintro e w1 ⟨rfl, hb⟩
  have HB := Lib.hid hb
  clear hb
  go_wp2_with fail
  go_ret
  exact ⟨rfl, HB.out⟩
set_option maxHeartbeats 2000000 in
theorem refWord_85 (w : World) : Calls Tryz.prog 91 #[.int .i64 85] w fun e w' => e = .returned (.string ⟨#[97, 109, 111, 109, 105, 110]⟩) ∧ Below w.heap.size w w' := by
  have hcl : classS 85 = 7 := by decide +kernel
  go_enter Tryz.func91, Tryz.ntmps91
  go_wp2_with fail
  refine (refClass_c 85 _).mono ?_
  rintro e w1 ⟨rfl, hb⟩
  rw [hcl]
  have HB := Lib.hid hb
  clear hb hcl
  go_wp2_with fail
  refine (refNames4_c _).mono ?_
  rintro e w2 ⟨rfl, rfl⟩
  have c : _ = some (Value.string ⟨#[97, 109, 111, 109, 105, 110, 46, 100]⟩) := names4_cell w1 85 (by omega)
  have HB2 := Lib.hid (HB.out.alloc HB.out.size (.cells (Tab.names4.map strV).toArray 9))
  generalize (w1.alloc (.cells (Tab.names4.map strV).toArray 9)) = W at *
  go_wp2_with fail
  go_ret
  exact ⟨ret_s (by decide +kernel), HB2.out⟩
theorem refIs_85 (w : World) : Calls Tryz.prog 86 #[.int .i64 85] w fun e w' => e = .returned (.int .i64 1) ∧ Below w.heap.size w w' := by
  go_enter Tryz.func86, Tryz.ntmps86
  go_wp2_with fail
  refine (refWord_85 _).mono ?_
  rintro e w1 ⟨rfl, hb⟩
  have HB := Lib.hid hb
  clear hb
  go_wp2_with fail
  go_ret
  exact ⟨rfl, HB.out⟩
set_option maxHeartbeats 2000000 in
theorem refWord_86 (w : World) : Calls Tryz.prog 91 #[.int .i64 86] w fun e w' => e = .returned (.string ⟨#[97, 109, 111, 109, 97, 120]⟩) ∧ Below w.heap.size w w' := by
  have hcl : classS 86 = 7 := by decide +kernel
  go_enter Tryz.func91, Tryz.ntmps91
  go_wp2_with fail
  refine (refClass_c 86 _).mono ?_
  rintro e w1 ⟨rfl, hb⟩
  rw [hcl]
  have HB := Lib.hid hb
  clear hb hcl
  go_wp2_with fail
  refine (refNames4_c _).mono ?_
  rintro e w2 ⟨rfl, rfl⟩
  have c : _ = some (Value.string ⟨#[97, 109, 111, 109, 97, 120, 46, 100]⟩) := names4_cell w1 86 (by omega)
  have HB2 := Lib.hid (HB.out.alloc HB.out.size (.cells (Tab.names4.map strV).toArray 9))
  generalize (w1.alloc (.cells (Tab.names4.map strV).toArray 9)) = W at *
  go_wp2_with fail
  go_ret
  exact ⟨ret_s (by decide +kernel), HB2.out⟩
theorem refIs_86 (w : World) : Calls Tryz.prog 86 #[.int .i64 86] w fun e w' => e = .returned (.int .i64 1) ∧ Below w.heap.size w w' := by
  go_enter Tryz.func86, Tryz.ntmps86
  go_wp2_with fail
  refine (refWord_86 _).mono ?_
  rintro e w1 ⟨rfl, hb⟩
  have HB := Lib.hid hb
  clear hb
  go_wp2_with fail
  go_ret
  exact ⟨rfl, HB.out⟩
set_option maxHeartbeats 2000000 in
theorem refWord_87 (w : World) : Calls Tryz.prog 91 #[.int .i64 87] w fun e w' => e = .returned (.string ⟨#[97, 109, 111, 109, 105, 110, 117]⟩) ∧ Below w.heap.size w w' := by
  have hcl : classS 87 = 7 := by decide +kernel
  go_enter Tryz.func91, Tryz.ntmps91
  go_wp2_with fail
  refine (refClass_c 87 _).mono ?_
  rintro e w1 ⟨rfl, hb⟩
  rw [hcl]
  have HB := Lib.hid hb
  clear hb hcl
  go_wp2_with fail
  refine (refNames4_c _).mono ?_
  rintro e w2 ⟨rfl, rfl⟩
  have c : _ = some (Value.string ⟨#[97, 109, 111, 109, 105, 110, 117, 46, 100]⟩) := names4_cell w1 87 (by omega)
  have HB2 := Lib.hid (HB.out.alloc HB.out.size (.cells (Tab.names4.map strV).toArray 9))
  generalize (w1.alloc (.cells (Tab.names4.map strV).toArray 9)) = W at *
  go_wp2_with fail
  go_ret
  exact ⟨ret_s (by decide +kernel), HB2.out⟩
theorem refIs_87 (w : World) : Calls Tryz.prog 86 #[.int .i64 87] w fun e w' => e = .returned (.int .i64 1) ∧ Below w.heap.size w w' := by
  go_enter Tryz.func86, Tryz.ntmps86
  go_wp2_with fail
  refine (refWord_87 _).mono ?_
  rintro e w1 ⟨rfl, hb⟩
  have HB := Lib.hid hb
  clear hb
  go_wp2_with fail
  go_ret
  exact ⟨rfl, HB.out⟩
set_option maxHeartbeats 2000000 in
theorem refWord_88 (w : World) : Calls Tryz.prog 91 #[.int .i64 88] w fun e w' => e = .returned (.string ⟨#[97, 109, 111, 109, 97, 120, 117]⟩) ∧ Below w.heap.size w w' := by
  have hcl : classS 88 = 7 := by decide +kernel
  go_enter Tryz.func91, Tryz.ntmps91
  go_wp2_with fail
  refine (refClass_c 88 _).mono ?_
  rintro e w1 ⟨rfl, hb⟩
  rw [hcl]
  have HB := Lib.hid hb
  clear hb hcl
  go_wp2_with fail
  refine (refNames4_c _).mono ?_
  rintro e w2 ⟨rfl, rfl⟩
  have c : _ = some (Value.string ⟨#[97, 109, 111, 109, 97, 120, 117, 46, 100]⟩) := names4_cell w1 88 (by omega)
  have HB2 := Lib.hid (HB.out.alloc HB.out.size (.cells (Tab.names4.map strV).toArray 9))
  generalize (w1.alloc (.cells (Tab.names4.map strV).toArray 9)) = W at *
  go_wp2_with fail
  go_ret
  exact ⟨ret_s (by decide +kernel), HB2.out⟩
theorem refIs_88 (w : World) : Calls Tryz.prog 86 #[.int .i64 88] w fun e w' => e = .returned (.int .i64 1) ∧ Below w.heap.size w w' := by
  go_enter Tryz.func86, Tryz.ntmps86
  go_wp2_with fail
  refine (refWord_88 _).mono ?_
  rintro e w1 ⟨rfl, hb⟩
  have HB := Lib.hid hb
  clear hb
  go_wp2_with fail
  go_ret
  exact ⟨rfl, HB.out⟩
set_option maxHeartbeats 2000000 in
theorem refWord_no (op : Int) (h : classS op ≠ 7) (w : World) : Calls Tryz.prog 91 #[.int .i64 op] w fun e w' => e = .returned (.string ⟨#[]⟩) ∧ Below w.heap.size w w' := by
  have e1 : (classS op != 7) = true := by simpa using h
  go_enter Tryz.func91, Tryz.ntmps91
  go_wp2_with fail
  refine (refClass_c op _).mono ?_
  rintro e w1 ⟨rfl, hb⟩
  have HB := Lib.hid hb
  clear hb
  go_wp2_with fail
  go_ret
  exact ⟨rfl, HB.out⟩
theorem refIs_no (op : Int) (h : classS op ≠ 7) (w : World) : Calls Tryz.prog 86 #[.int .i64 op] w fun e w' => e = .returned (.int .i64 0) ∧ Below w.heap.size w w' := by
  go_enter Tryz.func86, Tryz.ntmps86
  go_wp2_with fail
  refine (refWord_no op h _).mono ?_
  rintro e w1 ⟨rfl, hb⟩
  have HB := Lib.hid hb
  clear hb
  go_wp2_with fail
  go_ret
  exact ⟨rfl, HB.out⟩
end Go.Proofs.YtjeolfcefeglpabGreat
set_option maxRecDepth 20000
namespace Go.Proofs.YtjeolfcefeglpabGreat
open Go.ChangeShapes Go.WideShapes Go.ChangeAt Go.RowKit Wd

theorem cut64 {x : Int} (h0 : 0 ≤ x) (h : x < 18446744073709551616) : cutS x 0 64 = x := by
  symm
  apply eq_word h0 h
  intro i hi
  have a : (i : Int) < 64 ∧ (0 : Int) ≤ 0 + i := by omega
  have b : (0 + (i : Int)).toNat = i := by omega
  rw [decide_eq_true a, Bool.true_and, b]
theorem sgn64 {x : Int} (h0 : 0 ≤ x) (h : x < 18446744073709551616) : signS x 64 = x := (sign_all h0 h (by omega)).symm
theorem wrap64_inj {m x : Int} (_hm0 : 0 ≤ m) (_hm : m < 18446744073709551616) (_hx0 : 0 ≤ x) (_hx : x < 18446744073709551616) (h : wrap64 x = wrap64 m) : x = m := by unfold wrap64 at h; omega
theorem low_nat {x : Int} (h0 : 0 ≤ x) : (signS x 32).toNat % 4294967296 = x.toNat % 4294967296 := by
  have := sgn_mod h0
  have := (signS_range x 32).1
  omega
theorem low_self {x : Int} (h0 : 0 ≤ x) : (x % 4294967296).toNat = x.toNat % 4294967296 := by omega
theorem ret2_u {a b : Int} (h : a = b) : Ending.returned (.tuple #[.int .u64 a, .bool true]) = .returned (.tuple #[.int .u64 b, .bool true]) := by rw [h]
theorem amoG_0 (m x : Int) : amoG 0 m x = x := rfl
theorem amoG_1 (m x : Int) : amoG 1 m x = IntKind.u64.wrap (m + x) := rfl
theorem amoG_5 (m x : Int) : amoG 5 m x = if wrap64 x < wrap64 m then x else m := rfl
theorem amoG_6 (m x : Int) : amoG 6 m x = if wrap64 m < wrap64 x then x else m := rfl
theorem amoG_7 (m x : Int) : amoG 7 m x = if x < m then x else m := rfl
theorem amoG_8 (m x : Int) : amoG 8 m x = if m < x then x else m := rfl
theorem less_yes {a b : Int} (h : lessS a b = true) : wrap64 a < wrap64 b := of_decide_eq_true h
theorem less_no {a b : Int} (h : lessS a b = false) : ¬ wrap64 a < wrap64 b := of_decide_eq_false h
theorem xor_nat (a b c d : Nat) (h1 : a % 4294967296 = c % 4294967296) (h2 : b % 4294967296 = d % 4294967296) : (a ^^^ b) % 4294967296 = (c % 4294967296 ^^^ d % 4294967296) % 4294967296 := by
  have e : (4294967296 : Nat) = 2 ^ 32 := by decide
  rw [e] at *
  rw [Nat.xor_mod_two_pow, h1, h2, Nat.mod_eq_of_lt (Nat.xor_lt_two_pow (n := 32) (by omega) (by omega))]
theorem xor_low {m x : Int} (hm0 : 0 ≤ m) (hx0 : 0 ≤ x) : bits .xor .u64 (m % 4294967296) (x % 4294967296) % 4294967296 = bits .xor .u64 (signS m 32) (signS x 32) % 4294967296 := by
  have pm := signS_range m 32
  have px := signS_range x 32
  rw [u64_xor _ _ (by omega) (by omega) (by omega) (by omega), u64_xor _ _ pm.1 pm.2 px.1 px.2, low_self hm0, low_self hx0]
  have h := xor_nat _ _ _ _ (low_nat hm0) (low_nat hx0)
  generalize (signS m 32).toNat ^^^ (signS x 32).toNat = p at *
  generalize m.toNat % 4294967296 ^^^ x.toNat % 4294967296 = q at *
  omega
theorem and_nat (a b c d : Nat) (h1 : a % 4294967296 = c % 4294967296) (h2 : b % 4294967296 = d % 4294967296) : (a &&& b) % 4294967296 = (c % 4294967296 &&& d % 4294967296) % 4294967296 := by
  have e : (4294967296 : Nat) = 2 ^ 32 := by decide
  rw [e] at *
  rw [Nat.and_mod_two_pow, h1, h2, Nat.mod_eq_of_lt (Nat.and_lt_two_pow (n := 32) _ (by omega))]
theorem and_low {m x : Int} (hm0 : 0 ≤ m) (hx0 : 0 ≤ x) : bits .and .u64 (m % 4294967296) (x % 4294967296) % 4294967296 = bits .and .u64 (signS m 32) (signS x 32) % 4294967296 := by
  have pm := signS_range m 32
  have px := signS_range x 32
  rw [u64_and _ _ (by omega) (by omega) (by omega) (by omega), u64_and _ _ pm.1 pm.2 px.1 px.2, low_self hm0, low_self hx0]
  have h := and_nat _ _ _ _ (low_nat hm0) (low_nat hx0)
  generalize (signS m 32).toNat &&& (signS x 32).toNat = p at *
  generalize m.toNat % 4294967296 &&& x.toNat % 4294967296 = q at *
  omega
theorem or_nat (a b c d : Nat) (h1 : a % 4294967296 = c % 4294967296) (h2 : b % 4294967296 = d % 4294967296) : (a ||| b) % 4294967296 = (c % 4294967296 ||| d % 4294967296) % 4294967296 := by
  have e : (4294967296 : Nat) = 2 ^ 32 := by decide
  rw [e] at *
  rw [Nat.or_mod_two_pow, h1, h2, Nat.mod_eq_of_lt (Nat.or_lt_two_pow (n := 32) (by omega) (by omega))]
theorem or_low {m x : Int} (hm0 : 0 ≤ m) (hx0 : 0 ≤ x) : bits .or .u64 (m % 4294967296) (x % 4294967296) % 4294967296 = bits .or .u64 (signS m 32) (signS x 32) % 4294967296 := by
  have pm := signS_range m 32
  have px := signS_range x 32
  rw [u64_or _ _ (by omega) (by omega) (by omega) (by omega), u64_or _ _ pm.1 pm.2 px.1 px.2, low_self hm0, low_self hx0]
  have h := or_nat _ _ _ _ (low_nat hm0) (low_nat hx0)
  generalize (signS m 32).toNat ||| (signS x 32).toNat = p at *
  generalize m.toNat % 4294967296 ||| x.toNat % 4294967296 = q at *
  omega
theorem fin64_0 {m x : Int} (_hm0 : 0 ≤ m) (_hm : m < 18446744073709551616) (hx0 : 0 ≤ x) (hx : x < 18446744073709551616) : cutS (cutS x 0 64) 0 64 = amoG 0 m x := by
  rw [cut64 hx0 hx, cut64 hx0 hx]
  rfl
theorem fin32_0 {m x : Int} (_hm0 : 0 ≤ m) (_hm : m < 18446744073709551616) (hx0 : 0 ≤ x) (_hx : x < 18446744073709551616) : cutS (cutS x 0 32) 0 32 = amoG 0 (signS m 32) (signS x 32) % 4294967296 := by
  rw [cut32 hx0, cut32 (by omega)]
  have h := sgn_mod hx0
  rw [amoG_0]
  omega
theorem fin64_1 {m x : Int} (hm0 : 0 ≤ m) (hm : m < 18446744073709551616) (hx0 : 0 ≤ x) (hx : x < 18446744073709551616) : cutS (IntKind.u64.wrap (cutS m 0 64 + cutS x 0 64)) 0 64 = amoG 1 m x := by
  rw [cut64 hm0 hm, cut64 hx0 hx]
  exact cut64 (wrap_range _).1 (wrap_range _).2
theorem fin32_1 {m x : Int} (hm0 : 0 ≤ m) (_hm : m < 18446744073709551616) (hx0 : 0 ≤ x) (_hx : x < 18446744073709551616) : cutS (IntKind.u64.wrap (cutS m 0 32 + cutS x 0 32)) 0 32 = amoG 1 (signS m 32) (signS x 32) % 4294967296 := by
  rw [cut32 hm0, cut32 hx0, cut32 (wrap_range _).1]
  have h := sgn_mod hx0
  have h' := sgn_mod hm0
  rw [amoG_1, wrap_mod, wrap_mod]
  omega
theorem fin64_2 {m x : Int} (hm0 : 0 ≤ m) (hm : m < 18446744073709551616) (hx0 : 0 ≤ x) (hx : x < 18446744073709551616) : cutS (bits .xor .u64 (cutS m 0 64) (cutS x 0 64)) 0 64 = amoG 2 m x := by
  rw [cut64 hm0 hm, cut64 hx0 hx]
  exact cut64 (xor_range hm0 hm hx0 hx).1 (xor_range hm0 hm hx0 hx).2
theorem fin32_2 {m x : Int} (hm0 : 0 ≤ m) (_hm : m < 18446744073709551616) (hx0 : 0 ≤ x) (_hx : x < 18446744073709551616) : cutS (bits .xor .u64 (cutS m 0 32) (cutS x 0 32)) 0 32 = amoG 2 (signS m 32) (signS x 32) % 4294967296 := by
  rw [cut32 hm0, cut32 hx0, cut32 (xor_range (by omega) (by omega) (by omega) (by omega)).1]
  exact xor_low hm0 hx0
theorem fin64_3 {m x : Int} (hm0 : 0 ≤ m) (hm : m < 18446744073709551616) (hx0 : 0 ≤ x) (hx : x < 18446744073709551616) : cutS (bits .and .u64 (cutS m 0 64) (cutS x 0 64)) 0 64 = amoG 3 m x := by
  rw [cut64 hm0 hm, cut64 hx0 hx]
  exact cut64 (and_range hm0 hm hx0 hx).1 (and_range hm0 hm hx0 hx).2
theorem fin32_3 {m x : Int} (hm0 : 0 ≤ m) (_hm : m < 18446744073709551616) (hx0 : 0 ≤ x) (_hx : x < 18446744073709551616) : cutS (bits .and .u64 (cutS m 0 32) (cutS x 0 32)) 0 32 = amoG 3 (signS m 32) (signS x 32) % 4294967296 := by
  rw [cut32 hm0, cut32 hx0, cut32 (and_range (by omega) (by omega) (by omega) (by omega)).1]
  exact and_low hm0 hx0
theorem fin64_4 {m x : Int} (hm0 : 0 ≤ m) (hm : m < 18446744073709551616) (hx0 : 0 ≤ x) (hx : x < 18446744073709551616) : cutS (bits .or .u64 (cutS m 0 64) (cutS x 0 64)) 0 64 = amoG 4 m x := by
  rw [cut64 hm0 hm, cut64 hx0 hx]
  exact cut64 (or_range hm0 hm hx0 hx).1 (or_range hm0 hm hx0 hx).2
theorem fin32_4 {m x : Int} (hm0 : 0 ≤ m) (_hm : m < 18446744073709551616) (hx0 : 0 ≤ x) (_hx : x < 18446744073709551616) : cutS (bits .or .u64 (cutS m 0 32) (cutS x 0 32)) 0 32 = amoG 4 (signS m 32) (signS x 32) % 4294967296 := by
  rw [cut32 hm0, cut32 hx0, cut32 (or_range (by omega) (by omega) (by omega) (by omega)).1]
  exact or_low hm0 hx0
theorem fin64_5y {m x : Int} (hm0 : 0 ≤ m) (hm : m < 18446744073709551616) (hx0 : 0 ≤ x) (hx : x < 18446744073709551616) (h : lessS (signS (cutS x 0 64) 64) (signS (cutS m 0 64) 64) = true) : cutS (cutS x 0 64) 0 64 = amoG 5 m x := by
  rw [cut64 hm0 hm, cut64 hx0 hx, sgn64 hm0 hm, sgn64 hx0 hx] at h
  rw [cut64 hx0 hx, cut64 hx0 hx, amoG_5]
  rw [if_pos (less_yes h)]
theorem fin32_5y {m x : Int} (hm0 : 0 ≤ m) (_hm : m < 18446744073709551616) (hx0 : 0 ≤ x) (_hx : x < 18446744073709551616) (h : lessS (signS (cutS x 0 32) 32) (signS (cutS m 0 32) 32) = true) : cutS (cutS x 0 32) 0 32 = amoG 5 (signS m 32) (signS x 32) % 4294967296 := by
  have e1 := sgn_mod hm0
  have e2 := sgn_mod hx0
  rw [sgn_cut hm0, sgn_cut hx0] at h
  rw [cut32 hx0, cut32 (by omega), amoG_5]
  rw [if_pos (less_yes h)]
  omega
theorem fin64_5n {m x : Int} (hm0 : 0 ≤ m) (hm : m < 18446744073709551616) (hx0 : 0 ≤ x) (hx : x < 18446744073709551616) (h : lessS (signS (cutS x 0 64) 64) (signS (cutS m 0 64) 64) = false) : cutS (cutS m 0 64) 0 64 = amoG 5 m x := by
  rw [cut64 hm0 hm, cut64 hx0 hx, sgn64 hm0 hm, sgn64 hx0 hx] at h
  rw [cut64 hm0 hm, cut64 hm0 hm, amoG_5]
  rw [if_neg (less_no h)]
theorem fin32_5n {m x : Int} (hm0 : 0 ≤ m) (_hm : m < 18446744073709551616) (hx0 : 0 ≤ x) (_hx : x < 18446744073709551616) (h : lessS (signS (cutS x 0 32) 32) (signS (cutS m 0 32) 32) = false) : cutS (cutS m 0 32) 0 32 = amoG 5 (signS m 32) (signS x 32) % 4294967296 := by
  have e1 := sgn_mod hm0
  have e2 := sgn_mod hx0
  rw [sgn_cut hm0, sgn_cut hx0] at h
  rw [cut32 hm0, cut32 (by omega), amoG_5]
  rw [if_neg (less_no h)]
  omega
theorem fin64_6y {m x : Int} (hm0 : 0 ≤ m) (hm : m < 18446744073709551616) (hx0 : 0 ≤ x) (hx : x < 18446744073709551616) (h : lessS (signS (cutS x 0 64) 64) (signS (cutS m 0 64) 64) = false) : cutS (cutS x 0 64) 0 64 = amoG 6 m x := by
  rw [cut64 hm0 hm, cut64 hx0 hx, sgn64 hm0 hm, sgn64 hx0 hx] at h
  rw [cut64 hx0 hx, cut64 hx0 hx, amoG_6]
  have c := less_no h
  split
  · rfl
  · exact wrap64_inj hm0 hm hx0 hx (by omega)
theorem fin32_6y {m x : Int} (hm0 : 0 ≤ m) (_hm : m < 18446744073709551616) (hx0 : 0 ≤ x) (_hx : x < 18446744073709551616) (h : lessS (signS (cutS x 0 32) 32) (signS (cutS m 0 32) 32) = false) : cutS (cutS x 0 32) 0 32 = amoG 6 (signS m 32) (signS x 32) % 4294967296 := by
  have e1 := sgn_mod hm0
  have e2 := sgn_mod hx0
  rw [sgn_cut hm0, sgn_cut hx0] at h
  rw [cut32 hx0, cut32 (by omega), amoG_6]
  have c := less_no h
  have pm := signS_range m 32
  have px := signS_range x 32
  split
  · omega
  · have := wrap64_inj pm.1 pm.2 px.1 px.2 (by omega)
    omega
theorem fin64_6n {m x : Int} (hm0 : 0 ≤ m) (hm : m < 18446744073709551616) (hx0 : 0 ≤ x) (hx : x < 18446744073709551616) (h : lessS (signS (cutS x 0 64) 64) (signS (cutS m 0 64) 64) = true) : cutS (cutS m 0 64) 0 64 = amoG 6 m x := by
  rw [cut64 hm0 hm, cut64 hx0 hx, sgn64 hm0 hm, sgn64 hx0 hx] at h
  rw [cut64 hm0 hm, cut64 hm0 hm, amoG_6]
  have c := less_yes h
  rw [if_neg (by omega)]
theorem fin32_6n {m x : Int} (hm0 : 0 ≤ m) (_hm : m < 18446744073709551616) (hx0 : 0 ≤ x) (_hx : x < 18446744073709551616) (h : lessS (signS (cutS x 0 32) 32) (signS (cutS m 0 32) 32) = true) : cutS (cutS m 0 32) 0 32 = amoG 6 (signS m 32) (signS x 32) % 4294967296 := by
  have e1 := sgn_mod hm0
  have e2 := sgn_mod hx0
  rw [sgn_cut hm0, sgn_cut hx0] at h
  rw [cut32 hm0, cut32 (by omega), amoG_6]
  have c := less_yes h
  rw [if_neg (by omega)]
  omega
theorem fin64_7y {m x : Int} (hm0 : 0 ≤ m) (hm : m < 18446744073709551616) (hx0 : 0 ≤ x) (hx : x < 18446744073709551616) (h : cutS x 0 64 < cutS m 0 64) : cutS (cutS x 0 64) 0 64 = amoG 7 m x := by
  rw [cut64 hm0 hm, cut64 hx0 hx] at h
  rw [cut64 hx0 hx, cut64 hx0 hx, amoG_7]
  rw [if_pos h]
theorem fin32_7y {m x : Int} (hm0 : 0 ≤ m) (_hm : m < 18446744073709551616) (hx0 : 0 ≤ x) (_hx : x < 18446744073709551616) (h : cutS x 0 32 < cutS m 0 32) : cutS (cutS x 0 32) 0 32 = amoG 7 (signS m 32) (signS x 32) % 4294967296 := by
  have e1 := sgn_mod hm0
  have e2 := sgn_mod hx0
  rw [cut32 hm0, cut32 hx0] at h
  have k1 := sgn32 hm0
  have k2 := sgn32 hx0
  rw [cut32 hx0, cut32 (by omega), amoG_7]
  have c : signS x 32 < signS m 32 := by
    rw [k1, k2]
    (repeat' split) <;> omega
  rw [if_pos c]
  omega
theorem fin64_7n {m x : Int} (hm0 : 0 ≤ m) (hm : m < 18446744073709551616) (hx0 : 0 ≤ x) (hx : x < 18446744073709551616) (h : ¬ cutS x 0 64 < cutS m 0 64) : cutS (cutS m 0 64) 0 64 = amoG 7 m x := by
  rw [cut64 hm0 hm, cut64 hx0 hx] at h
  rw [cut64 hm0 hm, cut64 hm0 hm, amoG_7]
  rw [if_neg h]
theorem fin32_7n {m x : Int} (hm0 : 0 ≤ m) (_hm : m < 18446744073709551616) (hx0 : 0 ≤ x) (_hx : x < 18446744073709551616) (h : ¬ cutS x 0 32 < cutS m 0 32) : cutS (cutS m 0 32) 0 32 = amoG 7 (signS m 32) (signS x 32) % 4294967296 := by
  have e1 := sgn_mod hm0
  have e2 := sgn_mod hx0
  rw [cut32 hm0, cut32 hx0] at h
  have k1 := sgn32 hm0
  have k2 := sgn32 hx0
  rw [cut32 hm0, cut32 (by omega), amoG_7]
  have c : ¬ (signS x 32 < signS m 32) := by
    rw [k1, k2]
    (repeat' split) <;> omega
  rw [if_neg c]
  omega
theorem fin64_8y {m x : Int} (hm0 : 0 ≤ m) (hm : m < 18446744073709551616) (hx0 : 0 ≤ x) (hx : x < 18446744073709551616) (h : cutS m 0 64 < cutS x 0 64) : cutS (cutS x 0 64) 0 64 = amoG 8 m x := by
  rw [cut64 hm0 hm, cut64 hx0 hx] at h
  rw [cut64 hx0 hx, cut64 hx0 hx, amoG_8]
  rw [if_pos h]
theorem fin32_8y {m x : Int} (hm0 : 0 ≤ m) (_hm : m < 18446744073709551616) (hx0 : 0 ≤ x) (_hx : x < 18446744073709551616) (h : cutS m 0 32 < cutS x 0 32) : cutS (cutS x 0 32) 0 32 = amoG 8 (signS m 32) (signS x 32) % 4294967296 := by
  have e1 := sgn_mod hm0
  have e2 := sgn_mod hx0
  rw [cut32 hm0, cut32 hx0] at h
  have k1 := sgn32 hm0
  have k2 := sgn32 hx0
  rw [cut32 hx0, cut32 (by omega), amoG_8]
  have c : signS m 32 < signS x 32 := by
    rw [k1, k2]
    (repeat' split) <;> omega
  rw [if_pos c]
  omega
theorem fin64_8n {m x : Int} (hm0 : 0 ≤ m) (hm : m < 18446744073709551616) (hx0 : 0 ≤ x) (hx : x < 18446744073709551616) (h : ¬ cutS m 0 64 < cutS x 0 64) : cutS (cutS m 0 64) 0 64 = amoG 8 m x := by
  rw [cut64 hm0 hm, cut64 hx0 hx] at h
  rw [cut64 hm0 hm, cut64 hm0 hm, amoG_8]
  rw [if_neg h]
theorem fin32_8n {m x : Int} (hm0 : 0 ≤ m) (_hm : m < 18446744073709551616) (hx0 : 0 ≤ x) (_hx : x < 18446744073709551616) (h : ¬ cutS m 0 32 < cutS x 0 32) : cutS (cutS m 0 32) 0 32 = amoG 8 (signS m 32) (signS x 32) % 4294967296 := by
  have e1 := sgn_mod hm0
  have e2 := sgn_mod hx0
  rw [cut32 hm0, cut32 hx0] at h
  have k1 := sgn32 hm0
  have k2 := sgn32 hx0
  rw [cut32 hm0, cut32 (by omega), amoG_8]
  have c : ¬ (signS m 32 < signS x 32) := by
    rw [k1, k2]
    (repeat' split) <;> omega
  rw [if_neg c]
  omega
end Go.Proofs.YtjeolfcefeglpabGreat
set_option maxRecDepth 20000
namespace Go.Proofs.YtjeolfcefeglpabGreat
open Go.ChangeShapes Go.WideShapes Go.ChangeAt Go.RowKit Wd

set_option maxHeartbeats 8000000 in
theorem refAmo_69 (m x : Int) (w : World) (hm0 : 0 ≤ m) (hm : m < 18446744073709551616) (hx0 : 0 ≤ x) (hx : x < 18446744073709551616) : Calls Tryz.prog 48 #[.int .i64 69, .int .u64 m, .int .u64 x] w fun e w' => e = .returned (.tuple #[.int .u64 (amoG 0 (signS m 32) (signS x 32) % 4294967296), .bool true]) ∧ Below w.heap.size w w' := by
  have hsz : sizeS 69 = 4 := by decide +kernel
  have ra := cutS_range m 0 32
  have rb := cutS_range x 0 32
  have HV := Lib.hid (fin32_0 hm0 hm hx0 hx)
  generalize (amoG 0 (signS m 32) (signS x 32) % 4294967296) = V at *
  obtain ⟨a0, a1⟩ := ra
  obtain ⟨b0, b1⟩ := rb
  generalize hA : cutS m 0 32 = A at *
  generalize hB : cutS x 0 32 = B at *
  obtain ⟨s0, s1⟩ := signS_range A 32
  obtain ⟨t0, t1⟩ := signS_range B 32
  generalize hL : lessS (signS B 32) (signS A 32) = L at *
  have HA := Lib.hid hA
  have HBB := Lib.hid hB
  have HL := Lib.hid hL
  clear hA hB hL
  go_enter Tryz.func48, Tryz.ntmps48
  go_wp2_with fail
  refine (refIs_69 _).mono ?_
  rintro e w1 ⟨rfl, hb1⟩
  have HB1 := Lib.hid hb1
  clear hb1
  go_wp2_with fail
  refine (refSize_c _ _).mono ?_
  rintro e w2 ⟨rfl, hb2⟩
  have HB2 := Lib.hid (HB1.out.trans (hb2.mono HB1.out.size))
  clear hb2
  rw [hsz]
  go_wp2_with fail
  refine (refCut_c _ _ _ _ hm0 hm (by omega) (by omega)).mono ?_
  rintro e w3 ⟨rfl, hb3⟩
  have HB3 := Lib.hid (HB2.out.trans (hb3.mono HB2.out.size))
  clear hb3
  rw [HA.out]
  go_wp2_with fail
  refine (refCut_c _ _ _ _ hx0 hx (by omega) (by omega)).mono ?_
  rintro e w4 ⟨rfl, hb4⟩
  have HB4 := Lib.hid (HB3.out.trans (hb4.mono HB3.out.size))
  clear hb4
  rw [HBB.out]
  go_wp2_with fail
  refine (refSign_c _ _ _ b0 b1 (by omega)).mono ?_
  rintro e w5 ⟨rfl, hb5⟩
  have HB5 := Lib.hid (HB4.out.trans (hb5.mono HB4.out.size))
  clear hb5
  go_wp2_with fail
  refine (refSign_c _ _ _ a0 a1 (by omega)).mono ?_
  rintro e w6 ⟨rfl, hb6⟩
  have HB6 := Lib.hid (HB5.out.trans (hb6.mono HB5.out.size))
  clear hb6
  go_wp2_with fail
  refine (refLess_c _ _ _ t0 t1 s0 s1).mono ?_
  rintro e w' ⟨rfl, rfl⟩
  rw [HL.out]
  go_wp2_with fail
  refine (refWord_69 _).mono ?_
  rintro e w7 ⟨rfl, hb7⟩
  have HB7 := Lib.hid (HB6.out.trans (hb7.mono HB6.out.size))
  clear hb7
  go_wp2_with fail
  refine (refCut_c _ _ _ _ b0 b1 (by omega) (by omega)).mono ?_
  rintro e w8 ⟨rfl, hb8⟩
  have HB8 := Lib.hid (HB7.out.trans (hb8.mono HB7.out.size))
  clear hb8
  go_wp2_with fail
  go_ret2
  exact ⟨ret2_u (HV.out), HB8.out⟩

set_option maxHeartbeats 8000000 in
theorem refAmo_70 (m x : Int) (w : World) (hm0 : 0 ≤ m) (hm : m < 18446744073709551616) (hx0 : 0 ≤ x) (hx : x < 18446744073709551616) : Calls Tryz.prog 48 #[.int .i64 70, .int .u64 m, .int .u64 x] w fun e w' => e = .returned (.tuple #[.int .u64 (amoG 1 (signS m 32) (signS x 32) % 4294967296), .bool true]) ∧ Below w.heap.size w w' := by
  have hsz : sizeS 70 = 4 := by decide +kernel
  have ra := cutS_range m 0 32
  have rb := cutS_range x 0 32
  have HV := Lib.hid (fin32_1 hm0 hm hx0 hx)
  generalize (amoG 1 (signS m 32) (signS x 32) % 4294967296) = V at *
  obtain ⟨a0, a1⟩ := ra
  obtain ⟨b0, b1⟩ := rb
  generalize hA : cutS m 0 32 = A at *
  generalize hB : cutS x 0 32 = B at *
  obtain ⟨s0, s1⟩ := signS_range A 32
  obtain ⟨t0, t1⟩ := signS_range B 32
  generalize hL : lessS (signS B 32) (signS A 32) = L at *
  have HA := Lib.hid hA
  have HBB := Lib.hid hB
  have HL := Lib.hid hL
  clear hA hB hL
  go_enter Tryz.func48, Tryz.ntmps48
  go_wp2_with fail
  refine (refIs_70 _).mono ?_
  rintro e w1 ⟨rfl, hb1⟩
  have HB1 := Lib.hid hb1
  clear hb1
  go_wp2_with fail
  refine (refSize_c _ _).mono ?_
  rintro e w2 ⟨rfl, hb2⟩
  have HB2 := Lib.hid (HB1.out.trans (hb2.mono HB1.out.size))
  clear hb2
  rw [hsz]
  go_wp2_with fail
  refine (refCut_c _ _ _ _ hm0 hm (by omega) (by omega)).mono ?_
  rintro e w3 ⟨rfl, hb3⟩
  have HB3 := Lib.hid (HB2.out.trans (hb3.mono HB2.out.size))
  clear hb3
  rw [HA.out]
  go_wp2_with fail
  refine (refCut_c _ _ _ _ hx0 hx (by omega) (by omega)).mono ?_
  rintro e w4 ⟨rfl, hb4⟩
  have HB4 := Lib.hid (HB3.out.trans (hb4.mono HB3.out.size))
  clear hb4
  rw [HBB.out]
  go_wp2_with fail
  refine (refSign_c _ _ _ b0 b1 (by omega)).mono ?_
  rintro e w5 ⟨rfl, hb5⟩
  have HB5 := Lib.hid (HB4.out.trans (hb5.mono HB4.out.size))
  clear hb5
  go_wp2_with fail
  refine (refSign_c _ _ _ a0 a1 (by omega)).mono ?_
  rintro e w6 ⟨rfl, hb6⟩
  have HB6 := Lib.hid (HB5.out.trans (hb6.mono HB5.out.size))
  clear hb6
  go_wp2_with fail
  refine (refLess_c _ _ _ t0 t1 s0 s1).mono ?_
  rintro e w' ⟨rfl, rfl⟩
  rw [HL.out]
  go_wp2_with fail
  refine (refWord_70 _).mono ?_
  rintro e w7 ⟨rfl, hb7⟩
  have HB7 := Lib.hid (HB6.out.trans (hb7.mono HB6.out.size))
  clear hb7
  go_wp2_with fail
  refine (refCut_c _ _ _ _ (wrap_range _).1 (wrap_range _).2 (by omega) (by omega)).mono ?_
  rintro e w8 ⟨rfl, hb8⟩
  have HB8 := Lib.hid (HB7.out.trans (hb8.mono HB7.out.size))
  clear hb8
  go_wp2_with fail
  go_ret2
  exact ⟨ret2_u (HV.out), HB8.out⟩

set_option maxHeartbeats 8000000 in
theorem refAmo_71 (m x : Int) (w : World) (hm0 : 0 ≤ m) (hm : m < 18446744073709551616) (hx0 : 0 ≤ x) (hx : x < 18446744073709551616) : Calls Tryz.prog 48 #[.int .i64 71, .int .u64 m, .int .u64 x] w fun e w' => e = .returned (.tuple #[.int .u64 (amoG 2 (signS m 32) (signS x 32) % 4294967296), .bool true]) ∧ Below w.heap.size w w' := by
  have hsz : sizeS 71 = 4 := by decide +kernel
  have ra := cutS_range m 0 32
  have rb := cutS_range x 0 32
  have HV := Lib.hid (fin32_2 hm0 hm hx0 hx)
  generalize (amoG 2 (signS m 32) (signS x 32) % 4294967296) = V at *
  obtain ⟨a0, a1⟩ := ra
  obtain ⟨b0, b1⟩ := rb
  generalize hA : cutS m 0 32 = A at *
  generalize hB : cutS x 0 32 = B at *
  obtain ⟨s0, s1⟩ := signS_range A 32
  obtain ⟨t0, t1⟩ := signS_range B 32
  generalize hL : lessS (signS B 32) (signS A 32) = L at *
  have HA := Lib.hid hA
  have HBB := Lib.hid hB
  have HL := Lib.hid hL
  clear hA hB hL
  go_enter Tryz.func48, Tryz.ntmps48
  go_wp2_with fail
  refine (refIs_71 _).mono ?_
  rintro e w1 ⟨rfl, hb1⟩
  have HB1 := Lib.hid hb1
  clear hb1
  go_wp2_with fail
  refine (refSize_c _ _).mono ?_
  rintro e w2 ⟨rfl, hb2⟩
  have HB2 := Lib.hid (HB1.out.trans (hb2.mono HB1.out.size))
  clear hb2
  rw [hsz]
  go_wp2_with fail
  refine (refCut_c _ _ _ _ hm0 hm (by omega) (by omega)).mono ?_
  rintro e w3 ⟨rfl, hb3⟩
  have HB3 := Lib.hid (HB2.out.trans (hb3.mono HB2.out.size))
  clear hb3
  rw [HA.out]
  go_wp2_with fail
  refine (refCut_c _ _ _ _ hx0 hx (by omega) (by omega)).mono ?_
  rintro e w4 ⟨rfl, hb4⟩
  have HB4 := Lib.hid (HB3.out.trans (hb4.mono HB3.out.size))
  clear hb4
  rw [HBB.out]
  go_wp2_with fail
  refine (refSign_c _ _ _ b0 b1 (by omega)).mono ?_
  rintro e w5 ⟨rfl, hb5⟩
  have HB5 := Lib.hid (HB4.out.trans (hb5.mono HB4.out.size))
  clear hb5
  go_wp2_with fail
  refine (refSign_c _ _ _ a0 a1 (by omega)).mono ?_
  rintro e w6 ⟨rfl, hb6⟩
  have HB6 := Lib.hid (HB5.out.trans (hb6.mono HB5.out.size))
  clear hb6
  go_wp2_with fail
  refine (refLess_c _ _ _ t0 t1 s0 s1).mono ?_
  rintro e w' ⟨rfl, rfl⟩
  rw [HL.out]
  go_wp2_with fail
  refine (refWord_71 _).mono ?_
  rintro e w7 ⟨rfl, hb7⟩
  have HB7 := Lib.hid (HB6.out.trans (hb7.mono HB6.out.size))
  clear hb7
  go_wp2_with fail
  refine (refDo_xor 36 _ _ _ refName_36 a0 a1 b0 b1).mono ?_
  rintro e w8 ⟨rfl, hb8⟩
  have HB8 := Lib.hid (HB7.out.trans (hb8.mono HB7.out.size))
  clear hb8
  go_wp2_with fail
  refine (refCut_c _ _ _ _ (xor_range a0 a1 b0 b1).1 (xor_range a0 a1 b0 b1).2 (by omega) (by omega)).mono ?_
  rintro e w9 ⟨rfl, hb9⟩
  have HB9 := Lib.hid (HB8.out.trans (hb9.mono HB8.out.size))
  clear hb9
  go_wp2_with fail
  go_ret2
  exact ⟨ret2_u (HV.out), HB9.out⟩

set_option maxHeartbeats 8000000 in
theorem refAmo_72 (m x : Int) (w : World) (hm0 : 0 ≤ m) (hm : m < 18446744073709551616) (hx0 : 0 ≤ x) (hx : x < 18446744073709551616) : Calls Tryz.prog 48 #[.int .i64 72, .int .u64 m, .int .u64 x] w fun e w' => e = .returned (.tuple #[.int .u64 (amoG 3 (signS m 32) (signS x 32) % 4294967296), .bool true]) ∧ Below w.heap.size w w' := by
  have hsz : sizeS 72 = 4 := by decide +kernel
  have ra := cutS_range m 0 32
  have rb := cutS_range x 0 32
  have HV := Lib.hid (fin32_3 hm0 hm hx0 hx)
  generalize (amoG 3 (signS m 32) (signS x 32) % 4294967296) = V at *
  obtain ⟨a0, a1⟩ := ra
  obtain ⟨b0, b1⟩ := rb
  generalize hA : cutS m 0 32 = A at *
  generalize hB : cutS x 0 32 = B at *
  obtain ⟨s0, s1⟩ := signS_range A 32
  obtain ⟨t0, t1⟩ := signS_range B 32
  generalize hL : lessS (signS B 32) (signS A 32) = L at *
  have HA := Lib.hid hA
  have HBB := Lib.hid hB
  have HL := Lib.hid hL
  clear hA hB hL
  go_enter Tryz.func48, Tryz.ntmps48
  go_wp2_with fail
  refine (refIs_72 _).mono ?_
  rintro e w1 ⟨rfl, hb1⟩
  have HB1 := Lib.hid hb1
  clear hb1
  go_wp2_with fail
  refine (refSize_c _ _).mono ?_
  rintro e w2 ⟨rfl, hb2⟩
  have HB2 := Lib.hid (HB1.out.trans (hb2.mono HB1.out.size))
  clear hb2
  rw [hsz]
  go_wp2_with fail
  refine (refCut_c _ _ _ _ hm0 hm (by omega) (by omega)).mono ?_
  rintro e w3 ⟨rfl, hb3⟩
  have HB3 := Lib.hid (HB2.out.trans (hb3.mono HB2.out.size))
  clear hb3
  rw [HA.out]
  go_wp2_with fail
  refine (refCut_c _ _ _ _ hx0 hx (by omega) (by omega)).mono ?_
  rintro e w4 ⟨rfl, hb4⟩
  have HB4 := Lib.hid (HB3.out.trans (hb4.mono HB3.out.size))
  clear hb4
  rw [HBB.out]
  go_wp2_with fail
  refine (refSign_c _ _ _ b0 b1 (by omega)).mono ?_
  rintro e w5 ⟨rfl, hb5⟩
  have HB5 := Lib.hid (HB4.out.trans (hb5.mono HB4.out.size))
  clear hb5
  go_wp2_with fail
  refine (refSign_c _ _ _ a0 a1 (by omega)).mono ?_
  rintro e w6 ⟨rfl, hb6⟩
  have HB6 := Lib.hid (HB5.out.trans (hb6.mono HB5.out.size))
  clear hb6
  go_wp2_with fail
  refine (refLess_c _ _ _ t0 t1 s0 s1).mono ?_
  rintro e w' ⟨rfl, rfl⟩
  rw [HL.out]
  go_wp2_with fail
  refine (refWord_72 _).mono ?_
  rintro e w7 ⟨rfl, hb7⟩
  have HB7 := Lib.hid (HB6.out.trans (hb7.mono HB6.out.size))
  clear hb7
  go_wp2_with fail
  refine (refDo_and 40 _ _ _ refName_40 a0 a1 b0 b1).mono ?_
  rintro e w8 ⟨rfl, hb8⟩
  have HB8 := Lib.hid (HB7.out.trans (hb8.mono HB7.out.size))
  clear hb8
  go_wp2_with fail
  refine (refCut_c _ _ _ _ (and_range a0 a1 b0 b1).1 (and_range a0 a1 b0 b1).2 (by omega) (by omega)).mono ?_
  rintro e w9 ⟨rfl, hb9⟩
  have HB9 := Lib.hid (HB8.out.trans (hb9.mono HB8.out.size))
  clear hb9
  go_wp2_with fail
  go_ret2
  exact ⟨ret2_u (HV.out), HB9.out⟩

set_option maxHeartbeats 8000000 in
theorem refAmo_73 (m x : Int) (w : World) (hm0 : 0 ≤ m) (hm : m < 18446744073709551616) (hx0 : 0 ≤ x) (hx : x < 18446744073709551616) : Calls Tryz.prog 48 #[.int .i64 73, .int .u64 m, .int .u64 x] w fun e w' => e = .returned (.tuple #[.int .u64 (amoG 4 (signS m 32) (signS x 32) % 4294967296), .bool true]) ∧ Below w.heap.size w w' := by
  have hsz : sizeS 73 = 4 := by decide +kernel
  have ra := cutS_range m 0 32
  have rb := cutS_range x 0 32
  have HV := Lib.hid (fin32_4 hm0 hm hx0 hx)
  generalize (amoG 4 (signS m 32) (signS x 32) % 4294967296) = V at *
  obtain ⟨a0, a1⟩ := ra
  obtain ⟨b0, b1⟩ := rb
  generalize hA : cutS m 0 32 = A at *
  generalize hB : cutS x 0 32 = B at *
  obtain ⟨s0, s1⟩ := signS_range A 32
  obtain ⟨t0, t1⟩ := signS_range B 32
  generalize hL : lessS (signS B 32) (signS A 32) = L at *
  have HA := Lib.hid hA
  have HBB := Lib.hid hB
  have HL := Lib.hid hL
  clear hA hB hL
  go_enter Tryz.func48, Tryz.ntmps48
  go_wp2_with fail
  refine (refIs_73 _).mono ?_
  rintro e w1 ⟨rfl, hb1⟩
  have HB1 := Lib.hid hb1
  clear hb1
  go_wp2_with fail
  refine (refSize_c _ _).mono ?_
  rintro e w2 ⟨rfl, hb2⟩
  have HB2 := Lib.hid (HB1.out.trans (hb2.mono HB1.out.size))
  clear hb2
  rw [hsz]
  go_wp2_with fail
  refine (refCut_c _ _ _ _ hm0 hm (by omega) (by omega)).mono ?_
  rintro e w3 ⟨rfl, hb3⟩
  have HB3 := Lib.hid (HB2.out.trans (hb3.mono HB2.out.size))
  clear hb3
  rw [HA.out]
  go_wp2_with fail
  refine (refCut_c _ _ _ _ hx0 hx (by omega) (by omega)).mono ?_
  rintro e w4 ⟨rfl, hb4⟩
  have HB4 := Lib.hid (HB3.out.trans (hb4.mono HB3.out.size))
  clear hb4
  rw [HBB.out]
  go_wp2_with fail
  refine (refSign_c _ _ _ b0 b1 (by omega)).mono ?_
  rintro e w5 ⟨rfl, hb5⟩
  have HB5 := Lib.hid (HB4.out.trans (hb5.mono HB4.out.size))
  clear hb5
  go_wp2_with fail
  refine (refSign_c _ _ _ a0 a1 (by omega)).mono ?_
  rintro e w6 ⟨rfl, hb6⟩
  have HB6 := Lib.hid (HB5.out.trans (hb6.mono HB5.out.size))
  clear hb6
  go_wp2_with fail
  refine (refLess_c _ _ _ t0 t1 s0 s1).mono ?_
  rintro e w' ⟨rfl, rfl⟩
  rw [HL.out]
  go_wp2_with fail
  refine (refWord_73 _).mono ?_
  rintro e w7 ⟨rfl, hb7⟩
  have HB7 := Lib.hid (HB6.out.trans (hb7.mono HB6.out.size))
  clear hb7
  go_wp2_with fail
  refine (refDo_or 39 _ _ _ refName_39 a0 a1 b0 b1).mono ?_
  rintro e w8 ⟨rfl, hb8⟩
  have HB8 := Lib.hid (HB7.out.trans (hb8.mono HB7.out.size))
  clear hb8
  go_wp2_with fail
  refine (refCut_c _ _ _ _ (or_range a0 a1 b0 b1).1 (or_range a0 a1 b0 b1).2 (by omega) (by omega)).mono ?_
  rintro e w9 ⟨rfl, hb9⟩
  have HB9 := Lib.hid (HB8.out.trans (hb9.mono HB8.out.size))
  clear hb9
  go_wp2_with fail
  go_ret2
  exact ⟨ret2_u (HV.out), HB9.out⟩

set_option maxHeartbeats 8000000 in
theorem refAmo_74 (m x : Int) (w : World) (hm0 : 0 ≤ m) (hm : m < 18446744073709551616) (hx0 : 0 ≤ x) (hx : x < 18446744073709551616) : Calls Tryz.prog 48 #[.int .i64 74, .int .u64 m, .int .u64 x] w fun e w' => e = .returned (.tuple #[.int .u64 (amoG 5 (signS m 32) (signS x 32) % 4294967296), .bool true]) ∧ Below w.heap.size w w' := by
  have hsz : sizeS 74 = 4 := by decide +kernel
  have ra := cutS_range m 0 32
  have rb := cutS_range x 0 32
  have HY := Lib.hid (fun h => fin32_5y hm0 hm hx0 hx h)
  have HN := Lib.hid (fun h => fin32_5n hm0 hm hx0 hx h)
  generalize (amoG 5 (signS m 32) (signS x 32) % 4294967296) = V at *
  obtain ⟨a0, a1⟩ := ra
  obtain ⟨b0, b1⟩ := rb
  generalize hA : cutS m 0 32 = A at *
  generalize hB : cutS x 0 32 = B at *
  obtain ⟨s0, s1⟩ := signS_range A 32
  obtain ⟨t0, t1⟩ := signS_range B 32
  generalize hL : lessS (signS B 32) (signS A 32) = L at *
  have HA := Lib.hid hA
  have HBB := Lib.hid hB
  have HL := Lib.hid hL
  clear hA hB hL
  go_enter Tryz.func48, Tryz.ntmps48
  go_wp2_with fail
  refine (refIs_74 _).mono ?_
  rintro e w1 ⟨rfl, hb1⟩
  have HB1 := Lib.hid hb1
  clear hb1
  go_wp2_with fail
  refine (refSize_c _ _).mono ?_
  rintro e w2 ⟨rfl, hb2⟩
  have HB2 := Lib.hid (HB1.out.trans (hb2.mono HB1.out.size))
  clear hb2
  rw [hsz]
  go_wp2_with fail
  refine (refCut_c _ _ _ _ hm0 hm (by omega) (by omega)).mono ?_
  rintro e w3 ⟨rfl, hb3⟩
  have HB3 := Lib.hid (HB2.out.trans (hb3.mono HB2.out.size))
  clear hb3
  rw [HA.out]
  go_wp2_with fail
  refine (refCut_c _ _ _ _ hx0 hx (by omega) (by omega)).mono ?_
  rintro e w4 ⟨rfl, hb4⟩
  have HB4 := Lib.hid (HB3.out.trans (hb4.mono HB3.out.size))
  clear hb4
  rw [HBB.out]
  go_wp2_with fail
  refine (refSign_c _ _ _ b0 b1 (by omega)).mono ?_
  rintro e w5 ⟨rfl, hb5⟩
  have HB5 := Lib.hid (HB4.out.trans (hb5.mono HB4.out.size))
  clear hb5
  go_wp2_with fail
  refine (refSign_c _ _ _ a0 a1 (by omega)).mono ?_
  rintro e w6 ⟨rfl, hb6⟩
  have HB6 := Lib.hid (HB5.out.trans (hb6.mono HB5.out.size))
  clear hb6
  go_wp2_with fail
  refine (refLess_c _ _ _ t0 t1 s0 s1).mono ?_
  rintro e w' ⟨rfl, rfl⟩
  rw [HL.out]
  go_wp2_with fail
  refine (refWord_74 _).mono ?_
  rintro e w7 ⟨rfl, hb7⟩
  have HB7 := Lib.hid (HB6.out.trans (hb7.mono HB6.out.size))
  clear hb7
  cases L
  · have HV := Lib.hid (HN.out rfl)
    clear HY HN
    go_wp2_with fail
    refine (refCut_c _ _ _ _ a0 a1 (by omega) (by omega)).mono ?_
    rintro e w8 ⟨rfl, hb8⟩
    have HB8 := Lib.hid (HB7.out.trans (hb8.mono HB7.out.size))
    clear hb8
    go_wp2_with fail
    go_ret2
    exact ⟨ret2_u (HV.out), HB8.out⟩
  · have HV := Lib.hid (HY.out rfl)
    clear HY HN
    go_wp2_with fail
    refine (refCut_c _ _ _ _ b0 b1 (by omega) (by omega)).mono ?_
    rintro e w8 ⟨rfl, hb8⟩
    have HB8 := Lib.hid (HB7.out.trans (hb8.mono HB7.out.size))
    clear hb8
    go_wp2_with fail
    go_ret2
    exact ⟨ret2_u (HV.out), HB8.out⟩

set_option maxHeartbeats 8000000 in
theorem refAmo_75 (m x : Int) (w : World) (hm0 : 0 ≤ m) (hm : m < 18446744073709551616) (hx0 : 0 ≤ x) (hx : x < 18446744073709551616) : Calls Tryz.prog 48 #[.int .i64 75, .int .u64 m, .int .u64 x] w fun e w' => e = .returned (.tuple #[.int .u64 (amoG 6 (signS m 32) (signS x 32) % 4294967296), .bool true]) ∧ Below w.heap.size w w' := by
  have hsz : sizeS 75 = 4 := by decide +kernel
  have ra := cutS_range m 0 32
  have rb := cutS_range x 0 32
  have HY := Lib.hid (fun h => fin32_6y hm0 hm hx0 hx h)
  have HN := Lib.hid (fun h => fin32_6n hm0 hm hx0 hx h)
  generalize (amoG 6 (signS m 32) (signS x 32) % 4294967296) = V at *
  obtain ⟨a0, a1⟩ := ra
  obtain ⟨b0, b1⟩ := rb
  generalize hA : cutS m 0 32 = A at *
  generalize hB : cutS x 0 32 = B at *
  obtain ⟨s0, s1⟩ := signS_range A 32
  obtain ⟨t0, t1⟩ := signS_range B 32
  generalize hL : lessS (signS B 32) (signS A 32) = L at *
  have HA := Lib.hid hA
  have HBB := Lib.hid hB
  have HL := Lib.hid hL
  clear hA hB hL
  go_enter Tryz.func48, Tryz.ntmps48
  go_wp2_with fail
  refine (refIs_75 _).mono ?_
  rintro e w1 ⟨rfl, hb1⟩
  have HB1 := Lib.hid hb1
  clear hb1
  go_wp2_with fail
  refine (refSize_c _ _).mono ?_
  rintro e w2 ⟨rfl, hb2⟩
  have HB2 := Lib.hid (HB1.out.trans (hb2.mono HB1.out.size))
  clear hb2
  rw [hsz]
  go_wp2_with fail
  refine (refCut_c _ _ _ _ hm0 hm (by omega) (by omega)).mono ?_
  rintro e w3 ⟨rfl, hb3⟩
  have HB3 := Lib.hid (HB2.out.trans (hb3.mono HB2.out.size))
  clear hb3
  rw [HA.out]
  go_wp2_with fail
  refine (refCut_c _ _ _ _ hx0 hx (by omega) (by omega)).mono ?_
  rintro e w4 ⟨rfl, hb4⟩
  have HB4 := Lib.hid (HB3.out.trans (hb4.mono HB3.out.size))
  clear hb4
  rw [HBB.out]
  go_wp2_with fail
  refine (refSign_c _ _ _ b0 b1 (by omega)).mono ?_
  rintro e w5 ⟨rfl, hb5⟩
  have HB5 := Lib.hid (HB4.out.trans (hb5.mono HB4.out.size))
  clear hb5
  go_wp2_with fail
  refine (refSign_c _ _ _ a0 a1 (by omega)).mono ?_
  rintro e w6 ⟨rfl, hb6⟩
  have HB6 := Lib.hid (HB5.out.trans (hb6.mono HB5.out.size))
  clear hb6
  go_wp2_with fail
  refine (refLess_c _ _ _ t0 t1 s0 s1).mono ?_
  rintro e w' ⟨rfl, rfl⟩
  rw [HL.out]
  go_wp2_with fail
  refine (refWord_75 _).mono ?_
  rintro e w7 ⟨rfl, hb7⟩
  have HB7 := Lib.hid (HB6.out.trans (hb7.mono HB6.out.size))
  clear hb7
  cases L
  · have HV := Lib.hid (HY.out rfl)
    clear HY HN
    go_wp2_with fail
    refine (refCut_c _ _ _ _ b0 b1 (by omega) (by omega)).mono ?_
    rintro e w8 ⟨rfl, hb8⟩
    have HB8 := Lib.hid (HB7.out.trans (hb8.mono HB7.out.size))
    clear hb8
    go_wp2_with fail
    go_ret2
    exact ⟨ret2_u (HV.out), HB8.out⟩
  · have HV := Lib.hid (HN.out rfl)
    clear HY HN
    go_wp2_with fail
    refine (refCut_c _ _ _ _ a0 a1 (by omega) (by omega)).mono ?_
    rintro e w8 ⟨rfl, hb8⟩
    have HB8 := Lib.hid (HB7.out.trans (hb8.mono HB7.out.size))
    clear hb8
    go_wp2_with fail
    go_ret2
    exact ⟨ret2_u (HV.out), HB8.out⟩

set_option maxHeartbeats 8000000 in
theorem refAmo_76 (m x : Int) (w : World) (hm0 : 0 ≤ m) (hm : m < 18446744073709551616) (hx0 : 0 ≤ x) (hx : x < 18446744073709551616) : Calls Tryz.prog 48 #[.int .i64 76, .int .u64 m, .int .u64 x] w fun e w' => e = .returned (.tuple #[.int .u64 (amoG 7 (signS m 32) (signS x 32) % 4294967296), .bool true]) ∧ Below w.heap.size w w' := by
  have hsz : sizeS 76 = 4 := by decide +kernel
  have ra := cutS_range m 0 32
  have rb := cutS_range x 0 32
  have HY := Lib.hid (fun h => fin32_7y hm0 hm hx0 hx h)
  have HN := Lib.hid (fun h => fin32_7n hm0 hm hx0 hx h)
  generalize (amoG 7 (signS m 32) (signS x 32) % 4294967296) = V at *
  obtain ⟨a0, a1⟩ := ra
  obtain ⟨b0, b1⟩ := rb
  generalize hA : cutS m 0 32 = A at *
  generalize hB : cutS x 0 32 = B at *
  obtain ⟨s0, s1⟩ := signS_range A 32
  obtain ⟨t0, t1⟩ := signS_range B 32
  generalize hL : lessS (signS B 32) (signS A 32) = L at *
  have HA := Lib.hid hA
  have HBB := Lib.hid hB
  have HL := Lib.hid hL
  clear hA hB hL
  go_enter Tryz.func48, Tryz.ntmps48
  go_wp2_with fail
  refine (refIs_76 _).mono ?_
  rintro e w1 ⟨rfl, hb1⟩
  have HB1 := Lib.hid hb1
  clear hb1
  go_wp2_with fail
  refine (refSize_c _ _).mono ?_
  rintro e w2 ⟨rfl, hb2⟩
  have HB2 := Lib.hid (HB1.out.trans (hb2.mono HB1.out.size))
  clear hb2
  rw [hsz]
  go_wp2_with fail
  refine (refCut_c _ _ _ _ hm0 hm (by omega) (by omega)).mono ?_
  rintro e w3 ⟨rfl, hb3⟩
  have HB3 := Lib.hid (HB2.out.trans (hb3.mono HB2.out.size))
  clear hb3
  rw [HA.out]
  go_wp2_with fail
  refine (refCut_c _ _ _ _ hx0 hx (by omega) (by omega)).mono ?_
  rintro e w4 ⟨rfl, hb4⟩
  have HB4 := Lib.hid (HB3.out.trans (hb4.mono HB3.out.size))
  clear hb4
  rw [HBB.out]
  go_wp2_with fail
  refine (refSign_c _ _ _ b0 b1 (by omega)).mono ?_
  rintro e w5 ⟨rfl, hb5⟩
  have HB5 := Lib.hid (HB4.out.trans (hb5.mono HB4.out.size))
  clear hb5
  go_wp2_with fail
  refine (refSign_c _ _ _ a0 a1 (by omega)).mono ?_
  rintro e w6 ⟨rfl, hb6⟩
  have HB6 := Lib.hid (HB5.out.trans (hb6.mono HB5.out.size))
  clear hb6
  go_wp2_with fail
  refine (refLess_c _ _ _ t0 t1 s0 s1).mono ?_
  rintro e w' ⟨rfl, rfl⟩
  rw [HL.out]
  go_wp2_with fail
  refine (refWord_76 _).mono ?_
  rintro e w7 ⟨rfl, hb7⟩
  have HB7 := Lib.hid (HB6.out.trans (hb7.mono HB6.out.size))
  clear hb7
  by_cases hc : B < A
  · have HV := Lib.hid (HY.out (by omega))
    clear HY HN
    have hd : decide (B < A) = true := decide_eq_true (by omega)
    clear hc
    go_wp2_with fail
    refine (refCut_c _ _ _ _ b0 b1 (by omega) (by omega)).mono ?_
    rintro e w8 ⟨rfl, hb8⟩
    have HB8 := Lib.hid (HB7.out.trans (hb8.mono HB7.out.size))
    clear hb8
    go_wp2_with fail
    go_ret2
    exact ⟨ret2_u (HV.out), HB8.out⟩
  · have HV := Lib.hid (HN.out (by omega))
    clear HY HN
    have hd : decide (B < A) = false := decide_eq_false (by omega)
    clear hc
    go_wp2_with fail
    refine (refCut_c _ _ _ _ a0 a1 (by omega) (by omega)).mono ?_
    rintro e w8 ⟨rfl, hb8⟩
    have HB8 := Lib.hid (HB7.out.trans (hb8.mono HB7.out.size))
    clear hb8
    go_wp2_with fail
    go_ret2
    exact ⟨ret2_u (HV.out), HB8.out⟩

set_option maxHeartbeats 8000000 in
theorem refAmo_77 (m x : Int) (w : World) (hm0 : 0 ≤ m) (hm : m < 18446744073709551616) (hx0 : 0 ≤ x) (hx : x < 18446744073709551616) : Calls Tryz.prog 48 #[.int .i64 77, .int .u64 m, .int .u64 x] w fun e w' => e = .returned (.tuple #[.int .u64 (amoG 8 (signS m 32) (signS x 32) % 4294967296), .bool true]) ∧ Below w.heap.size w w' := by
  have hsz : sizeS 77 = 4 := by decide +kernel
  have ra := cutS_range m 0 32
  have rb := cutS_range x 0 32
  have HY := Lib.hid (fun h => fin32_8y hm0 hm hx0 hx h)
  have HN := Lib.hid (fun h => fin32_8n hm0 hm hx0 hx h)
  generalize (amoG 8 (signS m 32) (signS x 32) % 4294967296) = V at *
  obtain ⟨a0, a1⟩ := ra
  obtain ⟨b0, b1⟩ := rb
  generalize hA : cutS m 0 32 = A at *
  generalize hB : cutS x 0 32 = B at *
  obtain ⟨s0, s1⟩ := signS_range A 32
  obtain ⟨t0, t1⟩ := signS_range B 32
  generalize hL : lessS (signS B 32) (signS A 32) = L at *
  have HA := Lib.hid hA
  have HBB := Lib.hid hB
  have HL := Lib.hid hL
  clear hA hB hL
  go_enter Tryz.func48, Tryz.ntmps48
  go_wp2_with fail
  refine (refIs_77 _).mono ?_
  rintro e w1 ⟨rfl, hb1⟩
  have HB1 := Lib.hid hb1
  clear hb1
  go_wp2_with fail
  refine (refSize_c _ _).mono ?_
  rintro e w2 ⟨rfl, hb2⟩
  have HB2 := Lib.hid (HB1.out.trans (hb2.mono HB1.out.size))
  clear hb2
  rw [hsz]
  go_wp2_with fail
  refine (refCut_c _ _ _ _ hm0 hm (by omega) (by omega)).mono ?_
  rintro e w3 ⟨rfl, hb3⟩
  have HB3 := Lib.hid (HB2.out.trans (hb3.mono HB2.out.size))
  clear hb3
  rw [HA.out]
  go_wp2_with fail
  refine (refCut_c _ _ _ _ hx0 hx (by omega) (by omega)).mono ?_
  rintro e w4 ⟨rfl, hb4⟩
  have HB4 := Lib.hid (HB3.out.trans (hb4.mono HB3.out.size))
  clear hb4
  rw [HBB.out]
  go_wp2_with fail
  refine (refSign_c _ _ _ b0 b1 (by omega)).mono ?_
  rintro e w5 ⟨rfl, hb5⟩
  have HB5 := Lib.hid (HB4.out.trans (hb5.mono HB4.out.size))
  clear hb5
  go_wp2_with fail
  refine (refSign_c _ _ _ a0 a1 (by omega)).mono ?_
  rintro e w6 ⟨rfl, hb6⟩
  have HB6 := Lib.hid (HB5.out.trans (hb6.mono HB5.out.size))
  clear hb6
  go_wp2_with fail
  refine (refLess_c _ _ _ t0 t1 s0 s1).mono ?_
  rintro e w' ⟨rfl, rfl⟩
  rw [HL.out]
  go_wp2_with fail
  refine (refWord_77 _).mono ?_
  rintro e w7 ⟨rfl, hb7⟩
  have HB7 := Lib.hid (HB6.out.trans (hb7.mono HB6.out.size))
  clear hb7
  by_cases hc : A < B
  · have HV := Lib.hid (HY.out (by omega))
    clear HY HN
    have hd : decide (A < B) = true := decide_eq_true (by omega)
    clear hc
    go_wp2_with fail
    refine (refCut_c _ _ _ _ b0 b1 (by omega) (by omega)).mono ?_
    rintro e w8 ⟨rfl, hb8⟩
    have HB8 := Lib.hid (HB7.out.trans (hb8.mono HB7.out.size))
    clear hb8
    go_wp2_with fail
    go_ret2
    exact ⟨ret2_u (HV.out), HB8.out⟩
  · have HV := Lib.hid (HN.out (by omega))
    clear HY HN
    have hd : decide (A < B) = false := decide_eq_false (by omega)
    clear hc
    go_wp2_with fail
    refine (refCut_c _ _ _ _ a0 a1 (by omega) (by omega)).mono ?_
    rintro e w8 ⟨rfl, hb8⟩
    have HB8 := Lib.hid (HB7.out.trans (hb8.mono HB7.out.size))
    clear hb8
    go_wp2_with fail
    go_ret2
    exact ⟨ret2_u (HV.out), HB8.out⟩

end Go.Proofs.YtjeolfcefeglpabGreat
