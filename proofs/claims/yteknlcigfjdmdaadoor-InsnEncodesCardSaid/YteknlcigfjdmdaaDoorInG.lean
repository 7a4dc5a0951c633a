/-
  Contracts of insn.Imm, insn.Lay.
-/
import Derived.Test.YteknlcigfjdmdaaDoorInF
import Derived.Deep.QuietTactic
import Derived.BigQuiet
namespace Go.Proofs.YteknlcigfjdmdaaDoor
open Go.ChangeShapes Go.WideShapes Go.ChangeAt Go.RowKit Wd

theorem two_boxes (w : World) (u v : Value) (s t : TypeId) : ((w.alloc (.cells #[u] s)).alloc (.cells #[v] t)).cell? ⟨w.heap.size + 1, 0, none⟩ = some v ∧ ((w.alloc (.cells #[u] s)).alloc (.cells #[v] t)).frozen? ⟨w.heap.size + 1, 0, none⟩ = false ∧ ((w.alloc (.cells #[u] s)).alloc (.cells #[v] t)).cell? ⟨w.heap.size, 0, none⟩ = some u := by
  refine ⟨?_, ?_, ?_⟩ <;> simp [go_sem, World.cell?_alloc_past]
set_option maxHeartbeats 2000000 in
theorem imm_c (f x : Int) (w : World) (hx0 : 0 ≤ x) (hx : x < 4294967296) : Calls Tryd.prog 28 #[.int .i64 f, .int .u32 x] w fun e w' => e = .returned (.int .i64 (immD f x)) ∧ Below w.heap.size w w' := by
  have HI := Lib.hid (show immD f x = wrap64 (signS (accW x (partsL f)) (sizeOfSign f)) from rfl)
  rw [HI.out]
  obtain ⟨r0, r1⟩ := accW_range x (partsL f)
  have HR0 := Lib.hid r0
  have HR1 := Lib.hid r1
  clear r0 r1
  go_enter Tryd.func28, Tryd.ntmps28
  go_wp2_with fail
  obtain ⟨b0, b1, b2⟩ := two_boxes w (.int .u32 x) (.int .u64 0) 22 29
  refine (each_imm f x w.heap.size (w.heap.size + 1) w.heap.size _ b0 b1 b2 (by omega) hx0 hx (by simp; omega) (by omega)).mono ?_
  rintro e w1 ⟨rfl, ⟨hc, hf⟩, hb⟩
  have HB := Lib.hid ((((Below.refl w.heap.size w).alloc (Nat.le_refl _) (.cells #[.int .u32 x] 22)).alloc (by simp) (.cells #[.int .u64 0] 29)).trans hb)
  clear hb b0 b1 b2 hf
  generalize hnn : accW x (partsL f) = n at *
  have HNN := Lib.hid hnn
  clear hnn
  go_wp2_with fail
  refine wp_region_still_lit (by kernel_rfl) (by kernel_rfl) ?_
  simp only [drew_eq]
  have hc2 : w1.drew.cell? ⟨w.heap.size + 1, 0, none⟩ = some (.int .u64 n) := hc
  have HB2 := Lib.hid (HB.out.drew)
  clear hc
  generalize w1.drew = w2 at *
  have HCU := Lib.hid (fun w' => Calls.turn (signSize_c f w'))
  have HCV := Lib.hid (fun w' => Calls.turn (sign_c n (sizeOfSign f) w' HR0.out HR1.out))
  iterate 2 still_step
  still_call (HCU.out _)
  still_call (HCV.out _)
  iterate 2 still_step
  refine wpStill_nil ?_
  go_wp2_with fail
  go_ret
  exact ⟨ret_u (by rw [IntWalk.i64_left, HNN.out]), HB2.out⟩
set_option maxHeartbeats 2000000 in
theorem lay_c (f x : Int) (w : World) : Calls Tryd.prog 21 #[.int .i64 f, .int .i64 x] w fun e w' => e = .returned (.int .u32 (layD f x)) ∧ Below w.heap.size w w' := by
  obtain ⟨r0, r1⟩ := layD_lt f x
  have HW := Lib.hid (show IntKind.u32.wrap (accW (IntKind.u64.wrap x) ((partsL f).map swapP)) = layD f x from IntWalk.u32_in _ ⟨r0, by have := r1; unfold layD at this; omega⟩)
  clear r0 r1
  go_enter Tryd.func21, Tryd.ntmps21
  go_wp2_with fail
  obtain ⟨b0, b1, b2⟩ := two_boxes w (.int .i64 x) (.int .u64 0) 2 29
  refine (each_lay f x w.heap.size (w.heap.size + 1) w.heap.size _ b0 b1 b2 (by omega) (by simp; omega) (by omega)).mono ?_
  rintro e w1 ⟨rfl, ⟨hc, hf⟩, hb⟩
  have HB := Lib.hid ((((Below.refl w.heap.size w).alloc (Nat.le_refl _) (.cells #[.int .i64 x] 2)).alloc (by simp) (.cells #[.int .u64 0] 29)).trans hb)
  clear hb b0 b1 b2 hf
  generalize accW (IntKind.u64.wrap x) ((partsL f).map swapP) = n at *
  go_wp2_with fail
  go_ret
  exact ⟨ret_u HW.out, HB.out⟩
end Go.Proofs.YteknlcigfjdmdaaDoor
