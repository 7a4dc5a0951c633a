/-
  The contract of the reference's table of ops (layer 3): Rows. (It builds for some three minutes: 98 rows.)
-/
import Derived.Test.YthehcplogkgkeaaGreatDoorQa
set_option maxRecDepth 4000
namespace Go.Proofs.YthehcplogkgkeaaGreatDoor
open Go.ChangeShapes Go.WideShapes Go.ChangeAt Go.RowKit Wd

theorem info_row : (Tryz.prog.info? 62).map (fun i => (i.zero, i.size, i.bytes)) = some (some (.agg #[.int .i64 0, .string ⟨#[]⟩, .int .u64 0, .int .u64 0]), 4, 40) := by kernel_rfl
def rowV (r : Nat × Nat × Nat × Nat) : List Value := [.int .i64 r.1, strV (Tab.names3.getD r.2.1 []), .int .u64 r.2.2.1, .int .u64 r.2.2.2]
set_option maxHeartbeats 4000000 in
set_option maxRecDepth 1000000 in
theorem refRows_c (w : World) : Calls Tryz.prog 48 #[] w fun e w' => e = .returned (.slice (some ⟨w.heap.size, 0, none⟩) 98 98) ∧ w.alloc (.cells (Tab.rows3.flatMap rowV).toArray 62) = w' := by
  go_enter Tryz.func48, Tryz.ntmps48
  obtain ⟨i0, hi, hz0, hz1, hz2⟩ := info_parts info_row
  go_upto_region 1 with fail
  apply wp_region_lit
  go_wp2_with (with_reducible refine Go.wpList_buildSlice rfl 93 62 98 _ rfl ((Tab.rows3.flatMap rowV).toArray) i0 (.agg #[.int .i64 0, .string ⟨#[]⟩, .int .u64 0, .int .u64 0]) Tryz.underlying93 hi hz0 (by rw [hz1]; decide) (by rw [hz1]; decide) (by rw [hz1]; kernel_rfl) ?_)
  go_ret
  exact ⟨rfl, rfl⟩
end Go.Proofs.YthehcplogkgkeaaGreatDoor
