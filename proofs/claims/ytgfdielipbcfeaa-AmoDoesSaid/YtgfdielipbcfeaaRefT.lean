/-
  Contracts of the reference's tables (layers 3 and 4): Names, Rows.
-/
import Derived.Test.YtgfdielipbcfeaaRefC
import Derived.Test.YtgfdielipbcfeaaTab
import Derived.Great.BuildSlice
import Derived.Deep.DeepCutAuto
namespace Go.Proofs.Ytgfdielipbcfeaa
open Go.ChangeShapes Go.WideShapes Go.ChangeAt Go.RowKit Wd

def bsOf (l : List UInt8) : ByteArray := ⟨l.toArray⟩
abbrev strV (l : List UInt8) : Value := .string (bsOf l)
theorem info_str : (Try.prog.info? 9).map (fun i => (i.zero, i.size, i.bytes)) = some (some (.string ⟨#[]⟩), 1, 16) := by kernel_rfl
set_option maxHeartbeats 4000000 in
set_option maxRecDepth 1000000 in
theorem refNames4_c (w : World) : Calls Try.prog 33 #[] w fun e w' => e = .returned (.slice (some ⟨w.heap.size, 0, none⟩) 99 99) ∧ w.alloc (.cells (Tab.names4.map strV).toArray 9) = w' := by
  obtain ⟨i0, hi, hz0, hz1, hz2⟩ := info_parts info_str
  go_enter Try.func33, Try.ntmps33
  go_upto_region 1 with fail
  apply wp_region_lit
  refine Go.wpList_buildSlice rfl 48 9 99 _ rfl (Tab.names4.map strV).toArray i0 (.string ⟨#[]⟩) Try.underlying48 hi hz0 (by rw [hz1]; decide) (by rw [hz1]; decide) (by rw [hz1]; kernel_rfl) ?_
  go_wp2
  go_ret
  exact ⟨rfl, rfl⟩
end Go.Proofs.Ytgfdielipbcfeaa
