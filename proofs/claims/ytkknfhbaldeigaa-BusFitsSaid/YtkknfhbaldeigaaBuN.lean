/-
  A bus that isn't there: contracts of May, Do, Lines, Time, Out, Waiting, Clone, Same.
-/
import Derived.Test.YtkknfhbaldeigaaBuG
set_option maxRecDepth 20000
namespace Go.Proofs.Ytkknfhbaldeigaa
open Go.ChangeShapes Go.WideShapes Go.ChangeAt Go.RowKit
theorem zbhas_c (h : Int) (w : World) : Calls Try.prog 24 #[.pointer none, .int .i64 h] w fun e w' => e = .returned (.bool false) ∧ w' = w := by
  go_enter Try.func24, Try.ntmps24
  go_wp2_with fail
  go_ret
  exact ⟨rfl, rfl⟩
theorem zbtime_c (w : World) : Calls Try.prog 8 #[.pointer none] w fun e w' => e = .returned (.int .u64 0) ∧ w' = w := by
  go_enter Try.func8, Try.ntmps8
  go_wp2_with fail
  go_ret
  exact ⟨rfl, rfl⟩
theorem zbout_c (w : World) : Calls Try.prog 9 #[.pointer none] w fun e w' => e = .returned (.slice none 0 0) ∧ w' = w := by
  go_enter Try.func9, Try.ntmps9
  go_wp2_with fail
  go_ret
  exact ⟨rfl, rfl⟩
theorem zbwaiting_c (w : World) : Calls Try.prog 10 #[.pointer none] w fun e w' => e = .returned (.slice none 0 0) ∧ w' = w := by
  go_enter Try.func10, Try.ntmps10
  go_wp2_with fail
  go_ret
  exact ⟨rfl, rfl⟩
theorem zbclone_c (w : World) : Calls Try.prog 11 #[.pointer none] w fun e w' => e = .returned (.pointer none) ∧ w' = w := by
  go_enter Try.func11, Try.ntmps11
  go_wp2_with fail
  go_ret
  exact ⟨rfl, rfl⟩
theorem zbsame_c (w : World) : Calls Try.prog 12 #[.pointer none, .pointer none] w fun e w' => e = .returned (.bool true) ∧ w' = w := by
  go_enter Try.func12, Try.ntmps12
  go_wp2_with fail
  go_ret
  exact ⟨rfl, rfl⟩
theorem zblines_c (h : Int) (w : World) : Calls Try.prog 7 #[.pointer none, .int .i64 h] w fun e w' => e = .returned (.int .u64 0) ∧ w' = w := by
  go_enter Try.func7, Try.ntmps7
  go_wp2_with fail
  refine (zbhas_c h w).mono ?_
  rintro e w1 ⟨rfl, rfl⟩
  go_wp2_with fail
  go_ret
  exact ⟨rfl, rfl⟩
theorem zbmay_c (a : Ak) (w : World) : Calls Try.prog 6 #[.pointer none, .agg a.cells] w fun e w' => e = .returned (.bool false) ∧ Below w.heap.size w w' := by
  have HB := Lib.hid (show Below w.heap.size w (w.alloc (.cells a.cells AKT)) from (Below.refl _ _).alloc (Nat.le_refl _) _)
  go_enter Try.func6, Try.ntmps6
  go_upto_region 1 with fail
  generalize w.alloc (.cells a.cells AKT) = w1 at *
  go_wp2_with fail
  go_ret
  exact ⟨rfl, HB.out⟩
set_option maxHeartbeats 8000000 in
theorem zbdo_c (h : Int) (a : Ak) (w : World) : Calls Try.prog 5 #[.pointer none, .int .i64 h, .agg a.cells] w fun e w' => e = .returned (.tuple #[.agg (anB 0), .bool false]) ∧ Below w.heap.size w w' := by
  have hz := zero_an
  have hb0 : Below w.heap.size w ((w.alloc (.cells a.cells AKT)).alloc (.cells (anB 0) ANT)) := ((Below.refl _ _).alloc (Nat.le_refl _) _).alloc (by simp) _
  have hA : AkAt ((w.alloc (.cells a.cells AKT)).alloc (.cells (anB 0) ANT)) w.heap.size a := ⟨(CsAt.new w AKT a.cells).alloc _⟩
  have hR : CsAt ((w.alloc (.cells a.cells AKT)).alloc (.cells (anB 0) ANT)) (w.heap.size + 1) ANT (anB 0) := by
    have := CsAt.new (w.alloc (.cells a.cells AKT)) ANT (anB 0)
    simpa using this
  have HBE := Lib.hid hb0
  have HA := Lib.hid hA
  have HR := Lib.hid hR
  clear hb0 hA hR
  go_enter Try.func5, Try.ntmps5
  go_upto_region 1 with fail
  generalize ((w.alloc (.cells a.cells AKT)).alloc (.cells (anB 0) ANT)) = w1 at *
  go_wp2_with (refine wpList_load_row rfl AKT _ rfl w.heap.size rfl AKT _ (0, 0) _ HA.out.cs Try.underlying30 rfl info_AK ?_)
  refine (zbmay_c a w1).mono ?_
  rintro e w2 ⟨rfl, hb2⟩
  have HB2 := Lib.hid (HBE.out.trans (hb2.mono HBE.out.size))
  have HR2 := Lib.hid (HR.out.low hb2)
  clear hb2 HBE HA HR
  go_upto_region 2 with fail
  clear hz
  go_wp2_with (refine wpList_store_row rfl ANT _ _ rfl (w.heap.size + 1) (anB 0) (by kernel_rfl) (by kernel_rfl) ANT (anB 0) HR2.out (iAN 0) rfl (anB_one 0) ?_)
  exact bodyPost_ret (results_cb ANT Try.results5 _ _ (w.heap.size + 1) _ _ rfl rfl (run_loadVar_row _ _ ANT ANT _ (0, 0) _ (HR2.out.row (anB 0)) Try.underlying34 rfl (iAN 0))) rfl ⟨rfl, HB2.out.trans ((Chg.of_row (S := fun k => k = w.heap.size + 1) (b := w.heap.size + 1) rfl _).below HB2.out.size (fun k hk => by omega))⟩
end Go.Proofs.Ytkknfhbaldeigaa
