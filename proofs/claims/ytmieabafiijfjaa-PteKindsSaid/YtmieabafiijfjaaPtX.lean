/-
  The law PteKinds walked.
-/
import Derived.Test.YtmieabafiijfjaaPtK
import Derived.Test.YtmieabafiijfjaaBxS
import Derived.Deep.DeepCutAuto
set_option maxRecDepth 4000
namespace Go.Proofs.Ytmieabafiijfjaa
open Go.ChangeShapes Go.WideShapes Go.ChangeAt Go.RowKit Wd Csr Sta

set_option maxRecDepth 100000 in
set_option maxHeartbeats 16000000 in
theorem kinds_walk (w : World) (p l x y : Int) (hp0 : 0 ≤ p ∧ p ≤ 18446744073709551615) (_hl : -9223372036854775808 ≤ l ∧ l ≤ 9223372036854775807) (hx0 : 0 ≤ x ∧ x ≤ 18446744073709551615) (hy0 : 0 ≤ y ∧ y ≤ 18446744073709551615) :
    Calls Try.prog 3 #[.int .u64 p, .int .i64 l, .agg #[.int .u64 x, .int .u64 y]] w fun e w' => e = .returned (.bool true) ∧ Below w.heap.size w w' := by
  have hp : W64 p := by unfold W64; omega
  have hx : W64 x := by unfold W64; omega
  have hy : W64 y := by unfold W64; omega
  have HS := Lib.hid (BxS.new w 23 #[.int .u64 x, .int .u64 y])
  have HX := Lib.hid (fun W => refCut_c x 0 44 W hx.1 hx.2 (by omega) (by omega))
  have HY := Lib.hid (fun W => refCut_c y 0 10 W hy.1 hy.2 (by omega) (by omega))
  have HK := Lib.hid (fun W => kind_c p l hp W)
  have HRK := Lib.hid (fun W => rkind_c p l hp W)
  have HP := Lib.hid (fun W => ppn_c p hp W)
  have HRP := Lib.hid (fun W => rppn_c p hp W)
  have HM := Lib.hid (fun W => make_c x y hx hy W)
  rw [make_sum] at HM
  have HG := Lib.hid (fun W => global_c p hp W)
  have HRG := Lib.hid (fun W => ebit_G p hp W)
  have HL := Lib.hid (fun W => live25_c W)
  have a := cutS_range x 0 44
  have a2 : cutS x 0 44 < 2 ^ 44 := ecut_lt 44 (by omega)
  have a3 : cutS x 0 44 < 17592186044416 := a2
  have b := cutS_range y 0 10
  have b2 : cutS y 0 10 < 2 ^ 10 := ecut_lt 10 (by omega)
  have b3 : cutS y 0 10 < 1024 := b2
  have a1 := a.1
  have b1 := b.1
  clear hp hx hy hp0 hx0 hy0 _hl a a2 b b2
  generalize cutS x 0 44 = c1 at *
  generalize cutS y 0 10 = c2 at *
  generalize kindS p l = k at *
  generalize cutS p 10 44 = n at *
  generalize tb p 5 = g at *
  have q1 := eqq k
  have q2 := eqq n
  have q3 := eqq (c1 * 1024 + c2)
  have q4 := eqq g
  go_enter Try.func3, Try.ntmps3
  go_upto_region 1 with fail
  generalize w.alloc (.cells #[.int .u64 x, .int .u64 y] 23) = w1 at *
  refine wp_region_steady (fun W => BxS w W 23 #[.int .u64 x, .int .u64 y]) (by kernel_rfl) (by kernel_rfl) HS.out.drew ?_
  refine steady_val ?_ ?_ (by kernel_rfl) (fun W hS => ?_) ?_ ?_
  rotate_left 2
  · go_simp
    exact rfl
  · go_simp
    exact rfl
  refine steady_val ?_ ?_ (by kernel_rfl) (fun W hS => ?_) ?_ ?_
  rotate_left 2
  · have z0 : W.cell? ⟨w.heap.size, 0, none⟩ = some (.int .u64 x) := hS.cell 0; go_simp
    exact rfl
  · go_simp
    exact rfl
  refine steady_enter (.int .u64 c1) 7 #[.int .u64 x, .int .i64 0, .int .i64 44] ?_ (by kernel_rfl) (fun W hS => ?_) (fun W hS => (HX.out W).mono (by rintro e w' ⟨rfl, hb⟩; exact ⟨rfl, hS.low hb⟩)) ?_ ?_
  rotate_left 1
  · go_simp
  · go_simp
    exact rfl
  refine steady_val (.int .u64 (c1 * 1024)) ?_ (by kernel_rfl) (fun W hS => by go_simp; rw [IntKind.wrap_u64]; omega) ?_ ?_
  rotate_left 1
  · go_simp
    exact rfl
  refine steady_val ?_ ?_ (by kernel_rfl) (fun W hS => ?_) ?_ ?_
  rotate_left 2
  · go_simp
    exact rfl
  · go_simp
    exact rfl
  refine steady_val ?_ ?_ (by kernel_rfl) (fun W hS => ?_) ?_ ?_
  rotate_left 2
  · have z1 : W.cell? ⟨w.heap.size, 1, none⟩ = some (.int .u64 y) := hS.cell 1; go_simp
    exact rfl
  · go_simp
    exact rfl
  refine steady_enter (.int .u64 c2) 7 #[.int .u64 y, .int .i64 0, .int .i64 10] ?_ (by kernel_rfl) (fun W hS => ?_) (fun W hS => (HY.out W).mono (by rintro e w' ⟨rfl, hb⟩; exact ⟨rfl, hS.low hb⟩)) ?_ ?_
  rotate_left 1
  · go_simp
  · go_simp
    exact rfl
  refine steady_val (.int .u64 (c1 * 1024 + c2)) ?_ (by kernel_rfl) (fun W hS => by go_simp; rw [IntKind.wrap_u64]; omega) ?_ ?_
  rotate_left 1
  · go_simp
    exact rfl
  refine steady_val ?_ ?_ (by kernel_rfl) (fun W hS => ?_) ?_ ?_
  rotate_left 2
  · go_simp
    exact rfl
  · go_simp
    exact rfl
  refine steady_nil ?_
  intro W hS
  replace HS := Lib.hid hS
  clear hS
  go_wp2_with fail
  refine (HK.out _).mono ?_
  rintro e w2 ⟨rfl, hb⟩
  replace HS := Lib.hid (HS.out.low hb)
  clear hb
  go_wp2_with fail
  refine (HRK.out _).mono ?_
  rintro e w2 ⟨rfl, hb⟩
  replace HS := Lib.hid (HS.out.low hb)
  clear hb
  go_wp2_with fail
  refine (HP.out _).mono ?_
  rintro e w2 ⟨rfl, rfl⟩
  go_wp2_with fail
  refine (HRP.out _).mono ?_
  rintro e w2 ⟨rfl, hb⟩
  replace HS := Lib.hid (HS.out.low hb)
  clear hb
  have z0 : w2.cell? ⟨w.heap.size, 0, none⟩ = some (.int .u64 x) := HS.out.cell 0
  have z1 : w2.cell? ⟨w.heap.size, 1, none⟩ = some (.int .u64 y) := HS.out.cell 1
  go_wp2_with fail
  refine (HM.out _).mono ?_
  rintro e w2 ⟨rfl, rfl⟩
  clear z0 z1
  go_wp2_with fail
  refine (HG.out _).mono ?_
  rintro e w2 ⟨rfl, hb⟩
  replace HS := Lib.hid (HS.out.low hb)
  clear hb
  go_wp2_with fail
  refine (HRG.out _).mono ?_
  rintro e w2 ⟨rfl, rfl⟩
  go_wp2_with fail
  refine (HL.out _).mono ?_
  rintro e w2 ⟨rfl, hb⟩
  replace HS := Lib.hid (HS.out.low hb)
  clear hb
  go_wp2_with fail
  go_ret
  exact ⟨rfl, HS.out.bel⟩
end Go.Proofs.Ytmieabafiijfjaa
