/-
  The laws VaddrParts and VaddrSatp walked.
-/
import Derived.Test.YtmieabafiijfjaaVrB
import Derived.Test.YtmieabafiijfjaaVrP
import Derived.Test.YtmieabafiijfjaaBxS
set_option maxRecDepth 4000
namespace Go.Proofs.Ytmieabafiijfjaa
open Go.ChangeShapes Go.WideShapes Go.ChangeAt Go.RowKit Wd Csr Sta

set_option maxRecDepth 100000 in
set_option maxHeartbeats 16000000 in
theorem parts_walk (w : World) (va x y n : Int) (hv0 : 0 ≤ va ∧ va ≤ 18446744073709551615) (hx0 : 0 ≤ x ∧ x ≤ 18446744073709551615) (hy0 : 0 ≤ y ∧ y ≤ 18446744073709551615) (_hn : -9223372036854775808 ≤ n ∧ n ≤ 9223372036854775807) :
    Calls Try.prog 4 #[.int .u64 va, .agg #[.int .u64 x, .int .u64 y], .int .i64 n] w fun e w' => e = .returned (.bool true) ∧ Below w.heap.size w w' := by
  have hv : W64 va := by unfold W64; omega
  have hx : W64 x := by unfold W64; omega
  have hy : W64 y := by unfold W64; omega
  have HS := Lib.hid (BxS.new w 23 #[.int .u64 x, .int .u64 y])
  have HM := Lib.hid (fun W => pmay_c va hv W)
  have HRM := Lib.hid (fun W => vmay_c va hv W)
  have HP := Lib.hid (fun W => pplace_c va n hv W)
  have HRP := Lib.hid (fun W => vplace_c va n hv W)
  have HZ := Lib.hid (fun W => psize_c n W)
  have HRZ := Lib.hid (fun W => vsize_c n W)
  have HG := Lib.hid (fun W => ppage_c va n hv W)
  have HRG := Lib.hid (fun W => vpage_c va n hv W)
  have HRX := Lib.hid (fun W => vpage_c x n hx W)
  have HT := Lib.hid (fun W => psame_c va x n hv hx W)
  have HE := Lib.hid (fun W => pentry_c y va n hy hv W)
  have HRE := Lib.hid (fun W => ventry_c y va n hy hv W)
  have HL := Lib.hid (fun W => live26_c W)
  clear hv hx hy hv0 hx0 hy0 _hn
  generalize decide (mayP va) = m at *
  generalize placeS va n = p at *
  generalize sizeS n = z at *
  generalize pageS va n = g at *
  generalize pageS x n = gx at *
  generalize entryS y va n = en at *
  generalize hss : (g == gx) = ss at *
  have q1 := eqq m
  have q2 := eqq p
  have q3 := eqq z
  have q4 := eqq g
  have q5 := eqq en
  have q6 := eqq ss
  go_enter Try.func4, Try.ntmps4
  go_upto_region 1 with fail
  generalize w.alloc (.cells #[.int .u64 x, .int .u64 y] 23) = w1 at *
  go_wp2_with fail
  refine (HM.out _).mono ?_
  rintro e w2 ⟨rfl, rfl⟩
  go_wp2_with fail
  refine (HRM.out _).mono ?_
  rintro e w2 ⟨rfl, rfl⟩
  go_wp2_with fail
  refine (HP.out _).mono ?_
  rintro e w2 ⟨rfl, rfl⟩
  go_wp2_with fail
  refine (HRP.out _).mono ?_
  rintro e w2 ⟨rfl, hb⟩
  replace HS := Lib.hid (HS.out.low hb)
  clear hb
  go_wp2_with fail
  refine (HZ.out _).mono ?_
  rintro e w2 ⟨rfl, rfl⟩
  go_wp2_with fail
  refine (HRZ.out _).mono ?_
  rintro e w2 ⟨rfl, rfl⟩
  go_wp2_with fail
  refine (HG.out _).mono ?_
  rintro e w2 ⟨rfl, rfl⟩
  go_wp2_with fail
  refine (HRG.out _).mono ?_
  rintro e w2 ⟨rfl, hb⟩
  replace HS := Lib.hid (HS.out.low hb)
  clear hb
  go_upto_region 3 with fail
  refine wp_region_steady (fun W => BxS w W 23 #[.int .u64 x, .int .u64 y]) (by kernel_rfl) (by kernel_rfl) HS.out.drew ?_
  iterate 2
    refine steady_val ?_ ?_ (by kernel_rfl) (fun W hS => ?_) ?_ ?_
    rotate_left 2
    · go_simp
      exact rfl
    · go_simp
      exact rfl
  refine steady_val ?_ ?_ (by kernel_rfl) (fun W hS => ?_) ?_ ?_
  rotate_left 2
  · have z0 : W.cell? ⟨w.heap.size, 0, none⟩ = some (.int .u64 x) := hS.cell 0; go_simp
    exact rfl
  · go_simp
    exact rfl
  refine steady_val ?_ ?_ (by kernel_rfl) (fun W hS => ?_) ?_ ?_
  rotate_left 2
  · go_simp
    exact rfl
  · go_simp
    exact rfl
  refine steady_enter (.bool ss) 24 #[.int .u64 va, .int .u64 x, .int .i64 n] ?_ (by kernel_rfl) (fun W hS => ?_) (fun W hS => (HT.out W).mono (by rintro e w' ⟨rfl, rfl⟩; exact ⟨rfl, hS⟩)) ?_ ?_
  rotate_left 1
  · go_simp
  · go_simp
    exact rfl
  iterate 2
    refine steady_val ?_ ?_ (by kernel_rfl) (fun W hS => ?_) ?_ ?_
    rotate_left 2
    · go_simp
      exact rfl
    · go_simp
      exact rfl
  refine steady_enter (.int .u64 g) 23 #[.int .u64 va, .int .i64 n] ?_ (by kernel_rfl) (fun W hS => ?_) (fun W hS => (HRG.out W).mono (by rintro e w' ⟨rfl, hb⟩; exact ⟨rfl, hS.low hb⟩)) ?_ ?_
  rotate_left 1
  · go_simp
  · go_simp
    exact rfl
  refine steady_val ?_ ?_ (by kernel_rfl) (fun W hS => ?_) ?_ ?_
  rotate_left 2
  · go_simp
    exact rfl
  · go_simp
    exact rfl
  refine steady_val ?_ ?_ (by kernel_rfl) (fun W hS => ?_) ?_ ?_
  rotate_left 2
  · have z0 : W.cell? ⟨w.heap.size, 0, none⟩ = some (.int .u64 x) := hS.cell 0; go_simp
    exact rfl
  · go_simp
    exact rfl
  refine steady_val ?_ ?_ (by kernel_rfl) (fun W hS => ?_) ?_ ?_
  rotate_left 2
  · go_simp
    exact rfl
  · go_simp
    exact rfl
  refine steady_enter (.int .u64 gx) 23 #[.int .u64 x, .int .i64 n] ?_ (by kernel_rfl) (fun W hS => ?_) (fun W hS => (HRX.out W).mono (by rintro e w' ⟨rfl, hb⟩; exact ⟨rfl, hS.low hb⟩)) ?_ ?_
  rotate_left 1
  · go_simp
  · go_simp
    exact rfl
  refine steady_val (.bool ss) ?_ (by kernel_rfl) (fun W hS => by go_simp) ?_ ?_
  rotate_left 1
  · go_simp
    exact rfl
  refine steady_val (.bool true) ?_ (by kernel_rfl) (fun W hS => by go_simp) ?_ ?_
  rotate_left 1
  · go_simp
    exact rfl
  refine steady_val ?_ ?_ (by kernel_rfl) (fun W hS => ?_) ?_ ?_
  rotate_left 2
  · go_simp
    exact rfl
  · go_simp
    exact rfl
  refine steady_val ?_ ?_ (by kernel_rfl) (fun W hS => ?_) ?_ ?_
  rotate_left 2
  · go_simp
    exact rfl
  · go_simp
    exact rfl
  refine steady_val ?_ ?_ (by kernel_rfl) (fun W hS => ?_) ?_ ?_
  rotate_left 2
  · have z1 : W.cell? ⟨w.heap.size, 1, none⟩ = some (.int .u64 y) := hS.cell 1; go_simp
    exact rfl
  · go_simp
    exact rfl
  iterate 2
    refine steady_val ?_ ?_ (by kernel_rfl) (fun W hS => ?_) ?_ ?_
    rotate_left 2
    · go_simp
      exact rfl
    · go_simp
      exact rfl
  refine steady_enter (.int .u64 en) 25 #[.int .u64 y, .int .u64 va, .int .i64 n] ?_ (by kernel_rfl) (fun W hS => ?_) (fun W hS => (HE.out W).mono (by rintro e w' ⟨rfl, rfl⟩; exact ⟨rfl, hS⟩)) ?_ ?_
  rotate_left 1
  · go_simp
  · go_simp
    exact rfl
  refine steady_val ?_ ?_ (by kernel_rfl) (fun W hS => ?_) ?_ ?_
  rotate_left 2
  · go_simp
    exact rfl
  · go_simp
    exact rfl
  refine steady_val ?_ ?_ (by kernel_rfl) (fun W hS => ?_) ?_ ?_
  rotate_left 2
  · have z1 : W.cell? ⟨w.heap.size, 1, none⟩ = some (.int .u64 y) := hS.cell 1; go_simp
    exact rfl
  · go_simp
    exact rfl
  iterate 2
    refine steady_val ?_ ?_ (by kernel_rfl) (fun W hS => ?_) ?_ ?_
    rotate_left 2
    · go_simp
      exact rfl
    · go_simp
      exact rfl
  refine steady_enter (.int .u64 en) 26 #[.int .u64 y, .int .u64 va, .int .i64 n] ?_ (by kernel_rfl) (fun W hS => ?_) (fun W hS => (HRE.out W).mono (by rintro e w' ⟨rfl, hb⟩; exact ⟨rfl, hS.low hb⟩)) ?_ ?_
  rotate_left 1
  · go_simp
  · go_simp
    exact rfl
  refine steady_val (.bool true) ?_ (by kernel_rfl) (fun W hS => by go_simp) ?_ ?_
  rotate_left 1
  · go_simp
    exact rfl
  iterate 2
    refine steady_val ?_ ?_ (by kernel_rfl) (fun W hS => ?_) ?_ ?_
    rotate_left 2
    · go_simp
      exact rfl
    · go_simp
      exact rfl
  refine steady_enter (.bool true) 27 #[] ?_ (by kernel_rfl) (fun W hS => ?_) (fun W hS => (HL.out W).mono (by rintro e w' ⟨rfl, rfl⟩; exact ⟨rfl, hS⟩)) ?_ ?_
  rotate_left 1
  · go_simp
  · go_simp
    exact rfl
  iterate 2
    refine steady_val ?_ ?_ (by kernel_rfl) (fun W hS => ?_) ?_ ?_
    rotate_left 2
    · go_simp
      exact rfl
    · go_simp
      exact rfl
  refine steady_nil ?_
  intro W hS
  have HB := Lib.hid hS.bel
  clear hS
  go_wp2_with fail
  go_ret
  exact ⟨rfl, HB.out⟩
set_option maxRecDepth 100000 in
set_option maxHeartbeats 16000000 in
theorem vsatp_walk (w : World) (sp m a p r : Int) (hs0 : 0 ≤ sp ∧ sp ≤ 18446744073709551615) (_hm : -9223372036854775808 ≤ m ∧ m ≤ 9223372036854775807) (_ha : -9223372036854775808 ≤ a ∧ a ≤ 9223372036854775807) (_hp : -9223372036854775808 ≤ p ∧ p ≤ 9223372036854775807) (hr0 : 0 ≤ r ∧ r ≤ 18446744073709551615) :
    Calls Try.prog 5 #[.int .u64 sp, .agg #[.int .i64 m, .int .i64 a, .int .i64 p], .int .u64 r] w fun e w' => e = .returned (.bool true) ∧ Below w.heap.size w w' := by
  have hs : W64 sp := by unfold W64; omega
  have hr : W64 r := by unfold W64; omega
  have HS := Lib.hid (BxS.new w 37 #[.int .i64 m, .int .i64 a, .int .i64 p])
  have HM := Lib.hid (fun W => pmode_c sp hs W)
  have HRM := Lib.hid (fun W => vmode_c sp hs W)
  have HA := Lib.hid (fun W => pasid_c sp hs W)
  have HRA := Lib.hid (fun W => vasid_c sp hs W)
  have HO := Lib.hid (fun W => proot_c sp hs W)
  have HRO := Lib.hid (fun W => vroot_c sp hs W)
  have hc := cutS_range sp 0 44
  have HY := Lib.hid (fun W => psatp_c (cutS sp 60 4) (cutS sp 44 16) (cutS sp 0 44) hc W)
  rw [satp_back hs] at HY
  have HT := Lib.hid (fun W => psatp_c m a r hr W)
  have HRT := Lib.hid (fun W => vsatp_c m a r hr W)
  have HX := Lib.hid (fun W => ptrl_c sp p hs W)
  have HRX := Lib.hid (fun W => vtrl_c sp p hs W)
  have HL := Lib.hid (fun W => live26_c W)
  clear hs hr hs0 hr0 _hp hc _hm _ha
  generalize cutS sp 60 4 = x1 at *
  generalize cutS sp 44 16 = x2 at *
  generalize cutS sp 0 44 = x3 at *
  generalize satpS m a r = y at *
  generalize trlS sp p = t at *
  have q1 := eqq x1
  have q2 := eqq x2
  have q3 := eqq x3
  have q4 := eqq y
  have q5 := eqq t
  have q6 := eqq sp
  go_enter Try.func5, Try.ntmps5
  go_upto_region 1 with fail
  generalize w.alloc (.cells #[.int .i64 m, .int .i64 a, .int .i64 p] 37) = w1 at *
  go_wp2_with fail
  refine (HM.out _).mono ?_
  rintro e w2 ⟨rfl, rfl⟩
  go_wp2_with fail
  refine (HRM.out _).mono ?_
  rintro e w2 ⟨rfl, hb⟩
  replace HS := Lib.hid (HS.out.low hb)
  clear hb
  go_wp2_with fail
  refine (HA.out _).mono ?_
  rintro e w2 ⟨rfl, rfl⟩
  go_wp2_with fail
  refine (HRA.out _).mono ?_
  rintro e w2 ⟨rfl, hb⟩
  replace HS := Lib.hid (HS.out.low hb)
  clear hb
  go_wp2_with fail
  refine (HO.out _).mono ?_
  rintro e w2 ⟨rfl, rfl⟩
  go_wp2_with fail
  refine (HRO.out _).mono ?_
  rintro e w2 ⟨rfl, hb⟩
  replace HS := Lib.hid (HS.out.low hb)
  clear hb
  go_wp2_with fail
  refine (HM.out _).mono ?_
  rintro e w2 ⟨rfl, rfl⟩
  go_wp2_with fail
  refine (HA.out _).mono ?_
  rintro e w2 ⟨rfl, rfl⟩
  go_wp2_with fail
  refine (HO.out _).mono ?_
  rintro e w2 ⟨rfl, rfl⟩
  go_wp2_with fail
  refine (HY.out _).mono ?_
  rintro e w2 ⟨rfl, rfl⟩
  go_upto_region 3 with fail
  refine wp_region_steady (fun W => BxS w W 37 #[.int .i64 m, .int .i64 a, .int .i64 p]) (by kernel_rfl) (by kernel_rfl) HS.out.drew ?_
  refine steady_val ?_ ?_ (by kernel_rfl) (fun W hS => ?_) ?_ ?_
  rotate_left 2
  · go_simp
    exact rfl
  · go_simp
    exact rfl
  refine steady_val ?_ ?_ (by kernel_rfl) (fun W hS => ?_) ?_ ?_
  rotate_left 2
  · have z0 : W.cell? ⟨w.heap.size, 0, none⟩ = some (.int .i64 m) := hS.cell 0; go_simp
    exact rfl
  · go_simp
    exact rfl
  refine steady_val ?_ ?_ (by kernel_rfl) (fun W hS => ?_) ?_ ?_
  rotate_left 2
  · go_simp
    exact rfl
  · go_simp
    exact rfl
  refine steady_val ?_ ?_ (by kernel_rfl) (fun W hS => ?_) ?_ ?_
  rotate_left 2
  · have z1 : W.cell? ⟨w.heap.size, 1, none⟩ = some (.int .i64 a) := hS.cell 1; go_simp
    exact rfl
  · go_simp
    exact rfl
  refine steady_val ?_ ?_ (by kernel_rfl) (fun W hS => ?_) ?_ ?_
  rotate_left 2
  · go_simp
    exact rfl
  · go_simp
    exact rfl
  refine steady_enter (.int .u64 y) 34 #[.int .i64 m, .int .i64 a, .int .u64 r] ?_ (by kernel_rfl) (fun W hS => ?_) (fun W hS => (HT.out W).mono (by rintro e w' ⟨rfl, rfl⟩; exact ⟨rfl, hS⟩)) ?_ ?_
  rotate_left 1
  · go_simp
  · go_simp
    exact rfl
  refine steady_val ?_ ?_ (by kernel_rfl) (fun W hS => ?_) ?_ ?_
  rotate_left 2
  · go_simp
    exact rfl
  · go_simp
    exact rfl
  refine steady_val ?_ ?_ (by kernel_rfl) (fun W hS => ?_) ?_ ?_
  rotate_left 2
  · have z0 : W.cell? ⟨w.heap.size, 0, none⟩ = some (.int .i64 m) := hS.cell 0; go_simp
    exact rfl
  · go_simp
    exact rfl
  refine steady_val ?_ ?_ (by kernel_rfl) (fun W hS => ?_) ?_ ?_
  rotate_left 2
  · go_simp
    exact rfl
  · go_simp
    exact rfl
  refine steady_val ?_ ?_ (by kernel_rfl) (fun W hS => ?_) ?_ ?_
  rotate_left 2
  · have z1 : W.cell? ⟨w.heap.size, 1, none⟩ = some (.int .i64 a) := hS.cell 1; go_simp
    exact rfl
  · go_simp
    exact rfl
  refine steady_val ?_ ?_ (by kernel_rfl) (fun W hS => ?_) ?_ ?_
  rotate_left 2
  · go_simp
    exact rfl
  · go_simp
    exact rfl
  refine steady_enter (.int .u64 y) 35 #[.int .i64 m, .int .i64 a, .int .u64 r] ?_ (by kernel_rfl) (fun W hS => ?_) (fun W hS => (HRT.out W).mono (by rintro e w' ⟨rfl, hb⟩; exact ⟨rfl, hS.low hb⟩)) ?_ ?_
  rotate_left 1
  · go_simp
  · go_simp
    exact rfl
  refine steady_val (.bool true) ?_ (by kernel_rfl) (fun W hS => by go_simp) ?_ ?_
  rotate_left 1
  · go_simp
    exact rfl
  refine steady_val ?_ ?_ (by kernel_rfl) (fun W hS => ?_) ?_ ?_
  rotate_left 2
  · go_simp
    exact rfl
  · go_simp
    exact rfl
  iterate 2
    refine steady_val ?_ ?_ (by kernel_rfl) (fun W hS => ?_) ?_ ?_
    rotate_left 2
    · go_simp
      exact rfl
    · go_simp
      exact rfl
  refine steady_val ?_ ?_ (by kernel_rfl) (fun W hS => ?_) ?_ ?_
  rotate_left 2
  · have z2 : W.cell? ⟨w.heap.size, 2, none⟩ = some (.int .i64 p) := hS.cell 2; go_simp
    exact rfl
  · go_simp
    exact rfl
  refine steady_enter (.bool t) 36 #[.int .u64 sp, .int .i64 p] ?_ (by kernel_rfl) (fun W hS => ?_) (fun W hS => (HX.out W).mono (by rintro e w' ⟨rfl, rfl⟩; exact ⟨rfl, hS⟩)) ?_ ?_
  rotate_left 1
  · go_simp
  · go_simp
    exact rfl
  iterate 2
    refine steady_val ?_ ?_ (by kernel_rfl) (fun W hS => ?_) ?_ ?_
    rotate_left 2
    · go_simp
      exact rfl
    · go_simp
      exact rfl
  refine steady_val ?_ ?_ (by kernel_rfl) (fun W hS => ?_) ?_ ?_
  rotate_left 2
  · have z2 : W.cell? ⟨w.heap.size, 2, none⟩ = some (.int .i64 p) := hS.cell 2; go_simp
    exact rfl
  · go_simp
    exact rfl
  refine steady_enter (.bool t) 37 #[.int .u64 sp, .int .i64 p] ?_ (by kernel_rfl) (fun W hS => ?_) (fun W hS => (HRX.out W).mono (by rintro e w' ⟨rfl, hb⟩; exact ⟨rfl, hS.low hb⟩)) ?_ ?_
  rotate_left 1
  · go_simp
  · go_simp
    exact rfl
  refine steady_val (.bool true) ?_ (by kernel_rfl) (fun W hS => by go_simp) ?_ ?_
  rotate_left 1
  · go_simp
    exact rfl
  iterate 2
    refine steady_val ?_ ?_ (by kernel_rfl) (fun W hS => ?_) ?_ ?_
    rotate_left 2
    · go_simp
      exact rfl
    · go_simp
      exact rfl
  refine steady_enter (.bool true) 27 #[] ?_ (by kernel_rfl) (fun W hS => ?_) (fun W hS => (HL.out W).mono (by rintro e w' ⟨rfl, rfl⟩; exact ⟨rfl, hS⟩)) ?_ ?_
  rotate_left 1
  · go_simp
  · go_simp
    exact rfl
  iterate 2
    refine steady_val ?_ ?_ (by kernel_rfl) (fun W hS => ?_) ?_ ?_
    rotate_left 2
    · go_simp
      exact rfl
    · go_simp
      exact rfl
  refine steady_nil ?_
  intro W hS
  have HB := Lib.hid hS.bel
  clear hS
  go_wp2_with fail
  go_ret
  exact ⟨rfl, HB.out⟩
end Go.Proofs.Ytmieabafiijfjaa
