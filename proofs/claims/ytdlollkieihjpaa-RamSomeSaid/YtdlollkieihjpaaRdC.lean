/-
  The law of layer 10: a number is loaded from both memories; whatever is done.
-/
import Derived.Test.YtdlollkieihjpaaRdB
namespace Go.Proofs.Ytdlollkieihjpaa
open Go.ChangeShapes Go.WideShapes Go.ChangeAt Go.RowKit Wd

set_option maxHeartbeats 4000000 in
theorem do3_c {w : World} {rb mb gb n : Nat} (cap : Nat) {t : TypeId} {B : List Int} (hR : RamAt w rb mb n B) (hG : RefAt w gb t n B) (d : Deed) (hd : d.Ok) (hs : SlAt w d.p d.bs) (hf : Apart d.p d.bs mb gb) (h1 : mb ≠ gb) (h2 : rb ≠ gb) (k0 : ¬ d.kind = 0) (k1 : ¬ d.kind = 1) (k2 : ¬ d.kind = 2) :
    Calls Try.prog 10 #[.pointer (some ⟨rb, 0, none⟩), mV gb n cap, .agg d.cells] w fun e w' => e = .returned (.bool true) ∧ RamAt w' rb mb n (d.play n B) ∧ RefAt w' gb t n (d.play n B) ∧ Two mb gb w w' := by
  obtain ⟨kd, ad, nn, v, p, cp, bs⟩ := d
  have hB := ((Below.refl w.heap.size w).alloc (Nat.le_refl _) (.cells #[.slice (some ⟨gb, 0, none⟩) (64 * n) cap] 34)).alloc (by simp) (.cells #[.int .i64 kd, .int .u64 ad, .int .i64 nn, .int .u64 v, .slice p bs.length cp] 26)
  have HRM := Lib.hid (hR.low hB)
  have HRF := Lib.hid (hG.low hB)
  have HT := Lib.hid (Two.of_below (b := mb) (c := gb) hB)
  have HC := Lib.hid ((CsAt.new w 34 #[.slice (some ⟨gb, 0, none⟩) (64 * n) cap]).alloc (.cells #[.int .i64 kd, .int .u64 ad, .int .i64 nn, .int .u64 v, .slice p bs.length cp] 26))
  have HD := Lib.hid (show CsAt ((w.alloc (.cells #[.slice (some ⟨gb, 0, none⟩) (64 * n) cap] 34)).alloc (.cells #[.int .i64 kd, .int .u64 ad, .int .i64 nn, .int .u64 v, .slice p bs.length cp] 26)) (w.heap.size + 1) 26 #[.int .i64 kd, .int .u64 ad, .int .i64 nn, .int .u64 v, .slice p bs.length cp] by
    simpa using CsAt.new (w.alloc (.cells #[.slice (some ⟨gb, 0, none⟩) (64 * n) cap] 34)) 26 #[.int .i64 kd, .int .u64 ad, .int .i64 nn, .int .u64 v, .slice p bs.length cp])
  have HOK := Lib.hid hd
  have HS := Lib.hid hs
  have HF := Lib.hid hf
  have HNE := Lib.hid (And.intro h1 h2)
  have hmb := hR.mlt
  have hgb := hG.lt
  have hrb := hR.lt
  have c0 := HC.out.cell 0
  have d0 := HD.out.cell 0
  have d1 := HD.out.cell 1
  have d2 := HD.out.cell 2
  have d3 := HD.out.cell 3
  have d4 := HD.out.cell 4
  clear hB hR hG hd hs hf h1 h2
  have HP := Lib.hid (show Deed.play ⟨kd, ad, nn, v, p, cp, bs⟩ n B = B from (if_neg k0).trans ((if_neg k1).trans (if_neg k2)))
  rw [HP.out]
  have g0 : (kd == 0) = false := by rw [beq_eq_false_iff_ne]; exact k0
  have g1 : (kd == 1) = false := by rw [beq_eq_false_iff_ne]; exact k1
  have g2 : (kd == 2) = false := by rw [beq_eq_false_iff_ne]; exact k2
  clear HP k0 k1 k2
  unfold mV Deed.cells
  go_enter Try.func10, Try.ntmps10
  go_upto_region 1 with (fail)
  generalize (w.alloc (.cells #[.slice (some ⟨gb, 0, none⟩) (64 * n) cap] 34)).alloc (.cells #[.int .i64 kd, .int .u64 ad, .int .i64 nn, .int .u64 v, .slice p bs.length cp] 26) = w1 at *
  have hlt := HD.out.lt
  have hn := HRF.out.n1
  go_wp2_with fail
  refine (load_c HRM.out ad nn HOK.out.ad HOK.out.nn).mono ?_
  rintro e w2 ⟨rfl, hb⟩
  clear c0 d0 d1 d2 d3 d4
  have HRM2 := Lib.hid (HRM.out.low hb)
  have HRF2 := Lib.hid (HRF.out.low hb)
  have HC2 := Lib.hid (HC.out.low hb)
  have HD2 := Lib.hid (HD.out.low hb)
  have HT2 := Lib.hid (HT.out.trans (.of_below hb))
  clear hb HRM HRF HC HD HT
  have c0 := HC2.out.cell 0
  have d1 := HD2.out.cell 1
  have d2 := HD2.out.cell 2
  go_wp2_with fail
  refine (rload_c cap HRF2.out ad nn HOK.out.ad HOK.out.nn).mono ?_
  rintro e w3 ⟨rfl, hb⟩
  clear c0 d1 d2
  have HRM3 := Lib.hid (HRM2.out.low hb)
  have HRF3 := Lib.hid (HRF2.out.low hb)
  have HC3 := Lib.hid (HC2.out.low hb)
  have HD3 := Lib.hid (HD2.out.low hb)
  have HT3 := Lib.hid (HT2.out.trans (.of_below hb))
  clear hb HRM2 HRF2 HC2 HD2 HT2
  have c0 := HC3.out.cell 0
  have d1 := HD3.out.cell 1
  have d2 := HD3.out.cell 2
  generalize ldV B n ad nn = lv at *
  generalize hasN n ad nn = hm at *
  go_upto_region 11 with (fail)
  refine wp_region_steady (fun W => CsAt W w.heap.size 34 #[.slice (some ⟨gb, 0, none⟩) (64 * n) cap] ∧ CsAt W (w.heap.size + 1) 26 #[.int .i64 kd, .int .u64 ad, .int .i64 nn, .int .u64 v, .slice p bs.length cp] ∧ Two mb gb w W ∧ RamAt W rb mb n B ∧ RefAt W gb t n B) (by kernel_rfl) (by kernel_rfl) ⟨HC3.out, HD3.out, HT3.out.trans (.of_below (Below.refl _ _).drew), HRM3.out.drew, HRF3.out.low (Below.refl _ _).drew⟩ ?_
  iterate 14
    refine steady_val ?_ ?_ (by kernel_rfl) (fun W hS => ?_) ?_ ?_
    rotate_left 2
    · have c0 := hS.1.cell 0; have d1 := hS.2.1.cell 1; have d2 := hS.2.1.cell 2
      go_simp
      exact rfl
    · go_simp
      exact rfl
  refine steady_enter (.bool (hasB n ad nn)) 18 #[.pointer (some ⟨rb, 0, none⟩), .int .u64 ad, .int .i64 nn] ?_ (by kernel_rfl) (fun W hS => ?_) (fun W hS => (has_c (lines_c hS.2.2.2.1) hn ad nn HOK.out.ad HOK.out.nn).mono fun e W' ⟨he, hw⟩ => ⟨he, hw ▸ hS⟩) ?_ ?_
  rotate_left 1
  · go_simp
  · go_simp
    exact rfl
  iterate 5
    refine steady_val ?_ ?_ (by kernel_rfl) (fun W hS => ?_) ?_ ?_
    rotate_left 2
    · have c0 := hS.1.cell 0; have d1 := hS.2.1.cell 1; have d2 := hS.2.1.cell 2
      go_simp
      exact rfl
    · go_simp
      exact rfl
  refine steady_enter (.bool (hasB n ad nn)) 32 #[.agg #[.slice (some ⟨gb, 0, none⟩) (64 * n) cap], .int .u64 ad, .int .i64 nn] ?_ (by kernel_rfl) (fun W hS => ?_) (fun W hS => (rhas_c gb n cap hn ad nn HOK.out.ad HOK.out.nn).mono fun e W' ⟨he, hb⟩ => ⟨he, hS.1.low hb, hS.2.1.low hb, hS.2.2.1.trans (.of_below hb), hS.2.2.2.1.low hb, hS.2.2.2.2.low hb⟩) ?_ ?_
  rotate_left 1
  · go_simp
  · go_simp
    exact rfl
  iterate 3
    refine steady_val ?_ ?_ (by kernel_rfl) (fun W hS => ?_) ?_ ?_
    rotate_left 2
    · have c0 := hS.1.cell 0; have d1 := hS.2.1.cell 1; have d2 := hS.2.1.cell 2
      go_simp
      exact rfl
    · go_simp
      exact rfl
  refine steady_nil ?_
  intro W hS
  have HW := Lib.hid hS
  clear hS
  go_wp2_with fail
  go_ret
  exact ⟨rfl, HW.out.2.2.2.1, HW.out.2.2.2.2, HW.out.2.2.1⟩
theorem do_c {w : World} {rb mb gb n : Nat} (cap : Nat) {t : TypeId} {B : List Int} (hR : RamAt w rb mb n B) (hG : RefAt w gb t n B) (d : Deed) (hd : d.Ok) (hs : SlAt w d.p d.bs) (hf : Apart d.p d.bs mb gb) (h1 : mb ≠ gb) (h2 : rb ≠ gb) :
    Calls Try.prog 10 #[.pointer (some ⟨rb, 0, none⟩), mV gb n cap, .agg d.cells] w fun e w' => e = .returned (.bool true) ∧ RamAt w' rb mb n (d.play n B) ∧ RefAt w' gb t n (d.play n B) ∧ Two mb gb w w' := by
  by_cases k0 : d.kind = 0
  · exact do0_c cap hR hG d hd hs hf h1 h2 k0
  · by_cases k1 : d.kind = 1
    · exact do1_c cap hR hG d hd hs hf h1 h2 k0 k1
    · by_cases k2 : d.kind = 2
      · exact do2_c cap hR hG d hd hs hf h1 h2 k0 k1 k2
      · exact do3_c cap hR hG d hd hs hf h1 h2 k0 k1 k2
end Go.Proofs.Ytdlollkieihjpaa
