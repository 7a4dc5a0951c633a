/-
  The law of layer 10: bytes are laid into both memories; a line is set in both.
-/
import Derived.Test.YtdlollkieihjpaaRdA
namespace Go.Proofs.Ytdlollkieihjpaa
open Go.ChangeShapes Go.WideShapes Go.ChangeAt Go.RowKit Wd

set_option maxHeartbeats 4000000 in
theorem do1_c {w : World} {rb mb gb n : Nat} (cap : Nat) {t : TypeId} {B : List Int} (hR : RamAt w rb mb n B) (hG : RefAt w gb t n B) (d : Deed) (hd : d.Ok) (hs : SlAt w d.p d.bs) (hf : Apart d.p d.bs mb gb) (h1 : mb ≠ gb) (h2 : rb ≠ gb) (k0 : ¬ d.kind = 0) (hk : d.kind = 1) :
    Calls Try.prog 10 #[.pointer (some ⟨rb, 0, none⟩), mV gb n cap, .agg d.cells] w fun e w' => e = .returned (.bool true) ∧ RamAt w' rb mb n (d.play n B) ∧ RefAt w' gb t n (d.play n B) ∧ Two mb gb w w' := by
  obtain ⟨kd, ad, nn, v, p, cp, bs⟩ := d
  have hB := ((Below.refl w.heap.size w).alloc (Nat.le_refl _) (.cells #[.slice (some ⟨gb, 0, none⟩) (64 * n) cap] 34)).alloc (by simp) (.cells #[.int .i64 kd, .int .u64 ad, .int .i64 nn, .int .u64 v, .slice p bs.length cp] 26)
  have HRM := Lib.hid (hR.low hB)
  have HRF := Lib.hid (hG.low hB)
  have HT := Lib.hid (Two.of_below (b := mb) (c := gb) hB)
  have HC := Lib.hid ((CsAt.new w 34 #[.slice (some ⟨gb, 0, none⟩) (64 * n) cap]).alloc (.cells #[.int .i64 kd, .int .u64 ad, .int .i64 nn, .int .u64 v, .slice p bs.length cp] 26))
  have HD := Lib.hid (show CsAt ((w.alloc (.cells #[.slice (some ⟨gb, 0, none⟩) (64 * n) cap] 34)).alloc (.cells #[.int .i64 kd, .int .u64 ad, .int .i64 nn, .int .u64 v, .slice p bs.length cp] 26)) (w.heap.size + 1) 26 #[.int .i64 kd, .int .u64 ad, .int .i64 nn, .int .u64 v, .slice p bs.length cp] by
    simpa using CsAt.new (w.alloc (.cells #[.slice (some ⟨gb, 0, none⟩) (64 * n) cap] 34)) 26 #[.int .i64 kd, .int .u64 ad, .int .i64 nn, .int .u64 v, .slice p bs.length cp])
  have HOK := Lib.hid hd
  have HS := Lib.hid hs
  have HF := Lib.hid hf
  have HNE := Lib.hid (And.intro h1 h2)
  have hmb := hR.mlt
  have hgb := hG.lt
  have hrb := hR.lt
  have c0 := HC.out.cell 0
  have d0 := HD.out.cell 0
  have d1 := HD.out.cell 1
  have d2 := HD.out.cell 2
  have d3 := HD.out.cell 3
  have d4 := HD.out.cell 4
  clear hB hR hG hd hs hf h1 h2
  have HP := Lib.hid (show Deed.play ⟨kd, ad, nn, v, p, cp, bs⟩ n B = flV B n ad bs from (if_neg k0).trans (if_pos hk))
  rw [HP.out]
  have g0 : (kd == 0) = false := by rw [beq_eq_false_iff_ne]; exact k0
  have g1 : (kd == 1) = true := by rw [beq_iff_eq]; exact hk
  clear HP k0 hk
  unfold mV Deed.cells
  go_enter Try.func10, Try.ntmps10
  go_upto_region 1 with (fail)
  generalize (w.alloc (.cells #[.slice (some ⟨gb, 0, none⟩) (64 * n) cap] 34)).alloc (.cells #[.int .i64 kd, .int .u64 ad, .int .i64 nn, .int .u64 v, .slice p bs.length cp] 26) = w1 at *
  go_upto_region 5 with (fail)
  refine wp_region_phase 5 11 (fun W => CsAt W w.heap.size 34 #[.slice (some ⟨gb, 0, none⟩) (64 * n) cap] ∧ CsAt W (w.heap.size + 1) 26 #[.int .i64 kd, .int .u64 ad, .int .i64 nn, .int .u64 v, .slice p bs.length cp] ∧ Two mb gb w W) (fun W => RamAt W rb mb n (B) ∧ RefAt W gb t n (B)) (fun W => RamAt W rb mb n (flV B n ad bs) ∧ RefAt W gb t n (B)) (fun W => RamAt W rb mb n (flV B n ad bs) ∧ RefAt W gb t n (flV B n ad bs)) (by decide) (by decide) (by kernel_rfl) (by kernel_rfl) ⟨HC.out, HD.out, HT.out.trans (.of_below (Below.refl _ _).drew)⟩ ⟨HRM.out.drew, HRF.out.low (Below.refl _ _).drew⟩ ?_
  iterate 5
    refine phase_val ?_ ?_ (by decide) (by decide) (by kernel_rfl) (fun W hT => ?_) ?_ ?_
    rotate_left 2
    · have c0 := hT.1.cell 0; have d0 := hT.2.1.cell 0; have d1 := hT.2.1.cell 1; have d2 := hT.2.1.cell 2; have d3 := hT.2.1.cell 3; have d4 := hT.2.1.cell 4
      go_simp
      exact rfl
    · go_simp
      exact rfl
  refine phase_call1 (.bool (flB n ad bs)) 22 #[.pointer (some ⟨rb, 0, none⟩), .int .u64 ad, .slice p bs.length cp] ?_ rfl (by decide) (by kernel_rfl) (fun W hT => ?_) (fun W hT hU => (fill_c hU.1 ad HOK.out.ad cp (HS.out.two hT.2.2 HF.out) HOK.out.len HOK.out.cap (fun ne k off e => (HF.out ne k off e).1)).mono fun e W' ⟨he, ht, ho⟩ => ⟨he, ⟨hT.1.only ho (by have := HNE.out.1; omega), hT.2.1.only ho (by omega), hT.2.2.trans (.left ho)⟩, ht, hU.2.only ho (Ne.symm HNE.out.1)⟩) ?_ ?_
  rotate_left 1
  · go_simp
  · go_simp
    exact rfl
  iterate 5
    refine phase_val ?_ ?_ (by decide) (by decide) (by kernel_rfl) (fun W hT => ?_) ?_ ?_
    rotate_left 2
    · have c0 := hT.1.cell 0; have d0 := hT.2.1.cell 0; have d1 := hT.2.1.cell 1; have d2 := hT.2.1.cell 2; have d3 := hT.2.1.cell 3; have d4 := hT.2.1.cell 4
      go_simp
      exact rfl
    · go_simp
      exact rfl
  refine phase_call2 (.bool (flB n ad bs)) 28 #[.agg #[.slice (some ⟨gb, 0, none⟩) (64 * n) cap], .int .u64 ad, .slice p bs.length cp] ?_ rfl (by decide) rfl (by kernel_rfl) (by kernel_rfl) (fun W hT => ?_) (fun W hT hU => (rfill_c cap hU.2 ad HOK.out.ad cp (HS.out.two hT.2.2 HF.out) HOK.out.len (fun ne k off e => (HF.out ne k off e).2)).mono fun e W' ⟨he, ht, ho⟩ => ⟨he, ⟨hT.1.only ho (by omega), hT.2.1.only ho (by omega), hT.2.2.trans (.right ho)⟩, hU.1.only ho HNE.out.2 HNE.out.1, ht⟩) ?_ ?_
  rotate_left 1
  · go_simp
  · go_simp
    exact rfl
  iterate 2
    refine phase_val ?_ ?_ (by decide) (by decide) (by kernel_rfl) (fun W hT => ?_) ?_ ?_
    rotate_left 2
    · have c0 := hT.1.cell 0; have d0 := hT.2.1.cell 0; have d1 := hT.2.1.cell 1; have d2 := hT.2.1.cell 2; have d3 := hT.2.1.cell 3; have d4 := hT.2.1.cell 4
      go_simp
      exact rfl
    · go_simp
      exact rfl
  refine phase_nil ?_
  intro W hT hU
  have HW := Lib.hid (And.intro hT hU)
  clear hT hU
  go_wp2_with fail
  go_ret
  exact ⟨rfl, HW.out.2.1, HW.out.2.2, HW.out.1.2.2⟩
set_option maxHeartbeats 4000000 in
theorem do2_c {w : World} {rb mb gb n : Nat} (cap : Nat) {t : TypeId} {B : List Int} (hR : RamAt w rb mb n B) (hG : RefAt w gb t n B) (d : Deed) (hd : d.Ok) (hs : SlAt w d.p d.bs) (hf : Apart d.p d.bs mb gb) (h1 : mb ≠ gb) (h2 : rb ≠ gb) (k0 : ¬ d.kind = 0) (k1 : ¬ d.kind = 1) (hk : d.kind = 2) :
    Calls Try.prog 10 #[.pointer (some ⟨rb, 0, none⟩), mV gb n cap, .agg d.cells] w fun e w' => e = .returned (.bool true) ∧ RamAt w' rb mb n (d.play n B) ∧ RefAt w' gb t n (d.play n B) ∧ Two mb gb w w' := by
  obtain ⟨kd, ad, nn, v, p, cp, bs⟩ := d
  have hB := ((Below.refl w.heap.size w).alloc (Nat.le_refl _) (.cells #[.slice (some ⟨gb, 0, none⟩) (64 * n) cap] 34)).alloc (by simp) (.cells #[.int .i64 kd, .int .u64 ad, .int .i64 nn, .int .u64 v, .slice p bs.length cp] 26)
  have HRM := Lib.hid (hR.low hB)
  have HRF := Lib.hid (hG.low hB)
  have HT := Lib.hid (Two.of_below (b := mb) (c := gb) hB)
  have HC := Lib.hid ((CsAt.new w 34 #[.slice (some ⟨gb, 0, none⟩) (64 * n) cap]).alloc (.cells #[.int .i64 kd, .int .u64 ad, .int .i64 nn, .int .u64 v, .slice p bs.length cp] 26))
  have HD := Lib.hid (show CsAt ((w.alloc (.cells #[.slice (some ⟨gb, 0, none⟩) (64 * n) cap] 34)).alloc (.cells #[.int .i64 kd, .int .u64 ad, .int .i64 nn, .int .u64 v, .slice p bs.length cp] 26)) (w.heap.size + 1) 26 #[.int .i64 kd, .int .u64 ad, .int .i64 nn, .int .u64 v, .slice p bs.length cp] by
    simpa using CsAt.new (w.alloc (.cells #[.slice (some ⟨gb, 0, none⟩) (64 * n) cap] 34)) 26 #[.int .i64 kd, .int .u64 ad, .int .i64 nn, .int .u64 v, .slice p bs.length cp])
  have HOK := Lib.hid hd
  have HS := Lib.hid hs
  have HF := Lib.hid hf
  have HNE := Lib.hid (And.intro h1 h2)
  have hmb := hR.mlt
  have hgb := hG.lt
  have hrb := hR.lt
  have c0 := HC.out.cell 0
  have d0 := HD.out.cell 0
  have d1 := HD.out.cell 1
  have d2 := HD.out.cell 2
  have d3 := HD.out.cell 3
  have d4 := HD.out.cell 4
  clear hB hR hG hd hs hf h1 h2
  have HP := Lib.hid (show Deed.play ⟨kd, ad, nn, v, p, cp, bs⟩ n B = setLV B n nn (Ln.ofB bs) from (if_neg k0).trans ((if_neg k1).trans (if_pos hk)))
  rw [HP.out]
  have g0 : (kd == 0) = false := by rw [beq_eq_false_iff_ne]; exact k0
  have g1 : (kd == 1) = false := by rw [beq_eq_false_iff_ne]; exact k1
  have g2 : (kd == 2) = true := by rw [beq_iff_eq]; exact hk
  clear HP k0 k1 hk
  unfold mV Deed.cells
  go_enter Try.func10, Try.ntmps10
  go_upto_region 1 with (fail)
  generalize (w.alloc (.cells #[.slice (some ⟨gb, 0, none⟩) (64 * n) cap] 34)).alloc (.cells #[.int .i64 kd, .int .u64 ad, .int .i64 nn, .int .u64 v, .slice p bs.length cp] 26) = w1 at *
  have HL := Lib.hid (Ln.ofB_is HS.out.rng)
  go_wp2_with fail
  refine (ofL_c p cp bs w1 (HS.out.two HT.out HF.out)).mono ?_
  rintro e w2 ⟨rfl, hb⟩
  go_upto_region 8 with (refine wpList_storeNew rfl 49 _ _ rfl _ _ _ rfl rfl (iL HL.out.1) (zeros_size HL.out.1) (aV_one _ _) ?_)
  have hB2 := (hb.trans ((Below.refl w2.heap.size w2).alloc (Nat.le_refl _) (.cells (aV .u8 (Ln.ofB bs)) 49) |>.mono hb.size))
  have HLN := Lib.hid (RowAt.new .u8 w2 49 (Ln.ofB bs))
  have HRM2 := Lib.hid (HRM.out.low hB2)
  have HRF2 := Lib.hid (HRF.out.low hB2)
  have HC2 := Lib.hid (HC.out.low hB2)
  have HD2 := Lib.hid (HD.out.low hB2)
  have HT2 := Lib.hid (HT.out.trans (.of_below hB2))
  have hs1 := HD.out.lt
  have hs2 := hb.size
  clear c0 d0 d1 d2 d3 d4 hB2 hb
  generalize w2.alloc (.cells (aV .u8 (Ln.ofB bs)) 49) = w3 at *

  refine wp_region_phase 4 9 (fun W => CsAt W w.heap.size 34 #[.slice (some ⟨gb, 0, none⟩) (64 * n) cap] ∧ CsAt W (w.heap.size + 1) 26 #[.int .i64 kd, .int .u64 ad, .int .i64 nn, .int .u64 v, .slice p bs.length cp] ∧ Two mb gb w W ∧ RowAt .u8 W w2.heap.size 49 (Ln.ofB bs)) (fun W => RamAt W rb mb n (B) ∧ RefAt W gb t n (B)) (fun W => RamAt W rb mb n (setLV B n nn (Ln.ofB bs)) ∧ RefAt W gb t n (B)) (fun W => RamAt W rb mb n (setLV B n nn (Ln.ofB bs)) ∧ RefAt W gb t n (setLV B n nn (Ln.ofB bs))) (by decide) (by decide) (by kernel_rfl) (by kernel_rfl) ⟨HC2.out, HD2.out, HT2.out.trans (.of_below (Below.refl _ _).drew), HLN.out⟩ ⟨HRM2.out.drew, HRF2.out.low (Below.refl _ _).drew⟩ ?_
  iterate 3
    refine phase_val ?_ ?_ (by decide) (by decide) (by kernel_rfl) (fun W hT => ?_) ?_ ?_
    rotate_left 2
    · have c0 := hT.1.cell 0; have d0 := hT.2.1.cell 0; have d1 := hT.2.1.cell 1; have d2 := hT.2.1.cell 2; have d3 := hT.2.1.cell 3; have d4 := hT.2.1.cell 4
      go_simp
      exact rfl
    · go_simp
      exact rfl
  refine phase_val (.agg (aV .u8 (Ln.ofB bs))) ?_ (by decide) (by decide) (by kernel_rfl) (fun W hT => exec_load_row _ _ rfl _ rfl _ _ _ hT.2.2.2 Try.underlying49 rfl (iL HL.out.1)) ?_ ?_
  rotate_left 1
  · go_simp
    exact rfl
  refine phase_call1 (.bool (decide (0 ≤ nn ∧ nn < (n : Int)))) 21 #[.pointer (some ⟨rb, 0, none⟩), .int .i64 nn, .agg (aV .u8 (Ln.ofB bs))] ?_ rfl (by decide) (by kernel_rfl) (fun W hT => ?_) (fun W hT hU => (setLine_all hU.1 nn HL.out).mono fun e W' ⟨he, ht, ho⟩ => ⟨he, ⟨hT.1.only ho (by have := HNE.out.1; omega), hT.2.1.only ho (by omega), hT.2.2.1.trans (.left ho), hT.2.2.2.only ho (by omega)⟩, ht, hU.2.only ho (Ne.symm HNE.out.1)⟩) ?_ ?_
  rotate_left 1
  · go_simp
  · go_simp
    exact rfl
  iterate 3
    refine phase_val ?_ ?_ (by decide) (by decide) (by kernel_rfl) (fun W hT => ?_) ?_ ?_
    rotate_left 2
    · have c0 := hT.1.cell 0; have d0 := hT.2.1.cell 0; have d1 := hT.2.1.cell 1; have d2 := hT.2.1.cell 2; have d3 := hT.2.1.cell 3; have d4 := hT.2.1.cell 4
      go_simp
      exact rfl
    · go_simp
      exact rfl
  refine phase_val (.agg (aV .u8 (Ln.ofB bs))) ?_ (by decide) (by decide) (by kernel_rfl) (fun W hT => exec_load_row _ _ rfl _ rfl _ _ _ hT.2.2.2 Try.underlying49 rfl (iL HL.out.1)) ?_ ?_
  rotate_left 1
  · go_simp
    exact rfl
  refine phase_call2 (.bool (decide (0 ≤ nn ∧ nn < (n : Int)))) 30 #[.agg #[.slice (some ⟨gb, 0, none⟩) (64 * n) cap], .int .i64 nn, .agg (aV .u8 (Ln.ofB bs))] ?_ rfl (by decide) rfl (by kernel_rfl) (by kernel_rfl) (fun W hT => ?_) (fun W hT hU => (rsetLine_c cap hU.2 nn HL.out HOK.out.nn).mono fun e W' ⟨he, ht, ho⟩ => ⟨he, ⟨hT.1.only ho (by omega), hT.2.1.only ho (by omega), hT.2.2.1.trans (.right ho), hT.2.2.2.only ho (by omega)⟩, hU.1.only ho HNE.out.2 HNE.out.1, ht⟩) ?_ ?_
  rotate_left 1
  · go_simp
  · go_simp
    exact rfl
  iterate 2
    refine phase_val ?_ ?_ (by decide) (by decide) (by kernel_rfl) (fun W hT => ?_) ?_ ?_
    rotate_left 2
    · have c0 := hT.1.cell 0; have d0 := hT.2.1.cell 0; have d1 := hT.2.1.cell 1; have d2 := hT.2.1.cell 2; have d3 := hT.2.1.cell 3; have d4 := hT.2.1.cell 4
      go_simp
      exact rfl
    · go_simp
      exact rfl
  refine phase_nil ?_
  intro W hT hU
  have HW := Lib.hid (And.intro hT hU)
  clear hT hU
  go_wp2_with fail
  go_ret
  exact ⟨rfl, HW.out.2.1, HW.out.2.2, HW.out.1.2.2.1⟩
end Go.Proofs.Ytdlollkieihjpaa
