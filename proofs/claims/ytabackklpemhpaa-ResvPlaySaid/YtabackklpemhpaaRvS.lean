/-
  ResvPlay of layer 13, walked.
-/
import Derived.Test.YtabackklpemhpaaRvR
namespace Go.Proofs.Ytabackklpemhpaa
open Go.ChangeShapes Go.WideShapes Go.ChangeAt Go.RowKit

theorem rwho_nil (l : Int) (w : World) : Calls Try.prog 10 #[.pointer none, .int .u64 l] w fun e w' => e = .returned (.slice none 0 0) ∧ w' = w := by
  go_enter Try.func10, Try.ntmps10
  go_wp2_with fail
  go_loopw [7, 5] (fun i v wr => ∃ k : Nat, k ≤ 8 ∧ i = .int .i64 k ∧ v = .slice none 0 0 ∧ wr = w) (fun i _ _ => 8 - (intOf i).toNat)
  case atStart => exact ⟨0, by omega, rfl, rfl, rfl⟩
  case round =>
    obtain ⟨k, hk, rfl, rfl, rfl⟩ := hrel
    by_cases hlt : k < 8
    · have g : (k : Int) < 8 := by omega
      go_wp2_with fail
      refine (rhasl_nil _ _ _).mono ?_
      rintro e w' ⟨rfl, rfl⟩
      go_wp2_with fail
      go_roundw
      case rel => exact ⟨k + 1, by omega, by go_num, rfl, trivial⟩
      case measure => simp [intOf]; omega
    · obtain rfl : k = 8 := by omega
      go_wp2_with fail
      go_ret
      exact ⟨rfl, rfl⟩
theorem rkill_nil (l but : Int) (w : World) : Calls Try.prog 9 #[.pointer none, .int .u64 l, .int .i64 but] w fun e w' => e = .returned (.int .i64 0) ∧ w' = w := by
  go_enter Try.func9, Try.ntmps9
  go_wp2_with fail
  refine (rwho_nil _ _).mono ?_
  rintro e w' ⟨rfl, rfl⟩
  go_wp2_with fail
  go_loopw [14, 7] (fun i c wr => i = .int .i64 0 ∧ c = .int .i64 0 ∧ wr = w') (fun _ _ _ => 0)
  case atStart => exact ⟨rfl, rfl, rfl⟩
  case round =>
    obtain ⟨rfl, rfl, rfl⟩ := hrel
    go_wp2_with fail
    go_ret
    exact ⟨rfl, rfl⟩
theorem Dvs.line {w W : World} {ao : Option Addr} {n : Nat} {l : List Dv} (h : Dvs w ao n l) {b off : Nat} (ha : ao = some ⟨b, off, none⟩) {k : Nat} (hk : k < n) {ln : Int} (hl : (l.getD k Dv.zero).line = ln) (hb : Below w.heap.size w W) : W.cell? ⟨b, off + k * 3 + 2, none⟩ = some (.int .u64 ln) := by
  have h1 := (range_low (h.range ha hk) hb) 2 (.int .u64 (l.getD k Dv.zero).line) rfl
  rw [hl] at h1
  exact h1
set_option maxRecDepth 100000 in
set_option maxHeartbeats 16000000 in
theorem rplay_walk (w : World) (ao : Option Addr) (n cap : Nat) (l : List Dv) (line : Int) (h : Dvs w ao n l) (_ : 0 ≤ line ∧ line ≤ 18446744073709551615) :
    Calls Try.prog 3 #[.slice ao n cap, .int .u64 line] w fun e w' => e = .returned (.bool true) ∧ Below w.heap.size w w' := by
  have HDS := Lib.hid h
  clear h
  by_cases hn : n ≤ 100
  · have gn : decide ((n : Int) > 100) = false := by simp; omega
    have HBO := Lib.hid (both w)
    go_enter Try.func3, Try.ntmps3
    go_wp2_with fail
    refine (rset_nil _ _ _).mono ?_
    rintro e w' ⟨rfl, hw'⟩
    rw [hw']
    clear hw' w'
    go_wp2_with fail
    refine (rclr_nil _ _).mono ?_
    rintro e w' ⟨rfl, hw'⟩
    rw [hw']
    clear hw' w'
    go_wp2_with fail
    refine (rhasl_nil _ _ _).mono ?_
    rintro e w' ⟨rfl, hw'⟩
    rw [hw']
    clear hw' w'
    go_wp2_with fail
    refine (rkill_nil _ _ _).mono ?_
    rintro e w' ⟨rfl, hw'⟩
    rw [hw']
    clear hw' w'
    go_wp2_with fail
    refine (rwho_nil _ _).mono ?_
    rintro e w' ⟨rfl, hw'⟩
    rw [hw']
    clear hw' w'
    go_wp2_with fail
    refine (lines_nil_c _).mono ?_
    rintro e w' ⟨rfl, hw'⟩
    rw [hw']
    clear hw' w'
    go_upto_region 7 with fail
    rw [zero_tab]
    go_upto_region 8 with fail
    rw [zero_ref]
    generalize (w.alloc (.cells (tC Rv.none_).toArray TT)).alloc (.cells (rT Rv.none_) XT) = w1 at *
    have HT1 := Lib.hid (show TbAt w1 w.heap.size 0 (Rv.play l 0) from HBO.out.t)
    have HX1 := Lib.hid (show CsAt w1 (w.heap.size + 1) XT (rT (Rv.play l 0)) from HBO.out.x)
    have HB1 := Lib.hid HBO.out.bel
    have hxt : (w.heap.size + 1) ≠ w.heap.size := by omega
    clear HBO
    go_wp2_with fail
    go_loopw [8] (fun i wr => ∃ k : Nat, k ≤ n ∧ i = .int .i64 k ∧ ∃ T, Rv.play l k = T ∧ TbAt wr w.heap.size 0 T ∧ CsAt wr (w.heap.size + 1) XT (rT T) ∧ Below w.heap.size w wr) (fun i _ => n - (intOf i).toNat)
    case atStart => exact ⟨0, Nat.zero_le _, rfl, _, rfl, HT1.out, HX1.out, HB1.out⟩
    case round =>
      obtain ⟨k, hk, rfl, T, hpl0, htr, hxr, hbr⟩ := hrel
      have HTB := Lib.hid htr
      have HXB := Lib.hid hxr
      have HBR := Lib.hid hbr
      have HP0 := Lib.hid hpl0
      clear htr hxr hbr HT1 HX1 HB1 hpl0
      by_cases hlt : k < n
      · have hlt0 : k < n := hlt
        obtain ⟨db, off, rfl, hdl, -⟩ := HDS.out.at_ (by omega)
        have HDR := Lib.hid (range_low (HDS.out.range rfl hlt0) HBR.out)
        have hln := (HDS.out.each k hlt0).line
        have HPL := Lib.hid (show Rv.play l (k + 1) = Rv.dd (Rv.play l k) (l.getD k Dv.zero).kind (l.getD k Dv.zero).hart (l.getD k Dv.zero).line from rfl)
        rw [HP0.out] at HPL
        generalize (l.getD k Dv.zero).kind = kd at *
        generalize (l.getD k Dv.zero).hart = hd at *
        generalize hlne : (l.getD k Dv.zero).line = ln at *
        have HPLN := Lib.hid hlne
        clear hlne
        have hdt : db ≠ w.heap.size := by omega
        have hdx : db ≠ (w.heap.size + 1) := by omega
        have gk : (k : Int) < (n : Int) := by omega
        go_upto_region 11 with fail
        have hS0 : CsAt wr.drew (w.heap.size + 1) XT (rT T) ∧ wr.drew.rangeAt db (off + k * 3) (ddV kd hd ln).toList := ⟨HXB.out, HDR.out⟩
        refine wp_region_noPanic ?_
        refine wp_region_held (S := fun W => CsAt W (w.heap.size + 1) XT (rT T) ∧ W.rangeAt db (off + k * 3) (ddV kd hd ln).toList) (by kernel_rfl) ?_
        refine takeH (fuel := 11) (i := 0) (.agg (rT T)) ?_ rfl (by kernel_rfl) (by kernel_rfl) (by kernel_rfl) (fun _ _ _ h => h) (by kernel_rfl) (fun W hS => exec_load_row XT _ rfl (w.heap.size + 1) rfl XT _ _ hS.1 Try.underlying41 rfl (iT _ _)) hS0 ?_ ?_
        rotate_left 1
        · go_simp
          exact rfl
        refine takeH (fuel := 10) (i := 1) (.slice (some ⟨db, off, none⟩) n cap) ?_ rfl (by kernel_rfl) (by kernel_rfl) (by kernel_rfl) (fun _ _ _ h => h) (by kernel_rfl) (fun W hS => by go_simp) hS0 ?_ ?_
        rotate_left 1
        · go_simp
          exact rfl
        refine takeH (fuel := 9) (i := 2) (.int .i64 (k : Int)) ?_ rfl (by kernel_rfl) (by kernel_rfl) (by kernel_rfl) (fun _ _ _ h => h) (by kernel_rfl) (fun W hS => by go_simp) hS0 ?_ ?_
        rotate_left 1
        · go_simp
          exact rfl
        refine takeH (fuel := 8) (i := 3) (.pointer (some ⟨db, off + k * 3, none⟩)) ?_ rfl (by kernel_rfl) (by kernel_rfl) (by kernel_rfl) (fun _ _ _ h => h) (by kernel_rfl) (fun W hS => by go_simp) hS0 ?_ ?_
        rotate_left 1
        · go_simp
          exact rfl
        refine takeH (fuel := 7) (i := 4) (.agg (ddV kd hd ln)) ?_ rfl (by kernel_rfl) (by kernel_rfl) (by kernel_rfl) (fun _ _ _ h => h) (by kernel_rfl) (fun W hS => exec_load_mid DT _ rfl db (off + k * 3) rfl _ _ hS.2 Try.underlying45 rfl info_dd) hS0 ?_ ?_
        rotate_left 1
        · go_simp
          exact rfl
        refine wpAnyH_all (fuel := 6) (rs := [5, 9]) (by kernel_rfl) (by decide) ?_
        intro i hi
        obtain rfl | rfl : i = 5 ∨ i = 9 := by simpa using hi
        · change Go.wpOp _ _ _ _ _ _ wr.drew
          refine wpOp_callX 13 #[.pointer (some ⟨w.heap.size, 0, none⟩), .agg (rT T), .agg (ddV kd hd ln)] rfl (by kernel_rfl) (by go_simp) ?_
          refine (rdo_c w.heap.size 0 T kd hd ln wr.drew (HTB.out.low (Below.refl _ _).drew) hln.1 hln.2).mono ?_
          rintro e w4 ⟨rfl, hT4, hM4⟩
          have hS4 : CsAt w4 (w.heap.size + 1) XT (rT T) ∧ w4.rangeAt db (off + k * 3) (ddV kd hd ln).toList := ⟨hS0.1.mid hM4 hxt, range_mid hS0.2 hM4 hdt⟩
          refine ⟨_, rfl, hS4, ?_⟩
          refine takeH (fuel := 5) (i := 6) (.tuple #[.agg (rT (Rv.dd T kd hd ln)), .bool true]) ?_ rfl (by kernel_rfl) (by kernel_rfl) (by kernel_rfl) (fun _ _ _ h => h) (by kernel_rfl) (fun W hS => by go_simp) hS4 ?_ ?_
          rotate_left 1
          · go_simp
            exact rfl
          refine takeH (fuel := 4) (i := 7) (.agg (rT (Rv.dd T kd hd ln))) ?_ rfl (by kernel_rfl) (by kernel_rfl) (by kernel_rfl) (fun _ _ _ h => h) (by kernel_rfl) (fun W hS => by go_simp) hS4 ?_ ?_
          rotate_left 1
          · go_simp
            exact rfl
          refine takeH (fuel := 3) (i := 8) (.bool true) ?_ rfl (by kernel_rfl) (by kernel_rfl) (by kernel_rfl) (fun _ _ _ h => h) (by kernel_rfl) (fun W hS => by go_simp) hS4 ?_ ?_
          rotate_left 1
          · go_simp
            exact rfl
          refine wpAnyH_all (fuel := 2) (rs := [9]) (by kernel_rfl) (by decide) ?_
          intro i hi
          obtain rfl : i = 9 := by simpa using hi
          refine wpOp_valB (.pointer (some ⟨w4.heap.size, 0, none⟩)) (w4.alloc (.cells (rT Rv.none_) XT)) _ rfl (by kernel_rfl) (exec_alloc XT rfl (.agg (rT Rv.none_)) (zero_T _)) rfl ?_
          have hA : Below w4.heap.size w4 (w4.alloc (.cells (rT Rv.none_) XT)) := (Below.refl _ _).alloc (Nat.le_refl _) _
          have hz := CsAt.new w4 XT (rT Rv.none_)
          have hxl := hS4.1.lt
          have hS5 : CsAt (w4.alloc (.cells (rT Rv.none_) XT)) (w.heap.size + 1) XT (rT T) ∧ (w4.alloc (.cells (rT Rv.none_) XT)).rangeAt db (off + k * 3) (ddV kd hd ln).toList := ⟨hS4.1.low hA, range_low hS4.2 hA⟩
          refine ⟨hS5, ?_⟩
          have hT5 := hT4.low hA
          have hM5 : Mid w.heap.size 0 16 wr (w4.alloc (.cells (rT Rv.none_) XT)) := (Mid.trans (v := wr.drew) (Mid.of_below (Below.refl _ _).drew HTB.out.lt) hM4).trans (Mid.of_below hA hT4.lt)
          have hnb : wr.heap.size ≤ w4.heap.size := hM4.size
          clear hT4 hM4 hS4 hA
          generalize w4.alloc (.cells (rT Rv.none_) XT) = w5 at *
          generalize w4.heap.size = nb at *
          refine wpAnyH_all (fuel := 1) (rs := [10]) (by kernel_rfl) (by decide) ?_
          intro i hi
          obtain rfl : i = 10 := by simpa using hi
          refine wpOp_unitB (w5.setRow nb (rT (Rv.dd T kd hd ln))) _ rfl (by kernel_rfl) (exec_store_row XT _ _ rfl nb (rT (Rv.dd T kd hd ln)) rfl rfl XT (rT Rv.none_) hz (iT _ _) rfl (rC_one _ _)) rfl ?_
          have hdb : db < w5.heap.size := World.block_lt_of_cell? _ _ (hS5.2 0 _ rfl)
          have hS6 : CsAt (w5.setRow nb (rT (Rv.dd T kd hd ln))) (w.heap.size + 1) XT (rT T) ∧ (w5.setRow nb (rT (Rv.dd T kd hd ln))).rangeAt db (off + k * 3) (ddV kd hd ln).toList := ⟨hS5.1.rowFar (by omega) _, range_row hS5.2 (by omega) _⟩
          refine ⟨hS6, ?_⟩
          refine takeH (fuel := 0) (i := 11) (.bool true) ?_ rfl (by kernel_rfl) (by kernel_rfl) (by kernel_rfl) (fun _ _ _ h => h) (by kernel_rfl) (fun W hS => by go_simp) hS6 ?_ ?_
          rotate_left 1
          · go_simp
            exact rfl
          refine wpAnyH_done (by kernel_rfl) ?_ _
          refine NoPanic.normal ?_
          have HF := Lib.hid (show CsAt (w5.setRow nb (rT (Rv.dd T kd hd ln))) nb XT (rT (Rv.dd T kd hd ln)) ∧ TbAt (w5.setRow nb (rT (Rv.dd T kd hd ln))) w.heap.size 0 (Rv.dd T kd hd ln) ∧ Mid w.heap.size 0 16 wr (w5.setRow nb (rT (Rv.dd T kd hd ln))) ∧ CsAt (w5.setRow nb (rT (Rv.dd T kd hd ln))) (w.heap.size + 1) XT (rT T) from
            ⟨hz.row _, hT5.on (setRow_other w5 _ w.heap.size _ (by have := HTB.out.lt; omega)), hM5.row hnb HTB.out.lt _, hS6.1⟩)
          clear hS5 hS6 hz hT5 hM5 hdb hS0
          generalize w5.setRow nb (rT (Rv.dd T kd hd ln)) = w6 at *
          go_upto_region 13 with (first | (refine wpList_load_row rfl XT _ rfl nb rfl XT _ (0, 0) _ HF.out.1 Try.underlying41 rfl (iT _ _) ?_) | (refine wpList_store_row rfl XT _ _ rfl (w.heap.size + 1) (rT (Rv.dd T kd hd ln)) rfl rfl XT (rT T) HF.out.2.2.2 (iT _ _) rfl (rC_one _ _) ?_))
          have HF2 := Lib.hid (show CsAt (w6.setRow (w.heap.size + 1) (rT (Rv.dd T kd hd ln))) (w.heap.size + 1) XT (rT (Rv.dd T kd hd ln)) ∧ TbAt (w6.setRow (w.heap.size + 1) (rT (Rv.dd T kd hd ln))) w.heap.size 0 (Rv.dd T kd hd ln) ∧ Below w.heap.size w (w6.setRow (w.heap.size + 1) (rT (Rv.dd T kd hd ln))) from
            ⟨HF.out.2.2.2.row _, HF.out.2.1.on (setRow_other w6 _ w.heap.size _ (Ne.symm hxt)), below_row (HBR.out.trans (HF.out.2.2.1.below (by omega) HBR.out.size)) (by omega) _⟩)
          generalize w6.setRow (w.heap.size + 1) (rT (Rv.dd T kd hd ln)) = w7 at *
          have HD7 := Lib.hid (HDS.out.line rfl hlt0 HPLN.out HF2.out.2.2)
          rw [← HPL.out] at HF2
          clear HF HTB HXB HDR
          generalize hT2 : Rv.play l (k + 1) = T2 at *
          have HT2 := Lib.hid hT2
          clear hT2
          refine wp_region_steady (fun W => Below w7.heap.size w7 W) (by kernel_rfl) (by kernel_rfl) ((Below.refl _ _).drew) ?_
          iterate 3
            refine steady_val ?_ ?_ (by kernel_rfl) (fun W hS => ?_) ?_ ?_
            rotate_left 2
            · go_simp
              exact rfl
            · go_simp
              exact rfl
          refine steady_val (.agg (rT T2)) ?_ (by kernel_rfl) (fun W hS => exec_load_row XT _ rfl (w.heap.size + 1) rfl XT _ _ (HF2.out.1.low hS) Try.underlying41 rfl (iT _ _)) ?_ ?_
          rotate_left 1
          · go_simp
            exact rfl
          refine steady_val ?_ ?_ (by kernel_rfl) (fun W hS => ?_) ?_ ?_
          rotate_left 2
          · go_simp
            exact rfl
          · go_simp
            exact rfl
          refine steady_enter (.bool true) 14 #[.pointer (some ⟨w.heap.size, 0, none⟩), .agg (rT T2), .int .u64 line] ?_ (by kernel_rfl) (fun W hS => ?_) (fun W hS => (same13_c w.heap.size 0 T2 line W (HF2.out.2.1.low hS)).mono fun e W' h => ⟨h.1, hS.trans (h.2.mono hS.size)⟩) ?_ ?_
          rotate_left 1
          · go_simp
          · go_simp
            exact rfl
          iterate 3
            refine steady_val ?_ ?_ (by kernel_rfl) (fun W hS => ?_) ?_ ?_
            rotate_left 2
            · go_simp
              exact rfl
            · go_simp
              exact rfl
          refine steady_val (.agg (rT T2)) ?_ (by kernel_rfl) (fun W hS => exec_load_row XT _ rfl (w.heap.size + 1) rfl XT _ _ (HF2.out.1.low hS) Try.underlying41 rfl (iT _ _)) ?_ ?_
          rotate_left 1
          · go_simp
            exact rfl
          iterate 5
            refine steady_val ?_ ?_ (by kernel_rfl) (fun W hS => ?_) ?_ ?_
            rotate_left 2
            · have d2 := (hS.cell (p := ⟨db, off + k * 3 + 2, none⟩) (World.block_lt_of_cell? _ _ HD7.out)).trans HD7.out; go_simp
              exact rfl
            · go_simp
              exact rfl
          refine steady_enter (.bool true) 14 #[.pointer (some ⟨w.heap.size, 0, none⟩), .agg (rT T2), .int .u64 ln] ?_ (by kernel_rfl) (fun W hS => ?_) (fun W hS => (same13_c w.heap.size 0 T2 ln W (HF2.out.2.1.low hS)).mono fun e W' h => ⟨h.1, hS.trans (h.2.mono hS.size)⟩) ?_ ?_
          rotate_left 1
          · go_simp
          · go_simp
            exact rfl
          iterate 2
            refine steady_val ?_ ?_ (by kernel_rfl) (fun W hS => ?_) ?_ ?_
            rotate_left 2
            · go_simp
              exact rfl
            · go_simp
              exact rfl
          refine steady_nil ?_
          intro W hW
          have HF3 := Lib.hid (And.intro (HF2.out.1.low hW) (And.intro (HF2.out.2.1.low hW) (HF2.out.2.2.trans (hW.mono HF2.out.2.2.size))))
          clear hW HF2 HD7
          go_wp2_with fail
          go_roundw
          case rel => exact ⟨k + 1, by omega, by go_num, T2, HT2.out, HF3.out.2.1, HF3.out.1, HF3.out.2.2⟩
          case measure => simp [intOf]; omega
        · change Go.wpOp _ _ _ _ _ _ wr.drew
          refine wpOp_valB (.pointer (some ⟨wr.heap.size, 0, none⟩)) (wr.drew.alloc (.cells (rT Rv.none_) XT)) _ rfl (by kernel_rfl) (exec_alloc XT rfl (.agg (rT Rv.none_)) (zero_T _)) rfl ?_
          have hA : Below wr.heap.size wr (wr.drew.alloc (.cells (rT Rv.none_) XT)) := (Below.refl wr.heap.size wr).drew.alloc (Nat.le_refl _) _
          have hz0 : CsAt (wr.drew.alloc (.cells (rT Rv.none_) XT)) wr.heap.size XT (rT Rv.none_) := CsAt.new wr.drew XT (rT Rv.none_)
          have hxl := HXB.out.lt
          have htl := HTB.out.lt
          have hS4 : CsAt (wr.drew.alloc (.cells (rT Rv.none_) XT)) (w.heap.size + 1) XT (rT T) ∧ (wr.drew.alloc (.cells (rT Rv.none_) XT)).rangeAt db (off + k * 3) (ddV kd hd ln).toList := ⟨HXB.out.low hA, range_low (w := wr) HDR.out hA⟩
          refine ⟨hS4, ?_⟩
          have hT4 := HTB.out.low hA
          generalize wr.drew.alloc (.cells (rT Rv.none_) XT) = w4 at *
          refine wpAnyH_all (fuel := 5) (rs := [5]) (by kernel_rfl) (by decide) ?_
          intro i hi
          obtain rfl : i = 5 := by simpa using hi
          refine wpOp_callX 13 #[.pointer (some ⟨w.heap.size, 0, none⟩), .agg (rT T), .agg (ddV kd hd ln)] rfl (by kernel_rfl) (by go_simp) ?_
          refine (rdo_c w.heap.size 0 T kd hd ln w4 hT4 hln.1 hln.2).mono ?_
          rintro e w5 ⟨rfl, hT5, hM4⟩
          have hS5 : CsAt w5 (w.heap.size + 1) XT (rT T) ∧ w5.rangeAt db (off + k * 3) (ddV kd hd ln).toList := ⟨hS4.1.mid hM4 hxt, range_mid hS4.2 hM4 hdt⟩
          refine ⟨_, rfl, hS5, ?_⟩
          have hz := hz0.mid hM4 (by omega)
          have hM5 : Mid w.heap.size 0 16 wr w5 := (Mid.of_below hA htl).trans hM4
          have hnb : wr.heap.size ≤ wr.heap.size := Nat.le_refl _
          clear hz0 hS4 hT4 hM4 hA
          refine takeH (fuel := 4) (i := 6) (.tuple #[.agg (rT (Rv.dd T kd hd ln)), .bool true]) ?_ rfl (by kernel_rfl) (by kernel_rfl) (by kernel_rfl) (fun _ _ _ h => h) (by kernel_rfl) (fun W hS => by go_simp) hS5 ?_ ?_
          rotate_left 1
          · go_simp
            exact rfl
          refine takeH (fuel := 3) (i := 7) (.agg (rT (Rv.dd T kd hd ln))) ?_ rfl (by kernel_rfl) (by kernel_rfl) (by kernel_rfl) (fun _ _ _ h => h) (by kernel_rfl) (fun W hS => by go_simp) hS5 ?_ ?_
          rotate_left 1
          · go_simp
            exact rfl
          refine takeH (fuel := 2) (i := 8) (.bool true) ?_ rfl (by kernel_rfl) (by kernel_rfl) (by kernel_rfl) (fun _ _ _ h => h) (by kernel_rfl) (fun W hS => by go_simp) hS5 ?_ ?_
          rotate_left 1
          · go_simp
            exact rfl
          refine wpAnyH_all (fuel := 1) (rs := [10]) (by kernel_rfl) (by decide) ?_
          intro i hi
          obtain rfl : i = 10 := by simpa using hi
          refine wpOp_unitB (w5.setRow wr.heap.size (rT (Rv.dd T kd hd ln))) _ rfl (by kernel_rfl) (exec_store_row XT _ _ rfl wr.heap.size (rT (Rv.dd T kd hd ln)) rfl rfl XT (rT Rv.none_) hz (iT _ _) rfl (rC_one _ _)) rfl ?_
          have hdb : db < w5.heap.size := World.block_lt_of_cell? _ _ (hS5.2 0 _ rfl)
          have hS6 : CsAt (w5.setRow wr.heap.size (rT (Rv.dd T kd hd ln))) (w.heap.size + 1) XT (rT T) ∧ (w5.setRow wr.heap.size (rT (Rv.dd T kd hd ln))).rangeAt db (off + k * 3) (ddV kd hd ln).toList := ⟨hS5.1.rowFar (by omega) _, range_row hS5.2 (by omega) _⟩
          refine ⟨hS6, ?_⟩
          refine takeH (fuel := 0) (i := 11) (.bool true) ?_ rfl (by kernel_rfl) (by kernel_rfl) (by kernel_rfl) (fun _ _ _ h => h) (by kernel_rfl) (fun W hS => by go_simp) hS6 ?_ ?_
          rotate_left 1
          · go_simp
            exact rfl
          refine wpAnyH_done (by kernel_rfl) ?_ _
          refine NoPanic.normal ?_
          have HF := Lib.hid (show CsAt (w5.setRow wr.heap.size (rT (Rv.dd T kd hd ln))) wr.heap.size XT (rT (Rv.dd T kd hd ln)) ∧ TbAt (w5.setRow wr.heap.size (rT (Rv.dd T kd hd ln))) w.heap.size 0 (Rv.dd T kd hd ln) ∧ Mid w.heap.size 0 16 wr (w5.setRow wr.heap.size (rT (Rv.dd T kd hd ln))) ∧ CsAt (w5.setRow wr.heap.size (rT (Rv.dd T kd hd ln))) (w.heap.size + 1) XT (rT T) from
            ⟨hz.row _, hT5.on (setRow_other w5 _ w.heap.size _ (by have := HTB.out.lt; omega)), hM5.row hnb HTB.out.lt _, hS6.1⟩)
          clear hS5 hS6 hz hT5 hM5 hdb hS0
          generalize w5.setRow wr.heap.size (rT (Rv.dd T kd hd ln)) = w6 at *
          go_upto_region 13 with (first | (refine wpList_load_row rfl XT _ rfl wr.heap.size rfl XT _ (0, 0) _ HF.out.1 Try.underlying41 rfl (iT _ _) ?_) | (refine wpList_store_row rfl XT _ _ rfl (w.heap.size + 1) (rT (Rv.dd T kd hd ln)) rfl rfl XT (rT T) HF.out.2.2.2 (iT _ _) rfl (rC_one _ _) ?_))
          have HF2 := Lib.hid (show CsAt (w6.setRow (w.heap.size + 1) (rT (Rv.dd T kd hd ln))) (w.heap.size + 1) XT (rT (Rv.dd T kd hd ln)) ∧ TbAt (w6.setRow (w.heap.size + 1) (rT (Rv.dd T kd hd ln))) w.heap.size 0 (Rv.dd T kd hd ln) ∧ Below w.heap.size w (w6.setRow (w.heap.size + 1) (rT (Rv.dd T kd hd ln))) from
            ⟨HF.out.2.2.2.row _, HF.out.2.1.on (setRow_other w6 _ w.heap.size _ (Ne.symm hxt)), below_row (HBR.out.trans (HF.out.2.2.1.below (by omega) HBR.out.size)) (by omega) _⟩)
          generalize w6.setRow (w.heap.size + 1) (rT (Rv.dd T kd hd ln)) = w7 at *
          have HD7 := Lib.hid (HDS.out.line rfl hlt0 HPLN.out HF2.out.2.2)
          rw [← HPL.out] at HF2
          clear HF HTB HXB HDR
          generalize hT2 : Rv.play l (k + 1) = T2 at *
          have HT2 := Lib.hid hT2
          clear hT2
          refine wp_region_steady (fun W => Below w7.heap.size w7 W) (by kernel_rfl) (by kernel_rfl) ((Below.refl _ _).drew) ?_
          iterate 3
            refine steady_val ?_ ?_ (by kernel_rfl) (fun W hS => ?_) ?_ ?_
            rotate_left 2
            · go_simp
              exact rfl
            · go_simp
              exact rfl
          refine steady_val (.agg (rT T2)) ?_ (by kernel_rfl) (fun W hS => exec_load_row XT _ rfl (w.heap.size + 1) rfl XT _ _ (HF2.out.1.low hS) Try.underlying41 rfl (iT _ _)) ?_ ?_
          rotate_left 1
          · go_simp
            exact rfl
          refine steady_val ?_ ?_ (by kernel_rfl) (fun W hS => ?_) ?_ ?_
          rotate_left 2
          · go_simp
            exact rfl
          · go_simp
            exact rfl
          refine steady_enter (.bool true) 14 #[.pointer (some ⟨w.heap.size, 0, none⟩), .agg (rT T2), .int .u64 line] ?_ (by kernel_rfl) (fun W hS => ?_) (fun W hS => (same13_c w.heap.size 0 T2 line W (HF2.out.2.1.low hS)).mono fun e W' h => ⟨h.1, hS.trans (h.2.mono hS.size)⟩) ?_ ?_
          rotate_left 1
          · go_simp
          · go_simp
            exact rfl
          iterate 3
            refine steady_val ?_ ?_ (by kernel_rfl) (fun W hS => ?_) ?_ ?_
            rotate_left 2
            · go_simp
              exact rfl
            · go_simp
              exact rfl
          refine steady_val (.agg (rT T2)) ?_ (by kernel_rfl) (fun W hS => exec_load_row XT _ rfl (w.heap.size + 1) rfl XT _ _ (HF2.out.1.low hS) Try.underlying41 rfl (iT _ _)) ?_ ?_
          rotate_left 1
          · go_simp
            exact rfl
          iterate 5
            refine steady_val ?_ ?_ (by kernel_rfl) (fun W hS => ?_) ?_ ?_
            rotate_left 2
            · have d2 := (hS.cell (p := ⟨db, off + k * 3 + 2, none⟩) (World.block_lt_of_cell? _ _ HD7.out)).trans HD7.out; go_simp
              exact rfl
            · go_simp
              exact rfl
          refine steady_enter (.bool true) 14 #[.pointer (some ⟨w.heap.size, 0, none⟩), .agg (rT T2), .int .u64 ln] ?_ (by kernel_rfl) (fun W hS => ?_) (fun W hS => (same13_c w.heap.size 0 T2 ln W (HF2.out.2.1.low hS)).mono fun e W' h => ⟨h.1, hS.trans (h.2.mono hS.size)⟩) ?_ ?_
          rotate_left 1
          · go_simp
          · go_simp
            exact rfl
          iterate 2
            refine steady_val ?_ ?_ (by kernel_rfl) (fun W hS => ?_) ?_ ?_
            rotate_left 2
            · go_simp
              exact rfl
            · go_simp
              exact rfl
          refine steady_nil ?_
          intro W hW
          have HF3 := Lib.hid (And.intro (HF2.out.1.low hW) (And.intro (HF2.out.2.1.low hW) (HF2.out.2.2.trans (hW.mono HF2.out.2.2.size))))
          clear hW HF2 HD7
          go_wp2_with fail
          go_roundw
          case rel => exact ⟨k + 1, by omega, by go_num, T2, HT2.out, HF3.out.2.1, HF3.out.1, HF3.out.2.2⟩
          case measure => simp [intOf]; omega
      · obtain rfl : k = n := by omega
        clear hlt hk HP0
        have HSM := Lib.hid (same13_c w.heap.size 0 T line _ HTB.out)
        go_wp2_with (refine wpList_load_row rfl XT _ rfl (w.heap.size + 1) rfl XT _ (0, 0) _ HXB.out Try.underlying41 rfl (iT _ _) ?_)
        refine HSM.out.mono ?_
        rintro e w2 ⟨rfl, hb2⟩
        have HB2 := Lib.hid (HBR.out.trans (hb2.mono HBR.out.size))
        have HLV := Lib.hid (live13_c w2)
        clear hb2 HSM HBR HTB HXB
        go_wp2_with fail
        refine HLV.out.mono ?_
        rintro e w3 ⟨rfl, hb3⟩
        have HB3 := Lib.hid (HB2.out.trans (hb3.mono HB2.out.size))
        clear hb3 HLV HB2
        go_wp2_with fail
        go_ret
        exact ⟨rfl, HB3.out⟩
  · have gn : decide ((n : Int) > 100) = true := by simp; omega
    have HLV := Lib.hid (live13_c w)
    go_enter Try.func3, Try.ntmps3
    go_wp2_with fail
    refine (rset_nil _ _ _).mono ?_
    rintro e w' ⟨rfl, hw'⟩
    rw [hw']
    clear hw' w'
    go_wp2_with fail
    refine (rclr_nil _ _).mono ?_
    rintro e w' ⟨rfl, hw'⟩
    rw [hw']
    clear hw' w'
    go_wp2_with fail
    refine (rhasl_nil _ _ _).mono ?_
    rintro e w' ⟨rfl, hw'⟩
    rw [hw']
    clear hw' w'
    go_wp2_with fail
    refine (rkill_nil _ _ _).mono ?_
    rintro e w' ⟨rfl, hw'⟩
    rw [hw']
    clear hw' w'
    go_wp2_with fail
    refine (rwho_nil _ _).mono ?_
    rintro e w' ⟨rfl, hw'⟩
    rw [hw']
    clear hw' w'
    go_wp2_with fail
    refine (lines_nil_c _).mono ?_
    rintro e w' ⟨rfl, hw'⟩
    rw [hw']
    clear hw' w'
    go_wp2_with fail
    refine HLV.out.mono ?_
    rintro e w1 ⟨rfl, hb⟩
    have HB := Lib.hid hb
    clear hb HLV
    go_wp2_with fail
    go_ret
    exact ⟨rfl, HB.out⟩
end Go.Proofs.Ytabackklpemhpaa
