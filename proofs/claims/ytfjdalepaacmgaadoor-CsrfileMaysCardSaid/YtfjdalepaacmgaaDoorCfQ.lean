/-
  CsrfileMays walked.
-/
import Derived.Test.YtfjdalepaacmgaaDoorCfM
import Derived.Test.YtfjdalepaacmgaaDoorCfP
set_option maxRecDepth 20000
namespace Go.Proofs.YtfjdalepaacmgaaDoor
open Go.ChangeShapes Go.WideShapes Go.ChangeAt Go.RowKit Wd Csr Sta Cf

set_option maxHeartbeats 16000000 in
theorem mays22_walk (ao : Option Addr) (n cap : Nat) (l : List Df) (nn pp : Int) (w : World) (hds : Dfs w ao n l) (hT : RowsIn w ∧ KeptIn w) :
    Calls Tryd.prog 7 #[.slice ao n cap, .int .i64 nn, .int .i64 pp] w fun e w' => e = .returned (.bool true) ∧ Below w.heap.size w w' := by
  have HDS := Lib.hid hds
  have hmx := hds.max
  have HT := Lib.hid hT
  clear hds
  by_cases hlong : 30 < n
  · have g0 : decide ((n : Int) > 30) = true := by simp; omega
    clear hT hmx
    go_enter Tryd.func7, Tryd.ntmps7
    go_wp2_with fail
    refine (zset_c nn 1 _).mono ?_
    rintro e wa ⟨rfl, hb⟩
    have HZ := Lib.hid hb
    clear hb
    go_wp2_with fail
    refine (zturn_c true _).mono ?_
    rintro e wb ⟨rfl, hb⟩
    replace HZ := Lib.hid (HZ.out.trans (hb.mono HZ.out.size))
    clear hb
    go_wp2_with fail
    refine (zget_c nn 1 _).mono ?_
    rintro e wc ⟨rfl, hb⟩
    replace HZ := Lib.hid (HZ.out.trans (hb.mono HZ.out.size))
    clear hb
    go_wp2_with fail
    refine (zmay_c nn 3 false _).mono ?_
    rintro e wd ⟨rfl, hb⟩
    replace HZ := Lib.hid (HZ.out.trans (hb.mono HZ.out.size))
    clear hb
    go_wp2_with fail
    refine (zdo_c nn _).mono ?_
    rintro e we ⟨rfl, hb⟩
    replace HZ := Lib.hid (HZ.out.trans (hb.mono HZ.out.size))
    clear hb
    go_wp2_with fail
    refine (live22_c _ (HT.out.1.low HZ.out) (HT.out.2.low HZ.out)).mono ?_
    rintro e w1 ⟨rfl, hb⟩
    have HB := Lib.hid (HZ.out.trans (hb.mono HZ.out.size))
    clear hb
    go_wp2_with fail
    go_ret
    exact ⟨rfl, HB.out⟩
  · have g0 : decide ((n : Int) > 30) = false := by simp; omega
    have HRN := Lib.hid (fun W => rnew22_c 0 W)
    clear hT
    go_enter Tryd.func7, Tryd.ntmps7
    go_wp2_with fail
    refine (zset_c nn 1 _).mono ?_
    rintro e wa ⟨rfl, hb⟩
    have HZ := Lib.hid hb
    clear hb
    go_wp2_with fail
    refine (zturn_c true _).mono ?_
    rintro e wb ⟨rfl, hb⟩
    replace HZ := Lib.hid (HZ.out.trans (hb.mono HZ.out.size))
    clear hb
    go_wp2_with fail
    refine (zget_c nn 1 _).mono ?_
    rintro e wc ⟨rfl, hb⟩
    replace HZ := Lib.hid (HZ.out.trans (hb.mono HZ.out.size))
    clear hb
    go_wp2_with fail
    refine (zmay_c nn 3 false _).mono ?_
    rintro e wd ⟨rfl, hb⟩
    replace HZ := Lib.hid (HZ.out.trans (hb.mono HZ.out.size))
    clear hb
    go_wp2_with fail
    refine (zdo_c nn _).mono ?_
    rintro e we ⟨rfl, hb⟩
    replace HZ := Lib.hid (HZ.out.trans (hb.mono HZ.out.size))
    clear hb
    go_wp2_with fail
    refine (fnew_c 0 ⟨by omega, by omega⟩ _ (HT.out.2.low HZ.out)).mono ?_
    rintro e w1 ⟨rfl, hb1⟩
    have HB1 := Lib.hid (HZ.out.trans (hb1.mono HZ.out.size))
    clear hb1 HZ
    go_upto_region 9 with (first
      | (refine wpList_allocY rfl _ rfl FlT rfl (fileV (zero 0)) (zero_fl _) ?_)
      | (refine wpList_storeNew (w0 := w1) rfl FlT _ _ rfl (fileV (zero 0)) (fileV (new 0)) FlT rfl rfl (iFl _) (by rw [fileV_size, fileV_size]) (flV_one _) ?_))
    have HF1 := Lib.hid (CsAt.new w1 FlT (fileV (new 0)))
    have HB2 := Lib.hid (HB1.out.alloc HB1.out.size (.cells (fileV (new 0)) FlT))
    have HSZ1 := Lib.hid (show (w1.alloc (.cells (fileV (new 0)) FlT)).heap.size = w1.heap.size + 1 by simp)
    generalize w1.alloc (.cells (fileV (new 0)) FlT) = w2 at *
    go_wp2_with fail
    refine (HRN.out _).mono ?_
    rintro e w3 ⟨rfl, hb3⟩
    have HF2 := Lib.hid (HF1.out.low hb3)
    have HB3 := Lib.hid (HB2.out.trans (hb3.mono HB2.out.size))
    have hg3 := hb3.size
    clear hb3
    go_upto_region 10 with (first
      | (refine wpList_allocY rfl _ rfl RfT rfl (refV (zero 0)) (zero_rf _) ?_)
      | (refine wpList_storeNew (w0 := w3) rfl RfT _ _ rfl (refV (zero 0)) (refV (new 0)) RfT rfl rfl (iRf _) (by rw [refV_size, refV_size]) (rfV_one _) ?_))
    have hb4 : Below w3.heap.size w3 (w3.alloc (.cells (refV (new 0)) RfT)) := (Below.refl _ _).alloc (Nat.le_refl _) _
    have HB4 := HB3.out.trans (hb4.mono HB3.out.size)
    have hs1 := HB1.out.size
    have hs2 := HSZ1.out
    have HP := Lib.hid (show PyS w (w3.alloc (.cells (refV (new 0)) RfT)) w1.heap.size w3.heap.size (new 0) from
      ⟨⟨HF2.out.low hb4, new_ok ⟨by omega, by omega⟩⟩, CsAt.new w3 RfT _, HT.out.1.low HB4, HT.out.2.low HB4, hs1, by omega, by omega, new_far HT.out.1 HT.out.2 hs1, new_far HT.out.1 HT.out.2 (by omega), HB4⟩)
    clear hb4 HB4 hs1 hs2 hg3 HB1 HB2 HB3 HF1 HF2 HSZ1 HRN
    generalize w3.alloc (.cells (refV (new 0)) RfT) = w4 at *
    generalize w1.heap.size = g at *
    generalize w3.heap.size = gx at *
    go_wp2_with fail
    go_loopw [10] (fun i wr => ∃ (k : Nat) (s : S), k ≤ n ∧ i = .int .i64 k ∧ PyS w wr g gx s) (fun i _ => n - (intOf i).toNat)
    case atStart => exact ⟨0, new 0, Nat.zero_le _, rfl, HP.out⟩
    case round =>
      clear HP
      obtain ⟨k, s, hk, rfl, hp⟩ := hrel
      have HR := Lib.hid hp
      clear hp
      by_cases hlt : k < n
      · have e0 : decide ((k : Int) < (n : Int)) = true := by simp; omega
        obtain ⟨db, off, rfl, hdl, hcells⟩ := HDS.out.at_ (by omega)
        have HIN := Lib.hid (HDS.out.each k hlt)
        have HDC := Lib.hid (fun (W : World) (hb : Below w.heap.size w W) (f : Nat) (hf : f < 12) => df_row (W := W) (hcells k hlt) hdl hb f hf)
        have gk : (k : Int) < (n : Int) := by omega
        clear hcells
        generalize l.getD k Df.zero = d at *
        have HDO := Lib.hid (fun W (hn : RowsIn W) (hk : KeptIn W) (h : FlAt W g s) => do22_c g s d HIN.out W hn hk HR.out.far h)
        generalize hu : nxtS s d = u at *
        generalize tolS s d = a at *
        clear hu
        go_upto_region 13 with fail
        have hp0 := HR.out.drew
        have hs0 := hp0.bel
        refine wp_region_noPanic ?_
        refine wp_region_held (S := fun V => CsAt V gx RfT (refV s) ∧ Below w.heap.size w V) (by kernel_rfl) ?_
        refine takeH (fuel := 13) (i := 0) (.agg (refV s)) ?_ rfl (by kernel_rfl) (by kernel_rfl) (by kernel_rfl) (fun _ _ _ h => h) (by kernel_rfl) (fun W hS => exec_load_row RfT _ rfl gx rfl RfT _ _ hS.1 Tryd.underlying58 rfl (iRf _)) ⟨hp0.x, hs0⟩ ?_ ?_
        rotate_left 1
        · go_simp
          exact rfl
        refine takeH (fuel := 12) (i := 1) (.slice (some ⟨db, off, none⟩) n cap) ?_ rfl (by kernel_rfl) (by kernel_rfl) (by kernel_rfl) (fun _ _ _ h => h) (by kernel_rfl) (fun W hS => by go_simp) ⟨hp0.x, hs0⟩ ?_ ?_
        rotate_left 1
        · go_simp
          exact rfl
        refine takeH (fuel := 11) (i := 2) (.int .i64 (k : Int)) ?_ rfl (by kernel_rfl) (by kernel_rfl) (by kernel_rfl) (fun _ _ _ h => h) (by kernel_rfl) (fun W hS => by go_simp) ⟨hp0.x, hs0⟩ ?_ ?_
        rotate_left 1
        · go_simp
          exact rfl
        refine takeH (fuel := 10) (i := 3) (.pointer (some ⟨db, off + k * 12, none⟩)) ?_ rfl (by kernel_rfl) (by kernel_rfl) (by kernel_rfl) (fun _ _ _ h => h) (by kernel_rfl) (fun W hS => by go_simp) ⟨hp0.x, hs0⟩ ?_ ?_
        rotate_left 1
        · go_simp
          exact rfl
        refine takeH (fuel := 9) (i := 4) (.agg d.cells) ?_ rfl (by kernel_rfl) (by kernel_rfl) (by kernel_rfl) (fun _ _ _ h => h) (by kernel_rfl) (fun W hS => by (have q0 := HDC.out W hS.2 0 (by omega); have q1 := HDC.out W hS.2 1 (by omega); have q2 := HDC.out W hS.2 2 (by omega); have q3 := HDC.out W hS.2 3 (by omega); have q4 := HDC.out W hS.2 4 (by omega); have q5 := HDC.out W hS.2 5 (by omega); have q6 := HDC.out W hS.2 6 (by omega); have q7 := HDC.out W hS.2 7 (by omega); have q8 := HDC.out W hS.2 8 (by omega); have q9 := HDC.out W hS.2 9 (by omega); have q10 := HDC.out W hS.2 10 (by omega); have q11 := HDC.out W hS.2 11 (by omega); simp only [Nat.add_zero, List.getElem?_toArray, List.getElem?_cons_zero, List.getElem?_cons_succ] at q0 q1 q2 q3 q4 q5 q6 q7 q8 q9 q10 q11; go_simp)) ⟨hp0.x, hs0⟩ ?_ ?_
        rotate_left 1
        · go_simp
          exact rfl
        refine wpAnyH_all (fuel := 8) (rs := [5, 10]) (by kernel_rfl) (by decide) ?_
        intro i hi
        simp only [List.mem_cons, List.not_mem_nil, or_false] at hi
        rcases hi with rfl | rfl
        · refine wpOp_callX 32 #[.pointer (some ⟨g, 0, none⟩), .agg (refV s), .agg d.cells] rfl (by kernel_rfl) (by go_simp) ?_
          refine (HDO.out _ hp0.n hp0.k hp0.fl).mono ?_
          rintro e w5 ⟨rfl, hq⟩
          have hz := hp0.fq hq
          have hz0 := hq.chg
          clear hq
          refine ⟨_, rfl, ⟨hz.x, hz.bel⟩, ?_⟩
          refine takeH (fuel := 7) (i := 6) (.tuple #[.agg (refV u), .int .u64 a, .int .u64 a]) ?_ rfl (by kernel_rfl) (by kernel_rfl) (by kernel_rfl) (fun _ _ _ h => h) (by kernel_rfl) (fun W hS => by go_simp) ⟨hz.x, hz.bel⟩ ?_ ?_
          rotate_left 1
          · go_simp
            exact rfl
          refine takeH (fuel := 6) (i := 7) (.agg (refV u)) ?_ rfl (by kernel_rfl) (by kernel_rfl) (by kernel_rfl) (fun _ _ _ h => h) (by kernel_rfl) (fun W hS => by go_simp) ⟨hz.x, hz.bel⟩ ?_ ?_
          rotate_left 1
          · go_simp
            exact rfl
          refine takeH (fuel := 5) (i := 8) (.int .u64 a) ?_ rfl (by kernel_rfl) (by kernel_rfl) (by kernel_rfl) (fun _ _ _ h => h) (by kernel_rfl) (fun W hS => by go_simp) ⟨hz.x, hz.bel⟩ ?_ ?_
          rotate_left 1
          · go_simp
            exact rfl
          refine takeH (fuel := 4) (i := 9) (.int .u64 a) ?_ rfl (by kernel_rfl) (by kernel_rfl) (by kernel_rfl) (fun _ _ _ h => h) (by kernel_rfl) (fun W hS => by go_simp) ⟨hz.x, hz.bel⟩ ?_ ?_
          rotate_left 1
          · go_simp
            exact rfl
          refine wpAnyH_all (fuel := 3) (rs := [10]) (by kernel_rfl) (by decide) ?_
          intro i hi
          obtain rfl : i = 10 := by simpa using hi
          have hba : Below w5.heap.size w5 (w5.alloc (.cells (refV (zero 0)) RfT)) := (Below.refl _ _).alloc (Nat.le_refl _) _
          have hgx := hp0.x.lt
          have hgl := hp0.fl.r.lt
          have hw5 : wr.drew.heap.size ≤ w5.heap.size := hz0.size
          refine wpOp_valB (.pointer (some ⟨w5.heap.size, 0, none⟩)) (w5.alloc (.cells (refV (zero 0)) RfT)) _ rfl (by kernel_rfl) (exec_alloc RfT rfl (.agg (refV (zero 0))) (zero_rf _)) rfl ?_
          have h10 : CsAt (w5.alloc (.cells (refV (zero 0)) RfT)) w5.heap.size RfT (refV (zero 0)) := CsAt.new _ _ _
          replace hz := hz.low hba
          clear hba
          refine ⟨⟨hz.x, hz.bel⟩, ?_⟩
          obtain ⟨c10, hcc⟩ : ∃ c, w5.heap.size = c := ⟨_, rfl⟩
          rw [hcc] at h10 hw5 ⊢
          have hc10 : wr.drew.heap.size ≤ c10 := hw5
          clear hw5
          refine wpAnyH_all (fuel := 2) (rs := [11]) (by kernel_rfl) (by decide) ?_
          intro i hi
          obtain rfl : i = 11 := by simpa using hi
          refine wpOp_unitB ((w5.alloc (.cells (refV (zero 0)) RfT)).setRow c10 (refV u)) _ rfl (by kernel_rfl) (exec_store_row RfT _ _ rfl c10 (refV u) rfl rfl RfT _ h10 (iRf _) (by rw [refV_size, refV_size]) (rfV_one _)) rfl ?_
          have hne : c10 ≠ gx := fun e => absurd hgx (by rw [← e]; exact Nat.not_lt.2 hc10)
          have hn2 : c10 ≠ g := fun e => absurd hgl (by rw [← e]; exact Nat.not_lt.2 hc10)
          have hc2 : Chg (one c10) (w5.alloc (.cells (refV (zero 0)) RfT)) ((w5.alloc (.cells (refV (zero 0)) RfT)).setRow c10 (refV u)) := Chg.of_row (S := one c10) rfl _
          have hfar := new_far HT.out.1 HT.out.2 (Nat.le_trans hs0.size hc10)
          have hz2 : PzS w ((w5.alloc (.cells (refV (zero 0)) RfT)).setRow c10 (refV u)) g gx s u := ⟨⟨hz.fl.r.rowFar hn2.symm _, hz.fl.ok⟩, hz.x.rowFar hne.symm _, hz.n.chg hc2 (fun (e : 3 = c10) => hfar.1 e.symm), hz.k.chg hc2 (fun (e : 2 = c10) => hfar.2 e.symm), hz.hg, hz.hx, hz.ne, hz.far, hz.farx, below_setRow hz.bel (Nat.le_trans hs0.size hc10) _⟩
          have h11 := h10.row (refV u)
          refine ⟨⟨hz2.x, hz2.bel⟩, ?_⟩
          refine takeH (fuel := 1) (i := 12) (.int .u64 a) ?_ rfl (by kernel_rfl) (by kernel_rfl) (by kernel_rfl) (fun _ _ _ h => h) (by kernel_rfl) (fun W hS => by go_simp) ⟨hz2.x, hz2.bel⟩ ?_ ?_
          rotate_left 1
          · go_simp
            exact rfl
          refine takeH (fuel := 0) (i := 13) (.int .u64 a) ?_ rfl (by kernel_rfl) (by kernel_rfl) (by kernel_rfl) (fun _ _ _ h => h) (by kernel_rfl) (fun W hS => by go_simp) ⟨hz2.x, hz2.bel⟩ ?_ ?_
          rotate_left 1
          · go_simp
            exact rfl
          refine wpAnyH_done (by kernel_rfl) ?_ _
          refine NoPanic.normal ?_
          have HZ := Lib.hid hz2
          have H11 := Lib.hid h11
          generalize (w5.alloc (.cells (refV (zero 0)) RfT)).setRow c10 (refV u) = wz at *
          clear hz hz2 h10 h11 hc10 hne hn2 hc2 hfar hgx hgl hp0 hs0
          go_upto_region 12 with (first
            | (refine wpList_load_row rfl RfT _ rfl c10 rfl RfT _ (0, 0) _ H11.out Tryd.underlying58 rfl (iRf _) ?_)
            | (refine wpList_store_row rfl RfT _ _ rfl gx (refV u) rfl rfl RfT _ HZ.out.x (iRf _) (by rw [refV_size, refV_size]) (rfV_one _) ?_))
          have HY := Lib.hid HZ.out.row
          generalize wz.setRow gx (refV u) = wy at *
          go_wp2_with fail
          go_roundw
          case rel => exact ⟨k + 1, u, by omega, by go_num, HY.out⟩
          case measure => simp [intOf]; omega
        · have hba : Below wr.drew.heap.size wr.drew (wr.drew.alloc (.cells (refV (zero 0)) RfT)) := (Below.refl _ _).alloc (Nat.le_refl _) _
          have hgx := hp0.x.lt
          have hgl := hp0.fl.r.lt
          refine wpOp_valB (.pointer (some ⟨wr.drew.heap.size, 0, none⟩)) (wr.drew.alloc (.cells (refV (zero 0)) RfT)) _ rfl (by kernel_rfl) (exec_alloc RfT rfl (.agg (refV (zero 0))) (zero_rf _)) rfl ?_
          have h10 : CsAt (wr.drew.alloc (.cells (refV (zero 0)) RfT)) wr.drew.heap.size RfT (refV (zero 0)) := CsAt.new _ _ _
          have hp1 := hp0.low hba
          clear hba
          refine ⟨⟨hp1.x, hp1.bel⟩, ?_⟩
          obtain ⟨c10, hcc⟩ : ∃ c, wr.drew.heap.size = c := ⟨_, rfl⟩
          rw [hcc] at h10 ⊢
          have hc10 : wr.drew.heap.size ≤ c10 := Nat.le_of_eq hcc
          refine wpAnyH_all (fuel := 7) (rs := [5]) (by kernel_rfl) (by decide) ?_
          intro i hi
          obtain rfl : i = 5 := by simpa using hi
          refine wpOp_callX 32 #[.pointer (some ⟨g, 0, none⟩), .agg (refV s), .agg d.cells] rfl (by kernel_rfl) (by go_simp) ?_
          refine (HDO.out _ hp1.n hp1.k hp1.fl).mono ?_
          rintro e w5 ⟨rfl, hq⟩
          have hz := hp1.fq hq
          replace h10 := hq.chg.cs h10 (fun (e : c10 = g) => absurd hgl (by rw [← e]; exact Nat.not_lt.2 hc10))
          clear hq hp1
          refine ⟨_, rfl, ⟨hz.x, hz.bel⟩, ?_⟩
          refine takeH (fuel := 6) (i := 6) (.tuple #[.agg (refV u), .int .u64 a, .int .u64 a]) ?_ rfl (by kernel_rfl) (by kernel_rfl) (by kernel_rfl) (fun _ _ _ h => h) (by kernel_rfl) (fun W hS => by go_simp) ⟨hz.x, hz.bel⟩ ?_ ?_
          rotate_left 1
          · go_simp
            exact rfl
          refine takeH (fuel := 5) (i := 7) (.agg (refV u)) ?_ rfl (by kernel_rfl) (by kernel_rfl) (by kernel_rfl) (fun _ _ _ h => h) (by kernel_rfl) (fun W hS => by go_simp) ⟨hz.x, hz.bel⟩ ?_ ?_
          rotate_left 1
          · go_simp
            exact rfl
          refine takeH (fuel := 4) (i := 8) (.int .u64 a) ?_ rfl (by kernel_rfl) (by kernel_rfl) (by kernel_rfl) (fun _ _ _ h => h) (by kernel_rfl) (fun W hS => by go_simp) ⟨hz.x, hz.bel⟩ ?_ ?_
          rotate_left 1
          · go_simp
            exact rfl
          refine takeH (fuel := 3) (i := 9) (.int .u64 a) ?_ rfl (by kernel_rfl) (by kernel_rfl) (by kernel_rfl) (fun _ _ _ h => h) (by kernel_rfl) (fun W hS => by go_simp) ⟨hz.x, hz.bel⟩ ?_ ?_
          rotate_left 1
          · go_simp
            exact rfl
          refine wpAnyH_all (fuel := 2) (rs := [11]) (by kernel_rfl) (by decide) ?_
          intro i hi
          obtain rfl : i = 11 := by simpa using hi
          refine wpOp_unitB (w5.setRow c10 (refV u)) _ rfl (by kernel_rfl) (exec_store_row RfT _ _ rfl c10 (refV u) rfl rfl RfT _ h10 (iRf _) (by rw [refV_size, refV_size]) (rfV_one _)) rfl ?_
          have hne : c10 ≠ gx := fun e => absurd hgx (by rw [← e]; exact Nat.not_lt.2 hc10)
          have hn2 : c10 ≠ g := fun e => absurd hgl (by rw [← e]; exact Nat.not_lt.2 hc10)
          have hc2 : Chg (one c10) w5 (w5.setRow c10 (refV u)) := Chg.of_row (S := one c10) rfl _
          have hfar := new_far HT.out.1 HT.out.2 (Nat.le_trans hs0.size hc10)
          have hz2 : PzS w (w5.setRow c10 (refV u)) g gx s u := ⟨⟨hz.fl.r.rowFar hn2.symm _, hz.fl.ok⟩, hz.x.rowFar hne.symm _, hz.n.chg hc2 (fun (e : 3 = c10) => hfar.1 e.symm), hz.k.chg hc2 (fun (e : 2 = c10) => hfar.2 e.symm), hz.hg, hz.hx, hz.ne, hz.far, hz.farx, below_setRow hz.bel (Nat.le_trans hs0.size hc10) _⟩
          have h11 := h10.row (refV u)
          refine ⟨⟨hz2.x, hz2.bel⟩, ?_⟩
          refine takeH (fuel := 1) (i := 12) (.int .u64 a) ?_ rfl (by kernel_rfl) (by kernel_rfl) (by kernel_rfl) (fun _ _ _ h => h) (by kernel_rfl) (fun W hS => by go_simp) ⟨hz2.x, hz2.bel⟩ ?_ ?_
          rotate_left 1
          · go_simp
            exact rfl
          refine takeH (fuel := 0) (i := 13) (.int .u64 a) ?_ rfl (by kernel_rfl) (by kernel_rfl) (by kernel_rfl) (fun _ _ _ h => h) (by kernel_rfl) (fun W hS => by go_simp) ⟨hz2.x, hz2.bel⟩ ?_ ?_
          rotate_left 1
          · go_simp
            exact rfl
          refine wpAnyH_done (by kernel_rfl) ?_ _
          refine NoPanic.normal ?_
          have HZ := Lib.hid hz2
          have H11 := Lib.hid h11
          generalize w5.setRow c10 (refV u) = wz at *
          clear hz hz2 h10 h11 hc10 hne hn2 hc2 hfar hgx hgl hp0 hs0
          go_upto_region 12 with (first
            | (refine wpList_load_row rfl RfT _ rfl c10 rfl RfT _ (0, 0) _ H11.out Tryd.underlying58 rfl (iRf _) ?_)
            | (refine wpList_store_row rfl RfT _ _ rfl gx (refV u) rfl rfl RfT _ HZ.out.x (iRf _) (by rw [refV_size, refV_size]) (rfV_one _) ?_))
          have HY := Lib.hid HZ.out.row
          generalize wz.setRow gx (refV u) = wy at *
          go_wp2_with fail
          go_roundw
          case rel => exact ⟨k + 1, u, by omega, by go_num, HY.out⟩
          case measure => simp [intOf]; omega
      · obtain rfl : k = n := by omega
        have e0 : decide ((k : Int) < (k : Int)) = false := by simp
        have Ha0 := Lib.hid (fun W hn hk hf => fmay_c g nn pp false s W hn hk hf)
        have Ha1 := Lib.hid (fun W hn hk hf => fmay_c g nn pp true s W hn hk hf)
        have Ra0 := Lib.hid (fun W => rmay22_c s HR.out.fl.ok nn pp false W)
        have Ra1 := Lib.hid (fun W => rmay22_c s HR.out.fl.ok nn pp true W)
        generalize mayF s nn pp false = a0 at *
        generalize mayF s nn pp true = a1 at *
        have haa : (a0 == a0) = true := by simp
        have hab : (a1 == a1) = true := by simp
        clear HDS
        go_upto_region 15 with fail
        refine wp_region_steady (fun W => PyS w W g gx s) (by kernel_rfl) (by kernel_rfl) HR.out.drew ?_
        iterate 2
          refine steady_val ?_ ?_ (by kernel_rfl) (fun W hS => ?_) ?_ ?_
          rotate_left 2
          · go_simp
            exact rfl
          · go_simp
            exact rfl
        refine steady_enter (.bool a0) 40 #[.pointer (some ⟨g, 0, none⟩), .int .i64 nn, .int .i64 pp, .bool false] ?_ (by kernel_rfl) (fun W hS => ?_) (fun W hS => (Ha0.out W hS.n hS.k hS.fl).mono (by rintro e w' ⟨rfl, hb⟩; exact ⟨rfl, hS.low hb⟩)) ?_ ?_
        rotate_left 1
        · go_simp
        · go_simp
          exact rfl
        refine steady_val (.agg (refV s)) ?_ (by kernel_rfl) (fun W hS => exec_load_row RfT _ rfl gx rfl RfT _ _ hS.x Tryd.underlying58 rfl (iRf _)) ?_ ?_
        rotate_left 1
        · go_simp
          exact rfl
        iterate 2
          refine steady_val ?_ ?_ (by kernel_rfl) (fun W hS => ?_) ?_ ?_
          rotate_left 2
          · go_simp
            exact rfl
          · go_simp
            exact rfl
        refine steady_enter (.bool a0) 42 #[.agg (refV s), .int .i64 nn, .int .i64 pp, .bool false] ?_ (by kernel_rfl) (fun W hS => ?_) (fun W hS => (Ra0.out W).mono (by rintro e w' ⟨rfl, hb⟩; exact ⟨rfl, hS.low hb⟩)) ?_ ?_
        rotate_left 1
        · go_simp
        · go_simp
          exact rfl
        iterate 2
          refine steady_val ?_ ?_ (by kernel_rfl) (fun W hS => ?_) ?_ ?_
          rotate_left 2
          · go_simp
            exact rfl
          · go_simp
            exact rfl
        iterate 2
          refine steady_val ?_ ?_ (by kernel_rfl) (fun W hS => ?_) ?_ ?_
          rotate_left 2
          · go_simp
            exact rfl
          · go_simp
            exact rfl
        refine steady_enter (.bool a1) 40 #[.pointer (some ⟨g, 0, none⟩), .int .i64 nn, .int .i64 pp, .bool true] ?_ (by kernel_rfl) (fun W hS => ?_) (fun W hS => (Ha1.out W hS.n hS.k hS.fl).mono (by rintro e w' ⟨rfl, hb⟩; exact ⟨rfl, hS.low hb⟩)) ?_ ?_
        rotate_left 1
        · go_simp
        · go_simp
          exact rfl
        refine steady_val (.agg (refV s)) ?_ (by kernel_rfl) (fun W hS => exec_load_row RfT _ rfl gx rfl RfT _ _ hS.x Tryd.underlying58 rfl (iRf _)) ?_ ?_
        rotate_left 1
        · go_simp
          exact rfl
        iterate 2
          refine steady_val ?_ ?_ (by kernel_rfl) (fun W hS => ?_) ?_ ?_
          rotate_left 2
          · go_simp
            exact rfl
          · go_simp
            exact rfl
        refine steady_enter (.bool a1) 42 #[.agg (refV s), .int .i64 nn, .int .i64 pp, .bool true] ?_ (by kernel_rfl) (fun W hS => ?_) (fun W hS => (Ra1.out W).mono (by rintro e w' ⟨rfl, hb⟩; exact ⟨rfl, hS.low hb⟩)) ?_ ?_
        rotate_left 1
        · go_simp
        · go_simp
          exact rfl
        iterate 2
          refine steady_val ?_ ?_ (by kernel_rfl) (fun W hS => ?_) ?_ ?_
          rotate_left 2
          · go_simp
            exact rfl
          · go_simp
            exact rfl
        refine steady_val ?_ ?_ (by kernel_rfl) (fun W hS => ?_) ?_ ?_
        rotate_left 2
        · go_simp
          exact rfl
        · go_simp
          exact rfl
        refine steady_enter (.bool true) 29 #[] ?_ (by kernel_rfl) (fun W hS => ?_) (fun W hS => (live22_c W hS.n hS.k).mono (by rintro e w' ⟨rfl, hb⟩; exact ⟨rfl, hS.low hb⟩)) ?_ ?_
        rotate_left 1
        · go_simp
        · go_simp
          exact rfl
        iterate 2
          refine steady_val ?_ ?_ (by kernel_rfl) (fun W hS => ?_) ?_ ?_
          rotate_left 2
          · go_simp
            exact rfl
          · go_simp
            exact rfl
        refine steady_nil ?_
        intro W hS
        have HS2 := Lib.hid hS
        clear hS HR
        go_wp2_with fail
        go_ret
        exact ⟨rfl, HS2.out.bel⟩
end Go.Proofs.YtfjdalepaacmgaaDoor
