/-
  CsrfileHides walked.
-/
import Derived.Test.YtfjdalepaacmgaaDoorCfL
set_option maxRecDepth 20000
namespace Go.Proofs.YtfjdalepaacmgaaDoor
open Go.ChangeShapes Go.WideShapes Go.ChangeAt Go.RowKit Wd Csr Sta Cf

/-- What stands while deeds are done: the file, the reference's file, the tables; the blocks of both were made behind w. -/
structure PyS (w W : World) (g gx : Nat) (s : S) : Prop where
  fl : FlAt W g s
  x : CsAt W gx RfT (refV s)
  n : RowsIn W
  k : KeptIn W
  hg : w.heap.size ≤ g
  hx : w.heap.size ≤ gx
  ne : g ≠ gx
  far : g ≠ 3 ∧ g ≠ 2
  farx : gx ≠ 3 ∧ gx ≠ 2
  bel : Below w.heap.size w W
section
variable {w W W' : World} {g gx : Nat} {s t : S}
theorem PyS.low (h : PyS w W g gx s) (hb : Below W.heap.size W W') : PyS w W' g gx s := ⟨h.fl.low hb, h.x.low hb, h.n.low hb, h.k.low hb, h.hg, h.hx, h.ne, h.far, h.farx, h.bel.trans (hb.mono h.bel.size)⟩
theorem PyS.drew (h : PyS w W g gx s) : PyS w W.drew g gx s := ⟨h.fl.drew, h.x, h.n, h.k, h.hg, h.hx, h.ne, h.far, h.farx, h.bel.drew⟩
end
/-- The file has gone on, the reference's has not yet. -/
structure PzS (w W : World) (g gx : Nat) (s t : S) : Prop where
  fl : FlAt W g t
  x : CsAt W gx RfT (refV s)
  n : RowsIn W
  k : KeptIn W
  hg : w.heap.size ≤ g
  hx : w.heap.size ≤ gx
  ne : g ≠ gx
  far : g ≠ 3 ∧ g ≠ 2
  farx : gx ≠ 3 ∧ gx ≠ 2
  bel : Below w.heap.size w W
section
variable {w W W' : World} {g gx : Nat} {s t : S}
theorem PyS.fq (h : PyS w W g gx s) (q : FQ g t W W') : PzS w W' g gx s t :=
  ⟨q.fl, q.chg.cs h.x (fun (e : gx = g) => h.ne e.symm), (q.tab h.far h.n h.k).1, (q.tab h.far h.n h.k).2, h.hg, h.hx, h.ne, h.far, h.farx, h.bel.trans (q.chg.below h.bel.size (fun k hk => by rw [show k = g from hk]; exact h.hg))⟩
theorem PzS.low (h : PzS w W g gx s t) (hb : Below W.heap.size W W') : PzS w W' g gx s t := ⟨h.fl.low hb, h.x.low hb, h.n.low hb, h.k.low hb, h.hg, h.hx, h.ne, h.far, h.farx, h.bel.trans (hb.mono h.bel.size)⟩
theorem PzS.row (h : PzS w W g gx s t) : PyS w (W.setRow gx (refV t)) g gx t := by
  have hc : Chg (one gx) W (W.setRow gx (refV t)) := Chg.of_row (S := one gx) rfl _
  exact ⟨⟨h.fl.r.rowFar h.ne _, h.fl.ok⟩, h.x.row _, h.n.chg hc (fun (e : 3 = gx) => h.farx.1 e.symm), h.k.chg hc (fun (e : 2 = gx) => h.farx.2 e.symm), h.hg, h.hx, h.ne, h.far, h.farx, below_setRow h.bel h.hx _⟩
end
theorem df_row {w : World} {db off k : Nat} {d : Df} (hc : ∀ f, f < 12 → w.cell? ⟨db, off + k * 12 + f, none⟩ = d.cells[f]?) {W : World} (hlt : db < w.heap.size) (hb : Below w.heap.size w W) (f : Nat) (hf : f < 12) : W.cell? ⟨db, off + k * 12 + f, none⟩ = d.cells[f]? :=
  ((World.cell?_of_block (w := w) (hb.block db hlt)).trans (hc f hf))
theorem info_i3 : (Tryd.prog.info? 3).map (fun i => (i.zero, i.size, i.bytes)) = some (some (.int .i64 0), 1, 8) := by kernel_rfl
/-- Two files, one as it was. -/
structure HdS (w W : World) (g gw : Nat) (s t : S) : Prop where
  fl : FlAt W g t
  wa : FlAt W gw s
  n : RowsIn W
  k : KeptIn W
  hg : w.heap.size ≤ g
  ne : g ≠ gw
  far : g ≠ 3 ∧ g ≠ 2
  bel : Below w.heap.size w W
section
variable {w W W' : World} {g gw : Nat} {s t t' : S}
theorem HdS.low (h : HdS w W g gw s t) (hb : Below W.heap.size W W') : HdS w W' g gw s t := ⟨h.fl.low hb, h.wa.low hb, h.n.low hb, h.k.low hb, h.hg, h.ne, h.far, h.bel.trans (hb.mono h.bel.size)⟩
theorem HdS.drew (h : HdS w W g gw s t) : HdS w W.drew g gw s t := ⟨h.fl.drew, h.wa.drew, h.n, h.k, h.hg, h.ne, h.far, h.bel.drew⟩
theorem HdS.fq (h : HdS w W g gw s t) (q : FQ g t' W W') : HdS w W' g gw s t' :=
  ⟨q.fl, ⟨q.chg.cs h.wa.r (fun (e : gw = g) => h.ne e.symm), h.wa.ok⟩, (q.tab h.far h.n h.k).1, (q.tab h.far h.n h.k).2, h.hg, h.ne, h.far, h.bel.trans (q.chg.below h.bel.size (fun k hk => by rw [show k = g from hk]; exact h.hg))⟩
end
set_option maxHeartbeats 16000000 in
theorem hides_walk (ao : Option Addr) (n cap : Nat) (l : List Df) (b v : Int) (w : World) (hds : Dfs w ao n l) (hb0 : 0 ≤ b ∧ b ≤ 255) (hv : 0 ≤ v ∧ v ≤ 18446744073709551615) (hT : RowsIn w ∧ KeptIn w) :
    Calls Tryd.prog 8 #[.slice ao n cap, .int .u8 b, .int .u64 v] w fun e w' => e = .returned (.bool true) ∧ Below w.heap.size w w' := by
  have HDS := Lib.hid hds
  have hmx := hds.max
  have HT := Lib.hid hT
  clear hds
  by_cases hlong : 30 < n
  · have g0 : decide ((n : Int) > 30) = true := by simp; omega
    clear hT hmx hb0 hv
    go_enter Tryd.func8, Tryd.ntmps8
    go_wp2_with fail
    refine (live22_c _ HT.out.1 HT.out.2).mono ?_
    rintro e w1 ⟨rfl, hb⟩
    have HB := Lib.hid hb
    clear hb
    go_wp2_with fail
    go_ret
    exact ⟨rfl, HB.out⟩
  · have g0 : decide ((n : Int) > 30) = false := by simp; omega
    have HVV := Lib.hid (lt64 hv)
    have HBB := Lib.hid hb0
    have HNW := Lib.hid (fnew_c 0 ⟨by omega, by omega⟩ w hT.2)
    have HRN := Lib.hid (fun W => rnew22_c 0 W)
    clear hT hb0 hv
    go_enter Tryd.func8, Tryd.ntmps8
    go_wp2_with fail
    refine HNW.out.mono ?_
    rintro e w1 ⟨rfl, hb1⟩
    have HB1 := Lib.hid hb1
    clear hb1 HNW
    go_upto_region 4 with (first
      | (refine wpList_allocY rfl _ rfl FlT rfl (fileV (zero 0)) (zero_fl _) ?_)
      | (refine wpList_storeNew (w0 := w1) rfl FlT _ _ rfl (fileV (zero 0)) (fileV (new 0)) FlT rfl rfl (iFl _) (by rw [fileV_size, fileV_size]) (flV_one _) ?_))
    have HF1 := Lib.hid (CsAt.new w1 FlT (fileV (new 0)))
    have HB2 := Lib.hid (HB1.out.alloc HB1.out.size (.cells (fileV (new 0)) FlT))
    have HSZ1 := Lib.hid (show (w1.alloc (.cells (fileV (new 0)) FlT)).heap.size = w1.heap.size + 1 by simp)
    generalize w1.alloc (.cells (fileV (new 0)) FlT) = w2 at *
    go_wp2_with fail
    refine (HRN.out _).mono ?_
    rintro e w3 ⟨rfl, hb3⟩
    have HF2 := Lib.hid (HF1.out.low hb3)
    have HB3 := Lib.hid (HB2.out.trans (hb3.mono HB2.out.size))
    have hg3 := hb3.size
    clear hb3
    go_upto_region 5 with (first
      | (refine wpList_allocY rfl _ rfl RfT rfl (refV (zero 0)) (zero_rf _) ?_)
      | (refine wpList_storeNew (w0 := w3) rfl RfT _ _ rfl (refV (zero 0)) (refV (new 0)) RfT rfl rfl (iRf _) (by rw [refV_size, refV_size]) (rfV_one _) ?_))
    have hb4 : Below w3.heap.size w3 (w3.alloc (.cells (refV (new 0)) RfT)) := (Below.refl _ _).alloc (Nat.le_refl _) _
    have HB4 := HB3.out.trans (hb4.mono HB3.out.size)
    have hs1 := HB1.out.size
    have hs2 := HSZ1.out
    have HP := Lib.hid (show PyS w (w3.alloc (.cells (refV (new 0)) RfT)) w1.heap.size w3.heap.size (new 0) from
      ⟨⟨HF2.out.low hb4, new_ok ⟨by omega, by omega⟩⟩, CsAt.new w3 RfT _, HT.out.1.low HB4, HT.out.2.low HB4, hs1, by omega, by omega, new_far HT.out.1 HT.out.2 hs1, new_far HT.out.1 HT.out.2 (by omega), HB4⟩)
    clear hb4 HB4 hs1 hs2 hg3 HB1 HB2 HB3 HF1 HF2 HSZ1 HRN
    generalize w3.alloc (.cells (refV (new 0)) RfT) = w4 at *
    generalize w1.heap.size = g at *
    generalize w3.heap.size = gx at *
    go_wp2_with fail
    go_loopw [9] (fun i wr => ∃ (k : Nat) (s : S), k ≤ n ∧ i = .int .i64 k ∧ PyS w wr g gx s) (fun i _ => n - (intOf i).toNat)
    case atStart => exact ⟨0, new 0, Nat.zero_le _, rfl, HP.out⟩
    case round =>
      clear HP
      obtain ⟨k, s, hk, rfl, hp⟩ := hrel
      have HR := Lib.hid hp
      clear hp
      by_cases hlt : k < n
      · have e0 : decide ((k : Int) < (n : Int)) = true := by simp; omega
        obtain ⟨db, off, rfl, hdl, hcells⟩ := HDS.out.at_ (by omega)
        have HIN := Lib.hid (HDS.out.each k hlt)
        have HDC := Lib.hid (fun (W : World) (hb : Below w.heap.size w W) (f : Nat) (hf : f < 12) => df_row (W := W) (hcells k hlt) hdl hb f hf)
        have gk : (k : Int) < (n : Int) := by omega
        clear hcells
        generalize l.getD k Df.zero = d at *
        have HDO := Lib.hid (fun W (hn : RowsIn W) (hk : KeptIn W) (h : FlAt W g s) => do22_c g s d HIN.out W hn hk HR.out.far h)
        generalize hu : nxtS s d = u at *
        generalize tolS s d = a at *
        clear hu
        go_upto_region 8 with fail
        have hp0 := HR.out.drew
        have hs0 := hp0.bel
        refine wp_region_noPanic ?_
        refine wp_region_held (S := fun V => CsAt V gx RfT (refV s) ∧ Below w.heap.size w V) (by kernel_rfl) ?_
        refine takeH (fuel := 13) (i := 0) (.agg (refV s)) ?_ rfl (by kernel_rfl) (by kernel_rfl) (by kernel_rfl) (fun _ _ _ h => h) (by kernel_rfl) (fun W hS => exec_load_row RfT _ rfl gx rfl RfT _ _ hS.1 Tryd.underlying58 rfl (iRf _)) ⟨hp0.x, hs0⟩ ?_ ?_
        rotate_left 1
        · go_simp
          exact rfl
        refine takeH (fuel := 12) (i := 1) (.slice (some ⟨db, off, none⟩) n cap) ?_ rfl (by kernel_rfl) (by kernel_rfl) (by kernel_rfl) (fun _ _ _ h => h) (by kernel_rfl) (fun W hS => by go_simp) ⟨hp0.x, hs0⟩ ?_ ?_
        rotate_left 1
        · go_simp
          exact rfl
        refine takeH (fuel := 11) (i := 2) (.int .i64 (k : Int)) ?_ rfl (by kernel_rfl) (by kernel_rfl) (by kernel_rfl) (fun _ _ _ h => h) (by kernel_rfl) (fun W hS => by go_simp) ⟨hp0.x, hs0⟩ ?_ ?_
        rotate_left 1
        · go_simp
          exact rfl
        refine takeH (fuel := 10) (i := 3) (.pointer (some ⟨db, off + k * 12, none⟩)) ?_ rfl (by kernel_rfl) (by kernel_rfl) (by kernel_rfl) (fun _ _ _ h => h) (by kernel_rfl) (fun W hS => by go_simp) ⟨hp0.x, hs0⟩ ?_ ?_
        rotate_left 1
        · go_simp
          exact rfl
        refine takeH (fuel := 9) (i := 4) (.agg d.cells) ?_ rfl (by kernel_rfl) (by kernel_rfl) (by kernel_rfl) (fun _ _ _ h => h) (by kernel_rfl) (fun W hS => by (have q0 := HDC.out W hS.2 0 (by omega); have q1 := HDC.out W hS.2 1 (by omega); have q2 := HDC.out W hS.2 2 (by omega); have q3 := HDC.out W hS.2 3 (by omega); have q4 := HDC.out W hS.2 4 (by omega); have q5 := HDC.out W hS.2 5 (by omega); have q6 := HDC.out W hS.2 6 (by omega); have q7 := HDC.out W hS.2 7 (by omega); have q8 := HDC.out W hS.2 8 (by omega); have q9 := HDC.out W hS.2 9 (by omega); have q10 := HDC.out W hS.2 10 (by omega); have q11 := HDC.out W hS.2 11 (by omega); simp only [Nat.add_zero, List.getElem?_toArray, List.getElem?_cons_zero, List.getElem?_cons_succ] at q0 q1 q2 q3 q4 q5 q6 q7 q8 q9 q10 q11; go_simp)) ⟨hp0.x, hs0⟩ ?_ ?_
        rotate_left 1
        · go_simp
          exact rfl
        refine wpAnyH_all (fuel := 8) (rs := [5, 10]) (by kernel_rfl) (by decide) ?_
        intro i hi
        simp only [List.mem_cons, List.not_mem_nil, or_false] at hi
        rcases hi with rfl | rfl
        · refine wpOp_callX 32 #[.pointer (some ⟨g, 0, none⟩), .agg (refV s), .agg d.cells] rfl (by kernel_rfl) (by go_simp) ?_
          refine (HDO.out _ hp0.n hp0.k hp0.fl).mono ?_
          rintro e w5 ⟨rfl, hq⟩
          have hz := hp0.fq hq
          have hz0 := hq.chg
          clear hq
          refine ⟨_, rfl, ⟨hz.x, hz.bel⟩, ?_⟩
          refine takeH (fuel := 7) (i := 6) (.tuple #[.agg (refV u), .int .u64 a, .int .u64 a]) ?_ rfl (by kernel_rfl) (by kernel_rfl) (by kernel_rfl) (fun _ _ _ h => h) (by kernel_rfl) (fun W hS => by go_simp) ⟨hz.x, hz.bel⟩ ?_ ?_
          rotate_left 1
          · go_simp
            exact rfl
          refine takeH (fuel := 6) (i := 7) (.agg (refV u)) ?_ rfl (by kernel_rfl) (by kernel_rfl) (by kernel_rfl) (fun _ _ _ h => h) (by kernel_rfl) (fun W hS => by go_simp) ⟨hz.x, hz.bel⟩ ?_ ?_
          rotate_left 1
          · go_simp
            exact rfl
          refine takeH (fuel := 5) (i := 8) (.int .u64 a) ?_ rfl (by kernel_rfl) (by kernel_rfl) (by kernel_rfl) (fun _ _ _ h => h) (by kernel_rfl) (fun W hS => by go_simp) ⟨hz.x, hz.bel⟩ ?_ ?_
          rotate_left 1
          · go_simp
            exact rfl
          refine takeH (fuel := 4) (i := 9) (.int .u64 a) ?_ rfl (by kernel_rfl) (by kernel_rfl) (by kernel_rfl) (fun _ _ _ h => h) (by kernel_rfl) (fun W hS => by go_simp) ⟨hz.x, hz.bel⟩ ?_ ?_
          rotate_left 1
          · go_simp
            exact rfl
          refine wpAnyH_all (fuel := 3) (rs := [10]) (by kernel_rfl) (by decide) ?_
          intro i hi
          obtain rfl : i = 10 := by simpa using hi
          have hba : Below w5.heap.size w5 (w5.alloc (.cells (refV (zero 0)) RfT)) := (Below.refl _ _).alloc (Nat.le_refl _) _
          have hgx := hp0.x.lt
          have hgl := hp0.fl.r.lt
          have hw5 : wr.drew.heap.size ≤ w5.heap.size := hz0.size
          refine wpOp_valB (.pointer (some ⟨w5.heap.size, 0, none⟩)) (w5.alloc (.cells (refV (zero 0)) RfT)) _ rfl (by kernel_rfl) (exec_alloc RfT rfl (.agg (refV (zero 0))) (zero_rf _)) rfl ?_
          have h10 : CsAt (w5.alloc (.cells (refV (zero 0)) RfT)) w5.heap.size RfT (refV (zero 0)) := CsAt.new _ _ _
          replace hz := hz.low hba
          clear hba
          refine ⟨⟨hz.x, hz.bel⟩, ?_⟩
          obtain ⟨c10, hcc⟩ : ∃ c, w5.heap.size = c := ⟨_, rfl⟩
          rw [hcc] at h10 hw5 ⊢
          have hc10 : wr.drew.heap.size ≤ c10 := hw5
          clear hw5
          refine wpAnyH_all (fuel := 2) (rs := [11]) (by kernel_rfl) (by decide) ?_
          intro i hi
          obtain rfl : i = 11 := by simpa using hi
          refine wpOp_unitB ((w5.alloc (.cells (refV (zero 0)) RfT)).setRow c10 (refV u)) _ rfl (by kernel_rfl) (exec_store_row RfT _ _ rfl c10 (refV u) rfl rfl RfT _ h10 (iRf _) (by rw [refV_size, refV_size]) (rfV_one _)) rfl ?_
          have hne : c10 ≠ gx := fun e => absurd hgx (by rw [← e]; exact Nat.not_lt.2 hc10)
          have hn2 : c10 ≠ g := fun e => absurd hgl (by rw [← e]; exact Nat.not_lt.2 hc10)
          have hc2 : Chg (one c10) (w5.alloc (.cells (refV (zero 0)) RfT)) ((w5.alloc (.cells (refV (zero 0)) RfT)).setRow c10 (refV u)) := Chg.of_row (S := one c10) rfl _
          have hfar := new_far HT.out.1 HT.out.2 (Nat.le_trans hs0.size hc10)
          have hz2 : PzS w ((w5.alloc (.cells (refV (zero 0)) RfT)).setRow c10 (refV u)) g gx s u := ⟨⟨hz.fl.r.rowFar hn2.symm _, hz.fl.ok⟩, hz.x.rowFar hne.symm _, hz.n.chg hc2 (fun (e : 3 = c10) => hfar.1 e.symm), hz.k.chg hc2 (fun (e : 2 = c10) => hfar.2 e.symm), hz.hg, hz.hx, hz.ne, hz.far, hz.farx, below_setRow hz.bel (Nat.le_trans hs0.size hc10) _⟩
          have h11 := h10.row (refV u)
          refine ⟨⟨hz2.x, hz2.bel⟩, ?_⟩
          refine takeH (fuel := 1) (i := 12) (.int .u64 a) ?_ rfl (by kernel_rfl) (by kernel_rfl) (by kernel_rfl) (fun _ _ _ h => h) (by kernel_rfl) (fun W hS => by go_simp) ⟨hz2.x, hz2.bel⟩ ?_ ?_
          rotate_left 1
          · go_simp
            exact rfl
          refine takeH (fuel := 0) (i := 13) (.int .u64 a) ?_ rfl (by kernel_rfl) (by kernel_rfl) (by kernel_rfl) (fun _ _ _ h => h) (by kernel_rfl) (fun W hS => by go_simp) ⟨hz2.x, hz2.bel⟩ ?_ ?_
          rotate_left 1
          · go_simp
            exact rfl
          refine wpAnyH_done (by kernel_rfl) ?_ _
          refine NoPanic.normal ?_
          have HZ := Lib.hid hz2
          have H11 := Lib.hid h11
          generalize (w5.alloc (.cells (refV (zero 0)) RfT)).setRow c10 (refV u) = wz at *
          clear hz hz2 h10 h11 hc10 hne hn2 hc2 hfar hgx hgl hp0 hs0
          go_upto_region 7 with (first
            | (refine wpList_load_row rfl RfT _ rfl c10 rfl RfT _ (0, 0) _ H11.out Tryd.underlying58 rfl (iRf _) ?_)
            | (refine wpList_store_row rfl RfT _ _ rfl gx (refV u) rfl rfl RfT _ HZ.out.x (iRf _) (by rw [refV_size, refV_size]) (rfV_one _) ?_))
          have HY := Lib.hid HZ.out.row
          generalize wz.setRow gx (refV u) = wy at *
          go_wp2_with fail
          go_roundw
          case rel => exact ⟨k + 1, u, by omega, by go_num, HY.out⟩
          case measure => simp [intOf]; omega
        · have hba : Below wr.drew.heap.size wr.drew (wr.drew.alloc (.cells (refV (zero 0)) RfT)) := (Below.refl _ _).alloc (Nat.le_refl _) _
          have hgx := hp0.x.lt
          have hgl := hp0.fl.r.lt
          refine wpOp_valB (.pointer (some ⟨wr.drew.heap.size, 0, none⟩)) (wr.drew.alloc (.cells (refV (zero 0)) RfT)) _ rfl (by kernel_rfl) (exec_alloc RfT rfl (.agg (refV (zero 0))) (zero_rf _)) rfl ?_
          have h10 : CsAt (wr.drew.alloc (.cells (refV (zero 0)) RfT)) wr.drew.heap.size RfT (refV (zero 0)) := CsAt.new _ _ _
          have hp1 := hp0.low hba
          clear hba
          refine ⟨⟨hp1.x, hp1.bel⟩, ?_⟩
          obtain ⟨c10, hcc⟩ : ∃ c, wr.drew.heap.size = c := ⟨_, rfl⟩
          rw [hcc] at h10 ⊢
          have hc10 : wr.drew.heap.size ≤ c10 := Nat.le_of_eq hcc
          refine wpAnyH_all (fuel := 7) (rs := [5]) (by kernel_rfl) (by decide) ?_
          intro i hi
          obtain rfl : i = 5 := by simpa using hi
          refine wpOp_callX 32 #[.pointer (some ⟨g, 0, none⟩), .agg (refV s), .agg d.cells] rfl (by kernel_rfl) (by go_simp) ?_
          refine (HDO.out _ hp1.n hp1.k hp1.fl).mono ?_
          rintro e w5 ⟨rfl, hq⟩
          have hz := hp1.fq hq
          replace h10 := hq.chg.cs h10 (fun (e : c10 = g) => absurd hgl (by rw [← e]; exact Nat.not_lt.2 hc10))
          clear hq hp1
          refine ⟨_, rfl, ⟨hz.x, hz.bel⟩, ?_⟩
          refine takeH (fuel := 6) (i := 6) (.tuple #[.agg (refV u), .int .u64 a, .int .u64 a]) ?_ rfl (by kernel_rfl) (by kernel_rfl) (by kernel_rfl) (fun _ _ _ h => h) (by kernel_rfl) (fun W hS => by go_simp) ⟨hz.x, hz.bel⟩ ?_ ?_
          rotate_left 1
          · go_simp
            exact rfl
          refine takeH (fuel := 5) (i := 7) (.agg (refV u)) ?_ rfl (by kernel_rfl) (by kernel_rfl) (by kernel_rfl) (fun _ _ _ h => h) (by kernel_rfl) (fun W hS => by go_simp) ⟨hz.x, hz.bel⟩ ?_ ?_
          rotate_left 1
          · go_simp
            exact rfl
          refine takeH (fuel := 4) (i := 8) (.int .u64 a) ?_ rfl (by kernel_rfl) (by kernel_rfl) (by kernel_rfl) (fun _ _ _ h => h) (by kernel_rfl) (fun W hS => by go_simp) ⟨hz.x, hz.bel⟩ ?_ ?_
          rotate_left 1
          · go_simp
            exact rfl
          refine takeH (fuel := 3) (i := 9) (.int .u64 a) ?_ rfl (by kernel_rfl) (by kernel_rfl) (by kernel_rfl) (fun _ _ _ h => h) (by kernel_rfl) (fun W hS => by go_simp) ⟨hz.x, hz.bel⟩ ?_ ?_
          rotate_left 1
          · go_simp
            exact rfl
          refine wpAnyH_all (fuel := 2) (rs := [11]) (by kernel_rfl) (by decide) ?_
          intro i hi
          obtain rfl : i = 11 := by simpa using hi
          refine wpOp_unitB (w5.setRow c10 (refV u)) _ rfl (by kernel_rfl) (exec_store_row RfT _ _ rfl c10 (refV u) rfl rfl RfT _ h10 (iRf _) (by rw [refV_size, refV_size]) (rfV_one _)) rfl ?_
          have hne : c10 ≠ gx := fun e => absurd hgx (by rw [← e]; exact Nat.not_lt.2 hc10)
          have hn2 : c10 ≠ g := fun e => absurd hgl (by rw [← e]; exact Nat.not_lt.2 hc10)
          have hc2 : Chg (one c10) w5 (w5.setRow c10 (refV u)) := Chg.of_row (S := one c10) rfl _
          have hfar := new_far HT.out.1 HT.out.2 (Nat.le_trans hs0.size hc10)
          have hz2 : PzS w (w5.setRow c10 (refV u)) g gx s u := ⟨⟨hz.fl.r.rowFar hn2.symm _, hz.fl.ok⟩, hz.x.rowFar hne.symm _, hz.n.chg hc2 (fun (e : 3 = c10) => hfar.1 e.symm), hz.k.chg hc2 (fun (e : 2 = c10) => hfar.2 e.symm), hz.hg, hz.hx, hz.ne, hz.far, hz.farx, below_setRow hz.bel (Nat.le_trans hs0.size hc10) _⟩
          have h11 := h10.row (refV u)
          refine ⟨⟨hz2.x, hz2.bel⟩, ?_⟩
          refine takeH (fuel := 1) (i := 12) (.int .u64 a) ?_ rfl (by kernel_rfl) (by kernel_rfl) (by kernel_rfl) (fun _ _ _ h => h) (by kernel_rfl) (fun W hS => by go_simp) ⟨hz2.x, hz2.bel⟩ ?_ ?_
          rotate_left 1
          · go_simp
            exact rfl
          refine takeH (fuel := 0) (i := 13) (.int .u64 a) ?_ rfl (by kernel_rfl) (by kernel_rfl) (by kernel_rfl) (fun _ _ _ h => h) (by kernel_rfl) (fun W hS => by go_simp) ⟨hz2.x, hz2.bel⟩ ?_ ?_
          rotate_left 1
          · go_simp
            exact rfl
          refine wpAnyH_done (by kernel_rfl) ?_ _
          refine NoPanic.normal ?_
          have HZ := Lib.hid hz2
          have H11 := Lib.hid h11
          generalize w5.setRow c10 (refV u) = wz at *
          clear hz hz2 h10 h11 hc10 hne hn2 hc2 hfar hgx hgl hp0 hs0
          go_upto_region 7 with (first
            | (refine wpList_load_row rfl RfT _ rfl c10 rfl RfT _ (0, 0) _ H11.out Tryd.underlying58 rfl (iRf _) ?_)
            | (refine wpList_store_row rfl RfT _ _ rfl gx (refV u) rfl rfl RfT _ HZ.out.x (iRf _) (by rw [refV_size, refV_size]) (rfV_one _) ?_))
          have HY := Lib.hid HZ.out.row
          generalize wz.setRow gx (refV u) = wy at *
          go_wp2_with fail
          go_roundw
          case rel => exact ⟨k + 1, u, by omega, by go_num, HY.out⟩
          case measure => simp [intOf]; omega
      · obtain rfl : k = n := by omega
        have e0 : decide ((k : Int) < (k : Int)) = false := by simp
        have OK := Lib.hid HR.out.fl.ok
        obtain ⟨i0, hi, hz0, hz1, hz2⟩ := info_parts info_i3
        obtain ⟨j0, ji, jz0, jz1, jz2⟩ := info_parts info_u64
        clear HDS
        have hbr : b.tmod 3 = 0 ∨ b.tmod 3 = 1 ∨ b.tmod 3 = 2 := by
          have := HBB.out
          rw [Int.tmod_eq_emod_of_nonneg this.1]
          omega
        rcases hbr with hbr | hbr | hbr
        · skip
          have hsame : setS s 256 (getS s 256 0) = s := hid_same OK.out (j := 0) (by omega)
          have hnew : setS s 256 v = s.put 768 (newD s 0 v) := set_new (j := 0) (by omega) v
          have HBH := Lib.hid (show bits .andNot .u64 (bits .xor .u64 (getS s 768 0) (getS (s.put 768 (newD s 0 v)) 768 0)) (viewS 18446744073709551615) = 0 from hid_beh OK.out (j := 0) (by omega) v)
          have HRS := Lib.hid (fun (m : Int) (h1 : m ≠ 768) (h2 : m ≠ 256) => show getS s m 0 = getS (s.put 768 (newD s 0 v)) m 0 from hid_rest (j := 0) (by omega) h1 h2 _)
          have HSM := Lib.hid hsame
          have HNE := Lib.hid hnew
          have HG0 := Lib.hid (get_64 OK.out 256 (l := 0) ⟨by omega, by omega⟩)
          clear hsame hnew
          generalize newD s 0 v = nx at *
          go_upto_region 11 with (first
            | (refine wpList_load_row rfl FlT _ rfl g rfl FlT _ (0, 0) _ HR.out.fl.r Tryd.underlying54 rfl (iFl _) ?_)
            | (refine wpList_allocY rfl _ rfl FlT rfl (fileV (zero 0)) (zero_fl _) ?_)
            | (refine wpList_storeNew (w0 := wr) rfl FlT _ _ rfl (fileV (zero 0)) (fileV s) FlT rfl rfl (iFl _) (by rw [fileV_size, fileV_size]) (flV_one _) ?_))
          have hba : Below wr.heap.size wr (wr.alloc (.cells (fileV s) FlT)) := (Below.refl _ _).alloc (Nat.le_refl _) _
          have HH := Lib.hid (show HdS w (wr.alloc (.cells (fileV s) FlT)) g wr.heap.size s s from ⟨HR.out.fl.low hba, ⟨CsAt.new wr FlT _, OK.out⟩, HR.out.n.low hba, HR.out.k.low hba, HR.out.hg, fun e => absurd HR.out.fl.r.lt (by rw [e]; exact Nat.lt_irrefl _), HR.out.far, HR.out.bel.trans (hba.mono HR.out.bel.size)⟩)
          clear hba HR
          generalize wr.alloc (.cells (fileV s) FlT) = w5 at *
          generalize wr.heap.size = gw at *
          go_upto_region 12 with (refine Go.wpList_buildSlice rfl 80 3 3 _ rfl #[.int .i64 256, .int .i64 260, .int .i64 324] i0 (.int .i64 0) Tryd.underlying80 hi hz0 (by rw [hz1]; decide) (by rw [hz1]; decide) (by rw [hz1]; kernel_rfl) ?_)
          replace HH := Lib.hid (HH.out.low ((Below.refl w5.heap.size w5).alloc (Nat.le_refl _) (.cells #[.int .i64 256, .int .i64 260, .int .i64 324] 3)))
          generalize w5.alloc (.cells #[.int .i64 256, .int .i64 260, .int .i64 324] 3) = w6 at *
          go_wp2_with fail
          refine (fcget_c g 256 0 s _ HH.out.k HH.out.fl).mono ?_
          rintro e w7 ⟨rfl, hb⟩
          replace HH := Lib.hid (HH.out.low hb)
          clear hb
          go_wp2_with fail
          refine (fset_c g 256 _ s HG0.out _ HH.out.n HH.out.k HH.out.fl).mono ?_
          rintro e w8 ⟨rfl, hq⟩
          rw [HSM.out] at hq
          replace HH := Lib.hid (HH.out.fq hq)
          clear hq
          go_wp2_with (first
            | (refine wpList_load_row rfl FlT _ rfl g rfl FlT _ (0, 0) _ HH.out.fl.r Tryd.underlying54 rfl (iFl _) ?_)
            | (refine wpList_load_row rfl FlT _ rfl gw rfl FlT _ (0, 0) _ HH.out.wa.r Tryd.underlying54 rfl (iFl _) ?_)
            | (refine wpList_cmp rfl .neq FlT _ _ _ rfl (fileV s) (fileV s) rfl rfl guard_fl _ (neq_fl OK.out _) ?_))
          refine (fset_c g 256 v s HVV.out _ HH.out.n HH.out.k HH.out.fl).mono ?_
          rintro e w9 ⟨rfl, hq⟩
          rw [HNE.out] at hq
          have HI := Lib.hid (HH.out.fq hq)
          clear hq HH
          go_wp2_with fail
          refine (rview_c 18446744073709551615 ⟨by omega, by omega⟩ _).mono ?_
          rintro e wa ⟨rfl, hb⟩
          replace HI := Lib.hid (HI.out.low hb)
          clear hb
          go_wp2_with fail
          refine (fcget_c gw 771 0 s _ HI.out.k HI.out.wa).mono ?_
          rintro e wb ⟨rfl, hb⟩
          rw [show getS s 771 0 = s.f 771 from rfl]
          replace HI := Lib.hid (HI.out.low hb)
          clear hb
          go_wp2_with fail
          refine (fcget_c gw 771 0 s _ HI.out.k HI.out.wa).mono ?_
          rintro e wc' ⟨rfl, hb⟩
          rw [show getS s 771 0 = s.f 771 from rfl]
          replace HI := Lib.hid (HI.out.low hb)
          clear hb
          go_upto_region 17 with (refine Go.wpList_buildSlice rfl 82 24 3 _ rfl #[.int .u64 (viewS 18446744073709551615), .int .u64 (s.f 771), .int .u64 (bits .and .u64 (s.f 771) 2)] j0 (.int .u64 0) Tryd.underlying82 ji jz0 (by rw [jz1]; decide) (by rw [jz1]; decide) (by rw [jz1]; kernel_rfl) ?_)
          replace HI := Lib.hid (HI.out.low ((Below.refl wc'.heap.size wc').alloc (Nat.le_refl _) (.cells #[.int .u64 (viewS 18446744073709551615), .int .u64 (s.f 771), .int .u64 (bits .and .u64 (s.f 771) 2)] 24)))
          generalize wc'.alloc (.cells #[.int .u64 (viewS 18446744073709551615), .int .u64 (s.f 771), .int .u64 (bits .and .u64 (s.f 771) 2)] 24) = wd at *
          go_upto_region 18 with (refine Go.wpList_buildSlice rfl 80 3 3 _ rfl #[.int .i64 768, .int .i64 772, .int .i64 836] i0 (.int .i64 0) Tryd.underlying80 hi hz0 (by rw [hz1]; decide) (by rw [hz1]; decide) (by rw [hz1]; kernel_rfl) ?_)
          replace HI := Lib.hid (HI.out.low ((Below.refl wd.heap.size wd).alloc (Nat.le_refl _) (.cells #[.int .i64 768, .int .i64 772, .int .i64 836] 3)))
          generalize wd.alloc (.cells #[.int .i64 768, .int .i64 772, .int .i64 836] 3) = we at *
          go_wp2_with fail
          refine (rrows_c _).mono ?_
          rintro e wf ⟨rfl, rfl⟩
          have HRR := Lib.hid (rrAt_new we)
          replace HI := Lib.hid (HI.out.low ((Below.refl we.heap.size we).alloc (Nat.le_refl _) (.cells rrCells RrT)))
          generalize we.alloc (.cells rrCells RrT) = wg at *
          generalize we.heap.size = gr at *
          clear hi hz0 hz1 hz2 ji jz0 jz1 jz2
          generalize s.put 768 nx = t at *
          go_wp2_with fail
          go_loopw [18] (fun i wr => ∃ k : Nat, k ≤ 34 ∧ i = .int .i64 k ∧ HdS w wr g gw s t ∧ RRAt wr gr) (fun i _ => 34 - (intOf i).toNat)
          case atStart => exact ⟨0, Nat.zero_le _, rfl, HI.out, HRR.out⟩
          case round =>
            obtain ⟨k, hk, rfl, hi, hr⟩ := hrel
            clear HI HRR
            have HI := Lib.hid hi
            have HRR := Lib.hid hr
            clear hi hr
            by_cases hlt : k < 34
            · skip
              have hl2 : (k : Int) < 34 := by omega
              have c0 := (HRR.out.2 k hlt).1
              generalize (((rowC k).1 : Nat) : Int) = m at *
              have HA := Lib.hid (fun W (hb : Below wr.heap.size wr W) => fcget_c gw m 0 s W (HI.out.k.low hb) (HI.out.wa.low hb))
              have HB := Lib.hid (fun W (hb : Below wr.heap.size wr W) => fcget_c g m 0 t W (HI.out.k.low hb) (HI.out.fl.low hb))
              by_cases hm : m = 768
              · subst hm
                have hx := HBH.out
                generalize getS s 768 0 = A at *
                generalize getS t 768 0 = B at *
                go_wp2_with fail
                refine (HA.out _ (Below.refl _ _)).mono ?_
                rintro e wh ⟨rfl, hb⟩
                have HBh := Lib.hid hb
                clear hb
                go_wp2_with fail
                refine (HB.out _ HBh.out).mono ?_
                rintro e wi ⟨rfl, hb⟩
                have HBi := Lib.hid (HBh.out.trans (hb.mono HBh.out.size))
                clear hb
                go_wp2_with fail
                go_roundw
                case rel => exact ⟨k + 1, by omega, by go_num, HI.out.low HBi.out, HRR.out.low HBi.out⟩
                case measure => simp [intOf]; omega
              · have em : (m == 768) = false := by simpa using hm
                by_cases hn : m = 256
                · subst hn
                  generalize getS s 256 0 = A at *
                  generalize getS t 256 0 = B at *
                  go_wp2_with fail
                  refine (HA.out _ (Below.refl _ _)).mono ?_
                  rintro e wh ⟨rfl, hb⟩
                  have HBh := Lib.hid hb
                  clear hb
                  go_wp2_with fail
                  refine (HB.out _ HBh.out).mono ?_
                  rintro e wi ⟨rfl, hb⟩
                  have HBi := Lib.hid (HBh.out.trans (hb.mono HBh.out.size))
                  clear hb
                  go_wp2_with fail
                  go_roundw
                  case rel => exact ⟨k + 1, by omega, by go_num, HI.out.low HBi.out, HRR.out.low HBi.out⟩
                  case measure => simp [intOf]; omega
                · have en : (m == 256) = false := by simpa using hn
                  have hab := HRS.out m hm hn
                  rw [← hab] at HB
                  generalize getS s m 0 = A at *
                  have haa : (A == A) = true := by simp
                  go_wp2_with fail
                  refine (HA.out _ (Below.refl _ _)).mono ?_
                  rintro e wh ⟨rfl, hb⟩
                  have HBh := Lib.hid hb
                  clear hb
                  go_wp2_with fail
                  refine (HB.out _ HBh.out).mono ?_
                  rintro e wi ⟨rfl, hb⟩
                  have HBi := Lib.hid (HBh.out.trans (hb.mono HBh.out.size))
                  clear hb
                  go_wp2_with fail
                  go_roundw
                  case rel => exact ⟨k + 1, by omega, by go_num, HI.out.low HBi.out, HRR.out.low HBi.out⟩
                  case measure => simp [intOf]; omega
            · skip
              obtain rfl : k = 34 := by omega
              go_wp2_with fail
              refine (live22_c _ HI.out.n HI.out.k).mono ?_
              rintro e wz ⟨rfl, hb⟩
              have HZ := Lib.hid (HI.out.bel.trans (hb.mono HI.out.bel.size))
              clear hb
              go_wp2_with fail
              go_ret
              exact ⟨rfl, HZ.out⟩
        · skip
          have hsame : setS s 260 (getS s 260 0) = s := hid_same OK.out (j := 1) (by omega)
          have hnew : setS s 260 v = s.put 772 (newD s 1 v) := set_new (j := 1) (by omega) v
          have HBH := Lib.hid (show bits .andNot .u64 (bits .xor .u64 (getS s 772 0) (getS (s.put 772 (newD s 1 v)) 772 0)) (s.f 771) = 0 from hid_beh OK.out (j := 1) (by omega) v)
          have HRS := Lib.hid (fun (m : Int) (h1 : m ≠ 772) (h2 : m ≠ 260) => show getS s m 0 = getS (s.put 772 (newD s 1 v)) m 0 from hid_rest (j := 1) (by omega) h1 h2 _)
          have HSM := Lib.hid hsame
          have HNE := Lib.hid hnew
          have HG0 := Lib.hid (get_64 OK.out 260 (l := 0) ⟨by omega, by omega⟩)
          clear hsame hnew
          generalize newD s 1 v = nx at *
          go_upto_region 11 with (first
            | (refine wpList_load_row rfl FlT _ rfl g rfl FlT _ (0, 0) _ HR.out.fl.r Tryd.underlying54 rfl (iFl _) ?_)
            | (refine wpList_allocY rfl _ rfl FlT rfl (fileV (zero 0)) (zero_fl _) ?_)
            | (refine wpList_storeNew (w0 := wr) rfl FlT _ _ rfl (fileV (zero 0)) (fileV s) FlT rfl rfl (iFl _) (by rw [fileV_size, fileV_size]) (flV_one _) ?_))
          have hba : Below wr.heap.size wr (wr.alloc (.cells (fileV s) FlT)) := (Below.refl _ _).alloc (Nat.le_refl _) _
          have HH := Lib.hid (show HdS w (wr.alloc (.cells (fileV s) FlT)) g wr.heap.size s s from ⟨HR.out.fl.low hba, ⟨CsAt.new wr FlT _, OK.out⟩, HR.out.n.low hba, HR.out.k.low hba, HR.out.hg, fun e => absurd HR.out.fl.r.lt (by rw [e]; exact Nat.lt_irrefl _), HR.out.far, HR.out.bel.trans (hba.mono HR.out.bel.size)⟩)
          clear hba HR
          generalize wr.alloc (.cells (fileV s) FlT) = w5 at *
          generalize wr.heap.size = gw at *
          go_upto_region 12 with (refine Go.wpList_buildSlice rfl 80 3 3 _ rfl #[.int .i64 256, .int .i64 260, .int .i64 324] i0 (.int .i64 0) Tryd.underlying80 hi hz0 (by rw [hz1]; decide) (by rw [hz1]; decide) (by rw [hz1]; kernel_rfl) ?_)
          replace HH := Lib.hid (HH.out.low ((Below.refl w5.heap.size w5).alloc (Nat.le_refl _) (.cells #[.int .i64 256, .int .i64 260, .int .i64 324] 3)))
          generalize w5.alloc (.cells #[.int .i64 256, .int .i64 260, .int .i64 324] 3) = w6 at *
          go_wp2_with fail
          refine (fcget_c g 260 0 s _ HH.out.k HH.out.fl).mono ?_
          rintro e w7 ⟨rfl, hb⟩
          replace HH := Lib.hid (HH.out.low hb)
          clear hb
          go_wp2_with fail
          refine (fset_c g 260 _ s HG0.out _ HH.out.n HH.out.k HH.out.fl).mono ?_
          rintro e w8 ⟨rfl, hq⟩
          rw [HSM.out] at hq
          replace HH := Lib.hid (HH.out.fq hq)
          clear hq
          go_wp2_with (first
            | (refine wpList_load_row rfl FlT _ rfl g rfl FlT _ (0, 0) _ HH.out.fl.r Tryd.underlying54 rfl (iFl _) ?_)
            | (refine wpList_load_row rfl FlT _ rfl gw rfl FlT _ (0, 0) _ HH.out.wa.r Tryd.underlying54 rfl (iFl _) ?_)
            | (refine wpList_cmp rfl .neq FlT _ _ _ rfl (fileV s) (fileV s) rfl rfl guard_fl _ (neq_fl OK.out _) ?_))
          refine (fset_c g 260 v s HVV.out _ HH.out.n HH.out.k HH.out.fl).mono ?_
          rintro e w9 ⟨rfl, hq⟩
          rw [HNE.out] at hq
          have HI := Lib.hid (HH.out.fq hq)
          clear hq HH
          go_wp2_with fail
          refine (rview_c 18446744073709551615 ⟨by omega, by omega⟩ _).mono ?_
          rintro e wa ⟨rfl, hb⟩
          replace HI := Lib.hid (HI.out.low hb)
          clear hb
          go_wp2_with fail
          refine (fcget_c gw 771 0 s _ HI.out.k HI.out.wa).mono ?_
          rintro e wb ⟨rfl, hb⟩
          rw [show getS s 771 0 = s.f 771 from rfl]
          replace HI := Lib.hid (HI.out.low hb)
          clear hb
          go_wp2_with fail
          refine (fcget_c gw 771 0 s _ HI.out.k HI.out.wa).mono ?_
          rintro e wc' ⟨rfl, hb⟩
          rw [show getS s 771 0 = s.f 771 from rfl]
          replace HI := Lib.hid (HI.out.low hb)
          clear hb
          go_upto_region 17 with (refine Go.wpList_buildSlice rfl 82 24 3 _ rfl #[.int .u64 (viewS 18446744073709551615), .int .u64 (s.f 771), .int .u64 (bits .and .u64 (s.f 771) 2)] j0 (.int .u64 0) Tryd.underlying82 ji jz0 (by rw [jz1]; decide) (by rw [jz1]; decide) (by rw [jz1]; kernel_rfl) ?_)
          replace HI := Lib.hid (HI.out.low ((Below.refl wc'.heap.size wc').alloc (Nat.le_refl _) (.cells #[.int .u64 (viewS 18446744073709551615), .int .u64 (s.f 771), .int .u64 (bits .and .u64 (s.f 771) 2)] 24)))
          generalize wc'.alloc (.cells #[.int .u64 (viewS 18446744073709551615), .int .u64 (s.f 771), .int .u64 (bits .and .u64 (s.f 771) 2)] 24) = wd at *
          go_upto_region 18 with (refine Go.wpList_buildSlice rfl 80 3 3 _ rfl #[.int .i64 768, .int .i64 772, .int .i64 836] i0 (.int .i64 0) Tryd.underlying80 hi hz0 (by rw [hz1]; decide) (by rw [hz1]; decide) (by rw [hz1]; kernel_rfl) ?_)
          replace HI := Lib.hid (HI.out.low ((Below.refl wd.heap.size wd).alloc (Nat.le_refl _) (.cells #[.int .i64 768, .int .i64 772, .int .i64 836] 3)))
          generalize wd.alloc (.cells #[.int .i64 768, .int .i64 772, .int .i64 836] 3) = we at *
          go_wp2_with fail
          refine (rrows_c _).mono ?_
          rintro e wf ⟨rfl, rfl⟩
          have HRR := Lib.hid (rrAt_new we)
          replace HI := Lib.hid (HI.out.low ((Below.refl we.heap.size we).alloc (Nat.le_refl _) (.cells rrCells RrT)))
          generalize we.alloc (.cells rrCells RrT) = wg at *
          generalize we.heap.size = gr at *
          clear hi hz0 hz1 hz2 ji jz0 jz1 jz2
          generalize s.put 772 nx = t at *
          go_wp2_with fail
          go_loopw [18] (fun i wr => ∃ k : Nat, k ≤ 34 ∧ i = .int .i64 k ∧ HdS w wr g gw s t ∧ RRAt wr gr) (fun i _ => 34 - (intOf i).toNat)
          case atStart => exact ⟨0, Nat.zero_le _, rfl, HI.out, HRR.out⟩
          case round =>
            obtain ⟨k, hk, rfl, hi, hr⟩ := hrel
            clear HI HRR
            have HI := Lib.hid hi
            have HRR := Lib.hid hr
            clear hi hr
            by_cases hlt : k < 34
            · skip
              have hl2 : (k : Int) < 34 := by omega
              have c0 := (HRR.out.2 k hlt).1
              generalize (((rowC k).1 : Nat) : Int) = m at *
              have HA := Lib.hid (fun W (hb : Below wr.heap.size wr W) => fcget_c gw m 0 s W (HI.out.k.low hb) (HI.out.wa.low hb))
              have HB := Lib.hid (fun W (hb : Below wr.heap.size wr W) => fcget_c g m 0 t W (HI.out.k.low hb) (HI.out.fl.low hb))
              by_cases hm : m = 772
              · subst hm
                have hx := HBH.out
                generalize getS s 772 0 = A at *
                generalize getS t 772 0 = B at *
                go_wp2_with fail
                refine (HA.out _ (Below.refl _ _)).mono ?_
                rintro e wh ⟨rfl, hb⟩
                have HBh := Lib.hid hb
                clear hb
                go_wp2_with fail
                refine (HB.out _ HBh.out).mono ?_
                rintro e wi ⟨rfl, hb⟩
                have HBi := Lib.hid (HBh.out.trans (hb.mono HBh.out.size))
                clear hb
                go_wp2_with fail
                go_roundw
                case rel => exact ⟨k + 1, by omega, by go_num, HI.out.low HBi.out, HRR.out.low HBi.out⟩
                case measure => simp [intOf]; omega
              · have em : (m == 772) = false := by simpa using hm
                by_cases hn : m = 260
                · subst hn
                  generalize getS s 260 0 = A at *
                  generalize getS t 260 0 = B at *
                  go_wp2_with fail
                  refine (HA.out _ (Below.refl _ _)).mono ?_
                  rintro e wh ⟨rfl, hb⟩
                  have HBh := Lib.hid hb
                  clear hb
                  go_wp2_with fail
                  refine (HB.out _ HBh.out).mono ?_
                  rintro e wi ⟨rfl, hb⟩
                  have HBi := Lib.hid (HBh.out.trans (hb.mono HBh.out.size))
                  clear hb
                  go_wp2_with fail
                  go_roundw
                  case rel => exact ⟨k + 1, by omega, by go_num, HI.out.low HBi.out, HRR.out.low HBi.out⟩
                  case measure => simp [intOf]; omega
                · have en : (m == 260) = false := by simpa using hn
                  have hab := HRS.out m hm hn
                  rw [← hab] at HB
                  generalize getS s m 0 = A at *
                  have haa : (A == A) = true := by simp
                  go_wp2_with fail
                  refine (HA.out _ (Below.refl _ _)).mono ?_
                  rintro e wh ⟨rfl, hb⟩
                  have HBh := Lib.hid hb
                  clear hb
                  go_wp2_with fail
                  refine (HB.out _ HBh.out).mono ?_
                  rintro e wi ⟨rfl, hb⟩
                  have HBi := Lib.hid (HBh.out.trans (hb.mono HBh.out.size))
                  clear hb
                  go_wp2_with fail
                  go_roundw
                  case rel => exact ⟨k + 1, by omega, by go_num, HI.out.low HBi.out, HRR.out.low HBi.out⟩
                  case measure => simp [intOf]; omega
            · skip
              obtain rfl : k = 34 := by omega
              go_wp2_with fail
              refine (live22_c _ HI.out.n HI.out.k).mono ?_
              rintro e wz ⟨rfl, hb⟩
              have HZ := Lib.hid (HI.out.bel.trans (hb.mono HI.out.bel.size))
              clear hb
              go_wp2_with fail
              go_ret
              exact ⟨rfl, HZ.out⟩
        · skip
          have hsame : setS s 324 (getS s 324 0) = s := hid_same OK.out (j := 2) (by omega)
          have hnew : setS s 324 v = s.put 836 (newD s 2 v) := set_new (j := 2) (by omega) v
          have HBH := Lib.hid (show bits .andNot .u64 (bits .xor .u64 (getS s 836 0) (getS (s.put 836 (newD s 2 v)) 836 0)) (bits .and .u64 (s.f 771) 2) = 0 from hid_beh OK.out (j := 2) (by omega) v)
          have HRS := Lib.hid (fun (m : Int) (h1 : m ≠ 836) (h2 : m ≠ 324) => show getS s m 0 = getS (s.put 836 (newD s 2 v)) m 0 from hid_rest (j := 2) (by omega) h1 h2 _)
          have HSM := Lib.hid hsame
          have HNE := Lib.hid hnew
          have HG0 := Lib.hid (get_64 OK.out 324 (l := 0) ⟨by omega, by omega⟩)
          clear hsame hnew
          generalize newD s 2 v = nx at *
          go_upto_region 11 with (first
            | (refine wpList_load_row rfl FlT _ rfl g rfl FlT _ (0, 0) _ HR.out.fl.r Tryd.underlying54 rfl (iFl _) ?_)
            | (refine wpList_allocY rfl _ rfl FlT rfl (fileV (zero 0)) (zero_fl _) ?_)
            | (refine wpList_storeNew (w0 := wr) rfl FlT _ _ rfl (fileV (zero 0)) (fileV s) FlT rfl rfl (iFl _) (by rw [fileV_size, fileV_size]) (flV_one _) ?_))
          have hba : Below wr.heap.size wr (wr.alloc (.cells (fileV s) FlT)) := (Below.refl _ _).alloc (Nat.le_refl _) _
          have HH := Lib.hid (show HdS w (wr.alloc (.cells (fileV s) FlT)) g wr.heap.size s s from ⟨HR.out.fl.low hba, ⟨CsAt.new wr FlT _, OK.out⟩, HR.out.n.low hba, HR.out.k.low hba, HR.out.hg, fun e => absurd HR.out.fl.r.lt (by rw [e]; exact Nat.lt_irrefl _), HR.out.far, HR.out.bel.trans (hba.mono HR.out.bel.size)⟩)
          clear hba HR
          generalize wr.alloc (.cells (fileV s) FlT) = w5 at *
          generalize wr.heap.size = gw at *
          go_upto_region 12 with (refine Go.wpList_buildSlice rfl 80 3 3 _ rfl #[.int .i64 256, .int .i64 260, .int .i64 324] i0 (.int .i64 0) Tryd.underlying80 hi hz0 (by rw [hz1]; decide) (by rw [hz1]; decide) (by rw [hz1]; kernel_rfl) ?_)
          replace HH := Lib.hid (HH.out.low ((Below.refl w5.heap.size w5).alloc (Nat.le_refl _) (.cells #[.int .i64 256, .int .i64 260, .int .i64 324] 3)))
          generalize w5.alloc (.cells #[.int .i64 256, .int .i64 260, .int .i64 324] 3) = w6 at *
          go_wp2_with fail
          refine (fcget_c g 324 0 s _ HH.out.k HH.out.fl).mono ?_
          rintro e w7 ⟨rfl, hb⟩
          replace HH := Lib.hid (HH.out.low hb)
          clear hb
          go_wp2_with fail
          refine (fset_c g 324 _ s HG0.out _ HH.out.n HH.out.k HH.out.fl).mono ?_
          rintro e w8 ⟨rfl, hq⟩
          rw [HSM.out] at hq
          replace HH := Lib.hid (HH.out.fq hq)
          clear hq
          go_wp2_with (first
            | (refine wpList_load_row rfl FlT _ rfl g rfl FlT _ (0, 0) _ HH.out.fl.r Tryd.underlying54 rfl (iFl _) ?_)
            | (refine wpList_load_row rfl FlT _ rfl gw rfl FlT _ (0, 0) _ HH.out.wa.r Tryd.underlying54 rfl (iFl _) ?_)
            | (refine wpList_cmp rfl .neq FlT _ _ _ rfl (fileV s) (fileV s) rfl rfl guard_fl _ (neq_fl OK.out _) ?_))
          refine (fset_c g 324 v s HVV.out _ HH.out.n HH.out.k HH.out.fl).mono ?_
          rintro e w9 ⟨rfl, hq⟩
          rw [HNE.out] at hq
          have HI := Lib.hid (HH.out.fq hq)
          clear hq HH
          go_wp2_with fail
          refine (rview_c 18446744073709551615 ⟨by omega, by omega⟩ _).mono ?_
          rintro e wa ⟨rfl, hb⟩
          replace HI := Lib.hid (HI.out.low hb)
          clear hb
          go_wp2_with fail
          refine (fcget_c gw 771 0 s _ HI.out.k HI.out.wa).mono ?_
          rintro e wb ⟨rfl, hb⟩
          rw [show getS s 771 0 = s.f 771 from rfl]
          replace HI := Lib.hid (HI.out.low hb)
          clear hb
          go_wp2_with fail
          refine (fcget_c gw 771 0 s _ HI.out.k HI.out.wa).mono ?_
          rintro e wc' ⟨rfl, hb⟩
          rw [show getS s 771 0 = s.f 771 from rfl]
          replace HI := Lib.hid (HI.out.low hb)
          clear hb
          go_upto_region 17 with (refine Go.wpList_buildSlice rfl 82 24 3 _ rfl #[.int .u64 (viewS 18446744073709551615), .int .u64 (s.f 771), .int .u64 (bits .and .u64 (s.f 771) 2)] j0 (.int .u64 0) Tryd.underlying82 ji jz0 (by rw [jz1]; decide) (by rw [jz1]; decide) (by rw [jz1]; kernel_rfl) ?_)
          replace HI := Lib.hid (HI.out.low ((Below.refl wc'.heap.size wc').alloc (Nat.le_refl _) (.cells #[.int .u64 (viewS 18446744073709551615), .int .u64 (s.f 771), .int .u64 (bits .and .u64 (s.f 771) 2)] 24)))
          generalize wc'.alloc (.cells #[.int .u64 (viewS 18446744073709551615), .int .u64 (s.f 771), .int .u64 (bits .and .u64 (s.f 771) 2)] 24) = wd at *
          go_upto_region 18 with (refine Go.wpList_buildSlice rfl 80 3 3 _ rfl #[.int .i64 768, .int .i64 772, .int .i64 836] i0 (.int .i64 0) Tryd.underlying80 hi hz0 (by rw [hz1]; decide) (by rw [hz1]; decide) (by rw [hz1]; kernel_rfl) ?_)
          replace HI := Lib.hid (HI.out.low ((Below.refl wd.heap.size wd).alloc (Nat.le_refl _) (.cells #[.int .i64 768, .int .i64 772, .int .i64 836] 3)))
          generalize wd.alloc (.cells #[.int .i64 768, .int .i64 772, .int .i64 836] 3) = we at *
          go_wp2_with fail
          refine (rrows_c _).mono ?_
          rintro e wf ⟨rfl, rfl⟩
          have HRR := Lib.hid (rrAt_new we)
          replace HI := Lib.hid (HI.out.low ((Below.refl we.heap.size we).alloc (Nat.le_refl _) (.cells rrCells RrT)))
          generalize we.alloc (.cells rrCells RrT) = wg at *
          generalize we.heap.size = gr at *
          clear hi hz0 hz1 hz2 ji jz0 jz1 jz2
          generalize s.put 836 nx = t at *
          go_wp2_with fail
          go_loopw [18] (fun i wr => ∃ k : Nat, k ≤ 34 ∧ i = .int .i64 k ∧ HdS w wr g gw s t ∧ RRAt wr gr) (fun i _ => 34 - (intOf i).toNat)
          case atStart => exact ⟨0, Nat.zero_le _, rfl, HI.out, HRR.out⟩
          case round =>
            obtain ⟨k, hk, rfl, hi, hr⟩ := hrel
            clear HI HRR
            have HI := Lib.hid hi
            have HRR := Lib.hid hr
            clear hi hr
            by_cases hlt : k < 34
            · skip
              have hl2 : (k : Int) < 34 := by omega
              have c0 := (HRR.out.2 k hlt).1
              generalize (((rowC k).1 : Nat) : Int) = m at *
              have HA := Lib.hid (fun W (hb : Below wr.heap.size wr W) => fcget_c gw m 0 s W (HI.out.k.low hb) (HI.out.wa.low hb))
              have HB := Lib.hid (fun W (hb : Below wr.heap.size wr W) => fcget_c g m 0 t W (HI.out.k.low hb) (HI.out.fl.low hb))
              by_cases hm : m = 836
              · subst hm
                have hx := HBH.out
                generalize getS s 836 0 = A at *
                generalize getS t 836 0 = B at *
                go_wp2_with fail
                refine (HA.out _ (Below.refl _ _)).mono ?_
                rintro e wh ⟨rfl, hb⟩
                have HBh := Lib.hid hb
                clear hb
                go_wp2_with fail
                refine (HB.out _ HBh.out).mono ?_
                rintro e wi ⟨rfl, hb⟩
                have HBi := Lib.hid (HBh.out.trans (hb.mono HBh.out.size))
                clear hb
                go_wp2_with fail
                go_roundw
                case rel => exact ⟨k + 1, by omega, by go_num, HI.out.low HBi.out, HRR.out.low HBi.out⟩
                case measure => simp [intOf]; omega
              · have em : (m == 836) = false := by simpa using hm
                by_cases hn : m = 324
                · subst hn
                  generalize getS s 324 0 = A at *
                  generalize getS t 324 0 = B at *
                  go_wp2_with fail
                  refine (HA.out _ (Below.refl _ _)).mono ?_
                  rintro e wh ⟨rfl, hb⟩
                  have HBh := Lib.hid hb
                  clear hb
                  go_wp2_with fail
                  refine (HB.out _ HBh.out).mono ?_
                  rintro e wi ⟨rfl, hb⟩
                  have HBi := Lib.hid (HBh.out.trans (hb.mono HBh.out.size))
                  clear hb
                  go_wp2_with fail
                  go_roundw
                  case rel => exact ⟨k + 1, by omega, by go_num, HI.out.low HBi.out, HRR.out.low HBi.out⟩
                  case measure => simp [intOf]; omega
                · have en : (m == 324) = false := by simpa using hn
                  have hab := HRS.out m hm hn
                  rw [← hab] at HB
                  generalize getS s m 0 = A at *
                  have haa : (A == A) = true := by simp
                  go_wp2_with fail
                  refine (HA.out _ (Below.refl _ _)).mono ?_
                  rintro e wh ⟨rfl, hb⟩
                  have HBh := Lib.hid hb
                  clear hb
                  go_wp2_with fail
                  refine (HB.out _ HBh.out).mono ?_
                  rintro e wi ⟨rfl, hb⟩
                  have HBi := Lib.hid (HBh.out.trans (hb.mono HBh.out.size))
                  clear hb
                  go_wp2_with fail
                  go_roundw
                  case rel => exact ⟨k + 1, by omega, by go_num, HI.out.low HBi.out, HRR.out.low HBi.out⟩
                  case measure => simp [intOf]; omega
            · skip
              obtain rfl : k = 34 := by omega
              go_wp2_with fail
              refine (live22_c _ HI.out.n HI.out.k).mono ?_
              rintro e wz ⟨rfl, hb⟩
              have HZ := Lib.hid (HI.out.bel.trans (hb.mono HI.out.bel.size))
              clear hb
              go_wp2_with fail
              go_ret
              exact ⟨rfl, HZ.out⟩
end Go.Proofs.YtfjdalepaacmgaaDoor
