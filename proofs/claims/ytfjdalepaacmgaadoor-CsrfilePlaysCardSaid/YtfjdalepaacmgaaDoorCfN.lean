/-
  CsrfilePlays walked.
-/
import Derived.Test.YtfjdalepaacmgaaDoorCfM
set_option maxRecDepth 20000
namespace Go.Proofs.YtfjdalepaacmgaaDoor
open Go.ChangeShapes Go.WideShapes Go.ChangeAt Go.RowKit Wd Csr Sta Cf

theorem wpList_load_rowF {P : Program} {ops : Array Oper} {rest : List Oper} {o : Oper} {a : Act} {w : World} {Q : Exit → Act → World → Prop} (hw : Region.wanted o (yielded ops a.tmps) = true) (ty : TypeId) (x : Operand) (ho : o.op = .load ty x)
    (g : Nat) (hx : a.eval x = .pointer (some ⟨g, 0, none⟩)) (t : TypeId) (cs : Array Value) (fr : Nat × Nat) (d : TypeDesc) (hg : w.heap[g]? = some (.cells cs t fr))
    (hu : P.underlying ty = some d) (hd : (match d with | .struct _ | .array _ _ => true | _ => false) = true) (hi : (P.info? ty).map (·.size) = some cs.size)
    (h : wpList P ops Q rest (a.put o.dst (.agg cs)) w) : wpList P ops Q (o :: rest) a w :=
  wpList_step fun _ hK => by
    rw [if_pos hw]
    exact wp_load_row ty x ho g hx t cs fr d hg hu hd hi (hK _ _ h)
theorem get0 {s : S} (ok : Ok s) (l : Int) : getS s 0 l = 0 := ok.z 0 (by decide)
/-- What stands while Same compares: the file, the reference's in its box, the table. -/
structure SmS (w W : World) (g gr : Nat) (s : S) : Prop where
  fl : FlAt W g s
  x : CsAt W w.heap.size RfT (refV s)
  r : RRAt W gr
  k : KeptIn W
  bel : Below w.heap.size w W
theorem SmS.low {w W W' : World} {g gr : Nat} {s : S} (h : SmS w W g gr s) (hb : Below W.heap.size W W') : SmS w W' g gr s := ⟨h.fl.low hb, h.x.low hb, h.r.low hb, h.k.low hb, h.bel.trans (hb.mono h.bel.size)⟩
theorem SmS.drew {w W : World} {g gr : Nat} {s : S} (h : SmS w W g gr s) : SmS w W.drew g gr s := ⟨h.fl.drew, h.x, h.r, h.k, h.bel.drew⟩
set_option maxHeartbeats 8000000 in
theorem same22_c (g : Nat) (s : S) (ok : Ok s) (l : Int) (hl : W64 l) (w : World) (hK : KeptIn w) (h : FlAt w g s) :
    Calls Tryd.prog 33 #[.pointer (some ⟨g, 0, none⟩), .agg (refV s), .int .u64 l] w fun e w' => e = .returned (.bool true) ∧ Below w.heap.size w w' := by
  have OK := Lib.hid ok
  have HLL := Lib.hid hl
  have hB : Below w.heap.size w ((w.alloc (.cells (refV s) RfT)).alloc (.cells rrCells RrT)) := ((Below.refl _ _).alloc (Nat.le_refl _) _).alloc (by simp) _
  have hr := rrAt_new (w.alloc (.cells (refV s) RfT))
  simp only [World.size_alloc] at hr
  have HS0 := Lib.hid (show SmS w ((w.alloc (.cells (refV s) RfT)).alloc (.cells rrCells RrT)) g (w.heap.size + 1) s from ⟨h.low hB, (CsAt.new w RfT _).alloc _, hr, hK.low hB, hB⟩)
  clear hB hr h hK ok hl
  go_enter Tryd.func33, Tryd.ntmps33
  go_wp2_with fail
  refine (rrows_c _).mono ?_
  rintro e w1 ⟨rfl, rfl⟩
  generalize ((w.alloc (.cells (refV s) RfT)).alloc (.cells rrCells RrT)) = w2 at *
  go_wp2_with fail
  go_loopw [8] (fun i wr => ∃ k : Nat, k ≤ 34 ∧ i = .int .i64 k ∧ SmS w wr g (w.heap.size + 1) s) (fun i _ => 34 - (intOf i).toNat)
  case atStart => exact ⟨0, Nat.zero_le _, rfl, HS0.out⟩
  case round =>
    clear HS0
    obtain ⟨k, hk, rfl, hS⟩ := hrel
    have HS := Lib.hid hS
    clear hS
    by_cases hlt : k < 34
    · have hl2 : (k : Int) < 34 := by omega
      obtain ⟨m, hm⟩ : ∃ m : Int, (((rowC k).1 : Nat) : Int) = m := ⟨_, rfl⟩
      have HM := Lib.hid hm
      clear hm
      go_upto_region 5 with fail
      skip
      · skip
        refine wp_region_steady (fun W => SmS w W g (w.heap.size + 1) s) (by kernel_rfl) (by kernel_rfl) HS.out.drew ?_
        iterate 5
          refine steady_val ?_ ?_ (by kernel_rfl) (fun W hS => ?_) ?_ ?_
          rotate_left 2
          · go_simp
            exact rfl
          · go_simp
            exact rfl
        refine steady_val ?_ ?_ (by kernel_rfl) (fun W hS => ?_) ?_ ?_
        rotate_left 2
        · have q := (hS.r.2 k hlt).1; rw [HM.out] at q; go_simp
          exact rfl
        · go_simp
          exact rfl
        refine steady_val ?_ ?_ (by kernel_rfl) (fun W hS => ?_) ?_ ?_
        rotate_left 2
        · go_simp
          exact rfl
        · go_simp
          exact rfl
        refine steady_enter (.int .u64 (getS s m l)) 39 #[.pointer (some ⟨g, 0, none⟩), .int .i64 m, .int .u64 l] ?_ (by kernel_rfl) (fun W hS => ?_) (fun W hS => (fcget_c g m l s W hS.k hS.fl).mono (by rintro e w' ⟨rfl, hb⟩; exact ⟨rfl, hS.low hb⟩)) ?_ ?_
        rotate_left 1
        · go_simp
        · go_simp
          exact rfl
        refine steady_val (.agg (refV s)) ?_ (by kernel_rfl) (fun W hS => exec_load_row RfT _ rfl w.heap.size rfl RfT _ _ hS.x Tryd.underlying58 rfl (iRf _)) ?_ ?_
        rotate_left 1
        · go_simp
          exact rfl
        iterate 4
          refine steady_val ?_ ?_ (by kernel_rfl) (fun W hS => ?_) ?_ ?_
          rotate_left 2
          · go_simp
            exact rfl
          · go_simp
            exact rfl
        refine steady_val ?_ ?_ (by kernel_rfl) (fun W hS => ?_) ?_ ?_
        rotate_left 2
        · have q := (hS.r.2 k hlt).1; rw [HM.out] at q; go_simp
          exact rfl
        · go_simp
          exact rfl
        refine steady_val ?_ ?_ (by kernel_rfl) (fun W hS => ?_) ?_ ?_
        rotate_left 2
        · go_simp
          exact rfl
        · go_simp
          exact rfl
        refine steady_enter (.int .u64 (getS s m l)) 60 #[.agg (refV s), .int .i64 m, .int .u64 l] ?_ (by kernel_rfl) (fun W hS => ?_) (fun W hS => (rget22_c s OK.out m l HLL.out W).mono (by rintro e w' ⟨rfl, hb⟩; exact ⟨rfl, hS.low hb⟩)) ?_ ?_
        rotate_left 1
        · go_simp
        · go_simp
          exact rfl
        refine steady_val ?_ ?_ (by kernel_rfl) (fun W hS => ?_) ?_ ?_
        rotate_left 2
        · have qq : (getS s m l == getS s m l) = true := by simp
          go_simp
          exact rfl
        · go_simp
          exact rfl
        refine steady_nil ?_
        intro W hS
        have HS2 := Lib.hid hS
        clear hS HS
        go_wp2_with fail
        go_roundw
        case rel => exact ⟨k + 1, by omega, by go_num, HS2.out⟩
        case measure => simp [intOf]; omega
    · obtain rfl : k = 34 := by omega
      go_wp2_with fail
      refine (fcget_c g 0 l s _ HS.out.k HS.out.fl).mono ?_
      rintro e w5 ⟨rfl, hb⟩
      rw [get0 OK.out l]
      have HB := Lib.hid (HS.out.bel.trans (hb.mono HS.out.bel.size))
      clear hb
      go_wp2_with fail
      go_ret
      exact ⟨rfl, HB.out⟩
set_option maxHeartbeats 16000000 in
theorem plays22_walk (h : Int) (ao : Option Addr) (n cap : Nat) (l : List Df) (v : Int) (w : World) (hds : Dfs w ao n l) (hh : -9223372036854775808 ≤ h ∧ h ≤ 9223372036854775807) (hv : 0 ≤ v ∧ v ≤ 18446744073709551615) (hT : RowsIn w ∧ KeptIn w) :
    Calls Tryd.prog 6 #[.int .i64 h, .slice ao n cap, .int .u64 v] w fun e w' => e = .returned (.bool true) ∧ Below w.heap.size w w' := by
  have HDS := Lib.hid hds
  have hmx := hds.max
  have HT := Lib.hid hT
  clear hds
  by_cases hlong : 60 < n
  · have g0 : decide ((n : Int) > 60) = true := by simp; omega
    clear hT hmx hh hv
    go_enter Tryd.func6, Tryd.ntmps6
    go_wp2_with fail
    refine (live22_c _ HT.out.1 HT.out.2).mono ?_
    rintro e w1 ⟨rfl, hb⟩
    have HB := Lib.hid hb
    clear hb
    go_wp2_with fail
    go_ret
    exact ⟨rfl, HB.out⟩
  · have g0 : decide ((n : Int) > 60) = false := by simp; omega
    have HVV := Lib.hid (lt64 hv)
    have HNW := Lib.hid (fnew_c h hh w hT.2)
    have HRN := Lib.hid (fun W => rnew22_c h W)
    clear hT hv
    go_enter Tryd.func6, Tryd.ntmps6
    go_wp2_with fail
    refine HNW.out.mono ?_
    rintro e w1 ⟨rfl, hb1⟩
    have HB1 := Lib.hid hb1
    clear hb1 HNW
    go_upto_region 4 with (first
      | (refine wpList_allocY rfl _ rfl FlT rfl (fileV (zero 0)) (zero_fl _) ?_)
      | (refine wpList_storeNew (w0 := w1) rfl FlT _ _ rfl (fileV (zero 0)) (fileV (new h)) FlT rfl rfl (iFl _) (by rw [fileV_size, fileV_size]) (flV_one _) ?_))
    have HF1 := Lib.hid (CsAt.new w1 FlT (fileV (new h)))
    have HB2 := Lib.hid (HB1.out.alloc HB1.out.size (.cells (fileV (new h)) FlT))
    have HSZ1 := Lib.hid (show (w1.alloc (.cells (fileV (new h)) FlT)).heap.size = w1.heap.size + 1 by simp)
    generalize w1.alloc (.cells (fileV (new h)) FlT) = w2 at *
    go_wp2_with fail
    refine (HRN.out _).mono ?_
    rintro e w3 ⟨rfl, hb3⟩
    have HF2 := Lib.hid (HF1.out.low hb3)
    have HB3 := Lib.hid (HB2.out.trans (hb3.mono HB2.out.size))
    have hg3 := hb3.size
    clear hb3
    go_upto_region 5 with (first
      | (refine wpList_allocY rfl _ rfl RfT rfl (refV (zero 0)) (zero_rf _) ?_)
      | (refine wpList_storeNew (w0 := w3) rfl RfT _ _ rfl (refV (zero 0)) (refV (new h)) RfT rfl rfl (iRf _) (by rw [refV_size, refV_size]) (rfV_one _) ?_))
    have hb4 : Below w3.heap.size w3 (w3.alloc (.cells (refV (new h)) RfT)) := (Below.refl _ _).alloc (Nat.le_refl _) _
    have HB4 := HB3.out.trans (hb4.mono HB3.out.size)
    have hs1 := HB1.out.size
    have hs2 := HSZ1.out
    have HP := Lib.hid (show PyS w (w3.alloc (.cells (refV (new h)) RfT)) w1.heap.size w3.heap.size (new h) from
      ⟨⟨HF2.out.low hb4, new_ok hh⟩, CsAt.new w3 RfT _, HT.out.1.low HB4, HT.out.2.low HB4, hs1, by omega, by omega, new_far HT.out.1 HT.out.2 hs1, new_far HT.out.1 HT.out.2 (by omega), HB4⟩)
    clear hb4 HB4 hs1 hs2 hg3 HB1 HB2 HB3 HF1 HF2 HSZ1 HRN
    generalize w3.alloc (.cells (refV (new h)) RfT) = w4 at *
    generalize w1.heap.size = g at *
    generalize w3.heap.size = gx at *
    go_wp2_with fail
    go_loopw [9] (fun i wr => ∃ (k : Nat) (s : S), k ≤ n ∧ i = .int .i64 k ∧ PyS w wr g gx s) (fun i _ => n - (intOf i).toNat)
    case atStart => exact ⟨0, new h, Nat.zero_le _, rfl, HP.out⟩
    case round =>
      clear HP
      obtain ⟨k, s, hk, rfl, hp⟩ := hrel
      have HR := Lib.hid hp
      clear hp
      by_cases hlt : k < n
      · have e0 : decide ((k : Int) < (n : Int)) = true := by simp; omega
        obtain ⟨db, off, rfl, hdl, hcells⟩ := HDS.out.at_ (by omega)
        have HIN := Lib.hid (HDS.out.each k hlt)
        have HDC := Lib.hid (fun (W : World) (hb : Below w.heap.size w W) (f : Nat) (hf : f < 12) => df_row (W := W) (hcells k hlt) hdl hb f hf)
        have gk : (k : Int) < (n : Int) := by omega
        clear hcells
        generalize l.getD k Df.zero = d at *
        have HDO := Lib.hid (fun W (hn : RowsIn W) (hk : KeptIn W) (h : FlAt W g s) => do22_c g s d HIN.out W hn hk HR.out.far h)
        generalize hu : nxtS s d = u at *
        generalize tolS s d = a at *
        clear hu
        go_upto_region 8 with fail
        have hp0 := HR.out.drew
        have hs0 := hp0.bel
        refine wp_region_noPanic ?_
        refine wp_region_held (S := fun V => CsAt V gx RfT (refV s) ∧ Below w.heap.size w V) (by kernel_rfl) ?_
        refine takeH (fuel := 13) (i := 0) (.agg (refV s)) ?_ rfl (by kernel_rfl) (by kernel_rfl) (by kernel_rfl) (fun _ _ _ h => h) (by kernel_rfl) (fun W hS => exec_load_row RfT _ rfl gx rfl RfT _ _ hS.1 Tryd.underlying58 rfl (iRf _)) ⟨hp0.x, hs0⟩ ?_ ?_
        rotate_left 1
        · go_simp
          exact rfl
        refine takeH (fuel := 12) (i := 1) (.slice (some ⟨db, off, none⟩) n cap) ?_ rfl (by kernel_rfl) (by kernel_rfl) (by kernel_rfl) (fun _ _ _ h => h) (by kernel_rfl) (fun W hS => by go_simp) ⟨hp0.x, hs0⟩ ?_ ?_
        rotate_left 1
        · go_simp
          exact rfl
        refine takeH (fuel := 11) (i := 2) (.int .i64 (k : Int)) ?_ rfl (by kernel_rfl) (by kernel_rfl) (by kernel_rfl) (fun _ _ _ h => h) (by kernel_rfl) (fun W hS => by go_simp) ⟨hp0.x, hs0⟩ ?_ ?_
        rotate_left 1
        · go_simp
          exact rfl
        refine takeH (fuel := 10) (i := 3) (.pointer (some ⟨db, off + k * 12, none⟩)) ?_ rfl (by kernel_rfl) (by kernel_rfl) (by kernel_rfl) (fun _ _ _ h => h) (by kernel_rfl) (fun W hS => by go_simp) ⟨hp0.x, hs0⟩ ?_ ?_
        rotate_left 1
        · go_simp
          exact rfl
        refine takeH (fuel := 9) (i := 4) (.agg d.cells) ?_ rfl (by kernel_rfl) (by kernel_rfl) (by kernel_rfl) (fun _ _ _ h => h) (by kernel_rfl) (fun W hS => by (have q0 := HDC.out W hS.2 0 (by omega); have q1 := HDC.out W hS.2 1 (by omega); have q2 := HDC.out W hS.2 2 (by omega); have q3 := HDC.out W hS.2 3 (by omega); have q4 := HDC.out W hS.2 4 (by omega); have q5 := HDC.out W hS.2 5 (by omega); have q6 := HDC.out W hS.2 6 (by omega); have q7 := HDC.out W hS.2 7 (by omega); have q8 := HDC.out W hS.2 8 (by omega); have q9 := HDC.out W hS.2 9 (by omega); have q10 := HDC.out W hS.2 10 (by omega); have q11 := HDC.out W hS.2 11 (by omega); simp only [Nat.add_zero, List.getElem?_toArray, List.getElem?_cons_zero, List.getElem?_cons_succ] at q0 q1 q2 q3 q4 q5 q6 q7 q8 q9 q10 q11; go_simp)) ⟨hp0.x, hs0⟩ ?_ ?_
        rotate_left 1
        · go_simp
          exact rfl
        refine wpAnyH_all (fuel := 8) (rs := [5, 10]) (by kernel_rfl) (by decide) ?_
        intro i hi
        simp only [List.mem_cons, List.not_mem_nil, or_false] at hi
        rcases hi with rfl | rfl
        · refine wpOp_callX 32 #[.pointer (some ⟨g, 0, none⟩), .agg (refV s), .agg d.cells] rfl (by kernel_rfl) (by go_simp) ?_
          refine (HDO.out _ hp0.n hp0.k hp0.fl).mono ?_
          rintro e w5 ⟨rfl, hq⟩
          have hz := hp0.fq hq
          have hz0 := hq.chg
          clear hq
          refine ⟨_, rfl, ⟨hz.x, hz.bel⟩, ?_⟩
          refine takeH (fuel := 7) (i := 6) (.tuple #[.agg (refV u), .int .u64 a, .int .u64 a]) ?_ rfl (by kernel_rfl) (by kernel_rfl) (by kernel_rfl) (fun _ _ _ h => h) (by kernel_rfl) (fun W hS => by go_simp) ⟨hz.x, hz.bel⟩ ?_ ?_
          rotate_left 1
          · go_simp
            exact rfl
          refine takeH (fuel := 6) (i := 7) (.agg (refV u)) ?_ rfl (by kernel_rfl) (by kernel_rfl) (by kernel_rfl) (fun _ _ _ h => h) (by kernel_rfl) (fun W hS => by go_simp) ⟨hz.x, hz.bel⟩ ?_ ?_
          rotate_left 1
          · go_simp
            exact rfl
          refine takeH (fuel := 5) (i := 8) (.int .u64 a) ?_ rfl (by kernel_rfl) (by kernel_rfl) (by kernel_rfl) (fun _ _ _ h => h) (by kernel_rfl) (fun W hS => by go_simp) ⟨hz.x, hz.bel⟩ ?_ ?_
          rotate_left 1
          · go_simp
            exact rfl
          refine takeH (fuel := 4) (i := 9) (.int .u64 a) ?_ rfl (by kernel_rfl) (by kernel_rfl) (by kernel_rfl) (fun _ _ _ h => h) (by kernel_rfl) (fun W hS => by go_simp) ⟨hz.x, hz.bel⟩ ?_ ?_
          rotate_left 1
          · go_simp
            exact rfl
          refine wpAnyH_all (fuel := 3) (rs := [10]) (by kernel_rfl) (by decide) ?_
          intro i hi
          obtain rfl : i = 10 := by simpa using hi
          have hba : Below w5.heap.size w5 (w5.alloc (.cells (refV (zero 0)) RfT)) := (Below.refl _ _).alloc (Nat.le_refl _) _
          have hgx := hp0.x.lt
          have hgl := hp0.fl.r.lt
          have hw5 : wr.drew.heap.size ≤ w5.heap.size := hz0.size
          refine wpOp_valB (.pointer (some ⟨w5.heap.size, 0, none⟩)) (w5.alloc (.cells (refV (zero 0)) RfT)) _ rfl (by kernel_rfl) (exec_alloc RfT rfl (.agg (refV (zero 0))) (zero_rf _)) rfl ?_
          have h10 : CsAt (w5.alloc (.cells (refV (zero 0)) RfT)) w5.heap.size RfT (refV (zero 0)) := CsAt.new _ _ _
          replace hz := hz.low hba
          clear hba
          refine ⟨⟨hz.x, hz.bel⟩, ?_⟩
          obtain ⟨c10, hcc⟩ : ∃ c, w5.heap.size = c := ⟨_, rfl⟩
          rw [hcc] at h10 hw5 ⊢
          have hc10 : wr.drew.heap.size ≤ c10 := hw5
          clear hw5
          refine wpAnyH_all (fuel := 2) (rs := [11]) (by kernel_rfl) (by decide) ?_
          intro i hi
          obtain rfl : i = 11 := by simpa using hi
          refine wpOp_unitB ((w5.alloc (.cells (refV (zero 0)) RfT)).setRow c10 (refV u)) _ rfl (by kernel_rfl) (exec_store_row RfT _ _ rfl c10 (refV u) rfl rfl RfT _ h10 (iRf _) (by rw [refV_size, refV_size]) (rfV_one _)) rfl ?_
          have hne : c10 ≠ gx := fun e => absurd hgx (by rw [← e]; exact Nat.not_lt.2 hc10)
          have hn2 : c10 ≠ g := fun e => absurd hgl (by rw [← e]; exact Nat.not_lt.2 hc10)
          have hc2 : Chg (one c10) (w5.alloc (.cells (refV (zero 0)) RfT)) ((w5.alloc (.cells (refV (zero 0)) RfT)).setRow c10 (refV u)) := Chg.of_row (S := one c10) rfl _
          have hfar := new_far HT.out.1 HT.out.2 (Nat.le_trans hs0.size hc10)
          have hz2 : PzS w ((w5.alloc (.cells (refV (zero 0)) RfT)).setRow c10 (refV u)) g gx s u := ⟨⟨hz.fl.r.rowFar hn2.symm _, hz.fl.ok⟩, hz.x.rowFar hne.symm _, hz.n.chg hc2 (fun (e : 3 = c10) => hfar.1 e.symm), hz.k.chg hc2 (fun (e : 2 = c10) => hfar.2 e.symm), hz.hg, hz.hx, hz.ne, hz.far, hz.farx, below_setRow hz.bel (Nat.le_trans hs0.size hc10) _⟩
          have h11 := h10.row (refV u)
          refine ⟨⟨hz2.x, hz2.bel⟩, ?_⟩
          refine takeH (fuel := 1) (i := 12) (.int .u64 a) ?_ rfl (by kernel_rfl) (by kernel_rfl) (by kernel_rfl) (fun _ _ _ h => h) (by kernel_rfl) (fun W hS => by go_simp) ⟨hz2.x, hz2.bel⟩ ?_ ?_
          rotate_left 1
          · go_simp
            exact rfl
          refine takeH (fuel := 0) (i := 13) (.int .u64 a) ?_ rfl (by kernel_rfl) (by kernel_rfl) (by kernel_rfl) (fun _ _ _ h => h) (by kernel_rfl) (fun W hS => by go_simp) ⟨hz2.x, hz2.bel⟩ ?_ ?_
          rotate_left 1
          · go_simp
            exact rfl
          refine wpAnyH_done (by kernel_rfl) ?_ _
          refine NoPanic.normal ?_
          have HZ := Lib.hid hz2
          have H11 := Lib.hid h11
          generalize (w5.alloc (.cells (refV (zero 0)) RfT)).setRow c10 (refV u) = wz at *
          clear hz hz2 h10 h11 hc10 hne hn2 hc2 hfar hgx hgl hp0 hs0
          go_upto_region 10 with (first
            | (refine wpList_load_row rfl RfT _ rfl c10 rfl RfT _ (0, 0) _ H11.out Tryd.underlying58 rfl (iRf _) ?_)
            | (refine wpList_store_row rfl RfT _ _ rfl gx (refV u) rfl rfl RfT _ HZ.out.x (iRf _) (by rw [refV_size, refV_size]) (rfV_one _) ?_))
          have HY := Lib.hid HZ.out.row
          generalize wz.setRow gx (refV u) = wy at *
          have haa : (a == a) = true := by simp
          obtain ⟨kd, ⟨op, rd, rs1, rs2, imm, csr, aq, rl⟩, dv, dl, dr⟩ := d
          dsimp only [Df.cells, Ix.cells] at HDC
          have HSM := Lib.hid (fun W (hS : Below wy.heap.size wy W) => same22_c g u (HY.out.fl.ok) dl (lt64 HIN.out.lines) W (HY.out.low hS).k (HY.out.low hS).fl)
          have HXW := Lib.hid (fun W (hS : Below wy.heap.size wy W) => (HY.out.low hS).x)
          have HYB := Lib.hid (fun W (hS : Below wy.heap.size wy W) => (HY.out.low hS).bel)
          have HW1 := Lib.hid (fun W => fwrites_c op rs1 W)
          have HW2 := Lib.hid (fun W => rwrites22_c op rs1 W)
          generalize wrS op rs1 = wr' at *
          have hww : (wr' == wr') = true := by simp
          refine wp_region_steady (fun W => Below wy.heap.size wy W) (by kernel_rfl) (by kernel_rfl) (Below.drew (Below.refl _ _)) ?_
          iterate 4
            refine steady_val ?_ ?_ (by kernel_rfl) (fun W hS => ?_) ?_ ?_
            rotate_left 2
            · go_simp
              exact rfl
            · go_simp
              exact rfl
          refine steady_val (.agg (refV u)) ?_ (by kernel_rfl) (fun W hS => exec_load_row RfT _ rfl gx rfl RfT _ _ (HXW.out _ hS) Tryd.underlying58 rfl (iRf _)) ?_ ?_
          rotate_left 1
          · go_simp
            exact rfl
          iterate 4
            refine steady_val ?_ ?_ (by kernel_rfl) (fun W hS => ?_) ?_ ?_
            rotate_left 2
            · go_simp
              exact rfl
            · go_simp
              exact rfl
          refine steady_val ?_ ?_ (by kernel_rfl) (fun W hS => ?_) ?_ ?_
          rotate_left 2
          · have q := HDC.out W (HYB.out W hS) 10 (by omega); simp only [List.getElem?_toArray, List.getElem?_cons_zero, List.getElem?_cons_succ] at q; go_simp
            exact rfl
          · go_simp
            exact rfl
          refine steady_enter (.bool true) 33 #[.pointer (some ⟨g, 0, none⟩), .agg (refV u), .int .u64 dl] ?_ (by kernel_rfl) (fun W hS => ?_) (fun W hS => (HSM.out W hS).mono (by rintro e w' ⟨rfl, hb⟩; exact ⟨rfl, hS.trans (hb.mono hS.size)⟩)) ?_ ?_
          rotate_left 1
          · go_simp
          · go_simp
            exact rfl
          iterate 3
            refine steady_val ?_ ?_ (by kernel_rfl) (fun W hS => ?_) ?_ ?_
            rotate_left 2
            · go_simp
              exact rfl
            · go_simp
              exact rfl
          iterate 5
            refine steady_val ?_ ?_ (by kernel_rfl) (fun W hS => ?_) ?_ ?_
            rotate_left 2
            · go_simp
              exact rfl
            · go_simp
              exact rfl
          refine steady_val ?_ ?_ (by kernel_rfl) (fun W hS => ?_) ?_ ?_
          rotate_left 2
          · have q := HDC.out W (HYB.out W hS) 1 (by omega); simp only [List.getElem?_toArray, List.getElem?_cons_zero, List.getElem?_cons_succ] at q; go_simp
            exact rfl
          · go_simp
            exact rfl
          iterate 5
            refine steady_val ?_ ?_ (by kernel_rfl) (fun W hS => ?_) ?_ ?_
            rotate_left 2
            · go_simp
              exact rfl
            · go_simp
              exact rfl
          refine steady_val ?_ ?_ (by kernel_rfl) (fun W hS => ?_) ?_ ?_
          rotate_left 2
          · have q := HDC.out W (HYB.out W hS) 3 (by omega); simp only [List.getElem?_toArray, List.getElem?_cons_zero, List.getElem?_cons_succ] at q; go_simp
            exact rfl
          · go_simp
            exact rfl
          refine steady_enter (.bool wr') 34 #[.int .i64 op, .int .i64 rs1] ?_ (by kernel_rfl) (fun W hS => ?_) (fun W hS => (HW1.out W).mono (by rintro e w' ⟨rfl, rfl⟩; exact ⟨rfl, hS⟩)) ?_ ?_
          rotate_left 1
          · go_simp
          · go_simp
            exact rfl
          iterate 5
            refine steady_val ?_ ?_ (by kernel_rfl) (fun W hS => ?_) ?_ ?_
            rotate_left 2
            · go_simp
              exact rfl
            · go_simp
              exact rfl
          refine steady_val ?_ ?_ (by kernel_rfl) (fun W hS => ?_) ?_ ?_
          rotate_left 2
          · have q := HDC.out W (HYB.out W hS) 1 (by omega); simp only [List.getElem?_toArray, List.getElem?_cons_zero, List.getElem?_cons_succ] at q; go_simp
            exact rfl
          · go_simp
            exact rfl
          iterate 5
            refine steady_val ?_ ?_ (by kernel_rfl) (fun W hS => ?_) ?_ ?_
            rotate_left 2
            · go_simp
              exact rfl
            · go_simp
              exact rfl
          refine steady_val ?_ ?_ (by kernel_rfl) (fun W hS => ?_) ?_ ?_
          rotate_left 2
          · have q := HDC.out W (HYB.out W hS) 3 (by omega); simp only [List.getElem?_toArray, List.getElem?_cons_zero, List.getElem?_cons_succ] at q; go_simp
            exact rfl
          · go_simp
            exact rfl
          refine steady_enter (.bool wr') 35 #[.int .i64 op, .int .i64 rs1] ?_ (by kernel_rfl) (fun W hS => ?_) (fun W hS => (HW2.out W).mono (by rintro e w' ⟨rfl, hb⟩; exact ⟨rfl, hS.trans (hb.mono hS.size)⟩)) ?_ ?_
          rotate_left 1
          · go_simp
          · go_simp
            exact rfl
          iterate 2
            refine steady_val ?_ ?_ (by kernel_rfl) (fun W hS => ?_) ?_ ?_
            rotate_left 2
            · go_simp
              exact rfl
            · go_simp
              exact rfl
          refine steady_nil ?_
          intro W hS
          have HY2 := Lib.hid (HY.out.low hS)
          clear hS HY
          go_wp2_with fail
          go_roundw
          case rel => exact ⟨k + 1, u, by omega, by go_num, HY2.out⟩
          case measure => simp [intOf]; omega
        · have hba : Below wr.drew.heap.size wr.drew (wr.drew.alloc (.cells (refV (zero 0)) RfT)) := (Below.refl _ _).alloc (Nat.le_refl _) _
          have hgx := hp0.x.lt
          have hgl := hp0.fl.r.lt
          refine wpOp_valB (.pointer (some ⟨wr.drew.heap.size, 0, none⟩)) (wr.drew.alloc (.cells (refV (zero 0)) RfT)) _ rfl (by kernel_rfl) (exec_alloc RfT rfl (.agg (refV (zero 0))) (zero_rf _)) rfl ?_
          have h10 : CsAt (wr.drew.alloc (.cells (refV (zero 0)) RfT)) wr.drew.heap.size RfT (refV (zero 0)) := CsAt.new _ _ _
          have hp1 := hp0.low hba
          clear hba
          refine ⟨⟨hp1.x, hp1.bel⟩, ?_⟩
          obtain ⟨c10, hcc⟩ : ∃ c, wr.drew.heap.size = c := ⟨_, rfl⟩
          rw [hcc] at h10 ⊢
          have hc10 : wr.drew.heap.size ≤ c10 := Nat.le_of_eq hcc
          refine wpAnyH_all (fuel := 7) (rs := [5]) (by kernel_rfl) (by decide) ?_
          intro i hi
          obtain rfl : i = 5 := by simpa using hi
          refine wpOp_callX 32 #[.pointer (some ⟨g, 0, none⟩), .agg (refV s), .agg d.cells] rfl (by kernel_rfl) (by go_simp) ?_
          refine (HDO.out _ hp1.n hp1.k hp1.fl).mono ?_
          rintro e w5 ⟨rfl, hq⟩
          have hz := hp1.fq hq
          replace h10 := hq.chg.cs h10 (fun (e : c10 = g) => absurd hgl (by rw [← e]; exact Nat.not_lt.2 hc10))
          clear hq hp1
          refine ⟨_, rfl, ⟨hz.x, hz.bel⟩, ?_⟩
          refine takeH (fuel := 6) (i := 6) (.tuple #[.agg (refV u), .int .u64 a, .int .u64 a]) ?_ rfl (by kernel_rfl) (by kernel_rfl) (by kernel_rfl) (fun _ _ _ h => h) (by kernel_rfl) (fun W hS => by go_simp) ⟨hz.x, hz.bel⟩ ?_ ?_
          rotate_left 1
          · go_simp
            exact rfl
          refine takeH (fuel := 5) (i := 7) (.agg (refV u)) ?_ rfl (by kernel_rfl) (by kernel_rfl) (by kernel_rfl) (fun _ _ _ h => h) (by kernel_rfl) (fun W hS => by go_simp) ⟨hz.x, hz.bel⟩ ?_ ?_
          rotate_left 1
          · go_simp
            exact rfl
          refine takeH (fuel := 4) (i := 8) (.int .u64 a) ?_ rfl (by kernel_rfl) (by kernel_rfl) (by kernel_rfl) (fun _ _ _ h => h) (by kernel_rfl) (fun W hS => by go_simp) ⟨hz.x, hz.bel⟩ ?_ ?_
          rotate_left 1
          · go_simp
            exact rfl
          refine takeH (fuel := 3) (i := 9) (.int .u64 a) ?_ rfl (by kernel_rfl) (by kernel_rfl) (by kernel_rfl) (fun _ _ _ h => h) (by kernel_rfl) (fun W hS => by go_simp) ⟨hz.x, hz.bel⟩ ?_ ?_
          rotate_left 1
          · go_simp
            exact rfl
          refine wpAnyH_all (fuel := 2) (rs := [11]) (by kernel_rfl) (by decide) ?_
          intro i hi
          obtain rfl : i = 11 := by simpa using hi
          refine wpOp_unitB (w5.setRow c10 (refV u)) _ rfl (by kernel_rfl) (exec_store_row RfT _ _ rfl c10 (refV u) rfl rfl RfT _ h10 (iRf _) (by rw [refV_size, refV_size]) (rfV_one _)) rfl ?_
          have hne : c10 ≠ gx := fun e => absurd hgx (by rw [← e]; exact Nat.not_lt.2 hc10)
          have hn2 : c10 ≠ g := fun e => absurd hgl (by rw [← e]; exact Nat.not_lt.2 hc10)
          have hc2 : Chg (one c10) w5 (w5.setRow c10 (refV u)) := Chg.of_row (S := one c10) rfl _
          have hfar := new_far HT.out.1 HT.out.2 (Nat.le_trans hs0.size hc10)
          have hz2 : PzS w (w5.setRow c10 (refV u)) g gx s u := ⟨⟨hz.fl.r.rowFar hn2.symm _, hz.fl.ok⟩, hz.x.rowFar hne.symm _, hz.n.chg hc2 (fun (e : 3 = c10) => hfar.1 e.symm), hz.k.chg hc2 (fun (e : 2 = c10) => hfar.2 e.symm), hz.hg, hz.hx, hz.ne, hz.far, hz.farx, below_setRow hz.bel (Nat.le_trans hs0.size hc10) _⟩
          have h11 := h10.row (refV u)
          refine ⟨⟨hz2.x, hz2.bel⟩, ?_⟩
          refine takeH (fuel := 1) (i := 12) (.int .u64 a) ?_ rfl (by kernel_rfl) (by kernel_rfl) (by kernel_rfl) (fun _ _ _ h => h) (by kernel_rfl) (fun W hS => by go_simp) ⟨hz2.x, hz2.bel⟩ ?_ ?_
          rotate_left 1
          · go_simp
            exact rfl
          refine takeH (fuel := 0) (i := 13) (.int .u64 a) ?_ rfl (by kernel_rfl) (by kernel_rfl) (by kernel_rfl) (fun _ _ _ h => h) (by kernel_rfl) (fun W hS => by go_simp) ⟨hz2.x, hz2.bel⟩ ?_ ?_
          rotate_left 1
          · go_simp
            exact rfl
          refine wpAnyH_done (by kernel_rfl) ?_ _
          refine NoPanic.normal ?_
          have HZ := Lib.hid hz2
          have H11 := Lib.hid h11
          generalize w5.setRow c10 (refV u) = wz at *
          clear hz hz2 h10 h11 hc10 hne hn2 hc2 hfar hgx hgl hp0 hs0
          go_upto_region 10 with (first
            | (refine wpList_load_row rfl RfT _ rfl c10 rfl RfT _ (0, 0) _ H11.out Tryd.underlying58 rfl (iRf _) ?_)
            | (refine wpList_store_row rfl RfT _ _ rfl gx (refV u) rfl rfl RfT _ HZ.out.x (iRf _) (by rw [refV_size, refV_size]) (rfV_one _) ?_))
          have HY := Lib.hid HZ.out.row
          generalize wz.setRow gx (refV u) = wy at *
          have haa : (a == a) = true := by simp
          obtain ⟨kd, ⟨op, rd, rs1, rs2, imm, csr, aq, rl⟩, dv, dl, dr⟩ := d
          dsimp only [Df.cells, Ix.cells] at HDC
          have HSM := Lib.hid (fun W (hS : Below wy.heap.size wy W) => same22_c g u (HY.out.fl.ok) dl (lt64 HIN.out.lines) W (HY.out.low hS).k (HY.out.low hS).fl)
          have HXW := Lib.hid (fun W (hS : Below wy.heap.size wy W) => (HY.out.low hS).x)
          have HYB := Lib.hid (fun W (hS : Below wy.heap.size wy W) => (HY.out.low hS).bel)
          have HW1 := Lib.hid (fun W => fwrites_c op rs1 W)
          have HW2 := Lib.hid (fun W => rwrites22_c op rs1 W)
          generalize wrS op rs1 = wr' at *
          have hww : (wr' == wr') = true := by simp
          refine wp_region_steady (fun W => Below wy.heap.size wy W) (by kernel_rfl) (by kernel_rfl) (Below.drew (Below.refl _ _)) ?_
          iterate 4
            refine steady_val ?_ ?_ (by kernel_rfl) (fun W hS => ?_) ?_ ?_
            rotate_left 2
            · go_simp
              exact rfl
            · go_simp
              exact rfl
          refine steady_val (.agg (refV u)) ?_ (by kernel_rfl) (fun W hS => exec_load_row RfT _ rfl gx rfl RfT _ _ (HXW.out _ hS) Tryd.underlying58 rfl (iRf _)) ?_ ?_
          rotate_left 1
          · go_simp
            exact rfl
          iterate 4
            refine steady_val ?_ ?_ (by kernel_rfl) (fun W hS => ?_) ?_ ?_
            rotate_left 2
            · go_simp
              exact rfl
            · go_simp
              exact rfl
          refine steady_val ?_ ?_ (by kernel_rfl) (fun W hS => ?_) ?_ ?_
          rotate_left 2
          · have q := HDC.out W (HYB.out W hS) 10 (by omega); simp only [List.getElem?_toArray, List.getElem?_cons_zero, List.getElem?_cons_succ] at q; go_simp
            exact rfl
          · go_simp
            exact rfl
          refine steady_enter (.bool true) 33 #[.pointer (some ⟨g, 0, none⟩), .agg (refV u), .int .u64 dl] ?_ (by kernel_rfl) (fun W hS => ?_) (fun W hS => (HSM.out W hS).mono (by rintro e w' ⟨rfl, hb⟩; exact ⟨rfl, hS.trans (hb.mono hS.size)⟩)) ?_ ?_
          rotate_left 1
          · go_simp
          · go_simp
            exact rfl
          iterate 3
            refine steady_val ?_ ?_ (by kernel_rfl) (fun W hS => ?_) ?_ ?_
            rotate_left 2
            · go_simp
              exact rfl
            · go_simp
              exact rfl
          iterate 5
            refine steady_val ?_ ?_ (by kernel_rfl) (fun W hS => ?_) ?_ ?_
            rotate_left 2
            · go_simp
              exact rfl
            · go_simp
              exact rfl
          refine steady_val ?_ ?_ (by kernel_rfl) (fun W hS => ?_) ?_ ?_
          rotate_left 2
          · have q := HDC.out W (HYB.out W hS) 1 (by omega); simp only [List.getElem?_toArray, List.getElem?_cons_zero, List.getElem?_cons_succ] at q; go_simp
            exact rfl
          · go_simp
            exact rfl
          iterate 5
            refine steady_val ?_ ?_ (by kernel_rfl) (fun W hS => ?_) ?_ ?_
            rotate_left 2
            · go_simp
              exact rfl
            · go_simp
              exact rfl
          refine steady_val ?_ ?_ (by kernel_rfl) (fun W hS => ?_) ?_ ?_
          rotate_left 2
          · have q := HDC.out W (HYB.out W hS) 3 (by omega); simp only [List.getElem?_toArray, List.getElem?_cons_zero, List.getElem?_cons_succ] at q; go_simp
            exact rfl
          · go_simp
            exact rfl
          refine steady_enter (.bool wr') 34 #[.int .i64 op, .int .i64 rs1] ?_ (by kernel_rfl) (fun W hS => ?_) (fun W hS => (HW1.out W).mono (by rintro e w' ⟨rfl, rfl⟩; exact ⟨rfl, hS⟩)) ?_ ?_
          rotate_left 1
          · go_simp
          · go_simp
            exact rfl
          iterate 5
            refine steady_val ?_ ?_ (by kernel_rfl) (fun W hS => ?_) ?_ ?_
            rotate_left 2
            · go_simp
              exact rfl
            · go_simp
              exact rfl
          refine steady_val ?_ ?_ (by kernel_rfl) (fun W hS => ?_) ?_ ?_
          rotate_left 2
          · have q := HDC.out W (HYB.out W hS) 1 (by omega); simp only [List.getElem?_toArray, List.getElem?_cons_zero, List.getElem?_cons_succ] at q; go_simp
            exact rfl
          · go_simp
            exact rfl
          iterate 5
            refine steady_val ?_ ?_ (by kernel_rfl) (fun W hS => ?_) ?_ ?_
            rotate_left 2
            · go_simp
              exact rfl
            · go_simp
              exact rfl
          refine steady_val ?_ ?_ (by kernel_rfl) (fun W hS => ?_) ?_ ?_
          rotate_left 2
          · have q := HDC.out W (HYB.out W hS) 3 (by omega); simp only [List.getElem?_toArray, List.getElem?_cons_zero, List.getElem?_cons_succ] at q; go_simp
            exact rfl
          · go_simp
            exact rfl
          refine steady_enter (.bool wr') 35 #[.int .i64 op, .int .i64 rs1] ?_ (by kernel_rfl) (fun W hS => ?_) (fun W hS => (HW2.out W).mono (by rintro e w' ⟨rfl, hb⟩; exact ⟨rfl, hS.trans (hb.mono hS.size)⟩)) ?_ ?_
          rotate_left 1
          · go_simp
          · go_simp
            exact rfl
          iterate 2
            refine steady_val ?_ ?_ (by kernel_rfl) (fun W hS => ?_) ?_ ?_
            rotate_left 2
            · go_simp
              exact rfl
            · go_simp
              exact rfl
          refine steady_nil ?_
          intro W hS
          have HY2 := Lib.hid (HY.out.low hS)
          clear hS HY
          go_wp2_with fail
          go_roundw
          case rel => exact ⟨k + 1, u, by omega, by go_num, HY2.out⟩
          case measure => simp [intOf]; omega
      · obtain rfl : k = n := by omega
        have e0 : decide ((k : Int) < (k : Int)) = false := by simp
        have OK := Lib.hid HR.out.fl.ok
        clear HDS
        go_upto_region 13 with (first
          | (refine wpList_load_row rfl FlT _ rfl g rfl FlT _ (0, 0) _ HR.out.fl.r Tryd.underlying54 rfl (iFl _) ?_)
          | (refine wpList_allocY rfl _ rfl FlT rfl (fileV (zero 0)) (zero_fl _) ?_)
          | (refine wpList_storeNew (w0 := wr) rfl FlT _ _ rfl (fileV (zero 0)) (fileV s) FlT rfl rfl (iFl _) (by rw [fileV_size, fileV_size]) (flV_one _) ?_))
        have hba : Below wr.heap.size wr (wr.alloc (.cells (fileV s) FlT)) := (Below.refl _ _).alloc (Nat.le_refl _) _
        have HP5 := Lib.hid (HR.out.low hba)
        have HWA := Lib.hid (show FlAt (wr.alloc (.cells (fileV s) FlT)) wr.heap.size s from ⟨CsAt.new wr FlT _, OK.out⟩)
        have hng : g ≠ wr.heap.size := fun e => absurd HR.out.fl.r.lt (by rw [e]; exact Nat.lt_irrefl _)
        clear hba HR
        generalize wr.alloc (.cells (fileV s) FlT) = w5 at *
        generalize wr.heap.size = gw at *
        go_wp2_with fail
        refine (fturn_c g true s _ HP5.out.k HP5.out.far.2 HP5.out.fl).mono ?_
        rintro e w6 ⟨rfl, hq⟩
        have HW6 := Lib.hid (show FlAt w6 gw s from ⟨hq.chg.cs HWA.out.r (fun (e : gw = g) => hng e.symm), OK.out⟩)
        have HP6 := Lib.hid (HP5.out.fq hq)
        clear hq HP5 HWA
        go_wp2_with (refine wpList_load_row rfl RfT _ rfl gx rfl RfT _ (0, 0) _ HP6.out.x Tryd.underlying58 rfl (iRf _) ?_)
        refine (same22_c gw s OK.out v HVV.out _ HP6.out.k HW6.out).mono ?_
        rintro e w7 ⟨rfl, hb⟩
        have HP7 := Lib.hid (HP6.out.low hb)
        clear hb HP6 HW6
        go_wp2_with (refine wpList_load_rowF (by rfl) RfT _ rfl gx rfl RfT _ (0, 0) _ HP7.out.x Tryd.underlying58 rfl (iRf _) ?_)
        refine (rturn22_c s true _).mono ?_
        rintro e w8 ⟨rfl, hb⟩
        have HP8 := Lib.hid (HP7.out.low hb)
        clear hb HP7
        go_wp2_with fail
        refine (same22_c g (turnS s true) HP8.out.fl.ok v HVV.out _ HP8.out.k HP8.out.fl).mono ?_
        rintro e w9 ⟨rfl, hb⟩
        have HP9 := Lib.hid (HP8.out.low hb)
        clear hb HP8
        go_wp2_with fail
        refine (live22_c _ HP9.out.n HP9.out.k).mono ?_
        rintro e wz ⟨rfl, hb⟩
        have HZ := Lib.hid (HP9.out.bel.trans (hb.mono HP9.out.bel.size))
        clear hb
        go_wp2_with fail
        go_ret
        exact ⟨rfl, HZ.out⟩
end Go.Proofs.YtfjdalepaacmgaaDoor
