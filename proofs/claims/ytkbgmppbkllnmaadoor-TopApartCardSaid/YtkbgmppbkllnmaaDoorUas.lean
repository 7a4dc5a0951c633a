/-
  Layer 23's Files: a file of the program's, and the reference's, behind some deeds. What came in, opened: a cause. What came in, opened: a trap.
-/
import Derived.Test.YtkbgmppbkllnmaaDoorUar
import Derived.Test.YtkbgmppbkllnmaaDoorUap
import Derived.Test.YtkbgmppbkllnmaaDoorUac
import Derived.Deep.Slices
import Derived.OpenShut
set_option maxRecDepth 20000
namespace Go.Proofs.YtkbgmppbkllnmaaDoor
open Go.ChangeShapes Go.WideShapes Go.ChangeAt Go.RowKit Wd Csr Sta Cf

theorem Al.nxt {s : S} (ok : Ok s) (h : Al s) (d : Df) : Al (nxtS s d) := by
  unfold nxtS doS
  repeat' split
  · exact h.set ok _ _
  · exact h.set ok _ _
  · exact h
  · exact h
  · exact h.turn _
theorem results_ccF {F : Func} {x y : Tmp} (t1 t2 : TypeId) (hF : F.results = #[.cell x t1, .cell y t2]) (tmps : Array Value) (w : World) (b c : Nat) (cs ds : Array Value) (h2 : tmps.getD x undef = .pointer (some ⟨b, 0, none⟩)) (h3 : tmps.getD y undef = .pointer (some ⟨c, 0, none⟩))
    (l1 : (loadVar t1 ⟨b, 0, none⟩).run Tryd.prog w = .ok (.agg cs) w) (l2 : (loadVar t2 ⟨c, 0, none⟩).run Tryd.prog w = .ok (.agg ds) w) : (results F tmps).run Tryd.prog w = .ok (.tuple #[.agg cs, .agg ds]) w := by
  have h2' : tmps[x]?.getD undef = .pointer (some ⟨b, 0, none⟩) := by simpa using h2
  have h3' : tmps[y]?.getD undef = .pointer (some ⟨c, 0, none⟩) := by simpa using h3
  simp [results, hF, h2', h3', asAddr, l1, l2]
set_option maxHeartbeats 16000000 in
theorem files_c (ao : Option Addr) (n cap : Nat) (l : List Df) (w : World) (hds : Dfs w ao n l) (hT : RowsIn w ∧ KeptIn w) :
    Calls Tryd.prog 11 #[.slice ao n cap] w fun e w' => ∃ s, Ok s ∧ Al s ∧ e = .returned (.tuple #[.agg (fileV s), .agg (refV s)]) ∧ Below w.heap.size w w' := by
  have hmx := hds.max
  have hb0 : Below w.heap.size w ((w.alloc (.cells (fileV (zero 0)) FlT)).alloc (.cells (refV (zero 0)) RfT)) := ((Below.refl _ _).alloc (Nat.le_refl _) _).alloc (by simp) _
  have HDS := Lib.hid (hds.low hb0)
  have HT := Lib.hid (show RowsIn _ ∧ KeptIn _ from ⟨hT.1.low hb0, hT.2.low hb0⟩)
  have HNW := Lib.hid (fnew_c 1 ⟨by omega, by omega⟩ _ HT.out.2)
  have HRN := Lib.hid (fun W => rnew22_c 1 W)
  have HBA := Lib.hid hb0
  have HRA := Lib.hid (show CsAt ((w.alloc (.cells (fileV (zero 0)) FlT)).alloc (.cells (refV (zero 0)) RfT)) w.heap.size FlT (fileV (zero 0)) ∧ CsAt ((w.alloc (.cells (fileV (zero 0)) FlT)).alloc (.cells (refV (zero 0)) RfT)) (w.heap.size + 1) RfT (refV (zero 0)) from
    ⟨(CsAt.new w FlT _).alloc _, by simpa using CsAt.new (w.alloc (.cells (fileV (zero 0)) FlT)) RfT (refV (zero 0))⟩)
  clear hds hT hb0
  go_enter Tryd.func11, Tryd.ntmps11
  go_upto_region 1 with (first
    | (refine wpList_allocY rfl _ rfl FlT rfl (fileV (zero 0)) (zero_fl _) ?_)
    | (refine wpList_allocY rfl _ rfl RfT rfl (refV (zero 0)) (zero_rf _) ?_))
  generalize ((w.alloc (.cells (fileV (zero 0)) FlT)).alloc (.cells (refV (zero 0)) RfT)) = w0 at *
  go_wp2_with fail
  refine HNW.out.mono ?_
  rintro e w1 ⟨rfl, hb1⟩
  have HB1 := Lib.hid hb1
  clear hb1 HNW
  go_upto_region 2 with (first
    | (refine wpList_allocY rfl _ rfl FlT rfl (fileV (zero 0)) (zero_fl _) ?_)
    | (refine wpList_storeNew (w0 := w1) rfl FlT _ _ rfl (fileV (zero 0)) (fileV (new 1)) FlT rfl rfl (iFl _) (by rw [fileV_size, fileV_size]) (flV_one _) ?_))
  have HF1 := Lib.hid (CsAt.new w1 FlT (fileV (new 1)))
  have HB2 := Lib.hid (HB1.out.alloc HB1.out.size (.cells (fileV (new 1)) FlT))
  have HSZ1 := Lib.hid (show (w1.alloc (.cells (fileV (new 1)) FlT)).heap.size = w1.heap.size + 1 by simp)
  generalize w1.alloc (.cells (fileV (new 1)) FlT) = w2 at *
  go_wp2_with fail
  refine (HRN.out _).mono ?_
  rintro e w3 ⟨rfl, hb3⟩
  have HF2 := Lib.hid (HF1.out.low hb3)
  have HB3 := Lib.hid (HB2.out.trans (hb3.mono HB2.out.size))
  have hg3 := hb3.size
  clear hb3
  go_upto_region 3 with (first
    | (refine wpList_allocY rfl _ rfl RfT rfl (refV (zero 0)) (zero_rf _) ?_)
    | (refine wpList_storeNew (w0 := w3) rfl RfT _ _ rfl (refV (zero 0)) (refV (new 1)) RfT rfl rfl (iRf _) (by rw [refV_size, refV_size]) (rfV_one _) ?_))
  have hb4 : Below w3.heap.size w3 (w3.alloc (.cells (refV (new 1)) RfT)) := (Below.refl _ _).alloc (Nat.le_refl _) _
  have HB4 := HB3.out.trans (hb4.mono HB3.out.size)
  have hs1 := HB1.out.size
  have hs2 := HSZ1.out
  have HP := Lib.hid (show PyS w0 (w3.alloc (.cells (refV (new 1)) RfT)) w1.heap.size w3.heap.size (new 1) from
    ⟨⟨HF2.out.low hb4, new_ok ⟨by omega, by omega⟩⟩, CsAt.new w3 RfT _, HT.out.1.low HB4, HT.out.2.low HB4, hs1, by omega, by omega, new_far HT.out.1 HT.out.2 hs1, new_far HT.out.1 HT.out.2 (by omega), HB4⟩)
  clear hb4 HB4 hs1 hs2 hg3 HB1 HB2 HB3 HF1 HF2 HSZ1 HRN
  generalize w3.alloc (.cells (refV (new 1)) RfT) = w4 at *
  generalize w1.heap.size = g at *
  generalize w3.heap.size = gx at *
  go_wp2_with fail
  go_loopw [6] (fun i wr => ∃ (k : Nat) (s : S), k ≤ n ∧ i = .int .i64 k ∧ PyS w0 wr g gx s ∧ Al s) (fun i _ => n - (intOf i).toNat)
  case atStart => exact ⟨0, new 1, Nat.zero_le _, rfl, HP.out, al_new 1⟩
  case round =>
    clear HP
    obtain ⟨k, s, hk, rfl, hp, hal⟩ := hrel
    have HR := Lib.hid hp
    have HAL := Lib.hid hal
    clear hp hal
    by_cases hlt : k < n
    · have e0 : decide ((k : Int) < (n : Int)) = true := by simp; omega
      obtain ⟨db, off, rfl, hdl, hcells⟩ := HDS.out.at_ (by omega)
      have HIN := Lib.hid (HDS.out.each k hlt)
      have HDC := Lib.hid (fun (W : World) (hb : Below w0.heap.size w0 W) (f : Nat) (hf : f < 12) => df_row (W := W) (hcells k hlt) hdl hb f hf)
      have gk : (k : Int) < (n : Int) := by omega
      clear hcells
      generalize l.getD k Df.zero = d at *
      have HDO := Lib.hid (fun W (hn : RowsIn W) (hk : KeptIn W) (h : FlAt W g s) => do22_c g s d HIN.out W hn hk HR.out.far h)
      have HAU := Lib.hid (HAL.out.nxt HR.out.fl.ok d)
      generalize hu : nxtS s d = u at *
      generalize tolS s d = a at *
      clear hu
      go_upto_region 6 with fail
      have hp0 := HR.out.drew
      have hs0 := hp0.bel
      refine wp_region_noPanic ?_
      refine wp_region_held (S := fun V => CsAt V gx RfT (refV s) ∧ Below w0.heap.size w0 V) (by kernel_rfl) ?_
      refine takeH (fuel := 13) (i := 0) (.agg (refV s)) ?_ rfl (by kernel_rfl) (by kernel_rfl) (by kernel_rfl) (fun _ _ _ h => h) (by kernel_rfl) (fun W hS => exec_load_row RfT _ rfl gx rfl RfT _ _ hS.1 Tryd.underlying38 rfl (iRf _)) ⟨hp0.x, hs0⟩ ?_ ?_
      rotate_left 1
      · go_simp
        exact rfl
      refine takeH (fuel := 12) (i := 1) (.slice (some ⟨db, off, none⟩) n cap) ?_ rfl (by kernel_rfl) (by kernel_rfl) (by kernel_rfl) (fun _ _ _ h => h) (by kernel_rfl) (fun W hS => by go_simp) ⟨hp0.x, hs0⟩ ?_ ?_
      rotate_left 1
      · go_simp
        exact rfl
      refine takeH (fuel := 11) (i := 2) (.int .i64 (k : Int)) ?_ rfl (by kernel_rfl) (by kernel_rfl) (by kernel_rfl) (fun _ _ _ h => h) (by kernel_rfl) (fun W hS => by go_simp) ⟨hp0.x, hs0⟩ ?_ ?_
      rotate_left 1
      · go_simp
        exact rfl
      refine takeH (fuel := 10) (i := 3) (.pointer (some ⟨db, off + k * 12, none⟩)) ?_ rfl (by kernel_rfl) (by kernel_rfl) (by kernel_rfl) (fun _ _ _ h => h) (by kernel_rfl) (fun W hS => by go_simp) ⟨hp0.x, hs0⟩ ?_ ?_
      rotate_left 1
      · go_simp
        exact rfl
      refine takeH (fuel := 9) (i := 4) (.agg d.cells) ?_ rfl (by kernel_rfl) (by kernel_rfl) (by kernel_rfl) (fun _ _ _ h => h) (by kernel_rfl) (fun W hS => by (have q0 := HDC.out W hS.2 0 (by omega); have q1 := HDC.out W hS.2 1 (by omega); have q2 := HDC.out W hS.2 2 (by omega); have q3 := HDC.out W hS.2 3 (by omega); have q4 := HDC.out W hS.2 4 (by omega); have q5 := HDC.out W hS.2 5 (by omega); have q6 := HDC.out W hS.2 6 (by omega); have q7 := HDC.out W hS.2 7 (by omega); have q8 := HDC.out W hS.2 8 (by omega); have q9 := HDC.out W hS.2 9 (by omega); have q10 := HDC.out W hS.2 10 (by omega); have q11 := HDC.out W hS.2 11 (by omega); simp only [Nat.add_zero, List.getElem?_toArray, List.getElem?_cons_zero, List.getElem?_cons_succ] at q0 q1 q2 q3 q4 q5 q6 q7 q8 q9 q10 q11; go_simp)) ⟨hp0.x, hs0⟩ ?_ ?_
      rotate_left 1
      · go_simp
        exact rfl
      refine wpAnyH_all (fuel := 8) (rs := [5, 10]) (by kernel_rfl) (by decide) ?_
      intro i hi
      simp only [List.mem_cons, List.not_mem_nil, or_false] at hi
      rcases hi with rfl | rfl
      · refine wpOp_callX 33 #[.pointer (some ⟨g, 0, none⟩), .agg (refV s), .agg d.cells] rfl (by kernel_rfl) (by go_simp) ?_
        refine (HDO.out _ hp0.n hp0.k hp0.fl).mono ?_
        rintro e w5 ⟨rfl, hq⟩
        have hz := hp0.fq hq
        have hz0 := hq.chg
        clear hq
        refine ⟨_, rfl, ⟨hz.x, hz.bel⟩, ?_⟩
        refine takeH (fuel := 7) (i := 6) (.tuple #[.agg (refV u), .int .u64 a, .int .u64 a]) ?_ rfl (by kernel_rfl) (by kernel_rfl) (by kernel_rfl) (fun _ _ _ h => h) (by kernel_rfl) (fun W hS => by go_simp) ⟨hz.x, hz.bel⟩ ?_ ?_
        rotate_left 1
        · go_simp
          exact rfl
        refine takeH (fuel := 6) (i := 7) (.agg (refV u)) ?_ rfl (by kernel_rfl) (by kernel_rfl) (by kernel_rfl) (fun _ _ _ h => h) (by kernel_rfl) (fun W hS => by go_simp) ⟨hz.x, hz.bel⟩ ?_ ?_
        rotate_left 1
        · go_simp
          exact rfl
        refine takeH (fuel := 5) (i := 8) (.int .u64 a) ?_ rfl (by kernel_rfl) (by kernel_rfl) (by kernel_rfl) (fun _ _ _ h => h) (by kernel_rfl) (fun W hS => by go_simp) ⟨hz.x, hz.bel⟩ ?_ ?_
        rotate_left 1
        · go_simp
          exact rfl
        refine takeH (fuel := 4) (i := 9) (.int .u64 a) ?_ rfl (by kernel_rfl) (by kernel_rfl) (by kernel_rfl) (fun _ _ _ h => h) (by kernel_rfl) (fun W hS => by go_simp) ⟨hz.x, hz.bel⟩ ?_ ?_
        rotate_left 1
        · go_simp
          exact rfl
        refine wpAnyH_all (fuel := 3) (rs := [10]) (by kernel_rfl) (by decide) ?_
        intro i hi
        obtain rfl : i = 10 := by simpa using hi
        have hba : Below w5.heap.size w5 (w5.alloc (.cells (refV (zero 0)) RfT)) := (Below.refl _ _).alloc (Nat.le_refl _) _
        have hgx := hp0.x.lt
        have hgl := hp0.fl.r.lt
        have hw5 : wr.drew.heap.size ≤ w5.heap.size := hz0.size
        refine wpOp_valB (.pointer (some ⟨w5.heap.size, 0, none⟩)) (w5.alloc (.cells (refV (zero 0)) RfT)) _ rfl (by kernel_rfl) (exec_alloc RfT rfl (.agg (refV (zero 0))) (zero_rf _)) rfl ?_
        have h10 : CsAt (w5.alloc (.cells (refV (zero 0)) RfT)) w5.heap.size RfT (refV (zero 0)) := CsAt.new _ _ _
        replace hz := hz.low hba
        clear hba
        refine ⟨⟨hz.x, hz.bel⟩, ?_⟩
        obtain ⟨c10, hcc⟩ : ∃ c, w5.heap.size = c := ⟨_, rfl⟩
        rw [hcc] at h10 hw5 ⊢
        have hc10 : wr.drew.heap.size ≤ c10 := hw5
        clear hw5
        refine wpAnyH_all (fuel := 2) (rs := [11]) (by kernel_rfl) (by decide) ?_
        intro i hi
        obtain rfl : i = 11 := by simpa using hi
        refine wpOp_unitB ((w5.alloc (.cells (refV (zero 0)) RfT)).setRow c10 (refV u)) _ rfl (by kernel_rfl) (exec_store_row RfT _ _ rfl c10 (refV u) rfl rfl RfT _ h10 (iRf _) (by rw [refV_size, refV_size]) (rfV_one _)) rfl ?_
        have hne : c10 ≠ gx := fun e => absurd hgx (by rw [← e]; exact Nat.not_lt.2 hc10)
        have hn2 : c10 ≠ g := fun e => absurd hgl (by rw [← e]; exact Nat.not_lt.2 hc10)
        have hc2 : Chg (one c10) (w5.alloc (.cells (refV (zero 0)) RfT)) ((w5.alloc (.cells (refV (zero 0)) RfT)).setRow c10 (refV u)) := Chg.of_row (S := one c10) rfl _
        have hfar := new_far HT.out.1 HT.out.2 (Nat.le_trans hs0.size hc10)
        have hz2 : PzS w0 ((w5.alloc (.cells (refV (zero 0)) RfT)).setRow c10 (refV u)) g gx s u := ⟨⟨hz.fl.r.rowFar hn2.symm _, hz.fl.ok⟩, hz.x.rowFar hne.symm _, hz.n.chg hc2 (fun (e : 2 = c10) => hfar.1 e.symm), hz.k.chg hc2 (fun (e : 1 = c10) => hfar.2 e.symm), hz.hg, hz.hx, hz.ne, hz.far, hz.farx, below_setRow hz.bel (Nat.le_trans hs0.size hc10) _⟩
        have h11 := h10.row (refV u)
        refine ⟨⟨hz2.x, hz2.bel⟩, ?_⟩
        refine takeH (fuel := 1) (i := 12) (.int .u64 a) ?_ rfl (by kernel_rfl) (by kernel_rfl) (by kernel_rfl) (fun _ _ _ h => h) (by kernel_rfl) (fun W hS => by go_simp) ⟨hz2.x, hz2.bel⟩ ?_ ?_
        rotate_left 1
        · go_simp
          exact rfl
        refine takeH (fuel := 0) (i := 13) (.int .u64 a) ?_ rfl (by kernel_rfl) (by kernel_rfl) (by kernel_rfl) (fun _ _ _ h => h) (by kernel_rfl) (fun W hS => by go_simp) ⟨hz2.x, hz2.bel⟩ ?_ ?_
        rotate_left 1
        · go_simp
          exact rfl
        refine wpAnyH_done (by kernel_rfl) ?_ _
        refine NoPanic.normal ?_
        have HZ := Lib.hid hz2
        have H11 := Lib.hid h11
        generalize (w5.alloc (.cells (refV (zero 0)) RfT)).setRow c10 (refV u) = wz at *
        clear hz hz2 h10 h11 hc10 hne hn2 hc2 hfar hgx hgl hp0 hs0
        go_upto_region 5 with (first
          | (refine wpList_load_row rfl RfT _ rfl c10 rfl RfT _ (0, 0) _ H11.out Tryd.underlying38 rfl (iRf _) ?_)
          | (refine wpList_store_row rfl RfT _ _ rfl gx (refV u) rfl rfl RfT _ HZ.out.x (iRf _) (by rw [refV_size, refV_size]) (rfV_one _) ?_))
        have HY := Lib.hid HZ.out.row
        generalize wz.setRow gx (refV u) = wy at *
        go_wp2_with fail
        go_roundw
        case rel => exact ⟨k + 1, u, by omega, by go_num, HY.out, HAU.out⟩
        case measure => simp [intOf]; omega
      · have hba : Below wr.drew.heap.size wr.drew (wr.drew.alloc (.cells (refV (zero 0)) RfT)) := (Below.refl _ _).alloc (Nat.le_refl _) _
        have hgx := hp0.x.lt
        have hgl := hp0.fl.r.lt
        refine wpOp_valB (.pointer (some ⟨wr.drew.heap.size, 0, none⟩)) (wr.drew.alloc (.cells (refV (zero 0)) RfT)) _ rfl (by kernel_rfl) (exec_alloc RfT rfl (.agg (refV (zero 0))) (zero_rf _)) rfl ?_
        have h10 : CsAt (wr.drew.alloc (.cells (refV (zero 0)) RfT)) wr.drew.heap.size RfT (refV (zero 0)) := CsAt.new _ _ _
        have hp1 := hp0.low hba
        clear hba
        refine ⟨⟨hp1.x, hp1.bel⟩, ?_⟩
        obtain ⟨c10, hcc⟩ : ∃ c, wr.drew.heap.size = c := ⟨_, rfl⟩
        rw [hcc] at h10 ⊢
        have hc10 : wr.drew.heap.size ≤ c10 := Nat.le_of_eq hcc
        refine wpAnyH_all (fuel := 7) (rs := [5]) (by kernel_rfl) (by decide) ?_
        intro i hi
        obtain rfl : i = 5 := by simpa using hi
        refine wpOp_callX 33 #[.pointer (some ⟨g, 0, none⟩), .agg (refV s), .agg d.cells] rfl (by kernel_rfl) (by go_simp) ?_
        refine (HDO.out _ hp1.n hp1.k hp1.fl).mono ?_
        rintro e w5 ⟨rfl, hq⟩
        have hz := hp1.fq hq
        replace h10 := hq.chg.cs h10 (fun (e : c10 = g) => absurd hgl (by rw [← e]; exact Nat.not_lt.2 hc10))
        clear hq hp1
        refine ⟨_, rfl, ⟨hz.x, hz.bel⟩, ?_⟩
        refine takeH (fuel := 6) (i := 6) (.tuple #[.agg (refV u), .int .u64 a, .int .u64 a]) ?_ rfl (by kernel_rfl) (by kernel_rfl) (by kernel_rfl) (fun _ _ _ h => h) (by kernel_rfl) (fun W hS => by go_simp) ⟨hz.x, hz.bel⟩ ?_ ?_
        rotate_left 1
        · go_simp
          exact rfl
        refine takeH (fuel := 5) (i := 7) (.agg (refV u)) ?_ rfl (by kernel_rfl) (by kernel_rfl) (by kernel_rfl) (fun _ _ _ h => h) (by kernel_rfl) (fun W hS => by go_simp) ⟨hz.x, hz.bel⟩ ?_ ?_
        rotate_left 1
        · go_simp
          exact rfl
        refine takeH (fuel := 4) (i := 8) (.int .u64 a) ?_ rfl (by kernel_rfl) (by kernel_rfl) (by kernel_rfl) (fun _ _ _ h => h) (by kernel_rfl) (fun W hS => by go_simp) ⟨hz.x, hz.bel⟩ ?_ ?_
        rotate_left 1
        · go_simp
          exact rfl
        refine takeH (fuel := 3) (i := 9) (.int .u64 a) ?_ rfl (by kernel_rfl) (by kernel_rfl) (by kernel_rfl) (fun _ _ _ h => h) (by kernel_rfl) (fun W hS => by go_simp) ⟨hz.x, hz.bel⟩ ?_ ?_
        rotate_left 1
        · go_simp
          exact rfl
        refine wpAnyH_all (fuel := 2) (rs := [11]) (by kernel_rfl) (by decide) ?_
        intro i hi
        obtain rfl : i = 11 := by simpa using hi
        refine wpOp_unitB (w5.setRow c10 (refV u)) _ rfl (by kernel_rfl) (exec_store_row RfT _ _ rfl c10 (refV u) rfl rfl RfT _ h10 (iRf _) (by rw [refV_size, refV_size]) (rfV_one _)) rfl ?_
        have hne : c10 ≠ gx := fun e => absurd hgx (by rw [← e]; exact Nat.not_lt.2 hc10)
        have hn2 : c10 ≠ g := fun e => absurd hgl (by rw [← e]; exact Nat.not_lt.2 hc10)
        have hc2 : Chg (one c10) w5 (w5.setRow c10 (refV u)) := Chg.of_row (S := one c10) rfl _
        have hfar := new_far HT.out.1 HT.out.2 (Nat.le_trans hs0.size hc10)
        have hz2 : PzS w0 (w5.setRow c10 (refV u)) g gx s u := ⟨⟨hz.fl.r.rowFar hn2.symm _, hz.fl.ok⟩, hz.x.rowFar hne.symm _, hz.n.chg hc2 (fun (e : 2 = c10) => hfar.1 e.symm), hz.k.chg hc2 (fun (e : 1 = c10) => hfar.2 e.symm), hz.hg, hz.hx, hz.ne, hz.far, hz.farx, below_setRow hz.bel (Nat.le_trans hs0.size hc10) _⟩
        have h11 := h10.row (refV u)
        refine ⟨⟨hz2.x, hz2.bel⟩, ?_⟩
        refine takeH (fuel := 1) (i := 12) (.int .u64 a) ?_ rfl (by kernel_rfl) (by kernel_rfl) (by kernel_rfl) (fun _ _ _ h => h) (by kernel_rfl) (fun W hS => by go_simp) ⟨hz2.x, hz2.bel⟩ ?_ ?_
        rotate_left 1
        · go_simp
          exact rfl
        refine takeH (fuel := 0) (i := 13) (.int .u64 a) ?_ rfl (by kernel_rfl) (by kernel_rfl) (by kernel_rfl) (fun _ _ _ h => h) (by kernel_rfl) (fun W hS => by go_simp) ⟨hz2.x, hz2.bel⟩ ?_ ?_
        rotate_left 1
        · go_simp
          exact rfl
        refine wpAnyH_done (by kernel_rfl) ?_ _
        refine NoPanic.normal ?_
        have HZ := Lib.hid hz2
        have H11 := Lib.hid h11
        generalize w5.setRow c10 (refV u) = wz at *
        clear hz hz2 h10 h11 hc10 hne hn2 hc2 hfar hgx hgl hp0 hs0
        go_upto_region 5 with (first
          | (refine wpList_load_row rfl RfT _ rfl c10 rfl RfT _ (0, 0) _ H11.out Tryd.underlying38 rfl (iRf _) ?_)
          | (refine wpList_store_row rfl RfT _ _ rfl gx (refV u) rfl rfl RfT _ HZ.out.x (iRf _) (by rw [refV_size, refV_size]) (rfV_one _) ?_))
        have HY := Lib.hid HZ.out.row
        generalize wz.setRow gx (refV u) = wy at *
        go_wp2_with fail
        go_roundw
        case rel => exact ⟨k + 1, u, by omega, by go_num, HY.out, HAU.out⟩
        case measure => simp [intOf]; omega
    · obtain rfl : k = n := by omega
      have e0 : decide ((k : Int) < (k : Int)) = false := by simp
      have hfl := HR.out.fl.r
      have hrx := HR.out.x
      have hra := HRA.out.1.low HR.out.bel
      have hrb := HRA.out.2.low HR.out.bel
      have HBF := Lib.hid (HBA.out.trans (HR.out.bel.mono HBA.out.size))
      have HH := Lib.hid (show CsAt wr g FlT (fileV s) ∧ CsAt wr gx RfT (refV s) ∧ CsAt wr w.heap.size FlT (fileV (zero 0)) ∧ CsAt wr (w.heap.size + 1) RfT (refV (zero 0)) from ⟨hfl, hrx, hra, hrb⟩)
      have HGN := Lib.hid (show g ≠ w.heap.size ∧ g ≠ w.heap.size + 1 ∧ gx ≠ w.heap.size + 1 from by
        have a := HR.out.hg
        have b := HR.out.hx
        have c := HRA.out.2.lt
        omega)
      have hgn : w.heap.size ≠ gx := fun e => by have := HR.out.hx; have := HRA.out.2.lt; omega
      have OKF := Lib.hid HR.out.fl.ok
      clear hfl hrx hra hrb HDS HR HRA HT
      go_upto_region 8 with fail
      refine wp_region_noPanic ?_
      refine wp_region_held (S := fun V => CsAt V g FlT (fileV s) ∧ CsAt V gx RfT (refV s)) (by kernel_rfl) ?_
      have h1 : CsAt wr.drew g FlT (fileV s) := HH.out.1
      have h2 : CsAt wr.drew gx RfT (refV s) := HH.out.2.1
      refine takeH (fuel := 3) (i := 0) (.agg (fileV s)) ?_ rfl (by kernel_rfl) (by kernel_rfl) (by kernel_rfl) (fun _ _ _ h => h) (by kernel_rfl) (fun W hS => exec_load_row FlT _ rfl g rfl FlT _ _ hS.1 Tryd.underlying35 rfl (iFl _)) ⟨h1, h2⟩ ?_ ?_
      rotate_left 1
      · go_simp
        exact rfl
      refine takeH (fuel := 2) (i := 1) (.agg (refV s)) ?_ rfl (by kernel_rfl) (by kernel_rfl) (by kernel_rfl) (fun _ _ _ h => h) (by kernel_rfl) (fun W hS => exec_load_row RfT _ rfl gx rfl RfT _ _ hS.2 Tryd.underlying38 rfl (iRf _)) ⟨h1, h2⟩ ?_ ?_
      rotate_left 1
      · go_simp
        exact rfl
      refine wpAnyH_all (fuel := 1) (rs := [2]) (by kernel_rfl) (by decide) ?_
      intro i hi
      obtain rfl : i = 2 := by simpa using hi
      refine wpOp_unitB (wr.drew.setRow w.heap.size (fileV s)) _ rfl (by kernel_rfl) (exec_store_row FlT _ _ rfl w.heap.size (fileV s) rfl rfl FlT _ HH.out.2.2.1 (iFl _) (by rw [fileV_size, fileV_size]) (flV_one _)) rfl ?_
      have hng : g ≠ w.heap.size := HGN.out.1
      have k1 : CsAt (wr.drew.setRow w.heap.size (fileV s)) g FlT (fileV s) := h1.rowFar hng _
      have k2 : CsAt (wr.drew.setRow w.heap.size (fileV s)) gx RfT (refV s) := h2.rowFar (fun e => hgn e.symm) _
      have ka : CsAt (wr.drew.setRow w.heap.size (fileV s)) w.heap.size FlT (fileV s) := CsAt.row (show CsAt wr.drew w.heap.size FlT (fileV (zero 0)) from HH.out.2.2.1) _
      have kb : CsAt (wr.drew.setRow w.heap.size (fileV s)) (w.heap.size + 1) RfT (refV (zero 0)) := CsAt.rowFar (show CsAt wr.drew (w.heap.size + 1) RfT (refV (zero 0)) from HH.out.2.2.2) (by omega) _
      refine ⟨⟨k1, k2⟩, ?_⟩
      refine wpAnyH_all (fuel := 0) (rs := [3]) (by kernel_rfl) (by decide) ?_
      intro i hi
      obtain rfl : i = 3 := by simpa using hi
      refine wpOp_unitB ((wr.drew.setRow w.heap.size (fileV s)).setRow (w.heap.size + 1) (refV s)) _ rfl (by kernel_rfl) (exec_store_row RfT _ _ rfl (w.heap.size + 1) (refV s) rfl rfl RfT _ kb (iRf _) (by rw [refV_size, refV_size]) (rfV_one _)) rfl ?_
      have k3 : CsAt ((wr.drew.setRow w.heap.size (fileV s)).setRow (w.heap.size + 1) (refV s)) g FlT (fileV s) := k1.rowFar HGN.out.2.1 _
      have k4 : CsAt ((wr.drew.setRow w.heap.size (fileV s)).setRow (w.heap.size + 1) (refV s)) gx RfT (refV s) := k2.rowFar HGN.out.2.2 _
      have kc := ka.rowFar (show w.heap.size ≠ w.heap.size + 1 by omega) (refV s)
      have kd := kb.row (refV s)
      refine ⟨⟨k3, k4⟩, ?_⟩
      refine wpAnyH_done (by kernel_rfl) ?_ _
      refine NoPanic.normal ?_
      have HZ := Lib.hid (show Below w.heap.size w ((wr.drew.setRow w.heap.size (fileV s)).setRow (w.heap.size + 1) (refV s)) from below_setRow (below_setRow HBF.out.drew (Nat.le_refl _) _) (by omega) _)
      have HC := Lib.hid kc
      have HD := Lib.hid kd
      generalize (wr.drew.setRow w.heap.size (fileV s)).setRow (w.heap.size + 1) (refV s) = wz at *
      clear h1 h2 k1 k2 k3 k4 ka kb kc kd hng
      go_wp2_with fail
      refine bodyPost_ret (results_ccF FlT RfT Tryd.results11 _ wz w.heap.size (w.heap.size + 1) (fileV s) (refV s) rfl rfl ?_ ?_) rfl ⟨s, OKF.out, HAL.out, rfl, HZ.out⟩
      · exact run_loadVar_row _ _ FlT FlT _ (0, 0) _ HC.out Tryd.underlying35 rfl (iFl _)
      · exact run_loadVar_row _ _ RfT RfT _ (0, 0) _ HD.out Tryd.underlying38 rfl (iRf _)
end Go.Proofs.YtkbgmppbkllnmaaDoor
set_option maxRecDepth 20000
namespace Go.Proofs.YtkbgmppbkllnmaaDoor
open Go.ChangeShapes Go.WideShapes Go.ChangeAt Go.RowKit

/-- cause.Cause. -/
structure Kc where
  i : Bool
  c : Int
abbrev Kc.cells (d : Kc) : Array Value := #[.bool d.i, .int .i64 d.c]
def Kc.zero : Kc := ⟨false, 0⟩
structure Kc.In (d : Kc) : Prop where
  c : -9223372036854775808 ≤ d.c ∧ d.c ≤ 9223372036854775807
section
variable {H : Type} {enc : TypeId × Value → H} {w : World} {base : Nat} {spare : Nat → Bool} {held : Bool}
theorem ca_kc_bool : Tryd.prog.cellsOf 4 = 1 := by kernel_rfl
theorem ca_kc_int : Tryd.prog.cellsOf 3 = 1 := by kernel_rfl
theorem ca_kc_cause_Cause : Tryd.prog.cellsOf 24 = 2 := by kernel_rfl
theorem open_Kc_C {cs : List Value} {fuel : Nat} {x : DataW H × List MemPlace} (hlen : cs.length = 2) (hf : DataW.trod enc Tryd.prog w base spare held fuel 24 cs = some x) :
    ∃ d : Kc, cs = d.cells.toList ∧ d.In := by
  obtain ⟨xs, nn, _, hx, _, hxl, hg⟩ := DataW.trod_struct Tryd.underlying24 hf
  have h0 := hg 0 _ rfl
  have h1 := hg 1 _ rfl
  obtain ⟨x0, e0⟩ : ∃ x, xs[0]? = some x := ⟨xs[0]'(by rw [hxl]; decide), List.getElem?_eq_getElem _⟩
  obtain ⟨x1, e1⟩ : ∃ x, xs[1]? = some x := ⟨xs[1]'(by rw [hxl]; decide), List.getElem?_eq_getElem _⟩
  change DataW.trod enc Tryd.prog w base spare held nn 4 (List.take (Tryd.prog.cellsOf 4) (List.drop 0 _)) = _ at h0
  rw [ca_kc_bool, e0] at h0
  change DataW.trod enc Tryd.prog w base spare held nn 3 (List.take (Tryd.prog.cellsOf 3) (List.drop 1 _)) = _ at h1
  rw [ca_kc_int, e1] at h1
  match cs, hlen with
  | [v0, v1], _ =>
    simp only [List.drop_zero, List.drop_succ_cons, List.take_succ_cons, List.take_zero] at h0 h1
    obtain ⟨a0, p0, -⟩ := DataW.trod_bool Tryd.underlying4 h0
    simp only [List.cons.injEq, and_true] at p0
    subst p0
    obtain ⟨a1, p1, -, q1⟩ := DataW.trod_int Tryd.underlying3 h1
    simp only [List.cons.injEq, and_true] at p1
    subst p1
    exact ⟨⟨a0, a1⟩, rfl, ⟨bounds_i64 q1⟩⟩
theorem open_Kc {r : Reach} {b0 : Nat} {v : Value} {d : DataW H} {ps : List MemPlace} (hval : Value.okWide Tryd.prog w r b0 24 v) (hd : DataW.Trod enc Tryd.prog w base spare held 24 v d ps) :
    ∃ q : Kc, v = .agg q.cells ∧ q.In := by
  simp only [Value.okWide, Tryd.underlying24] at hval
  obtain ⟨cs, rfl, hsz, _⟩ := hval
  obtain ⟨fuel, hf⟩ := hd
  rw [ca_kc_cause_Cause] at hsz
  obtain ⟨q, hq, hin⟩ := open_Kc_C (cs := cs.toList) (by simpa using hsz) hf
  refine ⟨q, ?_, hin⟩
  congr 1
  exact Array.ext' hq
end
end Go.Proofs.YtkbgmppbkllnmaaDoor
set_option maxRecDepth 20000
namespace Go.Proofs.YtkbgmppbkllnmaaDoor
open Go.ChangeShapes Go.WideShapes Go.ChangeAt Go.RowKit

/-- roebucklaw23.Trap. -/
structure Tp where
  cause : Kc
  priv : Int
  pc : Int
  tval : Int
abbrev Tp.cells (d : Tp) : Array Value := #[.bool d.cause.i, .int .i64 d.cause.c, .int .i64 d.priv, .int .u64 d.pc, .int .u64 d.tval]
def Tp.zero : Tp := ⟨⟨false, 0⟩, 0, 0, 0⟩
structure Tp.In (d : Tp) : Prop where
  cause : d.cause.In
  priv : -9223372036854775808 ≤ d.priv ∧ d.priv ≤ 9223372036854775807
  pc : 0 ≤ d.pc ∧ d.pc ≤ 18446744073709551615
  tval : 0 ≤ d.tval ∧ d.tval ≤ 18446744073709551615
section
variable {H : Type} {enc : TypeId × Value → H} {w : World} {base : Nat} {spare : Nat → Bool} {held : Bool}
theorem tr_kc_cause_Cause : Tryd.prog.cellsOf 24 = 2 := by kernel_rfl
theorem tr_kc_int : Tryd.prog.cellsOf 3 = 1 := by kernel_rfl
theorem tr_kc_uint64 : Tryd.prog.cellsOf 25 = 1 := by kernel_rfl
theorem tr_kc_roebucklaw23_Trap : Tryd.prog.cellsOf 27 = 5 := by kernel_rfl
theorem open_Tp_C {cs : List Value} {fuel : Nat} {x : DataW H × List MemPlace} (hlen : cs.length = 5) (hf : DataW.trod enc Tryd.prog w base spare held fuel 27 cs = some x) :
    ∃ d : Tp, cs = d.cells.toList ∧ d.In := by
  obtain ⟨xs, nn, _, hx, _, hxl, hg⟩ := DataW.trod_struct Tryd.underlying27 hf
  have h0 := hg 0 _ rfl
  have h1 := hg 1 _ rfl
  have h2 := hg 2 _ rfl
  have h3 := hg 3 _ rfl
  obtain ⟨x0, e0⟩ : ∃ x, xs[0]? = some x := ⟨xs[0]'(by rw [hxl]; decide), List.getElem?_eq_getElem _⟩
  obtain ⟨x1, e1⟩ : ∃ x, xs[1]? = some x := ⟨xs[1]'(by rw [hxl]; decide), List.getElem?_eq_getElem _⟩
  obtain ⟨x2, e2⟩ : ∃ x, xs[2]? = some x := ⟨xs[2]'(by rw [hxl]; decide), List.getElem?_eq_getElem _⟩
  obtain ⟨x3, e3⟩ : ∃ x, xs[3]? = some x := ⟨xs[3]'(by rw [hxl]; decide), List.getElem?_eq_getElem _⟩
  change DataW.trod enc Tryd.prog w base spare held nn 24 (List.take (Tryd.prog.cellsOf 24) (List.drop 0 _)) = _ at h0
  rw [tr_kc_cause_Cause, e0] at h0
  change DataW.trod enc Tryd.prog w base spare held nn 3 (List.take (Tryd.prog.cellsOf 3) (List.drop 2 _)) = _ at h1
  rw [tr_kc_int, e1] at h1
  change DataW.trod enc Tryd.prog w base spare held nn 25 (List.take (Tryd.prog.cellsOf 25) (List.drop 3 _)) = _ at h2
  rw [tr_kc_uint64, e2] at h2
  change DataW.trod enc Tryd.prog w base spare held nn 25 (List.take (Tryd.prog.cellsOf 25) (List.drop 4 _)) = _ at h3
  rw [tr_kc_uint64, e3] at h3
  match cs, hlen with
  | [v0, v1, v2, v3, v4], _ =>
    simp only [List.drop_zero, List.drop_succ_cons, List.take_succ_cons, List.take_zero] at h0 h1 h2 h3
    obtain ⟨a0, p0, i0⟩ := open_Kc_C rfl h0
    simp at p0
    obtain ⟨rfl, rfl⟩ := p0
    obtain ⟨a1, p1, -, q1⟩ := DataW.trod_int Tryd.underlying3 h1
    simp only [List.cons.injEq, and_true] at p1
    subst p1
    obtain ⟨a2, p2, -, q2⟩ := DataW.trod_int Tryd.underlying25 h2
    simp only [List.cons.injEq, and_true] at p2
    subst p2
    obtain ⟨a3, p3, -, q3⟩ := DataW.trod_int Tryd.underlying25 h3
    simp only [List.cons.injEq, and_true] at p3
    subst p3
    exact ⟨⟨a0, a1, a2, a3⟩, rfl, i0, bounds_i64 q1, bounds_u64 q2, bounds_u64 q3⟩
theorem open_Tp {r : Reach} {b0 : Nat} {v : Value} {d : DataW H} {ps : List MemPlace} (hval : Value.okWide Tryd.prog w r b0 27 v) (hd : DataW.Trod enc Tryd.prog w base spare held 27 v d ps) :
    ∃ q : Tp, v = .agg q.cells ∧ q.In := by
  simp only [Value.okWide, Tryd.underlying27] at hval
  obtain ⟨cs, rfl, hsz, _⟩ := hval
  obtain ⟨fuel, hf⟩ := hd
  rw [tr_kc_roebucklaw23_Trap] at hsz
  obtain ⟨q, hq, hin⟩ := open_Tp_C (cs := cs.toList) (by simpa using hsz) hf
  refine ⟨q, ?_, hin⟩
  congr 1
  exact Array.ext' hq
end
end Go.Proofs.YtkbgmppbkllnmaaDoor
