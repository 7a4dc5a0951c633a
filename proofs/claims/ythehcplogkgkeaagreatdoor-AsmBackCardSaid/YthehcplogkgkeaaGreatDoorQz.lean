/-
  The contract of the reference's Parse (layer 6).
-/
import Derived.Test.YthehcplogkgkeaaGreatDoorQw
import Derived.Test.YthehcplogkgkeaaGreatDoorQy
set_option maxRecDepth 4000
namespace Go.Proofs.YthehcplogkgkeaaGreatDoor
open Go.ChangeShapes Go.WideShapes Go.ChangeAt Go.RowKit Wd Num Wds

theorem results_rparse (tmps : Array Value) (w : World) (b : Nat) (cs : Array Value) (n : Int) (h2 : tmps.getD 2 undef = .pointer (some ⟨b, 0, none⟩)) (h3 : tmps.getD 3 undef = .int .i64 n) (hb : CsAt w b 24 cs) (hs : cs.size = 8) :
    (results Tryz.f13 tmps).run Tryz.prog w = .ok (.tuple #[.agg cs, .int .i64 n]) w := by
  have h2' : tmps[2]?.getD undef = .pointer (some ⟨b, 0, none⟩) := by simpa using h2
  have h3' : tmps[3]?.getD undef = .int .i64 n := by simpa using h3
  have hl := run_loadVar_row w b 24 24 cs (0, 0) _ hb Tryz.underlying24 rfl (hs ▸ info_ins)
  simp [results, Tryz.results13, h2', h3', asAddr, hl]
theorem spl_open {base : Nat} {w : World} {v : Value} {L : List (List UInt8)} (h : w.ownsRow base 9 1 v L.length (L.map sB)) (hL : L ≠ []) :
    ∃ g cap, v = .slice (some ⟨g, 0, none⟩) L.length cap ∧ base ≤ g ∧ g < w.heap.size ∧ ∀ j, j < L.length → w.cell? ⟨g, j, none⟩ = some (.string (bs6 (L.getD j []))) := by
  have h0 := h
  obtain ⟨hx, ⟨-, hn⟩ | ⟨g, cap, cur, rfl, hg, hc, hle, hm, hs, ht⟩⟩ := h
  · exact absurd (List.length_eq_zero_iff.1 hn) hL
  · refine ⟨g, cap, rfl, hg, ?_, fun j hj => ?_⟩
    · exact (h0.lt g rfl).2
    · have := h0.cells (g := g) rfl j (.string (bs6 (L.getD j []))) (by simp [sB, List.getD, hj])
      rw [show (⟨g, 0, none⟩ : Addr).add j = ⟨g, j, none⟩ by cases j <;> simp [Addr.add]] at this
      exact this
/-- In the reference's loop: the instruction so far, the result's cell, the words. -/
structure RpAt (w : World) (g b : Nat) (L : List (List UInt8)) (x : Fl) (W : World) : Prop where
  ins : CsAt W b 24 (flA x)
  res : CsAt W w.heap.size 24 zeroI
  words : ∀ j, j < L.length → W.cell? ⟨g, j, none⟩ = some (.string (bs6 (L.getD j [])))
  low : Below w.heap.size w W
theorem RpAt.on {w W W' : World} {g b : Nat} {L : List (List UInt8)} {x : Fl} (h : RpAt w g b L x W) (hb : Below W.heap.size W W') : RpAt w g b L x W' :=
  ⟨h.ins.low hb, h.res.low hb, fun j hj => (hb.cell (p := ⟨g, j, none⟩) (lt_cell (h.words j hj))).trans (h.words j hj), h.low.trans (hb.mono h.low.size)⟩
theorem RpAt.set {w W : World} {g b : Nat} {L : List (List UInt8)} {x y : Fl} {f : Nat} {v : Value} (h : RpAt w g b L x W) (hb : w.heap.size < b) (hg : b ≠ g) (hf : (flA x).setIfInBounds f v = flA y) : RpAt w g b L y (W.setCell ⟨b, f, none⟩ v) := by
  refine ⟨?_, ?_, fun j hj => ?_, h.low.setCell (p := ⟨b, f, none⟩) (by show w.heap.size ≤ b; omega) v⟩
  · rw [← hf]
    exact heap_setCell_same W b f _ _ v h.ins
  · exact (heap_setCell_other W ⟨b, f, none⟩ w.heap.size v (by show w.heap.size ≠ b; omega)).trans h.res
  · have e := heap_setCell_other W ⟨b, f, none⟩ g v (by show g ≠ b; omega)
    have := h.words j hj
    simp only [World.cell?, e]
    exact this
theorem bs6_empty (s : List UInt8) : (bs6 s).toList.isEmpty = decide (s = []) := by
  rw [ByteArray.toList_eq]
  cases s <;> rfl
theorem bs6_nil (s : List UInt8) : ((bs6 s).toList == []) = decide (s = []) := by
  rw [ByteArray.toList_eq]
  cases s <;> rfl
def zeroX : Fl := ⟨0, 0, 0, 0, 0, 0, false, false⟩
theorem rp_new {w w2 : World} {g : Nat} {L : List (List UInt8)} (x : Fl) (hi : CsAt w2 w.heap.size 24 zeroI) (hc : ∀ j, j < L.length → w2.cell? ⟨g, j, none⟩ = some (.string (bs6 (L.getD j [])))) (hb : Below w.heap.size w w2) :
    RpAt w g w2.heap.size L x ((w2.alloc (.cells zeroI 24)).setRow w2.heap.size (flA x)) := by
  have h0 : w.heap.size < w2.heap.size := lt_cell (hi.cell 0)
  refine ⟨CsAt.row (CsAt.new w2 24 zeroI) _, CsAt.rowFar (hi.alloc _) (by omega) _, fun j hj => ?_, below_setRow (hb.alloc hb.size _) (by omega) _⟩
  have hg : g < w2.heap.size := lt_cell (hc j hj)
  rw [cell_setRow_other _ _ _ ⟨g, j, none⟩ (by show g ≠ w2.heap.size; omega)]
  exact ((Below.refl w2.heap.size w2).alloc (Nat.le_refl _) _).cell (p := ⟨g, j, none⟩) hg |>.trans (hc j hj)
set_option maxHeartbeats 16000000 in
theorem refParse_c (l : List UInt8) (hl : l.length ≤ 4000000000) (w : World) : Calls Tryz.prog 13 #[.string (bs6 l)] w fun e w' => e = .returned (retV (refE l)) ∧ Below w.heap.size w w' := by
  obtain ⟨B, hB⟩ : ∃ B, bs6 l = B := ⟨_, rfl⟩
  have HBS := Lib.hid (show B.size = l.length by rw [← hB, bs6_size])
  have HB := Lib.hid hB
  rw [hB]
  clear hB
  have hbz : B.size ≤ 4000000000 := by rw [HBS.out]; exact hl
  have HI0 := Lib.hid (CsAt.new w 24 zeroI)
  have HB0 := Lib.hid ((Below.refl w.heap.size w).alloc (Nat.le_refl _) (.cells zeroI 24))
  have HZ0 := Lib.hid (show (w.alloc (.cells zeroI 24)).heap.size = w.heap.size + 1 by simp)
  clear hl
  by_cases h1 : 200 < l.length
  · have HRV := Lib.hid (show refE l = .error 4 by unfold refE; rw [if_pos h1])
    have e1 : decide (200 < (B.size : Int)) = true := by rw [HBS.out]; simp; omega
    clear h1
    go_enter Tryz.func13, Tryz.ntmps13
    go_upto_region 2 with fail
    generalize (w.alloc (.cells zeroI 24)) = W0 at *
    go_wp2_with (refine wpList_store_row rfl 24 _ _ rfl w.heap.size _ rfl rfl 24 _ HI0.out info_ins rfl (by kernel_rfl) ?_)
    refine bodyPost_ret (results_rparse _ _ w.heap.size _ 4 rfl rfl (CsAt.row HI0.out _) rfl) rfl ⟨?_, below_setRow HB0.out (Nat.le_refl _) _⟩
    rw [HRV.out]
    rfl
  have e1 : decide (200 < (B.size : Int)) = false := by rw [HBS.out]; simp; omega
  by_cases h2 : l.length = 0
  · have HRV := Lib.hid (show refE l = .error 5 by unfold refE; rw [if_neg h1, if_pos h2])
    have e2 : ((B.size : Int) == 0) = true := by rw [HBS.out, h2]; rfl
    have e3 : (B.size == 0) = true := by rw [HBS.out, h2]; rfl
    have e4 : B.size = 0 := by rw [HBS.out, h2]
    clear h1 h2
    go_enter Tryz.func13, Tryz.ntmps13
    go_upto_region 4 with fail
    generalize (w.alloc (.cells zeroI 24)) = W0 at *
    go_wp2_with (refine wpList_store_row rfl 24 _ _ rfl w.heap.size _ rfl rfl 24 _ HI0.out info_ins rfl (by kernel_rfl) ?_)
    refine bodyPost_ret (results_rparse _ _ w.heap.size _ 5 rfl rfl (CsAt.row HI0.out _) rfl) rfl ⟨?_, below_setRow HB0.out (Nat.le_refl _) _⟩
    rw [HRV.out]
    rfl
  have e2 : ((B.size : Int) == 0) = false := by rw [HBS.out, beq_eq_false_iff_ne]; omega
  have e3 : (B.size == 0) = false := by rw [HBS.out, beq_eq_false_iff_ne]; omega
  have HSP := Lib.hid (show ∀ W, Calls Tryz.prog 35 #[.string B] W (SplPost W (splF l)) from fun W => HB.out ▸ refSplit_c l (by omega) W)
  have HRE := Lib.hid (show refE l = if [] ∈ splF l then .error 2 else
      match nameL ((splF l).getD 0 []) with
      | none => .error 9
      | some p => if (splF l).length ≠ (kdL (fmtN (p.1 : Nat))).length + 1 then .error 2 else finR (preR (kdL (fmtN (p.1 : Nat))) (restW (splF l)) (opF p.1 p.2) (kdL (fmtN (p.1 : Nat))).length) by
    unfold refE; rw [if_neg h1, if_neg h2]; rfl)
  have HNE := Lib.hid (splF_ne l)
  have HLL := Lib.hid (show (splF l).length ≤ 301 from Nat.le_trans (splF_len l) (by omega))
  have HWZ := Lib.hid (show ∀ s ∈ splF l, s.length ≤ 300 from fun s hs => Nat.le_trans (splF_sizes l s hs) (by omega))
  clear h1 h2
  generalize splF l = L at *
  generalize refE l = RE at *
  go_enter Tryz.func13, Tryz.ntmps13
  go_wp2_with fail
  generalize (w.alloc (.cells zeroI 24)) = W0 at *
  refine (HSP.out _).mono ?_
  rintro e w1 ⟨v, rfl, hown, hb1⟩
  obtain ⟨g, cap, rfl, hg, hgw, hcl⟩ := spl_open hown HNE.out
  have HCL := Lib.hid hcl
  have HG := Lib.hid (show w.heap.size < g by have := HZ0.out; omega)
  have HGW := Lib.hid hgw
  have HI1 := Lib.hid (HI0.out.low hb1)
  have HB1 := Lib.hid (HB0.out.trans (hb1.mono HB0.out.size))
  clear hown hb1 hcl hg hgw HI0 HB0 HZ0 HSP
  obtain ⟨n, hn⟩ : ∃ n, L.length = n + 1 := ⟨L.length - 1, by have := List.length_pos_iff.2 HNE.out; omega⟩
  have hnz : n ≤ 300 := by have := HLL.out; omega
  have HN := Lib.hid hn
  rw [hn]
  clear hn
  go_wp2_with fail
  go_loop [5] (fun i => ∃ k : Nat, k ≤ n + 1 ∧ i = .int .i64 k ∧ ∀ j, j < k → L.getD j [] ≠ []) (fun i => n + 1 - (intOf i).toNat)
  case atStart => exact ⟨0, Nat.zero_le _, rfl, fun j hj => absurd hj (by omega)⟩
  case round =>
    obtain ⟨k, hk, rfl, hno⟩ := hrel
    have HNO := Lib.hid hno
    clear hno
    by_cases hlt : k < n + 1
    · have hc := HCL.out k (by rw [HN.out]; exact hlt)
      have hlt2 : (k : Int) < (n : Int) + 1 := by omega
      have q1 := bs6_empty (L.getD k [])
      have q2 := bs6_nil (L.getD k [])
      have HIN := Lib.hid (show L.getD k [] ∈ L by simp [List.getD, show k < L.length by rw [HN.out]; exact hlt])
      by_cases hs : L.getD k [] = []
      · have HRV := Lib.hid (show RE = .error 2 by rw [HRE.out, if_pos (by rw [← hs]; exact HIN.out)])
        rw [decide_eq_true hs] at q1 q2
        clear hs
        generalize bs6 (L.getD k []) = sk at *
        go_upto_region 10 with fail
        go_wp2_with (refine wpList_store_row rfl 24 _ _ rfl w.heap.size _ rfl rfl 24 _ HI1.out info_ins rfl (by kernel_rfl) ?_)
        refine bodyPost_ret (results_rparse _ _ w.heap.size _ 2 rfl rfl (CsAt.row HI1.out _) rfl) rfl ⟨?_, below_setRow HB1.out (Nat.le_refl _) _⟩
        rw [HRV.out]
        rfl
      · have HS := Lib.hid hs
        rw [decide_eq_false hs] at q1 q2
        clear hs
        generalize bs6 (L.getD k []) = sk at *
        go_wp2_with fail
        go_round
        case rel => exact ⟨k + 1, by omega, by go_num, fun j hj => (by rcases Nat.lt_succ_iff_lt_or_eq.1 hj with h | rfl; exact HNO.out j h; exact HS.out)⟩
        case measure => simp [intOf]; omega
    · obtain rfl : k = n + 1 := by omega
      have HNB := Lib.hid (show ¬ [] ∈ L from fun hm => by
        obtain ⟨j, hj, he⟩ := List.mem_iff_getElem.1 hm
        exact HNO.out j (by have := HN.out; omega) (by simp [List.getD, hj, he]))
      replace HRE := Lib.hid (HRE.out.trans (if_neg HNB.out))
      have hc := HCL.out 0 (by rw [HN.out]; omega)
      have HFI := Lib.hid (refFirst_c (L.getD 0 []))
      clear HNB HNO
      generalize bs6 (L.getD 0 []) = s0 at *
      go_wp2_with fail
      refine (HFI.out _).mono ?_
      rintro e w2 ⟨rfl, hb⟩
      have HI2 := Lib.hid (HI1.out.low hb)
      have HB2 := Lib.hid (HB1.out.trans (hb.mono HB1.out.size))
      have HC2 := Lib.hid (show ∀ j, j < L.length → w2.cell? ⟨g, j, none⟩ = some (.string (bs6 (L.getD j []))) from fun j hj => (hb.cell (p := ⟨g, j, none⟩) (lt_cell (HCL.out j hj))).trans (HCL.out j hj))
      have HG2 := Lib.hid (show g < w2.heap.size from Nat.lt_of_lt_of_le HGW.out hb.size)
      clear hb hc HFI HI1 HB1 HCL HGW
      cases hnm : nameL (L.getD 0 []) with
      | none =>
        have HRV := Lib.hid (show RE = .error 9 by rw [HRE.out, hnm])
        clear hnm
        simp only [firV]
        have HP3 := Lib.hid (rp_new (zeroX) HI2.out HC2.out HB2.out)
        go_upto_region 13 with (refine wpList_store_row rfl 24 _ _ rfl w2.heap.size zeroI rfl rfl 24 zeroI (CsAt.new w2 24 zeroI) info_ins rfl (by kernel_rfl) ?_)
        rw [show (w2.alloc (.cells zeroI 24)).setRow w2.heap.size zeroI = (w2.alloc (.cells zeroI 24)).setRow w2.heap.size (flA zeroX) from rfl]
        generalize (w2.alloc (.cells zeroI 24)).setRow w2.heap.size (flA zeroX) = W3 at *
        go_wp2_with (refine wpList_store_row rfl 24 _ _ rfl w.heap.size _ rfl rfl 24 _ HP3.out.res info_ins rfl (by kernel_rfl) ?_)
        refine bodyPost_ret (results_rparse _ _ w.heap.size _ 9 rfl rfl (CsAt.row HP3.out.res _) rfl) rfl ⟨?_, below_setRow HP3.out.low (Nat.le_refl _) _⟩
        rw [HRV.out]
        rfl
      | some p =>
        obtain ⟨hp1, hp2, -, -, -⟩ := nameL_some (n := p.1) (k := p.2) hnm
        rw [hnm] at HRE
        clear hnm
        simp only at HRE
        simp only [firV]
        have HX0 := Lib.hid (show (opF p.1 p.2).op = ((p.1 : Nat) : Int) from rfl)
        obtain ⟨m, hm⟩ : ∃ m, p.1 = m := ⟨_, rfl⟩
        have hf0 : fmtN ((m : Nat) : Int) ≠ 0 := fun e => (fmt_zero _).1 e (by omega)
        have hf2 := fmt_le ((m : Nat) : Int)
        have hf1 : 1 ≤ fmtN ((m : Nat) : Int) := by omega
        generalize opF p.1 p.2 = x0 at *
        rw [hm] at HX0 HRE hp1 hp2
        clear hm hf0
        have HP3 := Lib.hid (rp_new x0 HI2.out HC2.out HB2.out)
        have hb6 : w.heap.size < w2.heap.size := Nat.lt_of_lt_of_le HG.out (Nat.le_of_lt HG2.out)
        have hbg : w2.heap.size ≠ g := by have := HG2.out; omega
        go_upto_region 12 with (refine wpList_store_row rfl 24 _ _ rfl w2.heap.size (flA x0) rfl rfl 24 zeroI (CsAt.new w2 24 zeroI) info_ins rfl (by kernel_rfl) ?_)
        generalize (w2.alloc (.cells zeroI 24)).setRow w2.heap.size (flA x0) = W3 at *
        generalize w2.heap.size = b6 at *
        clear HI2 HB2 HC2 HG2
        have i0 : W3.cell? ⟨b6, 0, none⟩ = some (.int .i64 ((m : Nat) : Int)) := by rw [← HX0.out]; exact HP3.out.ins.cell 0
        go_wp2_with fail
        refine (refFind_c _ _).mono ?_
        rintro e w4 ⟨rfl, hb⟩
        have HP4 := Lib.hid (HP3.out.on hb)
        clear hb i0 HP3
        have HFM := Lib.hid (show (findRow ((m : Nat) : Int)).2.1 = fmtN ((m : Nat) : Int) from rfl)
        unfold rowAgg
        rw [HFM.out]
        generalize (((findRow ((m : Nat) : Int)).1 : Nat) : Int) = q1 at *
        generalize (((findRow ((m : Nat) : Int)).2.2.1 : Nat) : Int) = q2 at *
        generalize (((findRow ((m : Nat) : Int)).2.2.2 : Nat) : Int) = q3 at *
        clear HFM
        have HOR := Lib.hid (fun w' => (show Calls Tryz.prog 25 #[.string (bsOf (Tab.names3.getD (fmtN ((m : Nat) : Int)) []))] w' fun e w'' => e = .returned (.string (codeB (kdL (fmtN ((m : Nat) : Int))))) ∧ w' = w'' from order_c _ hf1 hf2 w'))
        have hff := field_fmt
        go_wp2_with fail
        refine (HOR.out _).mono ?_
        rintro e w5 ⟨rfl, rfl⟩
        clear HOR hff
        have hlen := kdL_len (fmtN ((m : Nat) : Int))
        have HKS := Lib.hid (show kdL (fmtN ((m : Nat) : Int)) = kdL (fmtN ((m : Nat) : Int)) from rfl)
        generalize kdL (fmtN ((m : Nat) : Int)) = Ks at *
        clear HKS
        have hcs := codeB_size Ks
        have HCA := Lib.hid (show ∀ (j : Nat) (h : j < (codeB Ks).size), j < Ks.length → (codeB Ks)[j]'h = codeK (Ks.getD j .rd) from codeB_at Ks)
        generalize codeB Ks = cb at *
        by_cases hct : n = Ks.length
        · have HRX := Lib.hid (show RE = finR (preR Ks (restW L) x0 Ks.length) by rw [HRE.out, if_neg (by rw [HN.out, hct]; simp)])
          clear HRE
          subst hct
          go_wp2_with fail
          go_loopw [10, 11] (fun far i wr => ∃ (k : Nat) (x : Fl) (fr : Bool), k ≤ Ks.length ∧ i = .int .i64 k ∧ far = .bool fr ∧ preR Ks (restW L) x0 k = .ok (x, fr) ∧ RpAt w g b6 L x wr) (fun _ i _ => Ks.length - (intOf i).toNat)
          case atStart => exact ⟨0, x0, false, Nat.zero_le _, rfl, rfl, rfl, HP4.out⟩
          case round =>
            obtain ⟨k, x, fr, hk, rfl, rfl, hpk, hP⟩ := hrel
            have HP := Lib.hid hP
            have HPK := Lib.hid hpk
            clear hP hpk
            by_cases hlt : k < Ks.length
            · have hk1 : k + 1 < L.length := by have := HN.out; omega
              have hc := HP.out.words (k + 1) hk1
              have hsl := HWZ.out (L.getD (k + 1) []) (by simp [List.getD, hk1])
              have HST := Lib.hid (show preR Ks (restW L) x0 (k + 1) = rstep (Ks.getD k .rd) (L.getD (k + 1) []) x fr from preR_step HPK.out)
              have hjc : k < cb.size := by omega
              have hch := HCA.out k hjc hlt
              have hlt2 : (k : Int) < (Ks.length : Int) := by omega
              have HER := Lib.hid (show ∀ e, preR Ks (restW L) x0 (k + 1) = .error e → RE = .error e from fun e he => by
                have h1 := preR_err he (Ks.length - (k + 1))
                rw [show k + 1 + (Ks.length - (k + 1)) = Ks.length by omega] at h1
                rw [HRX.out, h1]
                rfl)
              generalize Ks.getD k .rd = kk at *
              generalize L.getD (k + 1) [] = sw at *
              clear hk1
              cases kk
              · have hch : cb[k] = 100 := hch
                have HF5 := Lib.hid (fun W => Rg.refFind_c (bs6 sw) W)
                cases hfr : Rg.findR (bs6 sw) with
                | none =>
                  have HFI := Lib.hid (show Rg.findI (bs6 sw) = -1 by unfold Rg.findI; rw [hfr])
                  have HRV := Lib.hid (HER.out 9 (by rw [HST.out]; unfold rstep; rw [hfr]))
                  clear hfr
                  generalize bs6 sw = SW at *
                  go_wp2_with fail
                  refine (HF5.out _).mono ?_
                  rintro e w6 ⟨rfl, hb⟩
                  rw [HFI.out]
                  have HP6 := Lib.hid (HP.out.on hb)
                  clear hb
                  go_upto_region 26 with fail
                  go_wp2_with (refine wpList_store_row rfl 24 _ _ rfl w.heap.size _ rfl rfl 24 _ HP6.out.res info_ins rfl (by kernel_rfl) ?_)
                  refine bodyPost_ret (results_rparse _ _ w.heap.size _ 9 rfl rfl (CsAt.row HP6.out.res _) rfl) rfl ⟨?_, below_setRow HP6.out.low (Nat.le_refl _) _⟩
                  rw [HRV.out]
                  rfl
                | some i =>
                  have HFI := Lib.hid (show Rg.findI (bs6 sw) = i by unfold Rg.findI; rw [hfr])
                  have HNX := Lib.hid (show preR Ks (restW L) x0 (k + 1) = .ok ({ x with rd := i }, fr) by rw [HST.out]; unfold rstep; rw [hfr])
                  clear hfr
                  generalize bs6 sw = SW at *
                  go_wp2_with fail
                  refine (HF5.out _).mono ?_
                  rintro e w6 ⟨rfl, hb⟩
                  rw [HFI.out]
                  have HP6 := Lib.hid (HP.out.on hb)
                  have d0 : decide ((i : Int) < 0) = false := by simp
                  have d1 := (at_fl HP6.out.ins 1 _ rfl).1
                  have d2 := (at_fl HP6.out.ins 1 _ rfl).2
                  clear hb
                  go_wp2_with fail
                  go_roundw
                  case rel => exact ⟨k + 1, _, fr, by omega, by go_num, rfl, HNX.out, HP6.out.set hb6 hbg rfl⟩
                  case measure => simp [intOf]; omega
              · have hch : cb[k] = 49 := hch
                have HF5 := Lib.hid (fun W => Rg.refFind_c (bs6 sw) W)
                cases hfr : Rg.findR (bs6 sw) with
                | none =>
                  have HFI := Lib.hid (show Rg.findI (bs6 sw) = -1 by unfold Rg.findI; rw [hfr])
                  have HRV := Lib.hid (HER.out 9 (by rw [HST.out]; unfold rstep; rw [hfr]))
                  clear hfr
                  generalize bs6 sw = SW at *
                  go_wp2_with fail
                  refine (HF5.out _).mono ?_
                  rintro e w6 ⟨rfl, hb⟩
                  rw [HFI.out]
                  have HP6 := Lib.hid (HP.out.on hb)
                  clear hb
                  go_upto_region 26 with fail
                  go_wp2_with (refine wpList_store_row rfl 24 _ _ rfl w.heap.size _ rfl rfl 24 _ HP6.out.res info_ins rfl (by kernel_rfl) ?_)
                  refine bodyPost_ret (results_rparse _ _ w.heap.size _ 9 rfl rfl (CsAt.row HP6.out.res _) rfl) rfl ⟨?_, below_setRow HP6.out.low (Nat.le_refl _) _⟩
                  rw [HRV.out]
                  rfl
                | some i =>
                  have HFI := Lib.hid (show Rg.findI (bs6 sw) = i by unfold Rg.findI; rw [hfr])
                  have HNX := Lib.hid (show preR Ks (restW L) x0 (k + 1) = .ok ({ x with rs1 := i }, fr) by rw [HST.out]; unfold rstep; rw [hfr])
                  clear hfr
                  generalize bs6 sw = SW at *
                  go_wp2_with fail
                  refine (HF5.out _).mono ?_
                  rintro e w6 ⟨rfl, hb⟩
                  rw [HFI.out]
                  have HP6 := Lib.hid (HP.out.on hb)
                  have d0 : decide ((i : Int) < 0) = false := by simp
                  have d1 := (at_fl HP6.out.ins 2 _ rfl).1
                  have d2 := (at_fl HP6.out.ins 2 _ rfl).2
                  clear hb
                  go_wp2_with fail
                  go_roundw
                  case rel => exact ⟨k + 1, _, fr, by omega, by go_num, rfl, HNX.out, HP6.out.set hb6 hbg rfl⟩
                  case measure => simp [intOf]; omega
              · have hch : cb[k] = 50 := hch
                have HF5 := Lib.hid (fun W => Rg.refFind_c (bs6 sw) W)
                cases hfr : Rg.findR (bs6 sw) with
                | none =>
                  have HFI := Lib.hid (show Rg.findI (bs6 sw) = -1 by unfold Rg.findI; rw [hfr])
                  have HRV := Lib.hid (HER.out 9 (by rw [HST.out]; unfold rstep; rw [hfr]))
                  clear hfr
                  generalize bs6 sw = SW at *
                  go_wp2_with fail
                  refine (HF5.out _).mono ?_
                  rintro e w6 ⟨rfl, hb⟩
                  rw [HFI.out]
                  have HP6 := Lib.hid (HP.out.on hb)
                  clear hb
                  go_upto_region 26 with fail
                  go_wp2_with (refine wpList_store_row rfl 24 _ _ rfl w.heap.size _ rfl rfl 24 _ HP6.out.res info_ins rfl (by kernel_rfl) ?_)
                  refine bodyPost_ret (results_rparse _ _ w.heap.size _ 9 rfl rfl (CsAt.row HP6.out.res _) rfl) rfl ⟨?_, below_setRow HP6.out.low (Nat.le_refl _) _⟩
                  rw [HRV.out]
                  rfl
                | some i =>
                  have HFI := Lib.hid (show Rg.findI (bs6 sw) = i by unfold Rg.findI; rw [hfr])
                  have HNX := Lib.hid (show preR Ks (restW L) x0 (k + 1) = .ok ({ x with rs2 := i }, fr) by rw [HST.out]; unfold rstep; rw [hfr])
                  clear hfr
                  generalize bs6 sw = SW at *
                  go_wp2_with fail
                  refine (HF5.out _).mono ?_
                  rintro e w6 ⟨rfl, hb⟩
                  rw [HFI.out]
                  have HP6 := Lib.hid (HP.out.on hb)
                  have d0 : decide ((i : Int) < 0) = false := by simp
                  have d1 := (at_fl HP6.out.ins 3 _ rfl).1
                  have d2 := (at_fl HP6.out.ins 3 _ rfl).2
                  clear hb
                  go_wp2_with fail
                  go_roundw
                  case rel => exact ⟨k + 1, _, fr, by omega, by go_num, rfl, HNX.out, HP6.out.set hb6 hbg rfl⟩
                  case measure => simp [intOf]; omega
              · have hch : cb[k] = 99 := hch
                have HNU := Lib.hid (fun W => refNumber6_c sw (by omega) W)
                cases hnr : numR sw with
                | none =>
                  have HNV := Lib.hid (show numV (numR sw) = .tuple #[.int .i64 0, .bool false] by rw [hnr]; rfl)
                  have HRV := Lib.hid (HER.out 2 (by rw [HST.out]; unfold rstep; rw [hnr]))
                  clear hnr
                  generalize bs6 sw = SW at *
                  go_wp2_with fail
                  refine (HNU.out _).mono ?_
                  rintro e w6 ⟨rfl, rfl⟩
                  rw [HNV.out]
                  go_upto_region 36 with fail
                  go_wp2_with (refine wpList_store_row rfl 24 _ _ rfl w.heap.size _ rfl rfl 24 _ HP.out.res info_ins rfl (by kernel_rfl) ?_)
                  refine bodyPost_ret (results_rparse _ _ w.heap.size _ 2 rfl rfl (CsAt.row HP.out.res _) rfl) rfl ⟨?_, below_setRow HP.out.low (Nat.le_refl _) _⟩
                  rw [HRV.out]
                  rfl
                | some m2 =>
                  have HNV := Lib.hid (show numV (numR sw) = .tuple #[.int .i64 m2, .bool true] by rw [hnr]; rfl)
                  by_cases u1 : m2 < 0
                  · have d3 : decide (m2 < 0) = true := decide_eq_true u1
                    have HNX := Lib.hid (show preR Ks (restW L) x0 (k + 1) = .ok (x, true) from HST.out.trans (rs_csr_no hnr (by omega)))
                    clear hnr
                    generalize bs6 sw = SW at *
                    go_wp2_with fail
                    refine (HNU.out _).mono ?_
                    rintro e w6 ⟨rfl, rfl⟩
                    rw [HNV.out]
                    go_wp2_with fail
                    go_roundw
                    case rel => exact ⟨k + 1, x, true, by omega, by go_num, rfl, HNX.out, HP.out⟩
                    case measure => simp [intOf]; omega
                  · have d3 : decide (m2 < 0) = false := decide_eq_false u1
                    by_cases u2 : 4095 < m2
                    · have d5 : decide (4095 < m2) = true := decide_eq_true u2
                      have HNX := Lib.hid (show preR Ks (restW L) x0 (k + 1) = .ok (x, true) from HST.out.trans (rs_csr_no hnr (by omega)))
                      clear hnr
                      generalize bs6 sw = SW at *
                      go_wp2_with fail
                      refine (HNU.out _).mono ?_
                      rintro e w6 ⟨rfl, rfl⟩
                      rw [HNV.out]
                      go_wp2_with fail
                      go_roundw
                      case rel => exact ⟨k + 1, x, true, by omega, by go_num, rfl, HNX.out, HP.out⟩
                      case measure => simp [intOf]; omega
                    · have d5 : decide (4095 < m2) = false := decide_eq_false u2
                      have v1 : 0 ≤ m2 := by omega
                      have v2 : m2 ≤ 4095 := by omega
                      have HNX := Lib.hid (show preR Ks (restW L) x0 (k + 1) = .ok ({ x with csr := m2 }, false) from HST.out.trans (rs_csr_ok hnr (by omega)))
                      clear hnr
                      generalize bs6 sw = SW at *
                      have d1 := (at_fl HP.out.ins 5 _ rfl).1
                      have d2 := (at_fl HP.out.ins 5 _ rfl).2
                      go_wp2_with fail
                      refine (HNU.out _).mono ?_
                      rintro e w6 ⟨rfl, rfl⟩
                      rw [HNV.out]
                      go_wp2_with fail
                      go_roundw
                      case rel => exact ⟨k + 1, _, false, by omega, by go_num, rfl, HNX.out, HP.out.set hb6 hbg rfl⟩
                      case measure => simp [intOf]; omega
              · have hch : cb[k] = 110 := hch
                have HNU := Lib.hid (fun W => refNumber6_c sw (by omega) W)
                cases hnr : numR sw with
                | none =>
                  have HNV := Lib.hid (show numV (numR sw) = .tuple #[.int .i64 0, .bool false] by rw [hnr]; rfl)
                  have HRV := Lib.hid (HER.out 2 (by rw [HST.out]; unfold rstep; rw [hnr]))
                  clear hnr
                  generalize bs6 sw = SW at *
                  go_wp2_with fail
                  refine (HNU.out _).mono ?_
                  rintro e w6 ⟨rfl, rfl⟩
                  rw [HNV.out]
                  go_upto_region 36 with fail
                  go_wp2_with (refine wpList_store_row rfl 24 _ _ rfl w.heap.size _ rfl rfl 24 _ HP.out.res info_ins rfl (by kernel_rfl) ?_)
                  refine bodyPost_ret (results_rparse _ _ w.heap.size _ 2 rfl rfl (CsAt.row HP.out.res _) rfl) rfl ⟨?_, below_setRow HP.out.low (Nat.le_refl _) _⟩
                  rw [HRV.out]
                  rfl
                | some m2 =>
                  have HNV := Lib.hid (show numV (numR sw) = .tuple #[.int .i64 m2, .bool true] by rw [hnr]; rfl)
                  cases fr
                  · skip
                    by_cases u1 : m2 < 0
                    · have d3 : decide (m2 < 0) = true := decide_eq_true u1
                      have d4 : decide ((0 : Int) ≤ m2) = false := by simp; omega
                      have HNX := Lib.hid (show preR Ks (restW L) x0 (k + 1) = .ok (x, true) from HST.out.trans (rs_num_no hnr (by omega)))
                      clear hnr
                      generalize bs6 sw = SW at *
                      go_wp2_with fail
                      refine (HNU.out _).mono ?_
                      rintro e w6 ⟨rfl, rfl⟩
                      rw [HNV.out]
                      go_wp2_with fail
                      go_roundw
                      case rel => exact ⟨k + 1, x, true, by omega, by go_num, rfl, HNX.out, HP.out⟩
                      case measure => simp [intOf]; omega
                    · have d3 : decide (m2 < 0) = false := decide_eq_false u1
                      have d4 : decide ((0 : Int) ≤ m2) = true := by simp; omega
                      by_cases u2 : 31 < m2
                      · have d5 : decide (31 < m2) = true := decide_eq_true u2
                        have d6 : decide (m2 ≤ 31) = false := by simp; omega
                        have HNX := Lib.hid (show preR Ks (restW L) x0 (k + 1) = .ok (x, true) from HST.out.trans (rs_num_no hnr (by omega)))
                        clear hnr
                        generalize bs6 sw = SW at *
                        go_wp2_with fail
                        refine (HNU.out _).mono ?_
                        rintro e w6 ⟨rfl, rfl⟩
                        rw [HNV.out]
                        go_wp2_with fail
                        go_roundw
                        case rel => exact ⟨k + 1, x, true, by omega, by go_num, rfl, HNX.out, HP.out⟩
                        case measure => simp [intOf]; omega
                      · have d5 : decide (31 < m2) = false := decide_eq_false u2
                        have d6 : decide (m2 ≤ 31) = true := by simp; omega
                        have v1 : 0 ≤ m2 := by omega
                        have v2 : m2 ≤ 31 := by omega
                        have HNX := Lib.hid (show preR Ks (restW L) x0 (k + 1) = .ok ({ x with rs1 := m2 }, false) from HST.out.trans (rs_num_ok hnr (by omega)))
                        clear hnr
                        generalize bs6 sw = SW at *
                        have d1 := (at_fl HP.out.ins 2 _ rfl).1
                        have d2 := (at_fl HP.out.ins 2 _ rfl).2
                        go_wp2_with fail
                        refine (HNU.out _).mono ?_
                        rintro e w6 ⟨rfl, rfl⟩
                        rw [HNV.out]
                        go_wp2_with fail
                        go_roundw
                        case rel => exact ⟨k + 1, _, false, by omega, by go_num, rfl, HNX.out, HP.out.set hb6 hbg rfl⟩
                        case measure => simp [intOf]; omega
                  · skip
                    by_cases u1 : m2 < 0
                    · have d3 : decide (m2 < 0) = true := decide_eq_true u1
                      have d4 : decide ((0 : Int) ≤ m2) = false := by simp; omega
                      have HNX := Lib.hid (show preR Ks (restW L) x0 (k + 1) = .ok (x, true) from HST.out.trans (rs_num_no hnr (by omega)))
                      clear hnr
                      generalize bs6 sw = SW at *
                      go_wp2_with fail
                      refine (HNU.out _).mono ?_
                      rintro e w6 ⟨rfl, rfl⟩
                      rw [HNV.out]
                      go_wp2_with fail
                      go_roundw
                      case rel => exact ⟨k + 1, x, true, by omega, by go_num, rfl, HNX.out, HP.out⟩
                      case measure => simp [intOf]; omega
                    · have d3 : decide (m2 < 0) = false := decide_eq_false u1
                      have d4 : decide ((0 : Int) ≤ m2) = true := by simp; omega
                      by_cases u2 : 31 < m2
                      · have d5 : decide (31 < m2) = true := decide_eq_true u2
                        have d6 : decide (m2 ≤ 31) = false := by simp; omega
                        have HNX := Lib.hid (show preR Ks (restW L) x0 (k + 1) = .ok (x, true) from HST.out.trans (rs_num_no hnr (by omega)))
                        clear hnr
                        generalize bs6 sw = SW at *
                        go_wp2_with fail
                        refine (HNU.out _).mono ?_
                        rintro e w6 ⟨rfl, rfl⟩
                        rw [HNV.out]
                        go_wp2_with fail
                        go_roundw
                        case rel => exact ⟨k + 1, x, true, by omega, by go_num, rfl, HNX.out, HP.out⟩
                        case measure => simp [intOf]; omega
                      · have d5 : decide (31 < m2) = false := decide_eq_false u2
                        have d6 : decide (m2 ≤ 31) = true := by simp; omega
                        have v1 : 0 ≤ m2 := by omega
                        have v2 : m2 ≤ 31 := by omega
                        have HNX := Lib.hid (show preR Ks (restW L) x0 (k + 1) = .ok ({ x with rs1 := m2 }, true) from HST.out.trans (rs_num_ok hnr (by omega)))
                        clear hnr
                        generalize bs6 sw = SW at *
                        have d1 := (at_fl HP.out.ins 2 _ rfl).1
                        have d2 := (at_fl HP.out.ins 2 _ rfl).2
                        go_wp2_with fail
                        refine (HNU.out _).mono ?_
                        rintro e w6 ⟨rfl, rfl⟩
                        rw [HNV.out]
                        go_wp2_with fail
                        go_roundw
                        case rel => exact ⟨k + 1, _, true, by omega, by go_num, rfl, HNX.out, HP.out.set hb6 hbg rfl⟩
                        case measure => simp [intOf]; omega
              · have hch : cb[k] = 105 := hch
                have HNU := Lib.hid (fun W => refNumber6_c sw (by omega) W)
                cases hnr : numR sw with
                | none =>
                  have HNV := Lib.hid (show numV (numR sw) = .tuple #[.int .i64 0, .bool false] by rw [hnr]; rfl)
                  have HRV := Lib.hid (HER.out 2 (by rw [HST.out]; unfold rstep; rw [hnr]))
                  clear hnr
                  generalize bs6 sw = SW at *
                  go_wp2_with fail
                  refine (HNU.out _).mono ?_
                  rintro e w6 ⟨rfl, rfl⟩
                  rw [HNV.out]
                  go_upto_region 36 with fail
                  go_wp2_with (refine wpList_store_row rfl 24 _ _ rfl w.heap.size _ rfl rfl 24 _ HP.out.res info_ins rfl (by kernel_rfl) ?_)
                  refine bodyPost_ret (results_rparse _ _ w.heap.size _ 2 rfl rfl (CsAt.row HP.out.res _) rfl) rfl ⟨?_, below_setRow HP.out.low (Nat.le_refl _) _⟩
                  rw [HRV.out]
                  rfl
                | some m2 =>
                  have HNV := Lib.hid (show numV (numR sw) = .tuple #[.int .i64 m2, .bool true] by rw [hnr]; rfl)
                  have HNX := Lib.hid (show preR Ks (restW L) x0 (k + 1) = .ok ({ x with imm := m2 }, fr) from HST.out.trans (rs_imm hnr))
                  clear hnr
                  generalize bs6 sw = SW at *
                  have d1 := (at_fl HP.out.ins 4 _ rfl).1
                  have d2 := (at_fl HP.out.ins 4 _ rfl).2
                  go_wp2_with fail
                  refine (HNU.out _).mono ?_
                  rintro e w6 ⟨rfl, rfl⟩
                  rw [HNV.out]
                  go_wp2_with fail
                  go_roundw
                  case rel => exact ⟨k + 1, _, fr, by omega, by go_num, rfl, HNX.out, HP.out.set hb6 hbg rfl⟩
                  case measure => simp [intOf]; omega
              · have hch : cb[k] = 117 := hch
                have HNU := Lib.hid (fun W => refNumber6_c sw (by omega) W)
                cases hnr : numR sw with
                | none =>
                  have HNV := Lib.hid (show numV (numR sw) = .tuple #[.int .i64 0, .bool false] by rw [hnr]; rfl)
                  have HRV := Lib.hid (HER.out 2 (by rw [HST.out]; unfold rstep; rw [hnr]))
                  clear hnr
                  generalize bs6 sw = SW at *
                  go_wp2_with fail
                  refine (HNU.out _).mono ?_
                  rintro e w6 ⟨rfl, rfl⟩
                  rw [HNV.out]
                  go_upto_region 36 with fail
                  go_wp2_with (refine wpList_store_row rfl 24 _ _ rfl w.heap.size _ rfl rfl 24 _ HP.out.res info_ins rfl (by kernel_rfl) ?_)
                  refine bodyPost_ret (results_rparse _ _ w.heap.size _ 2 rfl rfl (CsAt.row HP.out.res _) rfl) rfl ⟨?_, below_setRow HP.out.low (Nat.le_refl _) _⟩
                  rw [HRV.out]
                  rfl
                | some m2 =>
                  have HNV := Lib.hid (show numV (numR sw) = .tuple #[.int .i64 m2, .bool true] by rw [hnr]; rfl)
                  by_cases u1 : m2 < -524288
                  · have d3 : decide (m2 < -524288) = true := decide_eq_true u1
                    have HNX := Lib.hid (show preR Ks (restW L) x0 (k + 1) = .ok (x, true) from HST.out.trans (rs_up_no hnr (by omega)))
                    clear hnr
                    generalize bs6 sw = SW at *
                    go_wp2_with fail
                    refine (HNU.out _).mono ?_
                    rintro e w6 ⟨rfl, rfl⟩
                    rw [HNV.out]
                    go_wp2_with fail
                    go_roundw
                    case rel => exact ⟨k + 1, x, true, by omega, by go_num, rfl, HNX.out, HP.out⟩
                    case measure => simp [intOf]; omega
                  · have d3 : decide (m2 < -524288) = false := decide_eq_false u1
                    by_cases u2 : 524287 < m2
                    · have d5 : decide (524287 < m2) = true := decide_eq_true u2
                      have HNX := Lib.hid (show preR Ks (restW L) x0 (k + 1) = .ok (x, true) from HST.out.trans (rs_up_no hnr (by omega)))
                      clear hnr
                      generalize bs6 sw = SW at *
                      go_wp2_with fail
                      refine (HNU.out _).mono ?_
                      rintro e w6 ⟨rfl, rfl⟩
                      rw [HNV.out]
                      go_wp2_with fail
                      go_roundw
                      case rel => exact ⟨k + 1, x, true, by omega, by go_num, rfl, HNX.out, HP.out⟩
                      case measure => simp [intOf]; omega
                    · have d5 : decide (524287 < m2) = false := decide_eq_false u2
                      have v1 : -524288 ≤ m2 := by omega
                      have v2 : m2 ≤ 524287 := by omega
                      have HNX := Lib.hid (show preR Ks (restW L) x0 (k + 1) = .ok ({ x with imm := m2 * 4096 }, false) from HST.out.trans (rs_up_ok hnr (by omega)))
                      clear hnr
                      generalize bs6 sw = SW at *
                      have d1 := (at_fl HP.out.ins 4 _ rfl).1
                      have d2 := (at_fl HP.out.ins 4 _ rfl).2
                      go_wp2_with fail
                      refine (HNU.out _).mono ?_
                      rintro e w6 ⟨rfl, rfl⟩
                      rw [HNV.out]
                      go_wp2_with fail
                      go_roundw
                      case rel => exact ⟨k + 1, _, false, by omega, by go_num, rfl, HNX.out, HP.out.set hb6 hbg rfl⟩
                      case measure => simp [intOf]; omega
            · obtain rfl : k = Ks.length := by omega
              rw [HPK.out] at HRX
              cases fr
              · have HRY := Lib.hid (show RE = if checkF x = 0 then .ok x else .error 3 from HRX.out)
                clear HRX
                have i0 : wr.cell? ⟨b6, 0, none⟩ = some (.int .i64 x.op) := HP.out.ins.cell 0
                have i1 : wr.cell? ⟨b6, 1, none⟩ = some (.int .i64 x.rd) := HP.out.ins.cell 1
                have i2 : wr.cell? ⟨b6, 2, none⟩ = some (.int .i64 x.rs1) := HP.out.ins.cell 2
                have i3 : wr.cell? ⟨b6, 3, none⟩ = some (.int .i64 x.rs2) := HP.out.ins.cell 3
                have i4 : wr.cell? ⟨b6, 4, none⟩ = some (.int .i64 x.imm) := HP.out.ins.cell 4
                have i5 : wr.cell? ⟨b6, 5, none⟩ = some (.int .i64 x.csr) := HP.out.ins.cell 5
                have i6 : wr.cell? ⟨b6, 6, none⟩ = some (.bool x.aq) := HP.out.ins.cell 6
                have i7 : wr.cell? ⟨b6, 7, none⟩ = some (.bool x.rl) := HP.out.ins.cell 7
                have HCK := Lib.hid (refCheck_c x.op x.rd x.rs1 x.rs2 x.imm x.csr x.aq x.rl wr)
                go_wp2_with fail
                clear i0 i1 i2 i3 i4 i5 i6 i7
                refine HCK.out.mono ?_
                rintro r w7 ⟨rfl, hb⟩
                have HP7 := Lib.hid (HP.out.on hb)
                clear hb HCK
                by_cases hc : checkF x = 0
                · have HRV := Lib.hid (HRY.out.trans (if_pos hc))
                  rw [show checkS x.op x.rd x.rs1 x.rs2 x.imm x.csr x.aq x.rl = 0 from hc]
                  have i0 : w7.cell? ⟨b6, 0, none⟩ = some (.int .i64 x.op) := HP7.out.ins.cell 0
                  have i1 : w7.cell? ⟨b6, 1, none⟩ = some (.int .i64 x.rd) := HP7.out.ins.cell 1
                  have i2 : w7.cell? ⟨b6, 2, none⟩ = some (.int .i64 x.rs1) := HP7.out.ins.cell 2
                  have i3 : w7.cell? ⟨b6, 3, none⟩ = some (.int .i64 x.rs2) := HP7.out.ins.cell 3
                  have i4 : w7.cell? ⟨b6, 4, none⟩ = some (.int .i64 x.imm) := HP7.out.ins.cell 4
                  have i5 : w7.cell? ⟨b6, 5, none⟩ = some (.int .i64 x.csr) := HP7.out.ins.cell 5
                  have i6 : w7.cell? ⟨b6, 6, none⟩ = some (.bool x.aq) := HP7.out.ins.cell 6
                  have i7 : w7.cell? ⟨b6, 7, none⟩ = some (.bool x.rl) := HP7.out.ins.cell 7
                  go_wp2_with (refine wpList_store_row rfl 24 _ _ rfl w.heap.size (flA x) rfl rfl 24 zeroI HP7.out.res info_ins rfl (by kernel_rfl) ?_)
                  refine bodyPost_ret (results_rparse _ _ w.heap.size _ 0 rfl rfl (CsAt.row HP7.out.res _) rfl) rfl ⟨?_, below_setRow HP7.out.low (Nat.le_refl _) _⟩
                  rw [HRV.out]
                  rfl
                · have HRV := Lib.hid (HRY.out.trans (if_neg hc))
                  have e5 : (checkS x.op x.rd x.rs1 x.rs2 x.imm x.csr x.aq x.rl == 0) = false := by simpa [checkF] using hc
                  have e6 : (checkS x.op x.rd x.rs1 x.rs2 x.imm x.csr x.aq x.rl != 0) = true := by simpa [checkF] using hc
                  clear hc HRY
                  generalize checkS x.op x.rd x.rs1 x.rs2 x.imm x.csr x.aq x.rl = cc at *
                  go_upto_region 53 with fail
                  go_wp2_with (refine wpList_store_row rfl 24 _ _ rfl w.heap.size _ rfl rfl 24 _ HP7.out.res info_ins rfl (by kernel_rfl) ?_)
                  refine bodyPost_ret (results_rparse _ _ w.heap.size _ 3 rfl rfl (CsAt.row HP7.out.res _) rfl) rfl ⟨?_, below_setRow HP7.out.low (Nat.le_refl _) _⟩
                  rw [HRV.out]
                  rfl
              · have HRV := Lib.hid (show RE = .error 3 from HRX.out)
                clear HRX
                go_upto_region 53 with fail
                go_wp2_with (refine wpList_store_row rfl 24 _ _ rfl w.heap.size _ rfl rfl 24 _ HP.out.res info_ins rfl (by kernel_rfl) ?_)
                refine bodyPost_ret (results_rparse _ _ w.heap.size _ 3 rfl rfl (CsAt.row HP.out.res _) rfl) rfl ⟨?_, below_setRow HP.out.low (Nat.le_refl _) _⟩
                rw [HRV.out]
                rfl
        · have HRV := Lib.hid (show RE = .error 2 by rw [HRE.out, if_pos (by rw [HN.out]; omega)])
          have e5 : ((n : Int) == (Ks.length : Int)) = false := by rw [beq_eq_false_iff_ne]; omega
          have e6 : (n == Ks.length) = false := by rw [beq_eq_false_iff_ne]; omega
          have e7 : ((n : Int) != (Ks.length : Int)) = true := by rw [bne_iff_ne]; omega
          have e8 : (n != Ks.length) = true := by rw [bne_iff_ne]; omega
          go_upto_region 17 with fail
          go_wp2_with (refine wpList_store_row rfl 24 _ _ rfl w.heap.size _ rfl rfl 24 _ HP4.out.res info_ins rfl (by kernel_rfl) ?_)
          refine bodyPost_ret (results_rparse _ _ w.heap.size _ 2 rfl rfl (CsAt.row HP4.out.res _) rfl) rfl ⟨?_, below_setRow HP4.out.low (Nat.le_refl _) _⟩
          rw [HRV.out]
          rfl
end Go.Proofs.YthehcplogkgkeaaGreatDoor
