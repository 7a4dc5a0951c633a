/-
  The law TopSerial, walked.
-/
import Derived.Test.YtjeolfcefeglpabGreatXbu
set_option maxRecDepth 20000
namespace Go.Proofs.YtjeolfcefeglpabGreat
open Go.ChangeShapes Go.WideShapes Go.ChangeAt Go.RowKit Wd

theorem cell_lowO {W W' : World} {b o : Nat} {v : Value} (h : W.cell? ⟨b, o, none⟩ = some v) (hb : Below W.heap.size W W') : W'.cell? ⟨b, o, none⟩ = some v := (hb.cell (p := ⟨b, o, none⟩) (World.block_lt_of_cell? _ _ h)).trans h
theorem need_st {c : Cf} {a : Ak} (_ha : a.In) (h1 : 1 ≤ c.stripes) : ∀ x ∈ Srt.set (Sh.needS c a), 0 ≤ x ∧ x < c.stripes := by
  intro x hx
  rw [Srt.set_mem] at hx
  unfold Sh.needS at hx
  split at hx
  · rw [Srt.set_mem] at hx
    obtain ⟨p, hp, rfl⟩ := List.mem_map.1 hx
    unfold Sp.stripe
    rw [if_neg (by omega)]
    exact ⟨Int.emod_nonneg _ (by omega), Int.emod_lt_of_pos _ (by omega)⟩
  · simp at hx
set_option maxRecDepth 100000 in
set_option maxHeartbeats 32000000 in
theorem serial_walk (w : World) (f : As4) (st : Int) (pao : Option Addr) (n cap : Nat) (l : List Int) (hf : ∀ i, i < 4 → Aks w (f i).1 (f i).2.1 (f i).2.2.2) (hst : 0 ≤ st ∧ st ≤ 255) (hl : Nums .u8 w pao n l) :
    Calls Tryz.prog 3 #[.agg (asV f), .int .u8 st, .slice pao n cap] w fun e w' => e = .returned (.bool true) ∧ Below w.heap.size w w' := by
  have HPK := Lib.hid hl
  have HF := Lib.hid hf
  have hmx := hl.max
  have HLN := Lib.hid lone_c
  obtain ⟨nl, hnl⟩ : ∃ nl : Nat, 1 + st % 9 = (nl : Int) := ⟨(1 + st % 9).toNat, by omega⟩
  have hn1 : 1 ≤ nl ∧ nl ≤ 9 := by omega
  have hw1 : IntKind.i64.wrap (1 + st % 9) = (nl : Int) := by rw [IntKind.wrap_i64]; omega
  have hw2 : IntKind.i64.wrap (st % 9) = st % 9 := by rw [IntKind.wrap_i64]; omega
  obtain ⟨c, hc⟩ : ∃ c : Cf, c = ⟨4, nl, 6, 1⟩ := ⟨_, rfl⟩
  have HCE := Lib.hid hc
  have HRS := Lib.hid (show rightS c = true by rw [hc]; exact rightS_iff.2 ⟨by simp, by simp; omega, by simp, by simp⟩)
  have HCL := Lib.hid (show cfC c = #[.int .i64 4, .int .i64 (nl : Int), .int .i64 6, .int .i64 1] by rw [hc]; rfl)
  have HC6 := Lib.hid (show c.lines.toNat = 6 by rw [hc]; rfl)
  clear hl hf
  have HA1 := Lib.hid ((CsAt.new w 23 (asV f)).low (box_below (w.alloc (.cells (asV f) 23)) (cfC c) CFT))
  have HC1 := Lib.hid (show CsAt ((w.alloc (.cells (asV f) 23)).alloc (.cells (cfC c) CFT)) (w.heap.size + 1) CFT (cfC c) by simpa using CsAt.new (w.alloc (.cells (asV f) 23)) CFT (cfC c))
  have HB1 := Lib.hid ((box_below w (asV f) 23).trans ((box_below (w.alloc (.cells (asV f) 23)) (cfC c) CFT).mono (box_below w (asV f) 23).size))
  clear hc
  go_enter Tryz.func3, Tryz.ntmps3
  go_upto_region 2 with fail
  rw [← HCL.out]
  generalize (w.alloc (.cells (asV f) 23)).alloc (.cells (cfC c) CFT) = w1 at *
  go_wp2_with (refine wpList_load_row rfl CFT _ rfl (w.heap.size + 1) rfl CFT (cfC c) (0, 0) _ HC1.out Tryz.underlying26 rfl info_cf ?_)
  refine (snew_c c HRS.out w1).mono ?_
  rintro e w2 ⟨sb, rb, mb, rfl, hs, hb2, g1, g2, g3⟩
  have HS := Lib.hid (And.intro hs (And.intro g1 (And.intro g2 g3)))
  have HB2 := Lib.hid hb2
  have HC2 := Lib.hid (HC1.out.low hb2)
  clear hs hb2 g1 g2 g3
  have HS0 := Lib.hid (CsAt.new w2 27 #[.pointer (some ⟨sb, 0, none⟩)])
  have HB3 := Lib.hid (box_below w2 #[.pointer (some ⟨sb, 0, none⟩)] 27)
  go_upto_region 3 with fail
  have HC3 := Lib.hid (HC2.out.low HB3.out)
  generalize w2.alloc (.cells #[.pointer (some ⟨sb, 0, none⟩)] 27) = w3 at *
  have c1 : w3.cell? ⟨w.heap.size + 1, 1, none⟩ = some (.int .i64 (nl : Int)) := by rw [HC3.out.cell, HCL.out]; rfl
  go_wp2_with fail
  refine (new_yes nl w3 (by omega) (by omega)).mono ?_
  rintro e w4 ⟨rfl, hl4, hb4⟩
  have HL4 := Lib.hid hl4
  have HB4 := Lib.hid hb4
  have HC4 := Lib.hid (HC3.out.low hb4)
  have HC1' := HC1
  clear hl4 hb4 HC3 c1 HC2 HC1
  have HL5 := Lib.hid (CsAt.new w4 31 #[.pointer (some ⟨w3.heap.size + 1, 0, none⟩)])
  have HB5 := Lib.hid (box_below w4 #[.pointer (some ⟨w3.heap.size + 1, 0, none⟩)] 31)
  have HB15 := Lib.hid (show Below w1.heap.size w1 (w4.alloc (.cells #[.pointer (some ⟨w3.heap.size + 1, 0, none⟩)] 31)) from
    HB2.out.trans ((HB3.out.trans ((HB4.out.trans (HB5.out.mono HB4.out.size)).mono HB3.out.size)).mono HB2.out.size))
  by_cases hlong : 300 < n
  · have g0 : decide ((n : Int) > 300) = true := by simp; omega
    go_wp2_with fail
    refine (HLN.out _).mono ?_
    rintro e w6 ⟨rfl, hb6⟩
    have HB6 := Lib.hid ((HB1.out.trans (HB15.out.mono HB1.out.size)).trans (hb6.mono (Nat.le_trans HB1.out.size HB15.out.size)))
    clear hb6
    go_wp2_with fail
    go_ret
    exact ⟨rfl, HB6.out⟩
  · have g0 : decide ((n : Int) > 300) = false := by simp; omega
    go_upto_region 6 with fail
    have HC5 := Lib.hid (HC4.out.low HB5.out)
    generalize w4.alloc (.cells #[.pointer (some ⟨w3.heap.size + 1, 0, none⟩)] 31) = w5 at *
    go_wp2_with (refine wpList_load_row rfl CFT _ rfl (w.heap.size + 1) rfl CFT (cfC c) (0, 0) _ HC5.out Tryz.underlying26 rfl info_cf ?_)
    refine (rnew14_c c HRS.out w5).mono ?_
    rintro e w6 ⟨g, cp, rfl, hg, hr6, hb6⟩
    have HG6 := Lib.hid hg
    have HR6 := Lib.hid hr6
    have HB6 := Lib.hid hb6
    clear hg hr6 hb6 HC5 HC4
    go_upto_region 7 with (refine wpList_storeNew (w0 := w6) rfl SXT _ _ rfl zeroSx (sxT c g c.lines.toNat cp Rv.none_) SXT rfl rfl info_sx rfl (sx_one _ _ _ _ _ _) ?_)
    have HX7 := Lib.hid (CsAt.new w6 SXT (sxT c g c.lines.toNat cp Rv.none_))
    have HB7 := Lib.hid (box_below w6 (sxT c g c.lines.toNat cp Rv.none_) SXT)
    generalize w6.alloc (.cells (sxT c g c.lines.toNat cp Rv.none_) SXT) = w7 at *
    have hz1 := zero_j4
    have hz2 := zero_b4
    have hz3 := zero_i4
    have HB8 := Lib.hid (((((Below.refl w7.heap.size w7).alloc (Nat.le_refl _) (.cells jobs16 48)).alloc (by simp) (.cells #[.bool false, .bool false, .bool false, .bool false] 49)).alloc (by simp; omega) (.cells #[.int .i64 0, .int .i64 0, .int .i64 0, .int .i64 0] 50)).alloc (by simp; omega) (.cells #[.bool true] 4))
    have HJ8 := Lib.hid ((((CsAt.new w7 48 jobs16).alloc (.cells #[.bool false, .bool false, .bool false, .bool false] 49)).alloc (.cells #[.int .i64 0, .int .i64 0, .int .i64 0, .int .i64 0] 50)).alloc (.cells #[.bool true] 4))
    have HU8 := Lib.hid (((CsAt.new (w7.alloc (.cells jobs16 48)) 49 #[.bool false, .bool false, .bool false, .bool false]).alloc (.cells #[.int .i64 0, .int .i64 0, .int .i64 0, .int .i64 0] 50)).alloc (.cells #[.bool true] 4))
    have HT8 := Lib.hid ((CsAt.new ((w7.alloc (.cells jobs16 48)).alloc (.cells #[.bool false, .bool false, .bool false, .bool false] 49)) 50 #[.int .i64 0, .int .i64 0, .int .i64 0, .int .i64 0]).alloc (.cells #[.bool true] 4))
    have HF8 := Lib.hid (CsAt.new (((w7.alloc (.cells jobs16 48)).alloc (.cells #[.bool false, .bool false, .bool false, .bool false] 49)).alloc (.cells #[.int .i64 0, .int .i64 0, .int .i64 0, .int .i64 0] 50)) 4 #[.bool true])
    have e1 : (w7.alloc (.cells jobs16 48)).heap.size = w7.heap.size + 1 := by simp
    have e2 : ((w7.alloc (.cells jobs16 48)).alloc (.cells #[.bool false, .bool false, .bool false, .bool false] 49)).heap.size = w7.heap.size + 1 + 1 := by simp
    have e3 : (((w7.alloc (.cells jobs16 48)).alloc (.cells #[.bool false, .bool false, .bool false, .bool false] 49)).alloc (.cells #[.int .i64 0, .int .i64 0, .int .i64 0, .int .i64 0] 50)).heap.size = w7.heap.size + 1 + 1 + 1 := by simp
    rw [e1] at HU8
    rw [e2] at HT8
    rw [e3] at HF8
    clear e1 e2 e3
    go_wp2_with fail
    generalize (((w7.alloc (.cells jobs16 48)).alloc (.cells #[.bool false, .bool false, .bool false, .bool false] 49)).alloc (.cells #[.int .i64 0, .int .i64 0, .int .i64 0, .int .i64 0] 50)).alloc (.cells #[.bool true] 4) = w8 at *
    have HW := Lib.hid (se_new (w := w1) (cap := cp) (nl := nl) HS.out.1 HS.out.2.1 HS.out.2.2.1 HS.out.2.2.2 HB2.out HS0.out HB3.out HL4.out HB4.out HL5.out HB5.out HR6.out HG6.out HB6.out HX7.out HB7.out rfl rfl rfl rfl HJ8.out HU8.out HT8.out HF8.out HB8.out)
    clear HS HB2 HS0 HB3 HL4 HB4 HL5 HB5 HB15 HR6 HG6 HB6 HX7 HB7 HJ8 HU8 HT8 HF8 HB8 hz1 hz2 hz3 hw1 hw2
    generalize w3.heap.size + 1 = lp at *
    generalize w3.heap.size = lmb at *
    generalize w2.heap.size = bs at *
    generalize w4.heap.size = lx at *
    generalize w6.heap.size = xb at *
    generalize w7.heap.size + 1 + 1 + 1 = fb at *
    generalize w7.heap.size + 1 + 1 = tb at *
    generalize w7.heap.size + 1 = ub at *
    generalize w7.heap.size = jb at *
    have HAB := Lib.hid (fun (V : World) (hb : Below w1.heap.size w1 V) => (HA1.out.on hb HA1.out.lt : CsAt V w.heap.size 23 (asV f)))
    have HCB := Lib.hid (fun (V : World) (hb : Below w1.heap.size w1 V) => (show V.cell? ⟨w.heap.size + 1, 2, none⟩ = some (.int .i64 6) by rw [(HC1'.out.on hb HC1'.out.lt : CsAt V _ _ _).cell, HCL.out]; rfl))
    go_loopw [17] (fun iv wr => ∃ j : Nat, j ≤ 4 ∧ iv = .int .i64 (j : Int) ∧ w8 = wr ∧ ∀ i, i < j → (f i).2.1 ≤ 12) (fun iv _ => 4 - (intOf iv).toNat)
    case atStart => exact ⟨0, by omega, rfl, rfl, fun i hi => by omega⟩
    case round =>
      obtain ⟨j, hj, rfl, rfl, hle⟩ := hrel
      have HLE := Lib.hid hle
      clear hle
      by_cases hlt : j < 4
      · have e0 : decide ((j : Int) < 4) = true := by simp; omega
        have gj : (j : Int) < 4 := by omega
        have ca := asV_cell (HAB.out w8 HW.out.bel) hlt
        have HF1 := Lib.hid (HF.out j hlt).max
        by_cases h12 : (f j).2.1 ≤ 12
        · have HL1 := Lib.hid (show ∀ i, i < j + 1 → (f i).2.1 ≤ 12 from fun i hi => by
            by_cases e : i = j
            · rw [e]; exact h12
            · exact HLE.out i (by omega))
          generalize (f j).1 = xa at ca
          generalize (f j).2.1 = xm at ca h12
          generalize (f j).2.2.1 = xc at ca
          have g12 : decide ((xm : Int) > 12) = false := by simp; omega
          go_wp2_with fail
          go_roundw
          case rel => exact ⟨j + 1, by omega, by go_num, trivial, HL1.out⟩
          case measure => simp [intOf]; omega
        · generalize (f j).1 = xa at ca
          generalize (f j).2.1 = xm at ca h12
          generalize (f j).2.2.1 = xc at ca
          have g12 : decide ((xm : Int) > 12) = true := by simp; omega
          have HBF := Lib.hid (HB1.out.trans (HW.out.bel.mono HB1.out.size))
          go_wp2_with fail
          refine (HLN.out _).mono ?_
          rintro e w9 ⟨rfl, hb9⟩
          have HB9 := Lib.hid (HBF.out.trans (hb9.mono HBF.out.size))
          clear hb9
          go_wp2_with fail
          go_ret
          exact ⟨rfl, HB9.out⟩
      · obtain rfl : j = 4 := by omega
        have e0 : decide (((4 : Nat) : Int) < 4) = false := by decide
        rw [show ((4 : Nat) : Int) = 4 from rfl] at e0 ⊢
        go_wp2_with fail
        go_loopw [18] (fun iv wr => ∃ (k : Nat) (Z : Nat → Prop) (R : Int → List Int) (u : Nat → Bool) (p : Nat → Nat) (P : Nat → Option Addr × Nat) (J : Nat → Lk.JS), k ≤ n ∧ iv = .int .i64 (k : Int) ∧ SeL Z w1 wr ⟨sb, rb, mb, bs, lmb, lp, lx, g, xb, jb, ub, tb, fb⟩ c cp nl R u p P J ∧ SeI c u p J (fun i => (f i).2.2.2)) (fun iv _ => n - (intOf iv).toNat)
        case atStart => exact ⟨0, _, _, _, _, _, _, Nat.zero_le _, rfl, HW.out, sei_new⟩
        case round =>
          obtain ⟨k, Z, R, u, p, P, J, hk, rfl, hw, hi⟩ := hrel
          have HWR := Lib.hid hw
          have HI := Lib.hid hi
          clear hw hi HW
          by_cases hkn : k < n
          · have e0 : decide ((k : Int) < (n : Int)) = true := by simp; omega
            have gk : (k : Int) < (n : Int) := by omega
            have hxl : k < l.length := by rw [HPK.out.len]; exact hkn
            obtain ⟨pb, po, rfl, hpl, hpc⟩ := (HPK.out.vw.low (HB1.out.trans (HWR.out.bel.mono HB1.out.size))).resolve_left (fun e => by have := congrArg List.length e; simp at this; subst this; simp at hxl)
            have ci := hpc k (.int .u8 (l.getD k 0)) (by simp [List.getD, hxl])
            have hbv := bounds_u8 (HPK.out.each (l.getD k 0) (by rw [List.getD, List.getElem?_eq_getElem hxl]; exact List.getElem_mem hxl))
            clear hpc hxl
            generalize l.getD k 0 = v at *
            obtain ⟨q, hq, hqv⟩ : ∃ q : Nat, q < 4 ∧ v.tmod 4 = (q : Int) := ⟨(v % 4).toNat, by omega, by rw [Int.tmod_eq_emod_of_nonneg hbv.1]; omega⟩
            have hqe : v % 4 = (q : Int) := by rw [← Int.tmod_eq_emod_of_nonneg hbv.1]; exact hqv
            have hu8 : IntKind.u8.wrap (q : Int) = q := by rw [IntKind.wrap_u8]; omega
            have hi64 : IntKind.i64.wrap (q : Int) = q := by rw [IntKind.wrap_i64]; omega
            have gq : (q : Int) < 4 := by omega
            have HBA := Lib.hid (box_below wr #[.int .i64 (q : Int)] 3)
            have HHA := Lib.hid (CsAt.new wr 3 #[.int .i64 (q : Int)])
            have HSA := Lib.hid (show (wr.alloc (.cells #[.int .i64 (q : Int)] 3)).heap.size = wr.heap.size + 1 by simp)
            go_upto_region 20 with fail
            clear ci hqv hqe hbv hpl
            have HWA := Lib.hid (HWR.out.more HBA.out)
            have HFA := Lib.hid (show fb < wr.heap.size from HWR.out.lts)
            clear HWR
            generalize wr.alloc (.cells #[.int .i64 (q : Int)] 3) = wa at *
            have HZH := Lib.hid (show Z wr.heap.size ∨ (wr.heap.size ≤ wr.heap.size ∧ wr.heap.size < wa.heap.size) from .inr ⟨Nat.le_refl _, by have := HSA.out; omega⟩)
            generalize hZ1 : (fun x => Z x ∨ (wr.heap.size ≤ x ∧ x < wa.heap.size)) = Z1 at HWA
            have HZH1 := Lib.hid (show Z1 wr.heap.size by rw [← hZ1]; exact HZH.out)
            clear HZH hZ1
            have ch : wa.cell? ⟨wr.heap.size, 0, none⟩ = some (.int .i64 (q : Int)) := HHA.out.cell 0
            have ct : wa.cell? ⟨tb, q, none⟩ = some (.int .i64 (p q : Nat)) := (HWA.out.where_ hq).1
            have ca := asV_cell (HAB.out wa HWA.out.bel) hq
            have HFQ := Lib.hid (HF.out q hq)
            have HLQ := Lib.hid (HLE.out q hq)
            have HPQ := Lib.hid (HI.out.le q hq)
            have hcm := HFQ.out.max
            clear HHA
            obtain ⟨xa, hxa⟩ : ∃ x, (f q).1 = x := ⟨_, rfl⟩
            obtain ⟨xm, hxm⟩ : ∃ x, (f q).2.1 = x := ⟨_, rfl⟩
            obtain ⟨xc, hxc⟩ : ∃ x, (f q).2.2.1 = x := ⟨_, rfl⟩
            obtain ⟨xl, hxl⟩ : ∃ x, (f q).2.2.2 = x := ⟨_, rfl⟩
            rw [hxa, hxm, hxc] at ca
            rw [hxa, hxm, hxl] at HFQ
            rw [hxm] at HLQ hcm
            rw [hxl] at HPQ
            have HXL := Lib.hid hxl
            clear hxa hxm hxc hxl
            obtain ⟨pq, hpq⟩ : ∃ x, p q = x := ⟨_, rfl⟩
            rw [hpq] at ct HPQ
            have HPE := Lib.hid hpq
            clear hpq
            by_cases hge : xm ≤ pq
            · have g20 : decide ((pq : Int) ≥ (xm : Int)) = true := by simp; omega
              go_quiet (fail)
              go_wp2_with fail
              go_roundw
              case rel => exact ⟨k + 1, _, _, _, _, _, _, by omega, by go_num, HWA.out.low ⟨rfl, rfl, rfl, Nat.le_refl _, fun _ _ => rfl⟩, HI.out⟩
              case measure => simp [intOf]; omega
            · have g20 : decide ((pq : Int) ≥ (xm : Int)) = false := by simp; omega
              have gpm : (pq : Int) < (xm : Int) := by omega
              go_quiet (fail)
              go_upto_region 21 with fail
              have HDR := Lib.hid (show Below wa.heap.size wa (wa.drewN nq) from ⟨rfl, rfl, rfl, Nat.le_refl _, fun _ _ => rfl⟩)
              have HWB := Lib.hid (HWA.out.low HDR.out)
              have HSB := Lib.hid (show (wa.drewN nq).heap.size = wr.heap.size + 1 from HSA.out)
              have chb := cell_low ch HDR.out
              have ctb := cell_lowO ct HDR.out
              have cab := cell_lowO ca HDR.out
              clear HWA HSA ch ct ca HDR HBA
              generalize wa.drewN nq = wb at *
              obtain ⟨db, doff, rfl, hdl, hdc⟩ := HFQ.out.at_ (by omega)
              have HAI := Lib.hid (HFQ.out.each pq (by omega))
              have HAC := Lib.hid (fun V (hb : Below w1.heap.size w1 V) => ask_at (a := xl.getD pq Ak.zero) hdl (hdc pq (by omega)) (HB1.out.trans (hb.mono HB1.out.size)))
              obtain ⟨a, hae⟩ : ∃ a, xl.getD pq Ak.zero = a := ⟨_, rfl⟩
              rw [hae] at HAI HAC
              have HAE := Lib.hid hae
              clear hae hdc
              have hS0 : Below wb.heap.size wb wb.drew := (Below.refl _ _).drew
              refine wp_region_noPanic ?_
              refine wp_region_held (S := fun W => Below wb.heap.size wb W) (by kernel_rfl) ?_
              refine takeH (fuel := 9) (i := 0) (.int .i64 (q : Int)) ?_ rfl (by kernel_rfl) (by kernel_rfl) (by kernel_rfl) (fun _ _ _ h => h) (by kernel_rfl) (fun W hS => by have c := cell_low chb hS; go_simp) hS0 ?_ ?_
              rotate_left 1
              · go_simp
                exact rfl
              refine takeH (fuel := 8) (i := 1) (.pointer (some ⟨w.heap.size, q, none⟩)) ?_ rfl (by kernel_rfl) (by kernel_rfl) (by kernel_rfl) (fun _ _ _ h => h) (by kernel_rfl) (fun W hS => by go_simp) hS0 ?_ ?_
              rotate_left 1
              · go_simp
                exact rfl
              refine takeH (fuel := 7) (i := 2) (.slice (some ⟨db, doff, none⟩) xm xc) ?_ rfl (by kernel_rfl) (by kernel_rfl) (by kernel_rfl) (fun _ _ _ h => h) (by kernel_rfl) (fun W hS => by have c := cell_lowO cab hS; go_simp) hS0 ?_ ?_
              rotate_left 1
              · go_simp
                exact rfl
              refine takeH (fuel := 6) (i := 3) (.int .i64 (q : Int)) ?_ rfl (by kernel_rfl) (by kernel_rfl) (by kernel_rfl) (fun _ _ _ h => h) (by kernel_rfl) (fun W hS => by have c := cell_low chb hS; go_simp) hS0 ?_ ?_
              rotate_left 1
              · go_simp
                exact rfl
              refine takeH (fuel := 5) (i := 4) (.pointer (some ⟨tb, q, none⟩)) ?_ rfl (by kernel_rfl) (by kernel_rfl) (by kernel_rfl) (fun _ _ _ h => h) (by kernel_rfl) (fun W hS => by go_simp) hS0 ?_ ?_
              rotate_left 1
              · go_simp
                exact rfl
              refine takeH (fuel := 4) (i := 5) (.int .i64 (pq : Int)) ?_ rfl (by kernel_rfl) (by kernel_rfl) (by kernel_rfl) (fun _ _ _ h => h) (by kernel_rfl) (fun W hS => by have c := cell_lowO ctb hS; go_simp) hS0 ?_ ?_
              rotate_left 1
              · go_simp
                exact rfl
              refine takeH (fuel := 3) (i := 6) (.pointer (some ⟨db, doff + pq * 19, none⟩)) ?_ rfl (by kernel_rfl) (by kernel_rfl) (by kernel_rfl) (fun _ _ _ h => h) (by kernel_rfl) (fun W hS => by go_simp) hS0 ?_ ?_
              rotate_left 1
              · go_simp
                exact rfl
              refine takeH (fuel := 2) (i := 7) (.agg (akC a)) ?_ rfl (by kernel_rfl) (by kernel_rfl) (by kernel_rfl) (fun _ _ _ h => h) (by kernel_rfl) (fun W hS => exec_load_mid (cs := (akC a).toList) AKT _ rfl db (doff + pq * 19) rfl _ (HAC.out W (HWB.out.bel.trans (Below.mono hS HWB.out.bel.size))) Tryz.underlying58 rfl info_ak) hS0 ?_ ?_
              rotate_left 1
              · go_simp
                exact rfl
              refine wpAnyH_all (fuel := 1) (rs := [8]) (by kernel_rfl) (by decide) ?_
              intro i hi
              obtain rfl : i = 8 := by simpa using hi
              refine wpOp_valB (.pointer (some ⟨wb.drew.heap.size, 0, none⟩)) (wb.drew.alloc (.cells (akC Ak.zero) AKT)) ?_ rfl (by kernel_rfl) (exec_alloc AKT rfl (.agg (akC Ak.zero)) (zv_ak _)) ?_ ?_
              rotate_left 1
              · go_simp
                exact rfl
              have hA : Below wb.heap.size wb (wb.drew.alloc (.cells (akC Ak.zero) AKT)) := (Below.refl _ _).drew.trans (show Below wb.heap.size wb.drew (wb.drew.alloc (.cells (akC Ak.zero) AKT)) from box_below wb.drew (akC Ak.zero) AKT)
              have hz4 : AkAt (wb.drew.alloc (.cells (akC Ak.zero) AKT)) wb.heap.size Ak.zero := akAt_new wb.drew Ak.zero
              have hs4 : (wb.drew.alloc (.cells (akC Ak.zero) AKT)).heap.size = wb.heap.size + 1 := by simp
              refine ⟨hA, ?_⟩
              generalize wb.drew.alloc (.cells (akC Ak.zero) AKT) = w4 at *
              refine wpAnyH_all (fuel := 0) (rs := [9]) (by kernel_rfl) (by decide) ?_
              intro i hi
              obtain rfl : i = 9 := by simpa using hi
              refine wpOp_unitB (w4.setRow wb.heap.size (akC a)) ?_ rfl (by kernel_rfl) (exec_store_row AKT _ _ rfl wb.heap.size (akC a) rfl rfl AKT (akC Ak.zero) hz4.cs info_ak rfl (akC_one _)) ?_ ?_
              rotate_left 1
              · go_simp
                exact rfl
              have hA5 : Below wb.heap.size wb (w4.setRow wb.heap.size (akC a)) := below_setRow hA (Nat.le_refl _) (akC a)
              refine ⟨hA5, ?_⟩
              refine wpAnyH_done (by kernel_rfl) ?_ _
              refine NoPanic.normal ?_
              have HK := Lib.hid (show SeK (fun x => Z1 x ∨ (wb.heap.size ≤ x ∧ x < (w4.setRow wb.heap.size (akC a)).heap.size)) w1 (w4.setRow wb.heap.size (akC a)) ⟨sb, rb, mb, bs, lmb, lp, lx, g, xb, jb, ub, tb, fb⟩ c cp nl R u p P J wr.heap.size wb.heap.size q a from
                ⟨HWB.out.more hA5, .inl HZH1.out, .inr ⟨Nat.le_refl _, by simp; omega⟩, cell_low chb hA5, ⟨hz4.cs.row _⟩, ⟨HFA.out, by have := HSB.out; omega⟩⟩)
              clear hA hz4 hs4 hA5 hS0 chb ctb cab HWB HSB HZH1 HFA
              generalize (fun x => Z1 x ∨ (wb.heap.size ≤ x ∧ x < (w4.setRow wb.heap.size (akC a)).heap.size)) = Z2 at *
              generalize w4.setRow wb.heap.size (akC a) = wc at *
              generalize wb.heap.size = ab at *
              generalize wr.heap.size = hbk at *
              have ch := HK.out.h
              have cb : wc.cell? ⟨ub, q, none⟩ = some (.bool (u q)) := (HK.out.l.busy hq).1
              have cbf : wc.frozen? ⟨ub, q, none⟩ = false := (HK.out.l.busy hq).2
              obtain ⟨uq, huq⟩ : ∃ x, u q = x := ⟨_, rfl⟩
              rw [huq] at cb
              go_upto_if 98 with fail
              go_cut [] (fun wx => ∃ (Y : Nat → Prop) (u : Nat → Bool) (P : Nat → Option Addr × Nat) (J : Nat → Lk.JS), SeK Y w1 wx ⟨sb, rb, mb, bs, lmb, lp, lx, g, xb, jb, ub, tb, fb⟩ c cp nl R u p P J hbk ab q a ∧ SeI c u p J (fun i => (f i).2.2.2) ∧ u q = true)
              case first =>
                cases uq
                · have HM := Lib.hid (HK.out.mark hq true)
                  have HMI := Lib.hid (HI.out.idle q hq huq)
                  have HBG := Lib.hid (HI.out.begin_ (q := q) (fun _ => by show p q < ((f q).2.2.2).length; rw [HPE.out, HXL.out, HFQ.out.len]; omega))
                  go_upto_region 24 with fail
                  generalize wc.setCell ⟨ub, q, none⟩ (.bool true) = wm at *
                  clear HK ch cb cbf
                  have hm0 := HM.out.l.mem
                  obtain ⟨B, T, m1⟩ := hm0
                  have HSH := Lib.hid (show ShAt wm sb rb mb c B T from m1.sh)
                  have hs0 : wm.cell? ⟨bs, 0, none⟩ = some (.pointer (some ⟨sb, 0, none⟩)) := m1.s0.cell 0
                  have HRN := Lib.hid (need_rng (c := c) HAI.out)
                  have HRS2 := Lib.hid (need_st (c := c) HAI.out (by have := hn1; rw [HCE.out]; show (1 : Int) ≤ (nl : Int); omega))
                  have HSN := Lib.hid (sneeds_c a HAI.out wm.drew (HSH.out.low (Below.refl _ _).drew))
                  clear m1
                  have hS0 : wm.drew.cell? ⟨hbk, 0, none⟩ = some (.int .i64 (q : Int)) ∧ AkAt wm.drew ab a ∧ wm.drew.cell? ⟨bs, 0, none⟩ = some (.pointer (some ⟨sb, 0, none⟩)) := ⟨HM.out.h, HM.out.a.low (Below.refl _ _).drew, hs0⟩
                  refine wp_region_noPanic ?_
                  refine wp_region_held (S := fun W => W.cell? ⟨hbk, 0, none⟩ = some (.int .i64 (q : Int)) ∧ AkAt W ab a ∧ W.cell? ⟨bs, 0, none⟩ = some (.pointer (some ⟨sb, 0, none⟩))) (by kernel_rfl) ?_
                  refine takeH (fuel := 6) (i := 0) (.int .i64 (q : Int)) ?_ rfl (by kernel_rfl) (by kernel_rfl) (by kernel_rfl) (fun _ _ _ h => h) (by kernel_rfl) (fun W hS => by have c := hS.1; go_simp) hS0 ?_ ?_
                  rotate_left 1
                  · go_simp
                    exact rfl
                  refine takeH (fuel := 5) (i := 1) (.pointer (some ⟨sb, 0, none⟩)) ?_ rfl (by kernel_rfl) (by kernel_rfl) (by kernel_rfl) (fun _ _ _ h => h) (by kernel_rfl) (fun W hS => by have c := hS.2.2; go_simp) hS0 ?_ ?_
                  rotate_left 1
                  · go_simp
                    exact rfl
                  refine takeH (fuel := 4) (i := 2) (.agg (akC a)) ?_ rfl (by kernel_rfl) (by kernel_rfl) (by kernel_rfl) (fun _ _ _ h => h) (by kernel_rfl) (fun W hS => exec_load_row AKT _ rfl ab rfl AKT _ _ hS.2.1.cs Tryz.underlying58 rfl info_ak) hS0 ?_ ?_
                  rotate_left 1
                  · go_simp
                    exact rfl
                  refine wpAnyH_all (fuel := 3) (rs := [3]) (by kernel_rfl) (by decide) ?_
                  intro i hi
                  obtain rfl : i = 3 := by simpa using hi
                  refine wpOp_callX 10 #[.pointer (some ⟨sb, 0, none⟩), .agg (akC a)] rfl (by kernel_rfl) (by go_simp) ?_
                  refine HSN.out.mono ?_
                  rintro e w3 ⟨v3, rfl, ho3, hb3⟩
                  obtain ⟨ns, hns⟩ : ∃ ns, Sh.needS c a = ns := ⟨_, rfl⟩
                  have hnl4 := need_len4 hns
                  rw [hns] at ho3 HRN HRS2
                  have HNS := Lib.hid hns
                  clear hns HSN
                  obtain ⟨p3, cap3, rfl, hv3, hp3, -⟩ := own_formT ho3
                  have hd3 : Below wm.heap.size wm w3 := (Below.refl _ _).drew.trans hb3
                  have hM3 := HM.out.more hd3
                  have hS3 : w3.cell? ⟨hbk, 0, none⟩ = some (.int .i64 (q : Int)) ∧ AkAt w3 ab a ∧ w3.cell? ⟨bs, 0, none⟩ = some (.pointer (some ⟨sb, 0, none⟩)) := ⟨hM3.h, hM3.a, cell_low hs0 hd3⟩
                  refine ⟨_, rfl, hS3, ?_⟩
                  refine wpAnyH_all (fuel := 2) (rs := [4]) (by kernel_rfl) (by decide) ?_
                  intro i hi
                  obtain rfl : i = 4 := by simpa using hi
                  refine wpOp_callX 9 #[.slice p3 ns.length cap3] rfl (by kernel_rfl) (by go_simp) ?_
                  have hnil3 : p3 = none → cap3 = 0 := fun e => by
                    rcases hp3 with h | ⟨b, h, -⟩
                    · exact h.2
                    · rw [e] at h; cases h
                  refine (plan_c p3 cap3 ns w3 hv3 hnil3 (by omega)).mono ?_
                  rintro e w4 ⟨v4, rfl, ho4, hb4⟩
                  obtain ⟨p4, cap4, rfl, hv4, hp4, -⟩ := own_formT ho4
                  have hM4 := hM3.more hb4
                  have hS4 : w4.cell? ⟨hbk, 0, none⟩ = some (.int .i64 (q : Int)) ∧ AkAt w4 ab a ∧ w4.cell? ⟨bs, 0, none⟩ = some (.pointer (some ⟨sb, 0, none⟩)) := ⟨hM4.h, hM4.a, cell_low hS3.2.2 hb4⟩
                  have hJV : Lk.JvT ⟨Srt.set ns, 0, 0, false⟩ := Lk.JvT.new (by have := Srt.set_len ns; omega) (fun x hx => HRN.out x ((Srt.set_mem _ _).1 hx))
                  have hl3 : fb < w3.heap.size := hM3.l.lts
                  have hjf : jb ≤ fb := hM3.l.o.fb _ (.inr (.inl rfl))
                  have hRT : RowT (fun x => (Z2 x ∨ (wm.heap.size ≤ x ∧ x < w3.heap.size)) ∨ (w3.heap.size ≤ x ∧ x < w4.heap.size)) jb (SK ⟨sb, rb, mb, bs, lmb, lp, lx, g, xb, jb, ub, tb, fb⟩) w4 p4 cap4 (Srt.set ns) := by
                    refine ⟨hv4, hp4.imp id fun ⟨b, e, _⟩ => ⟨b, 0, e⟩, fun b o e => ?_⟩
                    rcases hp4 with ⟨h, -⟩ | ⟨b1, h, h1, h2⟩
                    · rw [h] at e; cases e
                    · rw [h] at e
                      cases e
                      exact ⟨.inr ⟨h1, h2⟩, by omega, fun hs => by
                        have h9 : b ≤ fb := hM3.l.o.fb _ (.inl hs)
                        omega⟩
                  have hnlc : c.stripes = (nl : Int) := by rw [HCE.out]
                  have hINV : Lk.Inv R nl (Lk.setJ J q ⟨Srt.set ns, 0, 0, false⟩) := hM4.l.inv.fresh (by omega) HMI.out.1 HMI.out.2 (Srt.set_strict ns) (fun x hx => by rw [← hnlc]; exact HRS2.out x hx)
                  have hL5 := hM4.lay hq hJV hRT hINV
                  have hth : w4.there jb (q * 4) 4 := hM4.l.there hq
                  refine ⟨_, rfl, hS4, ?_⟩
                  refine takeH (fuel := 1) (i := 5) (.pointer (some ⟨jb, q * 4, none⟩)) ?_ rfl (by kernel_rfl) (by kernel_rfl) (by kernel_rfl) (fun _ _ _ h => h) (by kernel_rfl) (fun W hS => by go_simp) hS4 ?_ ?_
                  rotate_left 1
                  · go_simp
                    exact rfl
                  refine wpAnyH_all (fuel := 0) (rs := [6]) (by kernel_rfl) (by decide) ?_
                  intro i hi
                  obtain rfl : i = 6 := by simpa using hi
                  refine wpOp_unitB (w4.setCells jb (q * 4) [.slice p4 (Srt.set ns).length cap4, .int .i64 0, .int .i64 0, .bool false]) ?_ rfl (by kernel_rfl) (exec_store_mid 47 _ _ rfl jb (q * 4) (jV (.slice p4 (Srt.set ns).length cap4) 0 0 false) rfl rfl hth info_job (by simp [Value.oneCell'])) ?_ ?_
                  rotate_left 1
                  · go_simp
                    exact rfl
                  have HF5 := Lib.hid hL5
                  have hS6 : (w4.setCells jb (q * 4) [.slice p4 (Srt.set ns).length cap4, .int .i64 0, .int .i64 0, .bool false]).cell? ⟨hbk, 0, none⟩ = some (.int .i64 (q : Int)) ∧ AkAt (w4.setCells jb (q * 4) [.slice p4 (Srt.set ns).length cap4, .int .i64 0, .int .i64 0, .bool false]) ab a ∧ (w4.setCells jb (q * 4) [.slice p4 (Srt.set ns).length cap4, .int .i64 0, .int .i64 0, .bool false]).cell? ⟨bs, 0, none⟩ = some (.pointer (some ⟨sb, 0, none⟩)) := ⟨HF5.out.h, HF5.out.a, by obtain ⟨_, _, k1⟩ := HF5.out.l.mem; exact k1.s0.cell 0⟩
                  refine ⟨hS6, ?_⟩
                  refine wpAnyH_done (by kernel_rfl) ?_ _
                  refine NoPanic.normal ?_
                  have HG5 := Lib.hid (show SeI c (updB u q true) p (Lk.setJ J q ⟨Srt.set ns, 0, 0, false⟩) (fun i => (f i).2.2.2) from by
                    have h := HBG.out
                    have e : ((f q).2.2.2).getD (p q) Ak.zero = a := by rw [HPE.out, HXL.out, HAE.out]
                    simp only [e, HNS.out] at h
                    exact h)
                  clear hS0 hS3 hS4 hS6 hM3 hM4 hL5 hth hRT hJV hINV ho3 ho4 hv3 hv4 hb3 hb4 hd3 HSH hs0 HM HBG HRN HRS2
                  go_wp2_with fail
                  go_meet
                  exact ⟨_, _, _, _, HF5.out, HG5.out, by simp [updB]⟩
                · go_wp2_with fail
                  go_meet
                  exact ⟨_, _, _, _, HK.out, HI.out, huq⟩
              case rest =>
                obtain ⟨Y2, u2, P2, J2, hk2, hi2, hu2⟩ := hcut
                have HK2 := Lib.hid hk2
                have HI2 := Lib.hid hi2
                have HU2 := Lib.hid hu2
                clear hk2 hi2 hu2 HK HI ch cb cbf
                go_upto_region 25 with fail
                have HXS := Lib.hid (show (J2 q).xs = Srt.set (Sh.needS c a) from by
                  have h := (HI2.out.need q hq HU2.out).2
                  have e : ((f q).2.2.2).getD (p q) Ak.zero = a := by rw [HPE.out, HXL.out, HAE.out]
                  simp only [e] at h
                  exact h)
                obtain ⟨B8, T8, m8⟩ := HK2.out.l.mem
                have hS0 : wc.drew.cell? ⟨hbk, 0, none⟩ = some (.int .i64 (q : Int)) ∧ wc.drew.cell? ⟨lx, 0, none⟩ = some (.pointer (some ⟨lp, 0, none⟩)) := ⟨HK2.out.h, m8.l0.cell 0⟩
                clear m8
                refine wp_region_noPanic ?_
                refine wp_region_held (S := fun W => W.cell? ⟨hbk, 0, none⟩ = some (.int .i64 (q : Int)) ∧ W.cell? ⟨lx, 0, none⟩ = some (.pointer (some ⟨lp, 0, none⟩))) (by kernel_rfl) ?_
                refine takeH (fuel := 5) (i := 0) (.int .i64 (q : Int)) ?_ rfl (by kernel_rfl) (by kernel_rfl) (by kernel_rfl) (fun _ _ _ h => h) (by kernel_rfl) (fun W hS => by have c := hS.1; go_simp) hS0 ?_ ?_
                rotate_left 1
                · go_simp
                  exact rfl
                refine takeH (fuel := 4) (i := 1) (.pointer (some ⟨jb, q * 4, none⟩)) ?_ rfl (by kernel_rfl) (by kernel_rfl) (by kernel_rfl) (fun _ _ _ h => h) (by kernel_rfl) (fun W hS => by go_simp) hS0 ?_ ?_
                rotate_left 1
                · go_simp
                  exact rfl
                refine takeH (fuel := 3) (i := 2) (.pointer (some ⟨lp, 0, none⟩)) ?_ rfl (by kernel_rfl) (by kernel_rfl) (by kernel_rfl) (fun _ _ _ h => h) (by kernel_rfl) (fun W hS => by have c := hS.2; go_simp) hS0 ?_ ?_
                rotate_left 1
                · go_simp
                  exact rfl
                refine takeH (fuel := 2) (i := 3) (.int .i64 (q : Int)) ?_ rfl (by kernel_rfl) (by kernel_rfl) (by kernel_rfl) (fun _ _ _ h => h) (by kernel_rfl) (fun W hS => by have c := hS.1; go_simp) hS0 ?_ ?_
                rotate_left 1
                · go_simp
                  exact rfl
                refine takeH (fuel := 1) (i := 4) (.func (.func 12) #[] #[.pointer (some ⟨bs, 0, none⟩), .pointer (some ⟨ab, 0, none⟩), .pointer (some ⟨lx, 0, none⟩), .pointer (some ⟨fb, 0, none⟩), .pointer (some ⟨hbk, 0, none⟩), .pointer (some ⟨xb, 0, none⟩)]) ?_ rfl (by kernel_rfl) (by kernel_rfl) (by kernel_rfl) (fun _ _ _ h => h) (by kernel_rfl) (fun W hS => by go_simp) hS0 ?_ ?_
                rotate_left 1
                · go_simp
                  exact rfl
                refine wpAnyH_all (fuel := 0) (rs := [5]) (by kernel_rfl) (by decide) ?_
                intro i hi
                obtain rfl : i = 5 := by simpa using hi
                refine wpOp_callX 11 #[.pointer (some ⟨jb, q * 4, none⟩), .pointer (some ⟨lp, 0, none⟩), .int .i64 (q : Int), .func (.func 12) #[] #[.pointer (some ⟨bs, 0, none⟩), .pointer (some ⟨ab, 0, none⟩), .pointer (some ⟨lx, 0, none⟩), .pointer (some ⟨fb, 0, none⟩), .pointer (some ⟨hbk, 0, none⟩), .pointer (some ⟨xb, 0, none⟩)]] rfl (by kernel_rfl) (by go_simp) ?_
                refine ((HK2.out.low (Below.refl _ _).drew).step_c hq HAI.out HXS.out).mono ?_
                rintro e w5 ⟨rv, rfl, hk3⟩
                have hi3 := HI2.out.step HU2.out (s := Lk.stJ R nl (q : Int) (J2 q)) (Lk.stJ_needT _ _ _ _)
                obtain ⟨R3, hR3⟩ : ∃ x, Lk.stR R nl (q : Int) (J2 q) = x := ⟨_, rfl⟩
                obtain ⟨J3, hJ3⟩ : ∃ x, Lk.setJ J2 q (Lk.stJ R nl (q : Int) (J2 q)) = x := ⟨_, rfl⟩
                rw [hR3, hJ3] at hk3
                rw [hJ3] at hi3
                clear hR3 hJ3
                have HK3 := Lib.hid hk3
                have HI3 := Lib.hid hi3
                obtain ⟨B8, T8, m8⟩ := HK3.out.l.mem
                refine ⟨_, rfl, ⟨HK3.out.h, m8.l0.cell 0⟩, ?_⟩
                refine wpAnyH_done (by kernel_rfl) ?_ _
                refine NoPanic.normal ?_
                clear hS0 HK2 HI2 hk3 hi3 HXS m8
                have ch := HK3.out.h
                have hjq := HK3.out.l.jobs q hq
                go_wp2_with fail
                refine (done_c jb (q * 4) _ _ _ _ _ _ w5 hjq).mono ?_
                rintro e w6 ⟨rfl, hb6⟩
                have HK6 := Lib.hid (HK3.out.low hb6)
                have HDN := Lib.hid (show ((J3 q).d && ((J3 q).g == ((J3 q).xs.length : Int))) = true → (J3 q).t = (J3 q).xs.length ∧ (J3 q).g = (J3 q).xs.length from fun h => by
                  simp only [Bool.and_eq_true, beq_iff_eq] at h
                  exact ⟨(HK3.out.l.jv q hq).dt h.1, by have := h.2; omega⟩)
                generalize ((J3 q).d && ((J3 q).g == ((J3 q).xs.length : Int))) = dn at *
                clear hb6 HK3 ch hjq
                have ch := HK6.out.h
                have cb : w6.cell? ⟨ub, q, none⟩ = some (.bool (u2 q)) := (HK6.out.l.busy hq).1
                have cbf : w6.frozen? ⟨ub, q, none⟩ = false := (HK6.out.l.busy hq).2
                go_upto_if 115 with fail
                go_cut [] (fun wx => ∃ (u : Nat → Bool) (p : Nat → Nat), SeK Y2 w1 wx ⟨sb, rb, mb, bs, lmb, lp, lx, g, xb, jb, ub, tb, fb⟩ c cp nl R3 u p P2 J3 hbk ab q a ∧ SeI c u p J3 (fun i => (f i).2.2.2))
                case first =>
                  cases dn
                  · go_wp2_with fail
                    go_meet
                    exact ⟨_, _, HK6.out, HI3.out⟩
                  · have HM7 := Lib.hid (HK6.out.mark hq false)
                    have HI7 := Lib.hid (HI3.out.done hq HU2.out (HDN.out rfl).1 (HDN.out rfl).2)
                    generalize u2 q = uq2 at cb
                    go_upto_region 28 with fail
                    generalize w6.setCell ⟨ub, q, none⟩ (.bool false) = w7 at *
                    clear HK6 HI3 HDN ch cb cbf
                    have ch := HM7.out.h
                    have ct : w7.cell? ⟨tb, q, none⟩ = some (.int .i64 (p q : Nat)) := (HM7.out.l.where_ hq).1
                    have ctf : w7.frozen? ⟨tb, q, none⟩ = false := (HM7.out.l.where_ hq).2
                    have HN8 := Lib.hid (HM7.out.next hq (p q + 1))
                    rw [HPE.out] at HN8 HI7 ct
                    have hwp : IntKind.i64.wrap ((pq : Int) + 1) = ((pq + 1 : Nat) : Int) := by rw [IntKind.wrap_i64]; omega
                    go_wp2_with fail
                    go_meet
                    exact ⟨_, _, HN8.out, HI7.out⟩
                case rest =>
                  obtain ⟨u9, p9, hk9, hi9⟩ := hcut
                  have HK9 := Lib.hid hk9
                  have HI9 := Lib.hid hi9
                  clear hk9 hi9 HK6 HI3 HDN ch cb cbf
                  obtain ⟨B9, T9, m9⟩ := HK9.out.l.mem
                  have cf : wc.cell? ⟨fb, 0, none⟩ = some (.bool true) := m9.fi.cell 0
                  have cl : wc.cell? ⟨lx, 0, none⟩ = some (.pointer (some ⟨lp, 0, none⟩)) := m9.l0.cell 0
                  clear m9
                  have HSN := Lib.hid (Lk.stuck_none HK9.out.l.inv)
                  have HLK := Lib.hid HK9.out.l.lk
                  go_wp2_with fail
                  refine (stuck_c _ nl R3 wc (.inr ⟨_, _, _, _, rfl, HLK.out⟩)).mono ?_
                  rintro e w10 ⟨v10, rfl, hown, hb10⟩
                  rw [HSN.out] at hown
                  obtain ⟨p10, cap10, rfl, -⟩ := own_form2 hown
                  have HK10 := Lib.hid (HK9.out.low hb10)
                  clear hown hb10 HK9 HLK HSN
                  rw [show ([] : List Int).length = 0 from rfl]
                  go_wp2_with fail
                  go_roundw
                  case rel => exact ⟨k + 1, _, _, _, _, _, _, by omega, by go_num, HK10.out.l, HI9.out⟩
                  case measure => simp [intOf]; omega
          · obtain rfl : k = n := by omega
            have e0 : decide ((k : Int) < (k : Int)) = false := by simp
            go_wp2_with fail
            obtain ⟨B, T, mm⟩ := HWR.out.mem
            have HM0 := Lib.hid (show SeM wr ⟨sb, rb, mb, bs, lmb, lp, lx, g, xb, jb, ub, tb, fb⟩ c cp B T u p ∧ Below w1.heap.size w1 wr from ⟨mm, HWR.out.bel⟩)
            clear mm HWR HI
            go_loopw [21] (fun iv wr => ∃ i : Nat, i ≤ 6 ∧ iv = .int .i64 (i : Int) ∧ SeM wr ⟨sb, rb, mb, bs, lmb, lp, lx, g, xb, jb, ub, tb, fb⟩ c cp B T u p ∧ Below w1.heap.size w1 wr) (fun iv _ => 6 - (intOf iv).toNat)
            case atStart => exact ⟨0, by omega, rfl, HM0.out.1, HM0.out.2⟩
            case round =>
              obtain ⟨i, hi6, rfl, hm, hbm⟩ := hrel
              have HM := Lib.hid (And.intro hm hbm)
              clear hm hbm HM0
              have cc := HCB.out _ HM.out.2
              by_cases hlt6 : i < 6
              · have e0 : decide ((i : Int) < 6) = true := by simp; omega
                go_upto_region 34 with fail
                refine wp_region_steady (fun V => SeM V ⟨sb, rb, mb, bs, lmb, lp, lx, g, xb, jb, ub, tb, fb⟩ c cp B T u p ∧ Below w1.heap.size w1 V) (by kernel_rfl) (by kernel_rfl) ⟨HM.out.1.low (Below.refl _ _).drew, HM.out.2.trans ((Below.refl _ _).drew.mono HM.out.2.size)⟩ ?_
                refine steady_val ?_ ?_ (by kernel_rfl) (fun W0 hS => ?_) ?_ ?_
                rotate_left 2
                · (have q0 : W0.cell? ⟨bs, 0, none⟩ = some (.pointer (some ⟨sb, 0, none⟩)) := hS.1.s0.cell 0); go_simp
                  exact rfl
                · go_simp
                  exact rfl
                refine steady_enter (.pointer (some ⟨rb, 0, none⟩)) 18 #[.pointer (some ⟨sb, 0, none⟩)] ?_ (by kernel_rfl) (fun W0 hS => ?_) (fun W0 hS => (sram_c W0 hS.1.sh).mono (by rintro e w' ⟨rfl, rfl⟩; exact ⟨rfl, hS⟩)) ?_ ?_
                rotate_left 1
                · go_simp
                · go_simp
                  exact rfl
                refine steady_val ?_ ?_ (by kernel_rfl) (fun W0 hS => ?_) ?_ ?_
                rotate_left 2
                · go_simp
                  exact rfl
                · go_simp
                  exact rfl
                refine steady_enter (.agg (aV .u8 (Rm.row B i))) 19 #[.pointer (some ⟨rb, 0, none⟩), .int .i64 (i : Int)] ?_ (by kernel_rfl) (fun W0 hS => ?_) (fun W0 hS => (line_yes hS.1.sh.ram i (by rw [HC6.out]; exact hlt6)).mono (by rintro e w' ⟨rfl, hb⟩; exact ⟨rfl, hS.1.low hb, hS.2.trans (hb.mono hS.2.size)⟩)) ?_ ?_
                rotate_left 1
                · go_simp
                · go_simp
                  exact rfl
                refine steady_val (.agg (sxT c g c.lines.toNat cp T)) ?_ (by kernel_rfl) (fun W0 hS => exec_load_row SXT _ rfl xb rfl SXT _ _ hS.1.x Tryz.underlying43 rfl info_sx) ?_ ?_
                rotate_left 1
                · go_simp
                  exact rfl
                refine steady_val ?_ ?_ (by kernel_rfl) (fun W0 hS => ?_) ?_ ?_
                rotate_left 2
                · go_simp
                  exact rfl
                · go_simp
                  exact rfl
                refine steady_enter (.agg (aV .u8 (Rm.row B i))) 20 #[.agg (sxT c g c.lines.toNat cp T), .int .i64 (i : Int)] ?_ (by kernel_rfl) (fun W0 hS => ?_) (fun W0 hS => (tline_c c g c.lines.toNat cp T i (by rw [HC6.out]; exact hlt6) W0 hS.1.rf).mono (by rintro e w' ⟨rfl, hb⟩; exact ⟨rfl, hS.1.low hb, hS.2.trans (hb.mono hS.2.size)⟩)) ?_ ?_
                rotate_left 1
                · go_simp
                · go_simp
                  exact rfl
                refine steady_val (.bool false) ?_ (by kernel_rfl) (fun W0 hS => exec_cmp .neq T64b _ _ _ rfl _ _ rfl rfl guard_64 _ (neq_64 _ _ (Rm.mk_len _ _))) ?_ ?_
                rotate_left 1
                · go_simp
                  exact rfl
                refine steady_nil ?_
                intro V hS
                have HM2 := Lib.hid hS
                clear hS HM
                go_wp2_with fail
                go_roundw
                case rel => exact ⟨i + 1, by omega, by go_num, HM2.out.1, HM2.out.2⟩
                case measure => simp [intOf]; omega
              · obtain rfl : i = 6 := by omega
                have e0 : decide (((6 : Nat) : Int) < 6) = false := by decide
                rw [show ((6 : Nat) : Int) = 6 from rfl] at e0 ⊢
                have HBF := Lib.hid (HB1.out.trans (HM.out.2.mono HB1.out.size))
                go_wp2_with fail
                refine (HLN.out _).mono ?_
                rintro e w9 ⟨rfl, hb9⟩
                have HB9 := Lib.hid (HBF.out.trans (hb9.mono HBF.out.size))
                clear hb9
                go_wp2_with fail
                go_ret
                exact ⟨rfl, HB9.out⟩
end Go.Proofs.YtjeolfcefeglpabGreat
