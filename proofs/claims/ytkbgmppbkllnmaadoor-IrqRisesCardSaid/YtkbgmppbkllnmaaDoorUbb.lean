/-
  IrqRises walked.
-/
import Derived.Test.YtkbgmppbkllnmaaDoorUba
set_option maxRecDepth 20000
namespace Go.Proofs.YtkbgmppbkllnmaaDoor
open Go.ChangeShapes Go.WideShapes Go.ChangeAt Go.RowKit Wd Csr Sta Cf Cau

/-- Beside what stands: what is taken, in its box. -/
structure RiS (w W : World) (g gx gc : Nat) (s : S) (c : Nat) : Prop where
  e : IqS w W g gx s
  c : CsAt W gc CaT #[.bool true, .int .i64 (c : Nat)]
theorem RiS.low {w W W' : World} {g gx gc : Nat} {s : S} {c : Nat} (h : RiS w W g gx gc s c) (hb : Below W.heap.size W W') : RiS w W' g gx gc s c := ⟨h.e.low hb, h.c.low hb⟩
theorem RiS.drew {w W : World} {g gx gc : Nat} {s : S} {c : Nat} (h : RiS w W g gx gc s c) : RiS w W.drew g gx gc s c := ⟨h.e.drew, h.c⟩
set_option maxHeartbeats 32000000 in
theorem irises_walk (ao : Option Addr) (n cap : Nat) (l : List Df) (b ln : Int) (w : World) (hds : Dfs w ao n l) (hb8 : 0 ≤ b ∧ b ≤ 255) (hln : 0 ≤ ln ∧ ln ≤ 18446744073709551615) (hT : RowsIn w ∧ KeptIn w) (hO : OrderIn w) :
    Calls Tryd.prog 6 #[.slice ao n cap, .int .u8 b, .int .u64 ln] w fun e w' => e = .returned (.bool true) ∧ Below w.heap.size w w' := by
  have HT := Lib.hid hT
  have HO := Lib.hid hO
  have HLN := Lib.hid (lt64 hln)
  have HFI := Lib.hid (fun (W : World) (hb : Below w.heap.size w W) => files_c ao n cap l W (hds.low hb) ⟨hT.1.low hb, hT.2.low hb⟩)
  have HLV := Lib.hid (live24_c w hT hO)
  clear hds hT hO hln
  by_cases hlong : 30 < n
  · have g0 : decide ((n : Int) > 30) = true := by simp; omega
    clear hlong hb8
    go_enter Tryd.func6, Tryd.ntmps6
    go_wp2_with fail
    refine HLV.out.mono ?_
    rintro e w1 ⟨rfl, hb⟩
    have HB := Lib.hid hb
    clear hb
    go_wp2_with fail
    go_ret
    exact ⟨rfl, HB.out⟩
  · have g0 : decide ((n : Int) > 30) = false := by simp; omega
    clear hlong
    have hr : b % 3 = 0 ∨ b % 3 = 1 ∨ b % 3 = 2 := by omega
    rcases hr with hr | hr | hr
    · go_enter Tryd.func6, Tryd.ntmps6
      go_wp2_with fail
      refine (HFI.out _ (Below.refl _ _)).mono ?_
      rintro e w5 ⟨s, ok, al, rfl, hb⟩
      have HP := Lib.hid (IqS.new HT.out HO.out hb ok)
      clear hb al ok HFI HT HO HLV
      go_upto_region 4 with (first
        | (refine wpList_allocY rfl _ rfl FlT rfl (fileV (zero 0)) (zero_fl _) ?_)
        | (refine wpList_allocY rfl _ rfl RfT rfl (refV (zero 0)) (zero_rf _) ?_)
        | (refine wpList_store_row rfl FlT _ _ rfl w5.heap.size (fileV s) rfl rfl FlT _ (boxA w5 _ _) (iFl _) (by rw [fileV_size, fileV_size]) (flV_one _) ?_)
        | (refine wpList_store_row rfl RfT _ _ rfl (w5.alloc (.cells (fileV (zero 0)) FlT)).heap.size (refV s) rfl rfl RfT _ (boxD w5 _ _ _) (iRf _) (by rw [refV_size, refV_size]) (rfV_one _) ?_))
      try simp only [World.size_alloc]
      generalize ((((w5.alloc (.cells (fileV (zero 0)) FlT)).alloc (.cells (refV (zero 0)) RfT)).setRow w5.heap.size (fileV s)).setRow (w5.heap.size + 1) (refV s)) = w6 at *
      generalize w5.heap.size + 1 = gx at *
      generalize w5.heap.size = g at *
      have OK := Lib.hid HP.out.fl.ok
      go_upto_region 5 with fail
      have hb7 : Below w6.heap.size w6 (w6.alloc (.cells #[.int .i64 0, .int .i64 1, .int .i64 3] 28)) := (Below.refl _ _).alloc (Nat.le_refl _) _
      have HP7 := Lib.hid (HP.out.low hb7)
      clear hb7 HP
      generalize w6.alloc (.cells #[.int .i64 0, .int .i64 1, .int .i64 3] 28) = w7 at *
      have HNX := Lib.hid (fun W (h : IqS w W g gx s) => inext_c (.pointer (some ⟨g, 0, none⟩)) (getS s) (w64_file OK.out) 0 ln HLN.out W h.rd h.o)
      cases hnx : nextG (getS s) 0 ln with
      | none =>
        rw [hnx] at HNX
        clear hnx
        unfold oI at HNX
        dsimp only [Option.isSome, Option.getD] at HNX
        go_wp2_with fail
        refine (HNX.out _ HP7.out).mono ?_
        rintro e w8 ⟨rfl, hb⟩
        have HP8 := Lib.hid (HP7.out.low hb)
        clear hb HP7 HNX
        go_upto_region 6 with (first
          | (refine wpList_allocY rfl _ rfl CaT rfl #[.bool false, .int .i64 0] (zero_caI _) ?_)
          | (refine wpList_storeNew (w0 := w8) rfl CaT _ _ rfl #[.bool false, .int .i64 0] #[.bool false, .int .i64 (0 : Nat)] CaT rfl rfl info_caI rfl rfl ?_))
        have hb9 : Below w8.heap.size w8 (w8.alloc (.cells #[.bool false, .int .i64 (0 : Nat)] CaT)) := (Below.refl _ _).alloc (Nat.le_refl _) _
        have HP9 := Lib.hid (HP8.out.low hb9)
        have HC9 := Lib.hid (CsAt.new w8 CaT #[.bool false, .int .i64 (0 : Nat)])
        clear hb9 HP8
        generalize w8.alloc (.cells #[.bool false, .int .i64 (0 : Nat)] CaT) = w9 at *
        generalize w8.heap.size = gc at *
        have heq : (binOp .eql CaT (.agg #[.bool false, .int .i64 0]) (.agg #[.bool false, .int .i64 0])).run Tryd.prog w9 = .ok (.bool true) w9 := eq_self false ⟨by omega, by omega⟩ w9
        go_wp2_with (refine wpList_load_row rfl CaT _ rfl gc rfl CaT _ (0, 0) _ HC9.out Tryd.underlying24 rfl info_caI ?_)
        refine (live24_c _ ⟨HP9.out.n, HP9.out.k⟩ HP9.out.o).mono ?_
        rintro e wf ⟨rfl, hb⟩
        have HPF := Lib.hid (HP9.out.low hb)
        clear hb heq
        go_wp2_with fail
        go_ret
        exact ⟨rfl, HPF.out.bel⟩
      | some c =>
        rw [hnx] at HNX
        have hri := rises OK.out (by decide) HLN.out hnx (s.f 770)
        obtain ⟨hc, hwb, -⟩ := next_cases (w64_file OK.out) HLN.out hnx
        have HTO := Lib.hid (fun W => kto_c true c 0 (s.f 770) (s.f 771) W (OK.out.w _) (OK.out.w _))
        have HWT := Lib.hid (fun W (h : IqS w W g gx s) => iwait_c (.pointer (some ⟨g, 0, none⟩)) (getS s) ln W h.rd)
        have HWK := Lib.hid (fun W (h : IqS w W g gx s) => iwakes_c (.pointer (some ⟨g, 0, none⟩)) (getS s) ln W h.rd)
        rw [tb_nz hwb] at HWK
        have hbt := bitK (waitG_64 (w64_file OK.out) HLN.out) c
        rw [hwb] at hbt
        have hst8 := and_8 (OK.out.w 768)
        have hst2 := and_2 (OK.out.w 768)
        have hac := toK_cases true c 0 (s.f 770) (s.f 771)
        have hcw : IntKind.u64.wrap (c : Int) = c := by rw [IntKind.wrap_u64]; omega
        have hc63 : (c : Int) < 64 := by omega
        have hc0 : (0 : Int) ≤ c := by omega
        have HBT := Lib.hid hbt
        have HS8 := Lib.hid hst8
        have HS2 := Lib.hid hst2
        have HRI := Lib.hid hri
        have HAC := Lib.hid hac
        have HHC := Lib.hid hc
        have HCW := Lib.hid hcw
        clear hnx hwb hbt hst8 hst2 hri hac hc hcw hc63 hc0
        unfold oI at HNX
        dsimp only [Option.isSome, Option.getD] at HNX
        generalize waitG (getS s) ln = wt at *
        generalize toK true c 0 (s.f 770) (s.f 771) = a at *
        go_wp2_with fail
        refine (HNX.out _ HP7.out).mono ?_
        rintro e w8 ⟨rfl, hb⟩
        have HP8 := Lib.hid (HP7.out.low hb)
        clear hb HP7 HNX
        go_upto_region 6 with (first
          | (refine wpList_allocY rfl _ rfl CaT rfl #[.bool false, .int .i64 0] (zero_caI _) ?_)
          | (refine wpList_storeNew (w0 := w8) rfl CaT _ _ rfl #[.bool false, .int .i64 0] #[.bool true, .int .i64 (c : Nat)] CaT rfl rfl info_caI rfl rfl ?_))
        have hb9 : Below w8.heap.size w8 (w8.alloc (.cells #[.bool true, .int .i64 (c : Nat)] CaT)) := (Below.refl _ _).alloc (Nat.le_refl _) _
        have HR9 := Lib.hid (show RiS w (w8.alloc (.cells #[.bool true, .int .i64 (c : Nat)] CaT)) g gx w8.heap.size s c from ⟨HP8.out.low hb9, CsAt.new w8 CaT #[.bool true, .int .i64 (c : Nat)]⟩)
        clear hb9 HP8
        generalize w8.alloc (.cells #[.bool true, .int .i64 (c : Nat)] CaT) = w9 at *
        generalize w8.heap.size = gc at *
        go_upto_region 8 with fail
        have HG0 := Lib.hid (fun W (h : IqS w W g gx s) => fcget_c g 770 0 s W h.k h.fl)
        have HG1 := Lib.hid (fun W (h : IqS w W g gx s) => fcget_c g 771 0 s W h.k h.fl)
        rw [get_770] at HG0
        rw [get_771] at HG1
        generalize s.f 770 = d0 at *
        generalize s.f 771 = d1 at *
        refine wp_region_steady (fun W => RiS w W g gx gc s c) (by kernel_rfl) (by kernel_rfl) HR9.out.drew ?_
        refine steady_val (.agg #[.bool true, .int .i64 (c : Nat)]) ?_ (by kernel_rfl) (fun W hS => exec_load_row CaT _ rfl gc rfl CaT _ _ hS.c Tryd.underlying24 rfl info_caI) ?_ ?_
        rotate_left 1
        · go_simp
          exact rfl
        refine steady_val ?_ ?_ (by kernel_rfl) (fun W hS => ?_) ?_ ?_
        rotate_left 2
        · go_simp
          exact rfl
        · go_simp
          exact rfl
        refine steady_enter (.int .u64 d0) 24 #[.pointer (some ⟨g, 0, none⟩), .int .i64 770, .int .u64 0] ?_ (by kernel_rfl) (fun W hS => ?_) (fun W hS => (HG0.out W hS.e).mono (by rintro e w' ⟨rfl, hb⟩; exact ⟨rfl, hS.low hb⟩)) ?_ ?_
        rotate_left 1
        · go_simp
        · go_simp
          exact rfl
        refine steady_enter (.int .u64 d1) 24 #[.pointer (some ⟨g, 0, none⟩), .int .i64 771, .int .u64 0] ?_ (by kernel_rfl) (fun W hS => ?_) (fun W hS => (HG1.out W hS.e).mono (by rintro e w' ⟨rfl, hb⟩; exact ⟨rfl, hS.low hb⟩)) ?_ ?_
        rotate_left 1
        · go_simp
        · go_simp
          exact rfl
        refine steady_enter (.int .i64 a) 23 #[.agg #[.bool true, .int .i64 (c : Nat)], .int .i64 0, .int .u64 d0, .int .u64 d1] ?_ (by kernel_rfl) (fun W hS => ?_) (fun W hS => (HTO.out W).mono (by rintro e w' ⟨rfl, hb⟩; exact ⟨rfl, hS.low hb⟩)) ?_ ?_
        rotate_left 1
        · go_simp
        · go_simp
          exact rfl
        refine steady_val ?_ ?_ (by kernel_rfl) (fun W hS => ?_) ?_ ?_
        rotate_left 2
        · go_simp
          exact rfl
        · go_simp
          exact rfl
        refine steady_nil ?_
        intro W hS
        have HRA := Lib.hid hS
        clear hS HR9 HG0 HG1 HTO
        go_wp2_with fail
        refine (fcget_c g 768 0 s _ HRA.out.e.k HRA.out.e.fl).mono ?_
        rintro e wb ⟨rfl, hb⟩
        have HRB := Lib.hid (HRA.out.low hb)
        clear hb HRA
        rw [get_768]
        generalize s.f 768 = st at *
        rcases HAC.out with rfl | rfl
        · clear HRI HS8 HS2 HAC
          go_upto_region 12 with fail
          have hcw := HCW.out
          have hbt := HBT.out
          have hcz : ¬ ((c : Int) < 0) := by omega
          have hcl : (c : Int) < 64 := by have := HHC.out; omega
          refine wp_region_steady (fun W => RiS w W g gx gc s c) (by kernel_rfl) (by kernel_rfl) HRB.out.drew ?_
          iterate 5
            refine steady_val ?_ ?_ (by kernel_rfl) (fun W hS => ?_) ?_ ?_
            rotate_left 2
            · go_simp
              exact rfl
            · go_simp
              exact rfl
          refine steady_enter (.int .u64 wt) 18 #[.pointer (some ⟨g, 0, none⟩), .int .u64 ln] ?_ (by kernel_rfl) (fun W hS => ?_) (fun W hS => (HWT.out W hS.e).mono (by rintro e w' ⟨rfl, hb⟩; exact ⟨rfl, hS.low hb⟩)) ?_ ?_
          rotate_left 1
          · go_simp
          · go_simp
            exact rfl
          refine steady_val ?_ ?_ (by kernel_rfl) (fun W hS => ?_) ?_ ?_
          rotate_left 2
          · go_simp
            exact rfl
          · go_simp
            exact rfl
          refine steady_val ?_ ?_ (by kernel_rfl) (fun W hS => ?_) ?_ ?_
          rotate_left 2
          · have q := hS.c.cell 1; simp only [List.getElem?_toArray, List.getElem?_cons_zero, List.getElem?_cons_succ] at q; go_simp
            exact rfl
          · go_simp
            exact rfl
          refine steady_val ?_ ?_ (by kernel_rfl) (fun W hS => ?_) ?_ ?_
          rotate_left 2
          · go_simp
            exact rfl
          · go_simp
            exact rfl
          refine steady_val (.int .u64 (wt / 2 ^ c)) ?_ (by kernel_rfl) (fun W hS => by go_simp) ?_ ?_
          rotate_left 1
          · go_simp
            exact rfl
          iterate 5
            refine steady_val ?_ ?_ (by kernel_rfl) (fun W hS => ?_) ?_ ?_
            rotate_left 2
            · go_simp
              exact rfl
            · go_simp
              exact rfl
          refine steady_enter (.bool true) 19 #[.pointer (some ⟨g, 0, none⟩), .int .u64 ln] ?_ (by kernel_rfl) (fun W hS => ?_) (fun W hS => (HWK.out W hS.e).mono (by rintro e w' ⟨rfl, hb⟩; exact ⟨rfl, hS.low hb⟩)) ?_ ?_
          rotate_left 1
          · go_simp
          · go_simp
            exact rfl
          iterate 2
            refine steady_val ?_ ?_ (by kernel_rfl) (fun W hS => ?_) ?_ ?_
            rotate_left 2
            · go_simp
              exact rfl
            · go_simp
              exact rfl
          refine steady_enter (.bool true) 20 #[] ?_ (by kernel_rfl) (fun W hS => ?_) (fun W hS => (live24_c W ⟨hS.e.n, hS.e.k⟩ hS.e.o).mono (by rintro e w' ⟨rfl, hb⟩; exact ⟨rfl, hS.low hb⟩)) ?_ ?_
          rotate_left 1
          · go_simp
          · go_simp
            exact rfl
          iterate 2
            refine steady_val ?_ ?_ (by kernel_rfl) (fun W hS => ?_) ?_ ?_
            rotate_left 2
            · go_simp
              exact rfl
            · go_simp
              exact rfl
          refine steady_nil ?_
          intro W hS
          have HZ := Lib.hid hS
          clear hS
          go_wp2_with fail
          go_ret
          exact ⟨rfl, HZ.out.e.bel⟩
        · clear HRI HS8 HS2 HAC
          go_upto_region 12 with fail
          have hcw := HCW.out
          have hbt := HBT.out
          have hcz : ¬ ((c : Int) < 0) := by omega
          have hcl : (c : Int) < 64 := by have := HHC.out; omega
          refine wp_region_steady (fun W => RiS w W g gx gc s c) (by kernel_rfl) (by kernel_rfl) HRB.out.drew ?_
          iterate 5
            refine steady_val ?_ ?_ (by kernel_rfl) (fun W hS => ?_) ?_ ?_
            rotate_left 2
            · go_simp
              exact rfl
            · go_simp
              exact rfl
          refine steady_enter (.int .u64 wt) 18 #[.pointer (some ⟨g, 0, none⟩), .int .u64 ln] ?_ (by kernel_rfl) (fun W hS => ?_) (fun W hS => (HWT.out W hS.e).mono (by rintro e w' ⟨rfl, hb⟩; exact ⟨rfl, hS.low hb⟩)) ?_ ?_
          rotate_left 1
          · go_simp
          · go_simp
            exact rfl
          refine steady_val ?_ ?_ (by kernel_rfl) (fun W hS => ?_) ?_ ?_
          rotate_left 2
          · go_simp
            exact rfl
          · go_simp
            exact rfl
          refine steady_val ?_ ?_ (by kernel_rfl) (fun W hS => ?_) ?_ ?_
          rotate_left 2
          · have q := hS.c.cell 1; simp only [List.getElem?_toArray, List.getElem?_cons_zero, List.getElem?_cons_succ] at q; go_simp
            exact rfl
          · go_simp
            exact rfl
          refine steady_val ?_ ?_ (by kernel_rfl) (fun W hS => ?_) ?_ ?_
          rotate_left 2
          · go_simp
            exact rfl
          · go_simp
            exact rfl
          refine steady_val (.int .u64 (wt / 2 ^ c)) ?_ (by kernel_rfl) (fun W hS => by go_simp) ?_ ?_
          rotate_left 1
          · go_simp
            exact rfl
          iterate 5
            refine steady_val ?_ ?_ (by kernel_rfl) (fun W hS => ?_) ?_ ?_
            rotate_left 2
            · go_simp
              exact rfl
            · go_simp
              exact rfl
          refine steady_enter (.bool true) 19 #[.pointer (some ⟨g, 0, none⟩), .int .u64 ln] ?_ (by kernel_rfl) (fun W hS => ?_) (fun W hS => (HWK.out W hS.e).mono (by rintro e w' ⟨rfl, hb⟩; exact ⟨rfl, hS.low hb⟩)) ?_ ?_
          rotate_left 1
          · go_simp
          · go_simp
            exact rfl
          iterate 2
            refine steady_val ?_ ?_ (by kernel_rfl) (fun W hS => ?_) ?_ ?_
            rotate_left 2
            · go_simp
              exact rfl
            · go_simp
              exact rfl
          refine steady_enter (.bool true) 20 #[] ?_ (by kernel_rfl) (fun W hS => ?_) (fun W hS => (live24_c W ⟨hS.e.n, hS.e.k⟩ hS.e.o).mono (by rintro e w' ⟨rfl, hb⟩; exact ⟨rfl, hS.low hb⟩)) ?_ ?_
          rotate_left 1
          · go_simp
          · go_simp
            exact rfl
          iterate 2
            refine steady_val ?_ ?_ (by kernel_rfl) (fun W hS => ?_) ?_ ?_
            rotate_left 2
            · go_simp
              exact rfl
            · go_simp
              exact rfl
          refine steady_nil ?_
          intro W hS
          have HZ := Lib.hid hS
          clear hS
          go_wp2_with fail
          go_ret
          exact ⟨rfl, HZ.out.e.bel⟩
    · go_enter Tryd.func6, Tryd.ntmps6
      go_wp2_with fail
      refine (HFI.out _ (Below.refl _ _)).mono ?_
      rintro e w5 ⟨s, ok, al, rfl, hb⟩
      have HP := Lib.hid (IqS.new HT.out HO.out hb ok)
      clear hb al ok HFI HT HO HLV
      go_upto_region 4 with (first
        | (refine wpList_allocY rfl _ rfl FlT rfl (fileV (zero 0)) (zero_fl _) ?_)
        | (refine wpList_allocY rfl _ rfl RfT rfl (refV (zero 0)) (zero_rf _) ?_)
        | (refine wpList_store_row rfl FlT _ _ rfl w5.heap.size (fileV s) rfl rfl FlT _ (boxA w5 _ _) (iFl _) (by rw [fileV_size, fileV_size]) (flV_one _) ?_)
        | (refine wpList_store_row rfl RfT _ _ rfl (w5.alloc (.cells (fileV (zero 0)) FlT)).heap.size (refV s) rfl rfl RfT _ (boxD w5 _ _ _) (iRf _) (by rw [refV_size, refV_size]) (rfV_one _) ?_))
      try simp only [World.size_alloc]
      generalize ((((w5.alloc (.cells (fileV (zero 0)) FlT)).alloc (.cells (refV (zero 0)) RfT)).setRow w5.heap.size (fileV s)).setRow (w5.heap.size + 1) (refV s)) = w6 at *
      generalize w5.heap.size + 1 = gx at *
      generalize w5.heap.size = g at *
      have OK := Lib.hid HP.out.fl.ok
      go_upto_region 5 with fail
      have hb7 : Below w6.heap.size w6 (w6.alloc (.cells #[.int .i64 0, .int .i64 1, .int .i64 3] 28)) := (Below.refl _ _).alloc (Nat.le_refl _) _
      have HP7 := Lib.hid (HP.out.low hb7)
      clear hb7 HP
      generalize w6.alloc (.cells #[.int .i64 0, .int .i64 1, .int .i64 3] 28) = w7 at *
      have HNX := Lib.hid (fun W (h : IqS w W g gx s) => inext_c (.pointer (some ⟨g, 0, none⟩)) (getS s) (w64_file OK.out) 1 ln HLN.out W h.rd h.o)
      cases hnx : nextG (getS s) 1 ln with
      | none =>
        rw [hnx] at HNX
        clear hnx
        unfold oI at HNX
        dsimp only [Option.isSome, Option.getD] at HNX
        go_wp2_with fail
        refine (HNX.out _ HP7.out).mono ?_
        rintro e w8 ⟨rfl, hb⟩
        have HP8 := Lib.hid (HP7.out.low hb)
        clear hb HP7 HNX
        go_upto_region 6 with (first
          | (refine wpList_allocY rfl _ rfl CaT rfl #[.bool false, .int .i64 0] (zero_caI _) ?_)
          | (refine wpList_storeNew (w0 := w8) rfl CaT _ _ rfl #[.bool false, .int .i64 0] #[.bool false, .int .i64 (0 : Nat)] CaT rfl rfl info_caI rfl rfl ?_))
        have hb9 : Below w8.heap.size w8 (w8.alloc (.cells #[.bool false, .int .i64 (0 : Nat)] CaT)) := (Below.refl _ _).alloc (Nat.le_refl _) _
        have HP9 := Lib.hid (HP8.out.low hb9)
        have HC9 := Lib.hid (CsAt.new w8 CaT #[.bool false, .int .i64 (0 : Nat)])
        clear hb9 HP8
        generalize w8.alloc (.cells #[.bool false, .int .i64 (0 : Nat)] CaT) = w9 at *
        generalize w8.heap.size = gc at *
        have heq : (binOp .eql CaT (.agg #[.bool false, .int .i64 0]) (.agg #[.bool false, .int .i64 0])).run Tryd.prog w9 = .ok (.bool true) w9 := eq_self false ⟨by omega, by omega⟩ w9
        go_wp2_with (refine wpList_load_row rfl CaT _ rfl gc rfl CaT _ (0, 0) _ HC9.out Tryd.underlying24 rfl info_caI ?_)
        refine (live24_c _ ⟨HP9.out.n, HP9.out.k⟩ HP9.out.o).mono ?_
        rintro e wf ⟨rfl, hb⟩
        have HPF := Lib.hid (HP9.out.low hb)
        clear hb heq
        go_wp2_with fail
        go_ret
        exact ⟨rfl, HPF.out.bel⟩
      | some c =>
        rw [hnx] at HNX
        have hri := rises OK.out (by decide) HLN.out hnx (s.f 770)
        obtain ⟨hc, hwb, -⟩ := next_cases (w64_file OK.out) HLN.out hnx
        have HTO := Lib.hid (fun W => kto_c true c 1 (s.f 770) (s.f 771) W (OK.out.w _) (OK.out.w _))
        have HWT := Lib.hid (fun W (h : IqS w W g gx s) => iwait_c (.pointer (some ⟨g, 0, none⟩)) (getS s) ln W h.rd)
        have HWK := Lib.hid (fun W (h : IqS w W g gx s) => iwakes_c (.pointer (some ⟨g, 0, none⟩)) (getS s) ln W h.rd)
        rw [tb_nz hwb] at HWK
        have hbt := bitK (waitG_64 (w64_file OK.out) HLN.out) c
        rw [hwb] at hbt
        have hst8 := and_8 (OK.out.w 768)
        have hst2 := and_2 (OK.out.w 768)
        have hac := toK_cases true c 1 (s.f 770) (s.f 771)
        have hcw : IntKind.u64.wrap (c : Int) = c := by rw [IntKind.wrap_u64]; omega
        have hc63 : (c : Int) < 64 := by omega
        have hc0 : (0 : Int) ≤ c := by omega
        have HBT := Lib.hid hbt
        have HS8 := Lib.hid hst8
        have HS2 := Lib.hid hst2
        have HRI := Lib.hid hri
        have HAC := Lib.hid hac
        have HHC := Lib.hid hc
        have HCW := Lib.hid hcw
        clear hnx hwb hbt hst8 hst2 hri hac hc hcw hc63 hc0
        unfold oI at HNX
        dsimp only [Option.isSome, Option.getD] at HNX
        generalize waitG (getS s) ln = wt at *
        generalize toK true c 1 (s.f 770) (s.f 771) = a at *
        go_wp2_with fail
        refine (HNX.out _ HP7.out).mono ?_
        rintro e w8 ⟨rfl, hb⟩
        have HP8 := Lib.hid (HP7.out.low hb)
        clear hb HP7 HNX
        go_upto_region 6 with (first
          | (refine wpList_allocY rfl _ rfl CaT rfl #[.bool false, .int .i64 0] (zero_caI _) ?_)
          | (refine wpList_storeNew (w0 := w8) rfl CaT _ _ rfl #[.bool false, .int .i64 0] #[.bool true, .int .i64 (c : Nat)] CaT rfl rfl info_caI rfl rfl ?_))
        have hb9 : Below w8.heap.size w8 (w8.alloc (.cells #[.bool true, .int .i64 (c : Nat)] CaT)) := (Below.refl _ _).alloc (Nat.le_refl _) _
        have HR9 := Lib.hid (show RiS w (w8.alloc (.cells #[.bool true, .int .i64 (c : Nat)] CaT)) g gx w8.heap.size s c from ⟨HP8.out.low hb9, CsAt.new w8 CaT #[.bool true, .int .i64 (c : Nat)]⟩)
        clear hb9 HP8
        generalize w8.alloc (.cells #[.bool true, .int .i64 (c : Nat)] CaT) = w9 at *
        generalize w8.heap.size = gc at *
        go_upto_region 8 with fail
        have HG0 := Lib.hid (fun W (h : IqS w W g gx s) => fcget_c g 770 0 s W h.k h.fl)
        have HG1 := Lib.hid (fun W (h : IqS w W g gx s) => fcget_c g 771 0 s W h.k h.fl)
        rw [get_770] at HG0
        rw [get_771] at HG1
        generalize s.f 770 = d0 at *
        generalize s.f 771 = d1 at *
        refine wp_region_steady (fun W => RiS w W g gx gc s c) (by kernel_rfl) (by kernel_rfl) HR9.out.drew ?_
        refine steady_val (.agg #[.bool true, .int .i64 (c : Nat)]) ?_ (by kernel_rfl) (fun W hS => exec_load_row CaT _ rfl gc rfl CaT _ _ hS.c Tryd.underlying24 rfl info_caI) ?_ ?_
        rotate_left 1
        · go_simp
          exact rfl
        refine steady_val ?_ ?_ (by kernel_rfl) (fun W hS => ?_) ?_ ?_
        rotate_left 2
        · go_simp
          exact rfl
        · go_simp
          exact rfl
        refine steady_enter (.int .u64 d0) 24 #[.pointer (some ⟨g, 0, none⟩), .int .i64 770, .int .u64 0] ?_ (by kernel_rfl) (fun W hS => ?_) (fun W hS => (HG0.out W hS.e).mono (by rintro e w' ⟨rfl, hb⟩; exact ⟨rfl, hS.low hb⟩)) ?_ ?_
        rotate_left 1
        · go_simp
        · go_simp
          exact rfl
        refine steady_enter (.int .u64 d1) 24 #[.pointer (some ⟨g, 0, none⟩), .int .i64 771, .int .u64 0] ?_ (by kernel_rfl) (fun W hS => ?_) (fun W hS => (HG1.out W hS.e).mono (by rintro e w' ⟨rfl, hb⟩; exact ⟨rfl, hS.low hb⟩)) ?_ ?_
        rotate_left 1
        · go_simp
        · go_simp
          exact rfl
        refine steady_enter (.int .i64 a) 23 #[.agg #[.bool true, .int .i64 (c : Nat)], .int .i64 1, .int .u64 d0, .int .u64 d1] ?_ (by kernel_rfl) (fun W hS => ?_) (fun W hS => (HTO.out W).mono (by rintro e w' ⟨rfl, hb⟩; exact ⟨rfl, hS.low hb⟩)) ?_ ?_
        rotate_left 1
        · go_simp
        · go_simp
          exact rfl
        refine steady_val ?_ ?_ (by kernel_rfl) (fun W hS => ?_) ?_ ?_
        rotate_left 2
        · go_simp
          exact rfl
        · go_simp
          exact rfl
        refine steady_nil ?_
        intro W hS
        have HRA := Lib.hid hS
        clear hS HR9 HG0 HG1 HTO
        go_wp2_with fail
        refine (fcget_c g 768 0 s _ HRA.out.e.k HRA.out.e.fl).mono ?_
        rintro e wb ⟨rfl, hb⟩
        have HRB := Lib.hid (HRA.out.low hb)
        clear hb HRA
        rw [get_768]
        generalize s.f 768 = st at *
        rcases HAC.out with rfl | rfl
        · clear HRI HS8 HS2 HAC
          go_upto_region 12 with fail
          have hcw := HCW.out
          have hbt := HBT.out
          have hcz : ¬ ((c : Int) < 0) := by omega
          have hcl : (c : Int) < 64 := by have := HHC.out; omega
          refine wp_region_steady (fun W => RiS w W g gx gc s c) (by kernel_rfl) (by kernel_rfl) HRB.out.drew ?_
          iterate 5
            refine steady_val ?_ ?_ (by kernel_rfl) (fun W hS => ?_) ?_ ?_
            rotate_left 2
            · go_simp
              exact rfl
            · go_simp
              exact rfl
          refine steady_enter (.int .u64 wt) 18 #[.pointer (some ⟨g, 0, none⟩), .int .u64 ln] ?_ (by kernel_rfl) (fun W hS => ?_) (fun W hS => (HWT.out W hS.e).mono (by rintro e w' ⟨rfl, hb⟩; exact ⟨rfl, hS.low hb⟩)) ?_ ?_
          rotate_left 1
          · go_simp
          · go_simp
            exact rfl
          refine steady_val ?_ ?_ (by kernel_rfl) (fun W hS => ?_) ?_ ?_
          rotate_left 2
          · go_simp
            exact rfl
          · go_simp
            exact rfl
          refine steady_val ?_ ?_ (by kernel_rfl) (fun W hS => ?_) ?_ ?_
          rotate_left 2
          · have q := hS.c.cell 1; simp only [List.getElem?_toArray, List.getElem?_cons_zero, List.getElem?_cons_succ] at q; go_simp
            exact rfl
          · go_simp
            exact rfl
          refine steady_val ?_ ?_ (by kernel_rfl) (fun W hS => ?_) ?_ ?_
          rotate_left 2
          · go_simp
            exact rfl
          · go_simp
            exact rfl
          refine steady_val (.int .u64 (wt / 2 ^ c)) ?_ (by kernel_rfl) (fun W hS => by go_simp) ?_ ?_
          rotate_left 1
          · go_simp
            exact rfl
          iterate 5
            refine steady_val ?_ ?_ (by kernel_rfl) (fun W hS => ?_) ?_ ?_
            rotate_left 2
            · go_simp
              exact rfl
            · go_simp
              exact rfl
          refine steady_enter (.bool true) 19 #[.pointer (some ⟨g, 0, none⟩), .int .u64 ln] ?_ (by kernel_rfl) (fun W hS => ?_) (fun W hS => (HWK.out W hS.e).mono (by rintro e w' ⟨rfl, hb⟩; exact ⟨rfl, hS.low hb⟩)) ?_ ?_
          rotate_left 1
          · go_simp
          · go_simp
            exact rfl
          iterate 2
            refine steady_val ?_ ?_ (by kernel_rfl) (fun W hS => ?_) ?_ ?_
            rotate_left 2
            · go_simp
              exact rfl
            · go_simp
              exact rfl
          refine steady_enter (.bool true) 20 #[] ?_ (by kernel_rfl) (fun W hS => ?_) (fun W hS => (live24_c W ⟨hS.e.n, hS.e.k⟩ hS.e.o).mono (by rintro e w' ⟨rfl, hb⟩; exact ⟨rfl, hS.low hb⟩)) ?_ ?_
          rotate_left 1
          · go_simp
          · go_simp
            exact rfl
          iterate 2
            refine steady_val ?_ ?_ (by kernel_rfl) (fun W hS => ?_) ?_ ?_
            rotate_left 2
            · go_simp
              exact rfl
            · go_simp
              exact rfl
          refine steady_nil ?_
          intro W hS
          have HZ := Lib.hid hS
          clear hS
          go_wp2_with fail
          go_ret
          exact ⟨rfl, HZ.out.e.bel⟩
        · have h2 : (bits .and .u64 st 2 == 0) = false := by rw [HS2.out, HRI.out.2.1 (by simp) (by simp)]; rfl
          clear HRI HS8 HS2 HAC
          go_upto_region 12 with fail
          clear h2
          have hcw := HCW.out
          have hbt := HBT.out
          have hcz : ¬ ((c : Int) < 0) := by omega
          have hcl : (c : Int) < 64 := by have := HHC.out; omega
          refine wp_region_steady (fun W => RiS w W g gx gc s c) (by kernel_rfl) (by kernel_rfl) HRB.out.drew ?_
          iterate 5
            refine steady_val ?_ ?_ (by kernel_rfl) (fun W hS => ?_) ?_ ?_
            rotate_left 2
            · go_simp
              exact rfl
            · go_simp
              exact rfl
          refine steady_enter (.int .u64 wt) 18 #[.pointer (some ⟨g, 0, none⟩), .int .u64 ln] ?_ (by kernel_rfl) (fun W hS => ?_) (fun W hS => (HWT.out W hS.e).mono (by rintro e w' ⟨rfl, hb⟩; exact ⟨rfl, hS.low hb⟩)) ?_ ?_
          rotate_left 1
          · go_simp
          · go_simp
            exact rfl
          refine steady_val ?_ ?_ (by kernel_rfl) (fun W hS => ?_) ?_ ?_
          rotate_left 2
          · go_simp
            exact rfl
          · go_simp
            exact rfl
          refine steady_val ?_ ?_ (by kernel_rfl) (fun W hS => ?_) ?_ ?_
          rotate_left 2
          · have q := hS.c.cell 1; simp only [List.getElem?_toArray, List.getElem?_cons_zero, List.getElem?_cons_succ] at q; go_simp
            exact rfl
          · go_simp
            exact rfl
          refine steady_val ?_ ?_ (by kernel_rfl) (fun W hS => ?_) ?_ ?_
          rotate_left 2
          · go_simp
            exact rfl
          · go_simp
            exact rfl
          refine steady_val (.int .u64 (wt / 2 ^ c)) ?_ (by kernel_rfl) (fun W hS => by go_simp) ?_ ?_
          rotate_left 1
          · go_simp
            exact rfl
          iterate 5
            refine steady_val ?_ ?_ (by kernel_rfl) (fun W hS => ?_) ?_ ?_
            rotate_left 2
            · go_simp
              exact rfl
            · go_simp
              exact rfl
          refine steady_enter (.bool true) 19 #[.pointer (some ⟨g, 0, none⟩), .int .u64 ln] ?_ (by kernel_rfl) (fun W hS => ?_) (fun W hS => (HWK.out W hS.e).mono (by rintro e w' ⟨rfl, hb⟩; exact ⟨rfl, hS.low hb⟩)) ?_ ?_
          rotate_left 1
          · go_simp
          · go_simp
            exact rfl
          iterate 2
            refine steady_val ?_ ?_ (by kernel_rfl) (fun W hS => ?_) ?_ ?_
            rotate_left 2
            · go_simp
              exact rfl
            · go_simp
              exact rfl
          refine steady_enter (.bool true) 20 #[] ?_ (by kernel_rfl) (fun W hS => ?_) (fun W hS => (live24_c W ⟨hS.e.n, hS.e.k⟩ hS.e.o).mono (by rintro e w' ⟨rfl, hb⟩; exact ⟨rfl, hS.low hb⟩)) ?_ ?_
          rotate_left 1
          · go_simp
          · go_simp
            exact rfl
          iterate 2
            refine steady_val ?_ ?_ (by kernel_rfl) (fun W hS => ?_) ?_ ?_
            rotate_left 2
            · go_simp
              exact rfl
            · go_simp
              exact rfl
          refine steady_nil ?_
          intro W hS
          have HZ := Lib.hid hS
          clear hS
          go_wp2_with fail
          go_ret
          exact ⟨rfl, HZ.out.e.bel⟩
    · go_enter Tryd.func6, Tryd.ntmps6
      go_wp2_with fail
      refine (HFI.out _ (Below.refl _ _)).mono ?_
      rintro e w5 ⟨s, ok, al, rfl, hb⟩
      have HP := Lib.hid (IqS.new HT.out HO.out hb ok)
      clear hb al ok HFI HT HO HLV
      go_upto_region 4 with (first
        | (refine wpList_allocY rfl _ rfl FlT rfl (fileV (zero 0)) (zero_fl _) ?_)
        | (refine wpList_allocY rfl _ rfl RfT rfl (refV (zero 0)) (zero_rf _) ?_)
        | (refine wpList_store_row rfl FlT _ _ rfl w5.heap.size (fileV s) rfl rfl FlT _ (boxA w5 _ _) (iFl _) (by rw [fileV_size, fileV_size]) (flV_one _) ?_)
        | (refine wpList_store_row rfl RfT _ _ rfl (w5.alloc (.cells (fileV (zero 0)) FlT)).heap.size (refV s) rfl rfl RfT _ (boxD w5 _ _ _) (iRf _) (by rw [refV_size, refV_size]) (rfV_one _) ?_))
      try simp only [World.size_alloc]
      generalize ((((w5.alloc (.cells (fileV (zero 0)) FlT)).alloc (.cells (refV (zero 0)) RfT)).setRow w5.heap.size (fileV s)).setRow (w5.heap.size + 1) (refV s)) = w6 at *
      generalize w5.heap.size + 1 = gx at *
      generalize w5.heap.size = g at *
      have OK := Lib.hid HP.out.fl.ok
      go_upto_region 5 with fail
      have hb7 : Below w6.heap.size w6 (w6.alloc (.cells #[.int .i64 0, .int .i64 1, .int .i64 3] 28)) := (Below.refl _ _).alloc (Nat.le_refl _) _
      have HP7 := Lib.hid (HP.out.low hb7)
      clear hb7 HP
      generalize w6.alloc (.cells #[.int .i64 0, .int .i64 1, .int .i64 3] 28) = w7 at *
      have HNX := Lib.hid (fun W (h : IqS w W g gx s) => inext_c (.pointer (some ⟨g, 0, none⟩)) (getS s) (w64_file OK.out) 3 ln HLN.out W h.rd h.o)
      cases hnx : nextG (getS s) 3 ln with
      | none =>
        rw [hnx] at HNX
        clear hnx
        unfold oI at HNX
        dsimp only [Option.isSome, Option.getD] at HNX
        go_wp2_with fail
        refine (HNX.out _ HP7.out).mono ?_
        rintro e w8 ⟨rfl, hb⟩
        have HP8 := Lib.hid (HP7.out.low hb)
        clear hb HP7 HNX
        go_upto_region 6 with (first
          | (refine wpList_allocY rfl _ rfl CaT rfl #[.bool false, .int .i64 0] (zero_caI _) ?_)
          | (refine wpList_storeNew (w0 := w8) rfl CaT _ _ rfl #[.bool false, .int .i64 0] #[.bool false, .int .i64 (0 : Nat)] CaT rfl rfl info_caI rfl rfl ?_))
        have hb9 : Below w8.heap.size w8 (w8.alloc (.cells #[.bool false, .int .i64 (0 : Nat)] CaT)) := (Below.refl _ _).alloc (Nat.le_refl _) _
        have HP9 := Lib.hid (HP8.out.low hb9)
        have HC9 := Lib.hid (CsAt.new w8 CaT #[.bool false, .int .i64 (0 : Nat)])
        clear hb9 HP8
        generalize w8.alloc (.cells #[.bool false, .int .i64 (0 : Nat)] CaT) = w9 at *
        generalize w8.heap.size = gc at *
        have heq : (binOp .eql CaT (.agg #[.bool false, .int .i64 0]) (.agg #[.bool false, .int .i64 0])).run Tryd.prog w9 = .ok (.bool true) w9 := eq_self false ⟨by omega, by omega⟩ w9
        go_wp2_with (refine wpList_load_row rfl CaT _ rfl gc rfl CaT _ (0, 0) _ HC9.out Tryd.underlying24 rfl info_caI ?_)
        refine (live24_c _ ⟨HP9.out.n, HP9.out.k⟩ HP9.out.o).mono ?_
        rintro e wf ⟨rfl, hb⟩
        have HPF := Lib.hid (HP9.out.low hb)
        clear hb heq
        go_wp2_with fail
        go_ret
        exact ⟨rfl, HPF.out.bel⟩
      | some c =>
        rw [hnx] at HNX
        have hri := rises OK.out (by decide) HLN.out hnx (s.f 770)
        obtain ⟨hc, hwb, -⟩ := next_cases (w64_file OK.out) HLN.out hnx
        have HTO := Lib.hid (fun W => kto_c true c 3 (s.f 770) (s.f 771) W (OK.out.w _) (OK.out.w _))
        have HWT := Lib.hid (fun W (h : IqS w W g gx s) => iwait_c (.pointer (some ⟨g, 0, none⟩)) (getS s) ln W h.rd)
        have HWK := Lib.hid (fun W (h : IqS w W g gx s) => iwakes_c (.pointer (some ⟨g, 0, none⟩)) (getS s) ln W h.rd)
        rw [tb_nz hwb] at HWK
        have hbt := bitK (waitG_64 (w64_file OK.out) HLN.out) c
        rw [hwb] at hbt
        have hst8 := and_8 (OK.out.w 768)
        have hst2 := and_2 (OK.out.w 768)
        have hac := toK_cases true c 3 (s.f 770) (s.f 771)
        have hcw : IntKind.u64.wrap (c : Int) = c := by rw [IntKind.wrap_u64]; omega
        have hc63 : (c : Int) < 64 := by omega
        have hc0 : (0 : Int) ≤ c := by omega
        have HBT := Lib.hid hbt
        have HS8 := Lib.hid hst8
        have HS2 := Lib.hid hst2
        have HRI := Lib.hid hri
        have HAC := Lib.hid hac
        have HHC := Lib.hid hc
        have HCW := Lib.hid hcw
        clear hnx hwb hbt hst8 hst2 hri hac hc hcw hc63 hc0
        unfold oI at HNX
        dsimp only [Option.isSome, Option.getD] at HNX
        generalize waitG (getS s) ln = wt at *
        generalize toK true c 3 (s.f 770) (s.f 771) = a at *
        go_wp2_with fail
        refine (HNX.out _ HP7.out).mono ?_
        rintro e w8 ⟨rfl, hb⟩
        have HP8 := Lib.hid (HP7.out.low hb)
        clear hb HP7 HNX
        go_upto_region 6 with (first
          | (refine wpList_allocY rfl _ rfl CaT rfl #[.bool false, .int .i64 0] (zero_caI _) ?_)
          | (refine wpList_storeNew (w0 := w8) rfl CaT _ _ rfl #[.bool false, .int .i64 0] #[.bool true, .int .i64 (c : Nat)] CaT rfl rfl info_caI rfl rfl ?_))
        have hb9 : Below w8.heap.size w8 (w8.alloc (.cells #[.bool true, .int .i64 (c : Nat)] CaT)) := (Below.refl _ _).alloc (Nat.le_refl _) _
        have HR9 := Lib.hid (show RiS w (w8.alloc (.cells #[.bool true, .int .i64 (c : Nat)] CaT)) g gx w8.heap.size s c from ⟨HP8.out.low hb9, CsAt.new w8 CaT #[.bool true, .int .i64 (c : Nat)]⟩)
        clear hb9 HP8
        generalize w8.alloc (.cells #[.bool true, .int .i64 (c : Nat)] CaT) = w9 at *
        generalize w8.heap.size = gc at *
        go_upto_region 8 with fail
        have HG0 := Lib.hid (fun W (h : IqS w W g gx s) => fcget_c g 770 0 s W h.k h.fl)
        have HG1 := Lib.hid (fun W (h : IqS w W g gx s) => fcget_c g 771 0 s W h.k h.fl)
        rw [get_770] at HG0
        rw [get_771] at HG1
        generalize s.f 770 = d0 at *
        generalize s.f 771 = d1 at *
        refine wp_region_steady (fun W => RiS w W g gx gc s c) (by kernel_rfl) (by kernel_rfl) HR9.out.drew ?_
        refine steady_val (.agg #[.bool true, .int .i64 (c : Nat)]) ?_ (by kernel_rfl) (fun W hS => exec_load_row CaT _ rfl gc rfl CaT _ _ hS.c Tryd.underlying24 rfl info_caI) ?_ ?_
        rotate_left 1
        · go_simp
          exact rfl
        refine steady_val ?_ ?_ (by kernel_rfl) (fun W hS => ?_) ?_ ?_
        rotate_left 2
        · go_simp
          exact rfl
        · go_simp
          exact rfl
        refine steady_enter (.int .u64 d0) 24 #[.pointer (some ⟨g, 0, none⟩), .int .i64 770, .int .u64 0] ?_ (by kernel_rfl) (fun W hS => ?_) (fun W hS => (HG0.out W hS.e).mono (by rintro e w' ⟨rfl, hb⟩; exact ⟨rfl, hS.low hb⟩)) ?_ ?_
        rotate_left 1
        · go_simp
        · go_simp
          exact rfl
        refine steady_enter (.int .u64 d1) 24 #[.pointer (some ⟨g, 0, none⟩), .int .i64 771, .int .u64 0] ?_ (by kernel_rfl) (fun W hS => ?_) (fun W hS => (HG1.out W hS.e).mono (by rintro e w' ⟨rfl, hb⟩; exact ⟨rfl, hS.low hb⟩)) ?_ ?_
        rotate_left 1
        · go_simp
        · go_simp
          exact rfl
        refine steady_enter (.int .i64 a) 23 #[.agg #[.bool true, .int .i64 (c : Nat)], .int .i64 3, .int .u64 d0, .int .u64 d1] ?_ (by kernel_rfl) (fun W hS => ?_) (fun W hS => (HTO.out W).mono (by rintro e w' ⟨rfl, hb⟩; exact ⟨rfl, hS.low hb⟩)) ?_ ?_
        rotate_left 1
        · go_simp
        · go_simp
          exact rfl
        refine steady_val ?_ ?_ (by kernel_rfl) (fun W hS => ?_) ?_ ?_
        rotate_left 2
        · go_simp
          exact rfl
        · go_simp
          exact rfl
        refine steady_nil ?_
        intro W hS
        have HRA := Lib.hid hS
        clear hS HR9 HG0 HG1 HTO
        go_wp2_with fail
        refine (fcget_c g 768 0 s _ HRA.out.e.k HRA.out.e.fl).mono ?_
        rintro e wb ⟨rfl, hb⟩
        have HRB := Lib.hid (HRA.out.low hb)
        clear hb HRA
        rw [get_768]
        generalize s.f 768 = st at *
        rcases HAC.out with rfl | rfl
        · have h8 : (bits .and .u64 st 8 == 0) = false := by rw [HS8.out, (HRI.out.1 (by simp)).1]; rfl
          clear HRI HS8 HS2 HAC
          go_upto_region 12 with fail
          clear h8
          have hcw := HCW.out
          have hbt := HBT.out
          have hcz : ¬ ((c : Int) < 0) := by omega
          have hcl : (c : Int) < 64 := by have := HHC.out; omega
          refine wp_region_steady (fun W => RiS w W g gx gc s c) (by kernel_rfl) (by kernel_rfl) HRB.out.drew ?_
          iterate 5
            refine steady_val ?_ ?_ (by kernel_rfl) (fun W hS => ?_) ?_ ?_
            rotate_left 2
            · go_simp
              exact rfl
            · go_simp
              exact rfl
          refine steady_enter (.int .u64 wt) 18 #[.pointer (some ⟨g, 0, none⟩), .int .u64 ln] ?_ (by kernel_rfl) (fun W hS => ?_) (fun W hS => (HWT.out W hS.e).mono (by rintro e w' ⟨rfl, hb⟩; exact ⟨rfl, hS.low hb⟩)) ?_ ?_
          rotate_left 1
          · go_simp
          · go_simp
            exact rfl
          refine steady_val ?_ ?_ (by kernel_rfl) (fun W hS => ?_) ?_ ?_
          rotate_left 2
          · go_simp
            exact rfl
          · go_simp
            exact rfl
          refine steady_val ?_ ?_ (by kernel_rfl) (fun W hS => ?_) ?_ ?_
          rotate_left 2
          · have q := hS.c.cell 1; simp only [List.getElem?_toArray, List.getElem?_cons_zero, List.getElem?_cons_succ] at q; go_simp
            exact rfl
          · go_simp
            exact rfl
          refine steady_val ?_ ?_ (by kernel_rfl) (fun W hS => ?_) ?_ ?_
          rotate_left 2
          · go_simp
            exact rfl
          · go_simp
            exact rfl
          refine steady_val (.int .u64 (wt / 2 ^ c)) ?_ (by kernel_rfl) (fun W hS => by go_simp) ?_ ?_
          rotate_left 1
          · go_simp
            exact rfl
          iterate 5
            refine steady_val ?_ ?_ (by kernel_rfl) (fun W hS => ?_) ?_ ?_
            rotate_left 2
            · go_simp
              exact rfl
            · go_simp
              exact rfl
          refine steady_enter (.bool true) 19 #[.pointer (some ⟨g, 0, none⟩), .int .u64 ln] ?_ (by kernel_rfl) (fun W hS => ?_) (fun W hS => (HWK.out W hS.e).mono (by rintro e w' ⟨rfl, hb⟩; exact ⟨rfl, hS.low hb⟩)) ?_ ?_
          rotate_left 1
          · go_simp
          · go_simp
            exact rfl
          iterate 2
            refine steady_val ?_ ?_ (by kernel_rfl) (fun W hS => ?_) ?_ ?_
            rotate_left 2
            · go_simp
              exact rfl
            · go_simp
              exact rfl
          refine steady_enter (.bool true) 20 #[] ?_ (by kernel_rfl) (fun W hS => ?_) (fun W hS => (live24_c W ⟨hS.e.n, hS.e.k⟩ hS.e.o).mono (by rintro e w' ⟨rfl, hb⟩; exact ⟨rfl, hS.low hb⟩)) ?_ ?_
          rotate_left 1
          · go_simp
          · go_simp
            exact rfl
          iterate 2
            refine steady_val ?_ ?_ (by kernel_rfl) (fun W hS => ?_) ?_ ?_
            rotate_left 2
            · go_simp
              exact rfl
            · go_simp
              exact rfl
          refine steady_nil ?_
          intro W hS
          have HZ := Lib.hid hS
          clear hS
          go_wp2_with fail
          go_ret
          exact ⟨rfl, HZ.out.e.bel⟩
        · exact absurd (HRI.out.1 (by simp)).2 (by decide)
end Go.Proofs.YtkbgmppbkllnmaaDoor
