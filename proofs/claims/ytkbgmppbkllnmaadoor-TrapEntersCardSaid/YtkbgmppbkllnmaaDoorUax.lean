/-
  TrapEnters walked.
-/
import Derived.Test.YtkbgmppbkllnmaaDoorUaw
import Derived.Test.YtkbgmppbkllnmaaDoorUat
set_option maxRecDepth 20000
namespace Go.Proofs.YtkbgmppbkllnmaaDoor
open Go.ChangeShapes Go.WideShapes Go.ChangeAt Go.RowKit Wd Csr Sta Cf Cau

theorem zero_rc (W : World) : (zeroValue RcT).run Tryd.prog W = .ok (.agg zCa) W := by kernel_rfl
/-- Beside what stands: the cause in a box of the reference's, the file that the reference came to. -/
structure TvS (w W : World) (g gx gc gy : Nat) (s x y : S) (d : Tp) : Prop where
  e : TwS w W g gx s x d
  c : CsAt W gc RcT #[.bool d.cause.i, .int .i64 d.cause.c]
  y : CsAt W gy RfT (refV y)
  gcg : gc ≠ g
  gyg : gy ≠ g
  gyc : gy ≠ gc
  gyx : gy ≠ gx
  gyw : w.heap.size < gy
  fary : gy ≠ 2 ∧ gy ≠ 1
section
variable {w W W' : World} {g gx gc gy : Nat} {s s' x y y' : S} {d : Tp}
theorem TvS.low (h : TvS w W g gx gc gy s x y d) (hb : Below W.heap.size W W') : TvS w W' g gx gc gy s x y d := ⟨h.e.low hb, h.c.low hb, h.y.low hb, h.gcg, h.gyg, h.gyc, h.gyx, h.gyw, h.fary⟩
theorem TvS.drew (h : TvS w W g gx gc gy s x y d) : TvS w W.drew g gx gc gy s x y d := ⟨h.e.drew, h.c, h.y, h.gcg, h.gyg, h.gyc, h.gyx, h.gyw, h.fary⟩
theorem TvS.fq (h : TvS w W g gx gc gy s x y d) (q : FQ g s' W W') : TvS w W' g gx gc gy s' x y d :=
  ⟨h.e.fq q, q.chg.cs h.c (fun (e : gc = g) => h.gcg e), q.chg.cs h.y (fun (e : gy = g) => h.gyg e), h.gcg, h.gyg, h.gyc, h.gyx, h.gyw, h.fary⟩
theorem TvS.row (h : TvS w W g gx gc gy s x y d) : TvS w (W.setRow gy (refV y')) g gx gc gy s x y' d := by
  have hc : Chg (one gy) W (W.setRow gy (refV y')) := Chg.of_row (S := one gy) rfl _
  have e := h.e
  exact ⟨⟨⟨e.fl.r.rowFar h.gyg.symm _, e.fl.ok⟩, e.x.rowFar h.gyx.symm _, e.n.chg hc (fun (q : 2 = gy) => h.fary.1 q.symm), e.k.chg hc (fun (q : 1 = gy) => h.fary.2 q.symm), e.t.rowFar (fun q => by have := h.gyw; omega) _, e.hg, e.hx, e.ne, e.far, e.farx, below_setRow e.bel (Nat.le_of_lt h.gyw) _⟩,
    h.c.rowFar h.gyc.symm _, h.y.row _, h.gcg, h.gyg, h.gyc, h.gyx, h.gyw, h.fary⟩
end
theorem TvS.new {w W : World} {g gx gc : Nat} {s x y : S} {d : Tp} (h : TwS w W g gx s x d) (hc : CsAt W gc RcT #[.bool d.cause.i, .int .i64 d.cause.c]) (hcg : gc ≠ g) : TvS w (W.alloc (.cells (refV y) RfT)) g gx gc W.heap.size s x y d := by
  have hb : Below W.heap.size W (W.alloc (.cells (refV y) RfT)) := (Below.refl _ _).alloc (Nat.le_refl _) _
  have h1 := h.fl.r.lt
  have h2 := h.x.lt
  have h3 := hc.lt
  have h4 := h.t.lt
  exact ⟨h.low hb, hc.low hb, CsAt.new W RfT _, hcg, by omega, by omega, by omega, by omega, new_far h.n h.k (Nat.le_refl _)⟩
set_option maxHeartbeats 16000000 in
theorem tents_walk (ao : Option Addr) (n cap : Nat) (l : List Df) (q : Tp) (at' : Int) (w : World) (hds : Dfs w ao n l) (hq : q.In) (hT : RowsIn w ∧ KeptIn w) :
    Calls Tryd.prog 3 #[.slice ao n cap, .agg q.cells, .int .i64 at'] w fun e w' => e = .returned (.bool true) ∧ Below w.heap.size w w' := by
  obtain ⟨⟨i, c⟩, p, pc, tv⟩ := q
  have hb0 : Below w.heap.size w (w.alloc (.cells (Tp.cells ⟨⟨i, c⟩, p, pc, tv⟩) TpT)) := (Below.refl _ _).alloc (Nat.le_refl _) _
  have HB0 := Lib.hid hb0
  have HTN := Lib.hid (CsAt.new w TpT (Tp.cells ⟨⟨i, c⟩, p, pc, tv⟩))
  dsimp only [Tp.cells, Kc.cells] at HB0 HTN ⊢
  have HPC := Lib.hid (lt64 hq.pc)
  have HTV := Lib.hid (lt64 hq.tval)
  have HT := Lib.hid hT
  have HFI := Lib.hid (fun (W : World) (hb : Below w.heap.size w W) => files_c ao n cap l W (hds.low hb) ⟨hT.1.low hb, hT.2.low hb⟩)
  clear hds hq hT hb0
  have z0 := HTN.out.cell 0
  have z1 := HTN.out.cell 1
  have z2 := HTN.out.cell 2
  have z3 := HTN.out.cell 3
  have z4 := HTN.out.cell 4
  simp only [List.getElem?_toArray, List.getElem?_cons_zero, List.getElem?_cons_succ] at z0 z1 z2 z3 z4
  go_enter Tryd.func3, Tryd.ntmps3
  go_upto_region 1 with fail
  have HT1 := Lib.hid (show Below (w.alloc (.cells #[.bool i, .int .i64 c, .int .i64 p, .int .u64 pc, .int .u64 tv] TpT)).heap.size (w.alloc (.cells #[.bool i, .int .i64 c, .int .i64 p, .int .u64 pc, .int .u64 tv] TpT)) (w.alloc (.cells #[.bool i, .int .i64 c, .int .i64 p, .int .u64 pc, .int .u64 tv] TpT)) from Below.refl _ _)
  clear HTN
  obtain ⟨w1, hw1⟩ : ∃ w1, w.alloc (.cells #[.bool i, .int .i64 c, .int .i64 p, .int .u64 pc, .int .u64 tv] TpT) = w1 := ⟨_, rfl⟩
  rw [hw1] at z0 z1 z2 z3 z4 HB0 HT1 ⊢
  have HW1 := Lib.hid hw1
  clear hw1
  go_wp2_with fail
  refine (zent_c i c p pc tv _).mono ?_
  rintro e w2 ⟨rfl, hb⟩
  have HT2 := Lib.hid (HT1.out.trans (hb.mono HT1.out.size))
  clear hb z0 z1 z2 z3 z4
  go_wp2_with fail
  refine (zlv_c at' _).mono ?_
  rintro e w3 ⟨rfl, hb⟩
  have HT3 := Lib.hid (HT2.out.trans (hb.mono HT2.out.size))
  clear hb HT2 HT1
  by_cases hlong : 30 < n
  · have g0 : decide ((n : Int) > 30) = true := by simp; omega
    clear hlong
    go_wp2_with fail
    refine (live23_c _).mono ?_
    rintro e w4 ⟨rfl, hb⟩
    have HB := Lib.hid (HB0.out.trans ((HT3.out.trans (hb.mono HT3.out.size)).mono HB0.out.size))
    clear hb
    go_wp2_with fail
    go_ret
    exact ⟨rfl, HB.out⟩
  · have g0 : decide ((n : Int) > 30) = false := by simp; omega
    clear hlong
    go_upto_region 7 with fail
    go_wp2_with fail
    refine (HFI.out _ (HB0.out.trans (HT3.out.mono HB0.out.size))).mono ?_
    rintro e w4 ⟨s, ok, al, rfl, hb⟩
    have hb4 := HT3.out.trans (hb.mono HT3.out.size)
    rw [← HW1.out] at hb4
    have HP := Lib.hid (TwS.new (d := ⟨⟨i, c⟩, p, pc, tv⟩) HT.out.1 HT.out.2 hb4 ok)
    clear hb hb4 al ok HT3 HB0 HFI HT HW1
    go_upto_region 8 with (first
      | (refine wpList_allocY rfl _ rfl FlT rfl (fileV (zero 0)) (zero_fl _) ?_)
      | (refine wpList_allocY rfl _ rfl RfT rfl (refV (zero 0)) (zero_rf _) ?_)
      | (refine wpList_store_row rfl FlT _ _ rfl w4.heap.size (fileV s) rfl rfl FlT _ (boxA w4 _ _) (iFl _) (by rw [fileV_size, fileV_size]) (flV_one _) ?_)
      | (refine wpList_store_row rfl RfT _ _ rfl (w4.alloc (.cells (fileV (zero 0)) FlT)).heap.size (refV s) rfl rfl RfT _ (boxD w4 _ _ _) (iRf _) (by rw [refV_size, refV_size]) (rfV_one _) ?_))
    try simp only [World.size_alloc]
    generalize ((((w4.alloc (.cells (fileV (zero 0)) FlT)).alloc (.cells (refV (zero 0)) RfT)).setRow w4.heap.size (fileV s)).setRow (w4.heap.size + 1) (refV s)) = w5 at *
    generalize w4.heap.size + 1 = gx at *
    generalize w4.heap.size = g at *
    have z0 := HP.out.t.cell 0
    have z1 := HP.out.t.cell 1
    simp only [Tp.cells, List.getElem?_toArray, List.getElem?_cons_zero, List.getElem?_cons_succ] at z0 z1
    go_upto_region 9 with (first
      | (refine wpList_allocY rfl _ rfl RcT rfl zCa (zero_rc _) ?_)
      | (refine wpList_storeNew (w0 := w5) rfl RcT _ _ rfl zCa #[.bool i, .int .i64 c] RcT rfl rfl info_rcS rfl rfl ?_))
    have hb6 : Below w5.heap.size w5 (w5.alloc (.cells #[.bool i, .int .i64 c] RcT)) := (Below.refl _ _).alloc (Nat.le_refl _) _
    have HP6 := Lib.hid (HP.out.low hb6)
    have HC6 := Lib.hid (CsAt.new w5 RcT #[.bool i, .int .i64 c])
    have HCG := Lib.hid (show w5.heap.size ≠ g from fun e => by have := HP.out.fl.r.lt; omega)
    clear hb6 HP z0 z1
    generalize w5.alloc (.cells #[.bool i, .int .i64 c] RcT) = w6 at *
    generalize w5.heap.size = gc at *
    have z0 := HP6.out.t.cell 0
    have z1 := HP6.out.t.cell 1
    have z2 := HP6.out.t.cell 2
    have z3 := HP6.out.t.cell 3
    have z4 := HP6.out.t.cell 4
    simp only [Tp.cells, List.getElem?_toArray, List.getElem?_cons_zero, List.getElem?_cons_succ] at z0 z1 z2 z3 z4
    have OK := Lib.hid HP6.out.fl.ok
    go_wp2_with fail
    refine (fent_c g s i c p pc tv HPC.out HTV.out _ HP6.out.n HP6.out.k HP6.out.far HP6.out.fl).mono ?_
    rintro e w7 ⟨rfl, hq⟩
    have HP7 := Lib.hid (HP6.out.fq hq)
    have HC7 := Lib.hid (hq.chg.cs HC6.out (fun (e : gc = g) => HCG.out e))
    clear hq z0 z1 z2 z3 z4 HP6 HC6
    have HRE := Lib.hid (fun W => rent_c s OK.out i c p pc tv HPC.out HTV.out W)
    generalize trapS s (toK i c p (s.f 770) (s.f 771)) p pc (wordK i c) tv = u at *
    generalize trapA s (toK i c p (s.f 770) (s.f 771)) i c = ta at *
    generalize toK i c p (s.f 770) (s.f 771) = a at *
    have z2 := HP7.out.t.cell 2
    have z3 := HP7.out.t.cell 3
    have z4 := HP7.out.t.cell 4
    simp only [Tp.cells, List.getElem?_toArray, List.getElem?_cons_zero, List.getElem?_cons_succ] at z2 z3 z4
    go_wp2_with (first
      | (refine wpList_load_row rfl RfT _ rfl gx rfl RfT _ (0, 0) _ HP7.out.x Tryd.underlying38 rfl (iRf _) ?_)
      | (refine wpList_load_row rfl RcT _ rfl gc rfl RcT _ (0, 0) _ HC7.out Tryd.underlying41 rfl info_rcS ?_))
    refine (HRE.out _).mono ?_
    rintro e w8 ⟨rfl, hb⟩
    have HP8 := Lib.hid (HP7.out.low hb)
    have HC8 := Lib.hid (HC7.out.low hb)
    clear hb HP7 HC7 z2 z3 z4 HRE
    go_upto_region 11 with (first
      | (refine wpList_allocY rfl _ rfl RfT rfl (refV (zero 0)) (zero_rf _) ?_)
      | (refine wpList_storeNew (w0 := w8) rfl RfT _ _ rfl (refV (zero 0)) (refV u) RfT rfl rfl (iRf _) (by rw [refV_size, refV_size]) (rfV_one _) ?_))
    have HV := Lib.hid (TvS.new (y := u) HP8.out HC8.out HCG.out)
    clear HP8 HC8 HCG
    generalize w8.alloc (.cells (refV u) RfT) = w9 at *
    generalize w8.heap.size = gy at *
    have haa : (a == a) = true := by simp
    have htt : (ta == ta) = true := by simp
    have HSM := Lib.hid (fun W (hf : FlAt W g u) (hk : KeptIn W) => same22_c g u hf.ok 0 ⟨by omega, by omega⟩ W hk hf)
    have HVC := Lib.hid (fun W => vec_c tv i c W)
    have HRV := Lib.hid (fun W => rvec_c tv HTV.out i c W)
    generalize vecS tv i c = va at *
    have hvv : (va == va) = true := by simp
    refine wp_region_steady (fun W => TvS w W g gx gc gy u s u ⟨⟨i, c⟩, p, pc, tv⟩) (by kernel_rfl) (by kernel_rfl) HV.out.drew ?_
    iterate 9
      refine steady_val ?_ ?_ (by kernel_rfl) (fun W hS => ?_) ?_ ?_
      rotate_left 2
      · go_simp
        exact rfl
      · go_simp
        exact rfl
    refine steady_val (.agg (refV u)) ?_ (by kernel_rfl) (fun W hS => exec_load_row RfT _ rfl gy rfl RfT _ _ hS.y Tryd.underlying38 rfl (iRf _)) ?_ ?_
    rotate_left 1
    · go_simp
      exact rfl
    refine steady_enter (.bool true) 13 #[.pointer (some ⟨g, 0, none⟩), .agg (refV u), .int .u64 0] ?_ (by kernel_rfl) (fun W hS => ?_) (fun W hS => (HSM.out W hS.e.fl hS.e.k).mono (by rintro e w' ⟨rfl, hb⟩; exact ⟨rfl, hS.low hb⟩)) ?_ ?_
    rotate_left 1
    · go_simp
    · go_simp
      exact rfl
    iterate 4
      refine steady_val ?_ ?_ (by kernel_rfl) (fun W hS => ?_) ?_ ?_
      rotate_left 2
      · go_simp
        exact rfl
      · go_simp
        exact rfl
    refine steady_val ?_ ?_ (by kernel_rfl) (fun W hS => ?_) ?_ ?_
    rotate_left 2
    · have q4 := hS.e.t.cell 4; simp only [Tp.cells, List.getElem?_toArray, List.getElem?_cons_zero, List.getElem?_cons_succ] at q4; go_simp
      exact rfl
    · go_simp
      exact rfl
    refine steady_val ?_ ?_ (by kernel_rfl) (fun W hS => ?_) ?_ ?_
    rotate_left 2
    · go_simp
      exact rfl
    · go_simp
      exact rfl
    refine steady_val ?_ ?_ (by kernel_rfl) (fun W hS => ?_) ?_ ?_
    rotate_left 2
    · have q0 := hS.e.t.cell 0; have q1 := hS.e.t.cell 1; simp only [Tp.cells, List.getElem?_toArray, List.getElem?_cons_zero, List.getElem?_cons_succ] at q0 q1; go_simp
      exact rfl
    · go_simp
      exact rfl
    refine steady_enter (.int .u64 va) 14 #[.int .u64 tv, .agg #[.bool i, .int .i64 c]] ?_ (by kernel_rfl) (fun W hS => ?_) (fun W hS => (HVC.out W).mono (by rintro e w' ⟨rfl, hb⟩; exact ⟨rfl, hS.low hb⟩)) ?_ ?_
    rotate_left 1
    · go_simp
    · go_simp
      exact rfl
    refine steady_val ?_ ?_ (by kernel_rfl) (fun W hS => ?_) ?_ ?_
    rotate_left 2
    · go_simp
      exact rfl
    · go_simp
      exact rfl
    refine steady_val ?_ ?_ (by kernel_rfl) (fun W hS => ?_) ?_ ?_
    rotate_left 2
    · have q4 := hS.e.t.cell 4; simp only [Tp.cells, List.getElem?_toArray, List.getElem?_cons_zero, List.getElem?_cons_succ] at q4; go_simp
      exact rfl
    · go_simp
      exact rfl
    refine steady_val (.agg #[.bool i, .int .i64 c]) ?_ (by kernel_rfl) (fun W hS => exec_load_row RcT _ rfl gc rfl RcT _ _ hS.c Tryd.underlying41 rfl info_rcS) ?_ ?_
    rotate_left 1
    · go_simp
      exact rfl
    refine steady_enter (.int .u64 va) 15 #[.int .u64 tv, .agg #[.bool i, .int .i64 c]] ?_ (by kernel_rfl) (fun W hS => ?_) (fun W hS => (HRV.out W).mono (by rintro e w' ⟨rfl, hb⟩; exact ⟨rfl, hS.low hb⟩)) ?_ ?_
    rotate_left 1
    · go_simp
    · go_simp
      exact rfl
    iterate 2
      refine steady_val ?_ ?_ (by kernel_rfl) (fun W hS => ?_) ?_ ?_
      rotate_left 2
      · go_simp
        exact rfl
      · go_simp
        exact rfl
    refine steady_nil ?_
    intro W hS
    have HV1 := Lib.hid hS
    clear hS HV HSM HVC HRV
    go_wp2_with fail
    refine (flv_c g u at' _ HV1.out.e.n HV1.out.e.k HV1.out.e.far HV1.out.e.fl).mono ?_
    rintro e wa ⟨rfl, hq⟩
    have HV2 := Lib.hid (HV1.out.fq hq)
    have HRL := Lib.hid (fun W => rlv_c u HV1.out.e.fl.ok at' W)
    clear hq HV1 haa htt hvv
    generalize backA (backS u at') at' = ba at *
    generalize leaveP (u.f 768) at' = pp at *
    generalize backS u at' = v at *
    go_wp2_with (refine wpList_load_row rfl RfT _ rfl gy rfl RfT _ (0, 0) _ HV2.out.y Tryd.underlying38 rfl (iRf _) ?_)
    refine (HRL.out _).mono ?_
    rintro e wb ⟨rfl, hb⟩
    have HV3 := Lib.hid (HV2.out.low hb)
    clear hb HV2 HRL
    go_upto_region 15 with (refine wpList_store_row rfl RfT _ _ rfl gy (refV v) rfl rfl RfT _ HV3.out.y (iRf _) (by rw [refV_size, refV_size]) (rfV_one _) ?_)
    have HV4 := Lib.hid (HV3.out.row (y' := v))
    clear HV3
    generalize wb.setRow gy (refV v) = wc at *
    have haa : (pp == pp) = true := by simp
    have htt : (ba == ba) = true := by simp
    go_wp2_with (refine wpList_load_rowF (by kernel_rfl) RfT _ rfl gy rfl RfT _ (0, 0) _ HV4.out.y Tryd.underlying38 rfl (iRf _) ?_)
    refine (same22_c g v HV4.out.e.fl.ok 0 ⟨by omega, by omega⟩ _ HV4.out.e.k HV4.out.e.fl).mono ?_
    rintro e wd ⟨rfl, hb⟩
    have HV5 := Lib.hid (HV4.out.low hb)
    clear hb HV4
    go_wp2_with fail
    refine (live23_c _).mono ?_
    rintro e we ⟨rfl, hb⟩
    have HV6 := Lib.hid (HV5.out.low hb)
    clear hb HV5
    go_wp2_with fail
    go_ret
    exact ⟨rfl, HV6.out.e.bel⟩
end Go.Proofs.YtkbgmppbkllnmaaDoor
