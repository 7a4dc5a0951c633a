/-
  The reference of layer 18: Do, kind 20.1. The reference of layer 18: Do. Contract of bus.Clone.
-/
import Derived.Test.YtfjdalepaacmgaaGreatYau
import Derived.Test.YtfjdalepaacmgaaGreatYav
import Derived.Test.YtfjdalepaacmgaaGreatYaw
import Derived.Test.YtfjdalepaacmgaaGreatYax
import Derived.Test.YtfjdalepaacmgaaGreatYao
import Derived.Test.YtfjdalepaacmgaaGreatYan
import Derived.Great.Walk
set_option maxRecDepth 20000
namespace Go.Proofs.YtfjdalepaacmgaaGreat
open Go.ChangeShapes Go.WideShapes Go.ChangeAt Go.RowKit

set_option maxRecDepth 100000 in
set_option maxHeartbeats 32000000 in
theorem rdo18_BtDk (G : Nat → Prop) (X : Bs.B) (h : Int) (a : Ak) (ha : a.In) (hk : a.kind = 20) (h10 : a.size ≠ 10) (okc : Ct.Ok X.n X.c) (okp : Pc.Ok X.n X.p) (oku : Ut.Ok X.u) (_hn : X.u.out.length < 900) (iv ov : Value) (w : World)
    (hG : ∀ k, G k → k < w.heap.size) (hi : VwG G w iv X.u.q) (ho : VwG G w ov X.u.out) :
    Calls Tryz.prog 8 #[.agg (xbX X (xuV X.u iv ov)), .int .i64 h, .agg a.cells] w fun e w' =>
      ∃ iv' ov', e = .returned (.tuple #[.agg (xbX (Bs.doX X h a) (xuV (Bs.doX X h a).u iv' ov')), .agg (anB (Bs.doV X h a)), .bool (Bs.goB X h a)]) ∧ XuQ G w w' (Bs.doX X h a).u iv' ov' := by
  have g15 := x15_size X.n X.c okc.len
  have IX := Lib.hid (iBx X.n g15 (x16_size' X.n X.p) (show (xuV X.u iv ov).size = 11 from rfl))
  have OX := Lib.hid (xbV_one X.n (x15V_one (n := X.n) (ws := X.c)) (x16_one (n := X.n) (ws := X.p)) (xuV_one X.u hi.one ho.one))
  have ZX := Lib.hid (show (xb0').size = (xbX X (xuV X.u iv ov)).size by rw [xbX_size okc.len rfl]; exact xbV_size 0 (x15_size 0 _ (ctnew_len (by omega))) (x16_size' _ _) rfl)
  have HP := Lib.hid (RoP.new w _ X (xuV X.u iv ov) rfl a)
  have HMB := Lib.hid (fun W => rmayB_c X.n (xbX X (xuV X.u iv ov)) (xbV_0 _ _ _ _) a ha.addr W)
  have HS0 := Lib.hid (fun (W : World) (h : RoP w W X (xuV X.u iv ov) a) => h.go hG hi ho okc okp oku)
  have HBI := Lib.hid hi
  have HBO := Lib.hid ho
  have HIN := Lib.hid ha
  have HOU := Lib.hid oku
  have HOC := Lib.hid okc
  have HOP := Lib.hid okp
  have hzb : ∀ W : World, (zeroValue BxT).run Tryz.prog W = .ok (.agg xb0') W := zero_bx
  have hz := zero_an
  clear g15 hi ho ha oku okc okp hG
  have hm : Bs.mayB X.n a = true := by unfold Bs.mayB Bs.isK Bs.otherK; rw [hk]; rfl
  have HG := Lib.hid (show Bs.goB X h a = true by unfold Bs.goB; rw [hm, hk]; rfl)
  rw [show Bs.doV X h a = Bs.told X h a by unfold Bs.doV; rw [HG.out]; rfl, show Bs.doX X h a = Bs.wired (Bs.step X a) by unfold Bs.doX; rw [HG.out]; rfl, HG.out]
  clear HG
  rw [show Bs.told X h a = 0 by unfold Bs.told; rw [hk]; rfl, show Bs.step X a = { X with p := Pc.wireW X.n X.p a.size a.live } by unfold Bs.step; rw [hk]; simp [h10]]
  have g10 : (a.size != 10) = true := by simpa using h10
  clear h10
  go_enter Tryz.func8, Tryz.ntmps8
  go_upto_region 1 with fail
  generalize ((((w.alloc (.cells (xbX X (xuV X.u iv ov)) BxT)).alloc (.cells a.cells AKT)).alloc (.cells xb0' BxT)).alloc (.cells (anB 0) ANT)) = w1 at *
  clear hz hzb
  go_wp2_with (first | (refine wpList_load_row rfl BxT _ rfl w.heap.size rfl BxT _ (0, 0) _ HP.out.x Tryz.underlying53 rfl IX.out ?_) | (refine wpList_load_row rfl AKT _ rfl (w.heap.size + 1) rfl AKT _ (0, 0) _ HP.out.a.cs Tryz.underlying31 rfl info_AK ?_))
  rw [hm] at HMB
  refine (HMB.out _).mono ?_
  rintro e w2 ⟨rfl, hb2⟩
  replace HP := Lib.hid (HP.out.low hb2)
  clear hb2 HMB hm
  have q0 := HP.out.a.kind
  have q0n := xb_at0 HP.out.x
  rw [hk] at q0
  go_upto_region 3 with fail
  go_upto_region 4 with (first | (refine wpList_allocTo rfl _ rfl (.pointer (some ⟨w2.heap.size, 0, none⟩)) (.cells (anB 0) ANT) (exec_alloc ANT rfl (.agg (anB 0)) (zero_an _)) ?_) | (refine wpList_storeNew (w0 := w2) rfl ANT _ _ rfl (anB 0) (anB 0) ANT (by kernel_rfl) (by kernel_rfl) (iAN _) rfl (anB_one _) ?_))
  have HS := Lib.hid (HS0.out _ HP.out)
  clear HS0 HP IX OX ZX q0 q0n
  generalize w2.alloc (.cells (anB 0) ANT) = w3 at *
  generalize w2.heap.size = tb at *
  have q0 := HS.out.a.kind
  rw [hk] at q0
  have q4 := HS.out.a.size
  have q6 := HS.out.a.data
  have q8 := HS.out.a.live
  have qn := HS.out.n0
  go_wp2_with (refine wpList_load_part rfl X16 _ rfl w.heap.size 19 rfl (x16V X.n X.p) _ (xb_rp HS.out.parts.1 HS.out.x) Tryz.underlying48 rfl iX16 ?_)
  refine (rwire16_c X.n X.p HOP.out a.size a.live _).mono ?_
  rintro e w5 ⟨rfl, hb5⟩
  have HK1' := Pc.wireW_ok HOP.out a.size a.live
  obtain ⟨p1, hp1⟩ : ∃ p, Pc.wireW X.n X.p a.size a.live = p := ⟨_, rfl⟩
  rw [hp1] at HK1' ⊢
  have HK1 := Lib.hid HK1'
  have HP1 := Lib.hid hp1
  clear hp1 HK1' g10
  replace HS := Lib.hid (HS.out.low hb5)
  clear hb5
  try clear q1
  try clear q4
  try clear q6
  try clear q8
  try clear qn
  try clear ew
  try clear HOF
  go_upto_region 39 with (first | (refine wpList_allocTo rfl _ rfl (.pointer (some ⟨w5.heap.size, 0, none⟩)) (.cells (x16V 0 Pc.zeros) X16) (exec_alloc X16 rfl (.agg (x16V 0 Pc.zeros)) (zero_x16 _)) ?_) | (refine wpList_storeNew (w0 := w5) rfl X16 _ _ rfl (x16V 0 Pc.zeros) (x16V X.n p1) X16 (by kernel_rfl) (by kernel_rfl) iX16 (by rw [x16_size', x16_size']) x16_one ?_))
  have hba : Below w5.heap.size w5 (w5.alloc (.cells (x16V X.n p1) X16)) := (Below.refl _ _).alloc (Nat.le_refl _) _
  have HC := Lib.hid (CsAt.new w5 X16 (x16V X.n p1))
  replace HS := Lib.hid (HS.out.low hba)
  clear hba
  generalize w5.alloc (.cells (x16V X.n p1) X16) = w6 at *
  generalize w5.heap.size = c5 at *
  have HTH := Lib.hid (show w6.there w.heap.size 19 ((x16V X.n p1)).size from by rw [x16_size']; exact HS.out.thP)
  go_upto_region 40 with (first
    | (refine wpList_load_row rfl X16 _ rfl c5 rfl X16 (x16V X.n p1) (0, 0) _ HC.out Tryz.underlying48 rfl iX16 ?_)
    | (refine wpList_store_mid rfl X16 _ _ rfl w.heap.size 19 (x16V X.n p1) rfl rfl HTH.out iX16 x16_one ?_))
  replace HS := Lib.hid (HS.out.putP HK1.out)
  clear HC HTH
  generalize w6.setCells w.heap.size 19 (x16V X.n p1).toList = w7 at *
  have HT := HS
  clear HS
  rw [← HP1.out] at HT
  obtain ⟨Y, hY⟩ : ∃ y, ({ X with p := Pc.wireW X.n X.p a.size a.live } : Bs.B) = y := ⟨_, rfl⟩
  rw [hY] at HT
  have HZ := Lib.hid (show Bs.wired ({ X with p := Pc.wireW X.n X.p a.size a.live }) = { Y with p := Pc.wireW Y.n Y.p 10 (Ut.cause Y.u != 1) } by rw [hY]; rfl)
  clear hY
  have HQ := Lib.hid (fun (W : World) (hS : Below w7.heap.size w7 W) => HT.out.low hS)
  have HCA := Lib.hid (fun (W : World) (hS : Below w7.heap.size w7 W) => rcause_c (GA G w tb) Y.u iv ov HT.out.oku W (HT.out.low hS).i)
  have HWI := Lib.hid (fun (q : Bool) (W : World) => rwire16_c Y.n Y.p HT.out.okp 10 q W)
  have HWO := Lib.hid (fun (q : Bool) => Pc.wireW_ok HT.out.okp 10 q)
  generalize Ut.cause Y.u = cz at *
  obtain ⟨q, hq⟩ : ∃ q, (cz != 1) = q := ⟨_, rfl⟩
  rw [hq] at HZ
  have HQQ := Lib.hid hq
  clear hq
  replace HWI := Lib.hid (HWI.out q)
  replace HWO := Lib.hid (HWO.out q)
  generalize hpp : Pc.wireW Y.n Y.p 10 q = p' at *
  generalize hwr : Pc.wires Y.n 10 = wr at *
  clear hpp hwr
  go_upto_region 40 with fail
  try simp only [Act.put]
  go_cut [28, 29] (fun s28 s29 wx => ∃ c, s28 = .pointer (some ⟨c, 0, none⟩) ∧ s29 = .bool wr ∧ CsAt wx c X16 (x16V Y.n p') ∧ Below w7.heap.size w7 wx)
  case first =>
    have hs0 : Below w7.heap.size w7 w7.drew := below_dU (Below.refl _ _) 1
    refine wp_region_noPanic ?_
    refine wp_region_held (S := fun W => Below w7.heap.size w7 W) (by kernel_rfl) ?_
    refine takeH (fuel := 12) (i := 0) (.pointer (some ⟨w.heap.size, 19, none⟩)) ?_ rfl (by kernel_rfl) (by kernel_rfl) (by kernel_rfl) (fun _ _ _ h => h) (by kernel_rfl) (fun W hS => by go_simp) hs0 ?_ ?_
    rotate_left 1
    · go_simp
      exact rfl
    refine takeH (fuel := 11) (i := 1) (.agg (x16V Y.n Y.p)) ?_ rfl (by kernel_rfl) (by kernel_rfl) (by kernel_rfl) (fun _ _ _ h => h) (by kernel_rfl) (fun W hS => exec_load_mid X16 _ rfl w.heap.size 19 rfl _ _ (xb_rp (HQ.out _ hS).parts.1 (HQ.out _ hS).x) Tryz.underlying48 rfl iX16) hs0 ?_ ?_
    rotate_left 1
    · go_simp
      exact rfl
    refine takeH (fuel := 10) (i := 2) (.pointer (some ⟨w.heap.size, 676, none⟩)) ?_ rfl (by kernel_rfl) (by kernel_rfl) (by kernel_rfl) (fun _ _ _ h => h) (by kernel_rfl) (fun W hS => by go_simp) hs0 ?_ ?_
    rotate_left 1
    · go_simp
      exact rfl
    refine takeH (fuel := 9) (i := 3) (.agg (xuV Y.u iv ov)) ?_ rfl (by kernel_rfl) (by kernel_rfl) (by kernel_rfl) (fun _ _ _ h => h) (by kernel_rfl) (fun W hS => exec_load_mid X17 _ rfl w.heap.size 676 rfl _ _ (xb_ru (HQ.out _ hS).parts.1 (HQ.out _ hS).parts.2.1 (HQ.out _ hS).x) Tryz.underlying51 rfl (iX17V _ _ _)) hs0 ?_ ?_
    rotate_left 1
    · go_simp
      exact rfl
    refine wpAnyH_all (fuel := 8) (rs := [4, 10]) (by kernel_rfl) (by decide) ?_
    intro i hi
    simp only [List.mem_cons, List.not_mem_nil, or_false] at hi
    rcases hi with rfl | rfl
    · refine wpOp_callX 42 #[.agg (xuV Y.u iv ov)] rfl (by kernel_rfl) (by go_simp) ?_
      refine (HCA.out _ hs0).mono ?_
      rintro e w4 ⟨rfl, hb⟩
      have hs4 : Below w7.heap.size w7 w4 := hs0.trans (hb.mono hs0.size)
      refine ⟨_, rfl, hs4, ?_⟩
      refine takeH (fuel := 7) (i := 5) (.bool q) ?_ rfl (by kernel_rfl) (by kernel_rfl) (by kernel_rfl) (fun _ _ _ h => h) (by kernel_rfl) (fun W hS => by (have qq := HQQ.out; go_simp)) hs4 ?_ ?_
      rotate_left 1
      · go_simp
        exact rfl
      refine wpAnyH_all (fuel := 6) (rs := [6, 10]) (by kernel_rfl) (by decide) ?_
      intro i hi
      simp only [List.mem_cons, List.not_mem_nil, or_false] at hi
      rcases hi with rfl | rfl
      · refine wpOp_callX 41 #[.agg (x16V Y.n Y.p), .int .i64 10, .bool q] rfl (by kernel_rfl) (by go_simp) ?_
        refine (HWI.out _).mono ?_
        rintro e w5 ⟨rfl, hb⟩
        have hs5 : Below w7.heap.size w7 w5 := hs4.trans (hb.mono hs4.size)
        refine ⟨_, rfl, hs5, ?_⟩
        refine takeH (fuel := 5) (i := 7) (.tuple #[.agg (x16V Y.n p'), .bool wr]) ?_ rfl (by kernel_rfl) (by kernel_rfl) (by kernel_rfl) (fun _ _ _ h => h) (by kernel_rfl) (fun W hS => by go_simp) hs5 ?_ ?_
        rotate_left 1
        · go_simp
          exact rfl
        refine takeH (fuel := 4) (i := 8) (.agg (x16V Y.n p')) ?_ rfl (by kernel_rfl) (by kernel_rfl) (by kernel_rfl) (fun _ _ _ h => h) (by kernel_rfl) (fun W hS => by go_simp) hs5 ?_ ?_
        rotate_left 1
        · go_simp
          exact rfl
        refine takeH (fuel := 3) (i := 9) (.bool wr) ?_ rfl (by kernel_rfl) (by kernel_rfl) (by kernel_rfl) (fun _ _ _ h => h) (by kernel_rfl) (fun W hS => by go_simp) hs5 ?_ ?_
        rotate_left 1
        · go_simp
          exact rfl
        refine wpAnyH_all (fuel := 2) (rs := [10]) (by kernel_rfl) (by decide) ?_
        intro i hi
        obtain rfl : i = 10 := by simpa using hi
        have hba : Below w5.heap.size w5 (w5.alloc (.cells (x16V 0 Pc.zeros) X16)) := (Below.refl _ _).alloc (Nat.le_refl _) _
        refine wpOp_valB (.pointer (some ⟨w5.heap.size, 0, none⟩)) (w5.alloc (.cells (x16V 0 Pc.zeros) X16)) _ rfl (by kernel_rfl) (exec_alloc X16 rfl _ (zero_x16 _)) rfl ?_
        have hs6 : Below w7.heap.size w7 (w5.alloc (.cells (x16V 0 Pc.zeros) X16)) := hs5.trans (hba.mono hs5.size)
        have hcN : CsAt (w5.alloc (.cells (x16V 0 Pc.zeros) X16)) w5.heap.size X16 (x16V 0 Pc.zeros) := CsAt.new _ _ _
        have hle : w7.heap.size ≤ w5.heap.size := hs5.size
        refine ⟨hs6, ?_⟩
        refine wpAnyH_all (fuel := 1) (rs := [11]) (by kernel_rfl) (by decide) ?_
        intro i hi
        obtain rfl : i = 11 := by simpa using hi
        refine wpOp_unitB ((w5.alloc (.cells (x16V 0 Pc.zeros) X16)).setRow w5.heap.size (x16V Y.n p')) _ rfl (by kernel_rfl) (exec_store_row X16 _ _ rfl w5.heap.size (x16V Y.n p') rfl rfl X16 _ hcN iX16 (by rw [x16_size', x16_size']) x16_one) rfl ?_
        have hsf : Below w7.heap.size w7 ((w5.alloc (.cells (x16V 0 Pc.zeros) X16)).setRow w5.heap.size (x16V Y.n p')) := below_setRow hs6 hle _
        refine ⟨hsf, ?_⟩
        refine takeH (fuel := 0) (i := 12) (.bool wr) ?_ rfl (by kernel_rfl) (by kernel_rfl) (by kernel_rfl) (fun _ _ _ h => h) (by kernel_rfl) (fun W hS => by go_simp) hsf ?_ ?_
        rotate_left 1
        · go_simp
          exact rfl
        refine wpAnyH_done (by kernel_rfl) ?_ _
        refine NoPanic.normal ?_
        have hfin := hcN.row (x16V Y.n p')
        have HFIN := Lib.hid hfin
        have HSF := Lib.hid hsf
        clear hfin hsf hcN hle hba hb hs0
        go_wp2_with fail
        go_meet
        exact ⟨_, rfl, rfl, HFIN.out, HSF.out⟩
      · have hba : Below w4.heap.size w4 (w4.alloc (.cells (x16V 0 Pc.zeros) X16)) := (Below.refl _ _).alloc (Nat.le_refl _) _
        refine wpOp_valB (.pointer (some ⟨w4.heap.size, 0, none⟩)) (w4.alloc (.cells (x16V 0 Pc.zeros) X16)) _ rfl (by kernel_rfl) (exec_alloc X16 rfl _ (zero_x16 _)) rfl ?_
        have hs5 : Below w7.heap.size w7 (w4.alloc (.cells (x16V 0 Pc.zeros) X16)) := hs4.trans (hba.mono hs4.size)
        have hcN : CsAt (w4.alloc (.cells (x16V 0 Pc.zeros) X16)) w4.heap.size X16 (x16V 0 Pc.zeros) := CsAt.new _ _ _
        have hle : w7.heap.size ≤ w4.heap.size := hs4.size
        refine ⟨hs5, ?_⟩
        refine wpAnyH_all (fuel := 5) (rs := [6]) (by kernel_rfl) (by decide) ?_
        intro i hi
        obtain rfl : i = 6 := by simpa using hi
        refine wpOp_callX 41 #[.agg (x16V Y.n Y.p), .int .i64 10, .bool q] rfl (by kernel_rfl) (by go_simp) ?_
        refine (HWI.out _).mono ?_
        rintro e w6 ⟨rfl, hb⟩
        have hs6 : Below w7.heap.size w7 w6 := hs5.trans (hb.mono hs5.size)
        have hcN := hcN.low hb
        refine ⟨_, rfl, hs6, ?_⟩
        refine takeH (fuel := 4) (i := 7) (.tuple #[.agg (x16V Y.n p'), .bool wr]) ?_ rfl (by kernel_rfl) (by kernel_rfl) (by kernel_rfl) (fun _ _ _ h => h) (by kernel_rfl) (fun W hS => by go_simp) hs6 ?_ ?_
        rotate_left 1
        · go_simp
          exact rfl
        refine takeH (fuel := 3) (i := 8) (.agg (x16V Y.n p')) ?_ rfl (by kernel_rfl) (by kernel_rfl) (by kernel_rfl) (fun _ _ _ h => h) (by kernel_rfl) (fun W hS => by go_simp) hs6 ?_ ?_
        rotate_left 1
        · go_simp
          exact rfl
        refine takeH (fuel := 2) (i := 9) (.bool wr) ?_ rfl (by kernel_rfl) (by kernel_rfl) (by kernel_rfl) (fun _ _ _ h => h) (by kernel_rfl) (fun W hS => by go_simp) hs6 ?_ ?_
        rotate_left 1
        · go_simp
          exact rfl
        refine wpAnyH_all (fuel := 1) (rs := [11]) (by kernel_rfl) (by decide) ?_
        intro i hi
        obtain rfl : i = 11 := by simpa using hi
        refine wpOp_unitB (w6.setRow w4.heap.size (x16V Y.n p')) _ rfl (by kernel_rfl) (exec_store_row X16 _ _ rfl w4.heap.size (x16V Y.n p') rfl rfl X16 _ hcN iX16 (by rw [x16_size', x16_size']) x16_one) rfl ?_
        have hsf : Below w7.heap.size w7 (w6.setRow w4.heap.size (x16V Y.n p')) := below_setRow hs6 hle _
        refine ⟨hsf, ?_⟩
        refine takeH (fuel := 0) (i := 12) (.bool wr) ?_ rfl (by kernel_rfl) (by kernel_rfl) (by kernel_rfl) (fun _ _ _ h => h) (by kernel_rfl) (fun W hS => by go_simp) hsf ?_ ?_
        rotate_left 1
        · go_simp
          exact rfl
        refine wpAnyH_done (by kernel_rfl) ?_ _
        refine NoPanic.normal ?_
        have hfin := hcN.row (x16V Y.n p')
        have HFIN := Lib.hid hfin
        have HSF := Lib.hid hsf
        clear hfin hsf hcN hle hba hb hs0
        go_wp2_with fail
        go_meet
        exact ⟨_, rfl, rfl, HFIN.out, HSF.out⟩
    · have hba : Below w7.drew.heap.size w7.drew (w7.drew.alloc (.cells (x16V 0 Pc.zeros) X16)) := (Below.refl _ _).alloc (Nat.le_refl _) _
      refine wpOp_valB (.pointer (some ⟨w7.drew.heap.size, 0, none⟩)) (w7.drew.alloc (.cells (x16V 0 Pc.zeros) X16)) _ rfl (by kernel_rfl) (exec_alloc X16 rfl _ (zero_x16 _)) rfl ?_
      have hs4 : Below w7.heap.size w7 (w7.drew.alloc (.cells (x16V 0 Pc.zeros) X16)) := hs0.trans (hba.mono hs0.size)
      have hcN : CsAt (w7.drew.alloc (.cells (x16V 0 Pc.zeros) X16)) w7.drew.heap.size X16 (x16V 0 Pc.zeros) := CsAt.new _ _ _
      have hle : w7.heap.size ≤ w7.drew.heap.size := hs0.size
      refine ⟨hs4, ?_⟩
      refine wpAnyH_all (fuel := 7) (rs := [4]) (by kernel_rfl) (by decide) ?_
      intro i hi
      obtain rfl : i = 4 := by simpa using hi
      refine wpOp_callX 42 #[.agg (xuV Y.u iv ov)] rfl (by kernel_rfl) (by go_simp) ?_
      refine (HCA.out _ hs4).mono ?_
      rintro e w5 ⟨rfl, hb⟩
      have hs5 : Below w7.heap.size w7 w5 := hs4.trans (hb.mono hs4.size)
      have hcN := hcN.low hb
      refine ⟨_, rfl, hs5, ?_⟩
      refine takeH (fuel := 6) (i := 5) (.bool q) ?_ rfl (by kernel_rfl) (by kernel_rfl) (by kernel_rfl) (fun _ _ _ h => h) (by kernel_rfl) (fun W hS => by (have qq := HQQ.out; go_simp)) hs5 ?_ ?_
      rotate_left 1
      · go_simp
        exact rfl
      refine wpAnyH_all (fuel := 5) (rs := [6]) (by kernel_rfl) (by decide) ?_
      intro i hi
      obtain rfl : i = 6 := by simpa using hi
      refine wpOp_callX 41 #[.agg (x16V Y.n Y.p), .int .i64 10, .bool q] rfl (by kernel_rfl) (by go_simp) ?_
      refine (HWI.out _).mono ?_
      rintro e w6 ⟨rfl, hb⟩
      have hs6 : Below w7.heap.size w7 w6 := hs5.trans (hb.mono hs5.size)
      have hcN := hcN.low hb
      refine ⟨_, rfl, hs6, ?_⟩
      refine takeH (fuel := 4) (i := 7) (.tuple #[.agg (x16V Y.n p'), .bool wr]) ?_ rfl (by kernel_rfl) (by kernel_rfl) (by kernel_rfl) (fun _ _ _ h => h) (by kernel_rfl) (fun W hS => by go_simp) hs6 ?_ ?_
      rotate_left 1
      · go_simp
        exact rfl
      refine takeH (fuel := 3) (i := 8) (.agg (x16V Y.n p')) ?_ rfl (by kernel_rfl) (by kernel_rfl) (by kernel_rfl) (fun _ _ _ h => h) (by kernel_rfl) (fun W hS => by go_simp) hs6 ?_ ?_
      rotate_left 1
      · go_simp
        exact rfl
      refine takeH (fuel := 2) (i := 9) (.bool wr) ?_ rfl (by kernel_rfl) (by kernel_rfl) (by kernel_rfl) (fun _ _ _ h => h) (by kernel_rfl) (fun W hS => by go_simp) hs6 ?_ ?_
      rotate_left 1
      · go_simp
        exact rfl
      refine wpAnyH_all (fuel := 1) (rs := [11]) (by kernel_rfl) (by decide) ?_
      intro i hi
      obtain rfl : i = 11 := by simpa using hi
      refine wpOp_unitB (w6.setRow w7.drew.heap.size (x16V Y.n p')) _ rfl (by kernel_rfl) (exec_store_row X16 _ _ rfl w7.drew.heap.size (x16V Y.n p') rfl rfl X16 _ hcN iX16 (by rw [x16_size', x16_size']) x16_one) rfl ?_
      have hsf : Below w7.heap.size w7 (w6.setRow w7.drew.heap.size (x16V Y.n p')) := below_setRow hs6 hle _
      refine ⟨hsf, ?_⟩
      refine takeH (fuel := 0) (i := 12) (.bool wr) ?_ rfl (by kernel_rfl) (by kernel_rfl) (by kernel_rfl) (fun _ _ _ h => h) (by kernel_rfl) (fun W hS => by go_simp) hsf ?_ ?_
      rotate_left 1
      · go_simp
        exact rfl
      refine wpAnyH_done (by kernel_rfl) ?_ _
      refine NoPanic.normal ?_
      have hfin := hcN.row (x16V Y.n p')
      have HFIN := Lib.hid hfin
      have HSF := Lib.hid hsf
      clear hfin hsf hcN hle hba hb hs0
      go_wp2_with fail
      go_meet
      exact ⟨_, rfl, rfl, HFIN.out, HSF.out⟩
  case rest =>
    obtain ⟨c, rfl, rfl, hC, hB⟩ := hcut
    have HC := Lib.hid hC
    replace HT := Lib.hid (HT.out.low hB)
    clear hC hB HQ HCA HWI
    have HTH := Lib.hid (show wc.there w.heap.size 19 (x16V Y.n p').size from by rw [x16_size']; exact HT.out.thP)
    go_upto_region 42 with (first
      | (refine wpList_load_row rfl X16 _ rfl c rfl X16 (x16V Y.n p') (0, 0) _ HC.out Tryz.underlying48 rfl iX16 ?_)
      | (refine wpList_store_mid rfl X16 _ _ rfl w.heap.size 19 (x16V Y.n p') rfl rfl HTH.out iX16 x16_one ?_))
    replace HT := Lib.hid (HT.out.putP HWO.out)
    clear HC HTH HWO
    generalize wc.setCells w.heap.size 19 (x16V Y.n p').toList = w7 at *
    generalize hZZ : ({ Y with p := p' } : Bs.B) = Z at *
    clear hZZ
    replace HT := Lib.hid (HT.out.low (below_dU (Below.refl _ _) 1 : Below w7.heap.size w7 w7.drew))
    have hs0 : CsAt w7.drew w.heap.size BxT (xbX Z (xuV Z.u iv ov)) ∧ CsAt w7.drew tb ANT (anB 0) := ⟨HT.out.x, HT.out.t⟩
    have IZ := Lib.hid HT.out.info
    have OZ := Lib.hid HT.out.one
    have htb := HT.out.tb
    have ZZ := Lib.hid (show (xb0').size = (xbX Z (xuV Z.u iv ov)).size by rw [xbX_size HT.out.okc.len rfl]; exact xbV_size 0 (x15_size 0 _ (ctnew_len (by omega))) (x16_size' _ _) rfl)
    refine wp_region_noPanic ?_
    refine wp_region_held (S := fun W => CsAt W w.heap.size BxT (xbX Z (xuV Z.u iv ov)) ∧ CsAt W tb ANT (anB 0)) (by kernel_rfl) ?_
    refine takeH (fuel := 4) (i := 0) (.agg (xbX Z (xuV Z.u iv ov))) ?_ rfl (by kernel_rfl) (by kernel_rfl) (by kernel_rfl) (fun _ _ _ h => h) (by kernel_rfl) (fun W hS => exec_load_row BxT _ rfl w.heap.size rfl BxT _ _ hS.1 Tryz.underlying53 rfl IZ.out) hs0 ?_ ?_
    rotate_left 1
    · go_simp
      exact rfl
    refine takeH (fuel := 3) (i := 1) (.agg (anB 0)) ?_ rfl (by kernel_rfl) (by kernel_rfl) (by kernel_rfl) (fun _ _ _ h => h) (by kernel_rfl) (fun W hS => exec_load_row ANT _ rfl tb rfl ANT _ _ hS.2 Tryz.underlying57 rfl (iAN _)) hs0 ?_ ?_
    rotate_left 1
    · go_simp
      exact rfl
    refine wpAnyH_all (fuel := 2) (rs := [2]) (by kernel_rfl) (by decide) ?_
    intro i hi
    obtain rfl : i = 2 := by simpa using hi
    refine wpOp_unitB (w7.drew.setRow (w.heap.size + 2) (xbX Z (xuV Z.u iv ov))) _ rfl (by kernel_rfl) (exec_store_row BxT _ _ rfl (w.heap.size + 2) (xbX Z (xuV Z.u iv ov)) rfl rfl BxT _ HT.out.r IZ.out ZZ.out OZ.out) rfl ?_
    have hs1 : CsAt (w7.drew.setRow (w.heap.size + 2) (xbX Z (xuV Z.u iv ov))) w.heap.size BxT (xbX Z (xuV Z.u iv ov)) ∧ CsAt (w7.drew.setRow (w.heap.size + 2) (xbX Z (xuV Z.u iv ov))) tb ANT (anB 0) := ⟨hs0.1.rowFar (by omega) _, hs0.2.rowFar (by omega) _⟩
    refine ⟨hs1, ?_⟩
    refine wpAnyH_all (fuel := 1) (rs := [3]) (by kernel_rfl) (by decide) ?_
    intro i hi
    obtain rfl : i = 3 := by simpa using hi
    refine wpOp_unitB ((w7.drew.setRow (w.heap.size + 2) (xbX Z (xuV Z.u iv ov))).setRow (w.heap.size + 3) (anB 0)) _ rfl (by kernel_rfl) (exec_store_row ANT _ _ rfl (w.heap.size + 3) (anB 0) rfl rfl ANT _ (HT.out.q.rowFar (by omega) _) (iAN _) rfl (anB_one _)) rfl ?_
    have hs2 : CsAt ((w7.drew.setRow (w.heap.size + 2) (xbX Z (xuV Z.u iv ov))).setRow (w.heap.size + 3) (anB 0)) w.heap.size BxT (xbX Z (xuV Z.u iv ov)) ∧ CsAt ((w7.drew.setRow (w.heap.size + 2) (xbX Z (xuV Z.u iv ov))).setRow (w.heap.size + 3) (anB 0)) tb ANT (anB 0) := ⟨hs1.1.rowFar (by omega) _, hs1.2.rowFar (by omega) _⟩
    refine ⟨hs2, ?_⟩
    refine takeH (fuel := 0) (i := 4) (.bool true) ?_ rfl (by kernel_rfl) (by kernel_rfl) (by kernel_rfl) (fun _ _ _ h => h) (by kernel_rfl) (fun W hS => by go_simp) hs2 ?_ ?_
    rotate_left 1
    · go_simp
      exact rfl
    refine wpAnyH_done (by kernel_rfl) ?_ _
    refine NoPanic.normal ?_
    clear hs0 hs1 hs2
    go_wp2_with fail
    exact bodyPost_ret (results_ccb BxT ANT Tryz.results8 _ _ (w.heap.size + 2) (w.heap.size + 3) _ _ _ rfl rfl rfl (run_loadVar_row _ _ BxT BxT _ (0, 0) _ ((HT.out.r.row _).rowFar (by omega) _) Tryz.underlying53 rfl IZ.out) (run_loadVar_row _ _ ANT ANT _ (0, 0) _ ((HT.out.q.rowFar (by omega) _).row (anB 0)) Tryz.underlying57 rfl (iAN 0))) rfl
      ⟨iv, ov, by rw [HZ.out]; rfl, by rw [HZ.out]; exact HT.out.done _ _⟩
end Go.Proofs.YtfjdalepaacmgaaGreat
set_option maxRecDepth 20000
namespace Go.Proofs.YtfjdalepaacmgaaGreat
open Go.ChangeShapes Go.WideShapes Go.ChangeAt Go.RowKit

set_option maxRecDepth 100000 in
set_option maxHeartbeats 32000000 in
theorem rdo18_no (G : Nat → Prop) (X : Bs.B) (h : Int) (a : Ak) (ha : a.In) (hgo : Bs.goB X h a = false) (hwhy : Bs.mayB X.n a = false ∨ (Bs.mayB X.n a = true ∧ a.kind = 11 ∧ Bs.hasB X.n h = false)) (okc : Ct.Ok X.n X.c) (okp : Pc.Ok X.n X.p) (oku : Ut.Ok X.u) (_hn : X.u.out.length < 900) (iv ov : Value) (w : World)
    (hG : ∀ k, G k → k < w.heap.size) (hi : VwG G w iv X.u.q) (ho : VwG G w ov X.u.out) :
    Calls Tryz.prog 8 #[.agg (xbX X (xuV X.u iv ov)), .int .i64 h, .agg a.cells] w fun e w' =>
      ∃ iv' ov', e = .returned (.tuple #[.agg (xbX (Bs.doX X h a) (xuV (Bs.doX X h a).u iv' ov')), .agg (anB (Bs.doV X h a)), .bool (Bs.goB X h a)]) ∧ XuQ G w w' (Bs.doX X h a).u iv' ov' := by
  have g15 := x15_size X.n X.c okc.len
  have IX := Lib.hid (iBx X.n g15 (x16_size' X.n X.p) (show (xuV X.u iv ov).size = 11 from rfl))
  have OX := Lib.hid (xbV_one X.n (x15V_one (n := X.n) (ws := X.c)) (x16_one (n := X.n) (ws := X.p)) (xuV_one X.u hi.one ho.one))
  have ZX := Lib.hid (show (xb0').size = (xbX X (xuV X.u iv ov)).size by rw [xbX_size okc.len rfl]; exact xbV_size 0 (x15_size 0 _ (ctnew_len (by omega))) (x16_size' _ _) rfl)
  have HP := Lib.hid (RoP.new w _ X (xuV X.u iv ov) rfl a)
  have HMB := Lib.hid (fun W => rmayB_c X.n (xbX X (xuV X.u iv ov)) (xbV_0 _ _ _ _) a ha.addr W)
  have HS0 := Lib.hid (fun (W : World) (h : RoP w W X (xuV X.u iv ov) a) => h.go hG hi ho okc okp oku)
  have HBI := Lib.hid hi
  have HBO := Lib.hid ho
  have HIN := Lib.hid ha
  have HOU := Lib.hid oku
  have HOC := Lib.hid okc
  have HOP := Lib.hid okp
  have hzb : ∀ W : World, (zeroValue BxT).run Tryz.prog W = .ok (.agg xb0') W := zero_bx
  have hz := zero_an
  clear g15 hi ho ha oku okc okp hG
  rw [show Bs.doV X h a = 0 by unfold Bs.doV; rw [hgo]; rfl, show Bs.doX X h a = X by unfold Bs.doX; rw [hgo]; rfl, hgo]
  rcases hwhy with hm | ⟨hm, hk, hh2⟩
  · clear hgo
    go_enter Tryz.func8, Tryz.ntmps8
    go_upto_region 1 with fail
    generalize ((((w.alloc (.cells (xbX X (xuV X.u iv ov)) BxT)).alloc (.cells a.cells AKT)).alloc (.cells xb0' BxT)).alloc (.cells (anB 0) ANT)) = w1 at *
    clear hz hzb
    go_wp2_with (first | (refine wpList_load_row rfl BxT _ rfl w.heap.size rfl BxT _ (0, 0) _ HP.out.x Tryz.underlying53 rfl IX.out ?_) | (refine wpList_load_row rfl AKT _ rfl (w.heap.size + 1) rfl AKT _ (0, 0) _ HP.out.a.cs Tryz.underlying31 rfl info_AK ?_))
    rw [hm] at HMB
    refine (HMB.out _).mono ?_
    rintro e w2 ⟨rfl, hb2⟩
    replace HP := Lib.hid (HP.out.low hb2)
    clear hb2 HMB hm
    have q0 := HP.out.a.kind
    have q0n := xb_at0 HP.out.x
    go_upto_region 2 with fail
    try clear q0
    try clear q0n
    go_wp2_with (first
      | (refine wpList_load_row rfl BxT _ rfl w.heap.size rfl BxT _ (0, 0) _ HP.out.x Tryz.underlying53 rfl IX.out ?_)
      | (refine wpList_store_row rfl BxT _ _ rfl (w.heap.size + 2) (xbX X (xuV X.u iv ov)) (by kernel_rfl) (by kernel_rfl) BxT xb0' HP.out.r IX.out ZX.out OX.out ?_)
      | (refine wpList_store_row rfl ANT _ _ rfl (w.heap.size + 3) (anB 0) (by kernel_rfl) (by kernel_rfl) ANT (anB 0) (HP.out.q.rowFar (by omega) _) (iAN 0) rfl (anB_one 0) ?_))
    exact bodyPost_ret (results_ccb BxT ANT Tryz.results8 _ _ (w.heap.size + 2) (w.heap.size + 3) _ _ _ rfl rfl rfl (run_loadVar_row _ _ BxT BxT _ (0, 0) _ ((HP.out.r.row _).rowFar (by omega) _) Tryz.underlying53 rfl IX.out) (run_loadVar_row _ _ ANT ANT _ (0, 0) _ ((HP.out.q.rowFar (by omega) _).row (anB 0)) Tryz.underlying57 rfl (iAN 0))) rfl
      ⟨iv, ov, rfl, (HBI.out.low (below_setRow (below_setRow HP.out.bel (by omega) _) (by omega) _)), (HBO.out.low (below_setRow (below_setRow HP.out.bel (by omega) _) (by omega) _)), below_setRow (below_setRow HP.out.bel (by omega) _) (by omega) _⟩
  · have e01 : decide (h < 0) = true ∨ (decide (h < 0) = false ∧ decide (h ≥ (X.n : Int)) = true) := by
      have : ¬ (0 ≤ h ∧ h < X.n) := by simpa [Bs.hasB] using hh2
      by_cases h0 : h < 0
      · exact .inl (by simpa using h0)
      · exact .inr ⟨by simpa using h0, by simp; omega⟩
    clear hgo hh2
    rcases e01 with e0 | ⟨e0, e1⟩
    · skip
      go_enter Tryz.func8, Tryz.ntmps8
      go_upto_region 1 with fail
      generalize ((((w.alloc (.cells (xbX X (xuV X.u iv ov)) BxT)).alloc (.cells a.cells AKT)).alloc (.cells xb0' BxT)).alloc (.cells (anB 0) ANT)) = w1 at *
      clear hz hzb
      go_wp2_with (first | (refine wpList_load_row rfl BxT _ rfl w.heap.size rfl BxT _ (0, 0) _ HP.out.x Tryz.underlying53 rfl IX.out ?_) | (refine wpList_load_row rfl AKT _ rfl (w.heap.size + 1) rfl AKT _ (0, 0) _ HP.out.a.cs Tryz.underlying31 rfl info_AK ?_))
      rw [hm] at HMB
      refine (HMB.out _).mono ?_
      rintro e w2 ⟨rfl, hb2⟩
      replace HP := Lib.hid (HP.out.low hb2)
      clear hb2 HMB hm
      have q0 := HP.out.a.kind
      have q0n := xb_at0 HP.out.x
      rw [hk] at q0
      go_upto_region 2 with fail
      try clear q0
      try clear q0n
      go_wp2_with (first
        | (refine wpList_load_row rfl BxT _ rfl w.heap.size rfl BxT _ (0, 0) _ HP.out.x Tryz.underlying53 rfl IX.out ?_)
        | (refine wpList_store_row rfl BxT _ _ rfl (w.heap.size + 2) (xbX X (xuV X.u iv ov)) (by kernel_rfl) (by kernel_rfl) BxT xb0' HP.out.r IX.out ZX.out OX.out ?_)
        | (refine wpList_store_row rfl ANT _ _ rfl (w.heap.size + 3) (anB 0) (by kernel_rfl) (by kernel_rfl) ANT (anB 0) (HP.out.q.rowFar (by omega) _) (iAN 0) rfl (anB_one 0) ?_))
      exact bodyPost_ret (results_ccb BxT ANT Tryz.results8 _ _ (w.heap.size + 2) (w.heap.size + 3) _ _ _ rfl rfl rfl (run_loadVar_row _ _ BxT BxT _ (0, 0) _ ((HP.out.r.row _).rowFar (by omega) _) Tryz.underlying53 rfl IX.out) (run_loadVar_row _ _ ANT ANT _ (0, 0) _ ((HP.out.q.rowFar (by omega) _).row (anB 0)) Tryz.underlying57 rfl (iAN 0))) rfl
        ⟨iv, ov, rfl, (HBI.out.low (below_setRow (below_setRow HP.out.bel (by omega) _) (by omega) _)), (HBO.out.low (below_setRow (below_setRow HP.out.bel (by omega) _) (by omega) _)), below_setRow (below_setRow HP.out.bel (by omega) _) (by omega) _⟩
    · skip
      go_enter Tryz.func8, Tryz.ntmps8
      go_upto_region 1 with fail
      generalize ((((w.alloc (.cells (xbX X (xuV X.u iv ov)) BxT)).alloc (.cells a.cells AKT)).alloc (.cells xb0' BxT)).alloc (.cells (anB 0) ANT)) = w1 at *
      clear hz hzb
      go_wp2_with (first | (refine wpList_load_row rfl BxT _ rfl w.heap.size rfl BxT _ (0, 0) _ HP.out.x Tryz.underlying53 rfl IX.out ?_) | (refine wpList_load_row rfl AKT _ rfl (w.heap.size + 1) rfl AKT _ (0, 0) _ HP.out.a.cs Tryz.underlying31 rfl info_AK ?_))
      rw [hm] at HMB
      refine (HMB.out _).mono ?_
      rintro e w2 ⟨rfl, hb2⟩
      replace HP := Lib.hid (HP.out.low hb2)
      clear hb2 HMB hm
      have q0 := HP.out.a.kind
      have q0n := xb_at0 HP.out.x
      rw [hk] at q0
      go_upto_region 2 with fail
      try clear q0
      try clear q0n
      go_wp2_with (first
        | (refine wpList_load_row rfl BxT _ rfl w.heap.size rfl BxT _ (0, 0) _ HP.out.x Tryz.underlying53 rfl IX.out ?_)
        | (refine wpList_store_row rfl BxT _ _ rfl (w.heap.size + 2) (xbX X (xuV X.u iv ov)) (by kernel_rfl) (by kernel_rfl) BxT xb0' HP.out.r IX.out ZX.out OX.out ?_)
        | (refine wpList_store_row rfl ANT _ _ rfl (w.heap.size + 3) (anB 0) (by kernel_rfl) (by kernel_rfl) ANT (anB 0) (HP.out.q.rowFar (by omega) _) (iAN 0) rfl (anB_one 0) ?_))
      exact bodyPost_ret (results_ccb BxT ANT Tryz.results8 _ _ (w.heap.size + 2) (w.heap.size + 3) _ _ _ rfl rfl rfl (run_loadVar_row _ _ BxT BxT _ (0, 0) _ ((HP.out.r.row _).rowFar (by omega) _) Tryz.underlying53 rfl IX.out) (run_loadVar_row _ _ ANT ANT _ (0, 0) _ ((HP.out.q.rowFar (by omega) _).row (anB 0)) Tryz.underlying57 rfl (iAN 0))) rfl
        ⟨iv, ov, rfl, (HBI.out.low (below_setRow (below_setRow HP.out.bel (by omega) _) (by omega) _)), (HBO.out.low (below_setRow (below_setRow HP.out.bel (by omega) _) (by omega) _)), below_setRow (below_setRow HP.out.bel (by omega) _) (by omega) _⟩
theorem rdo18_c (G : Nat → Prop) (X : Bs.B) (h : Int) (a : Ak) (ha : a.In) (okc : Ct.Ok X.n X.c) (okp : Pc.Ok X.n X.p) (oku : Ut.Ok X.u) (hn : X.u.out.length < 900) (iv ov : Value) (w : World)
    (hG : ∀ k, G k → k < w.heap.size) (hi : VwG G w iv X.u.q) (ho : VwG G w ov X.u.out) :
    Calls Tryz.prog 8 #[.agg (xbX X (xuV X.u iv ov)), .int .i64 h, .agg a.cells] w fun e w' =>
      ∃ iv' ov', e = .returned (.tuple #[.agg (xbX (Bs.doX X h a) (xuV (Bs.doX X h a).u iv' ov')), .agg (anB (Bs.doV X h a)), .bool (Bs.goB X h a)]) ∧ XuQ G w w' (Bs.doX X h a).u iv' ov' := by
  rcases kind_cases a.kind with hk | hk | hk | hk | hk | hk | hk
  · by_cases hd3 : Bs.dv X a < 3
    · obtain hd | hd | hd : Bs.dv X a = 0 ∨ Bs.dv X a = 1 ∨ Bs.dv X a = 2 := by omega
      · exact rdo18_BtDa G X h a ha hk hd okc okp oku hn iv ov w hG hi ho
      · exact rdo18_BtDb G X h a ha hk hd okc okp oku hn iv ov w hG hi ho
      · exact rdo18_BtDc G X h a ha hk hd okc okp oku hn iv ov w hG hi ho
    · have hm : Bs.mayB X.n a = false := by unfold Bs.mayB Bs.isK; rw [hk]; simpa [Bs.dv] using hd3
      exact rdo18_no G X h a ha (by unfold Bs.goB; rw [hm]; rfl) (.inl hm) okc okp oku hn iv ov w hG hi ho
  · by_cases hd3 : Bs.dv X a < 3
    · obtain hd | hd | hd : Bs.dv X a = 0 ∨ Bs.dv X a = 1 ∨ Bs.dv X a = 2 := by omega
      · exact rdo18_BtDd G X h a ha hk hd okc okp oku hn iv ov w hG hi ho
      · exact rdo18_BtDe G X h a ha hk hd okc okp oku hn iv ov w hG hi ho
      · exact rdo18_BtDf G X h a ha hk hd okc okp oku hn iv ov w hG hi ho
    · have hm : Bs.mayB X.n a = false := by unfold Bs.mayB Bs.isK; rw [hk]; simpa [Bs.dv] using hd3
      exact rdo18_no G X h a ha (by unfold Bs.goB; rw [hm]; rfl) (.inl hm) okc okp oku hn iv ov w hG hi ho
  · have hm : Bs.mayB X.n a = true := by unfold Bs.mayB Bs.isK Bs.otherK; rw [hk]; rfl
    cases hh2 : Bs.hasB X.n h with
    | false => exact rdo18_no G X h a ha (by unfold Bs.goB; rw [hm, hk, hh2]; rfl) (.inr ⟨hm, hk, hh2⟩) okc okp oku hn iv ov w hG hi ho
    | true => exact rdo18_BtDg G X h a ha hk hh2 okc okp oku hn iv ov w hG hi ho
  · exact rdo18_BtDh G X h a ha hk okc okp oku hn iv ov w hG hi ho
  · exact rdo18_BtDi G X h a ha hk okc okp oku hn iv ov w hG hi ho
  · by_cases h10 : a.size = 10
    · exact rdo18_BtDj G X h a ha hk h10 okc okp oku hn iv ov w hG hi ho
    · exact rdo18_BtDk G X h a ha hk h10 okc okp oku hn iv ov w hG hi ho
  · obtain ⟨k1, k2, k3, k4, k5, k6⟩ := hk
    have hm : Bs.mayB X.n a = false := by unfold Bs.mayB Bs.isK Bs.otherK; rw [show (a.kind == 9) = false by simpa using k1, show (a.kind == 10) = false by simpa using k2, show (a.kind == 11) = false by simpa using k3, show (a.kind == 18) = false by simpa using k4, show (a.kind == 19) = false by simpa using k5, show (a.kind == 20) = false by simpa using k6]; rfl
    exact rdo18_no G X h a ha (by unfold Bs.goB; rw [hm]; rfl) (.inl hm) okc okp oku hn iv ov w hG hi ho
end Go.Proofs.YtfjdalepaacmgaaGreat
set_option maxRecDepth 20000
namespace Go.Proofs.YtfjdalepaacmgaaGreat
open Go.ChangeShapes Go.WideShapes Go.ChangeAt Go.RowKit

def bu0 : Array Value := buV (.pointer none) 0 (Ct.newW 0) Pc.zeros
theorem zero_bu (W : World) : (zeroValue BuT).run Tryz.prog W = .ok (.agg bu0) W := by kernel_rfl
theorem bus_put (p p' : Value) (n : Nat) (c q : List Int) : (buV p n c q).setIfInBounds 0 p' = buV p' n c q := by simp [buV]
set_option maxRecDepth 100000 in
set_option maxHeartbeats 8000000 in
theorem busclone_c (F : Nat → Prop) (b : Nat) (X : Bs.B) (hn : X.u.out.length ≤ 900) (w : World) (h : Bu F w b X) :
    Calls Tryz.prog 10 #[.pointer (some ⟨b, 0, none⟩)] w fun e w' => ∃ c F', e = .returned (.pointer (some ⟨c, 0, none⟩)) ∧ Bu F' w' c X ∧ Below w.heap.size w w' ∧ (∀ k, F' k → w.heap.size ≤ k) ∧ w.heap.size ≤ c := by
  obtain ⟨g, hrow, hp⟩ := h.ex
  have ib : (Tryz.prog.info? BuT).map (·.size) = some (buV (.pointer (some ⟨g, 0, none⟩)) X.n X.c X.p).size := by rw [buV_size h.okc.len h.okp.len]; exact info_Bu
  have IB := Lib.hid ib
  have HR := Lib.hid hrow
  have HH := Lib.hid h
  have OB := Lib.hid (buV_one (n := X.n) (ws := X.c) (ps := X.p) (u := .pointer (some ⟨g, 0, none⟩)) rfl)
  have SB := Lib.hid (show bu0.size = (buV (.pointer (some ⟨g, 0, none⟩)) X.n X.c X.p).size by rw [buV_size h.okc.len h.okp.len]; kernel_rfl)
  have HB := Lib.hid ((Below.refl w.heap.size w).alloc (Nat.le_refl _) (.cells (buV (.pointer (some ⟨g, 0, none⟩)) X.n X.c X.p) BuT))
  have HC := Lib.hid (CsAt.new w BuT (buV (.pointer (some ⟨g, 0, none⟩)) X.n X.c X.p))
  have HP := Lib.hid hp
  clear ib hrow h hp
  go_enter Tryz.func10, Tryz.ntmps10
  go_upto_region 4 with (first
    | (refine wpList_load_row rfl BuT _ rfl b rfl BuT _ (0, 0) _ HR.out Tryz.underlying79 rfl IB.out ?_)
    | (refine wpList_allocTo rfl _ rfl (.pointer (some ⟨w.heap.size, 0, none⟩)) (.cells bu0 BuT) (exec_alloc BuT rfl (.agg bu0) (zero_bu _)) ?_)
    | (refine wpList_storeNew (w0 := w) rfl BuT _ _ rfl bu0 (buV (.pointer (some ⟨g, 0, none⟩)) X.n X.c X.p) BuT (by kernel_rfl) (by kernel_rfl) IB.out SB.out OB.out ?_))
  generalize hw1 : w.alloc (.cells (buV (.pointer (some ⟨g, 0, none⟩)) X.n X.c X.p) BuT) = w1 at *
  have hs1 : w1.heap.size = w.heap.size + 1 := by rw [← hw1]; simp
  have HS1 := Lib.hid hs1
  clear hw1 hs1
  have c0 : w1.cell? ⟨b, 0, none⟩ = some (.pointer (some ⟨g, 0, none⟩)) := by rw [(HR.out.low HB.out).cell]; exact buV_u
  have HUC := Lib.hid (uclone_c hn (HP.out.low HB.out))
  go_wp2_with fail
  refine HUC.out.mono ?_
  rintro e w2 ⟨c, rfl, hc2, hb2⟩
  have HC2 := Lib.hid (HC.out.low hb2)
  have qc := HC2.out.cell 0
  rw [show (buV (.pointer (some ⟨g, 0, none⟩)) X.n X.c X.p)[0]? = some (.pointer (some ⟨g, 0, none⟩)) from buV_u] at qc
  have qf := HC2.out.frozen 0
  have HU2 := Lib.hid hc2
  have HB2 := Lib.hid (HB.out.trans (hb2.mono HB.out.size))
  clear hc2 hb2 HUC c0
  go_wp2_with fail
  go_ret
  clear qc qf
  have hs1 := HS1.out
  have hc : Chg (fun k => k = w.heap.size) w2 (w2.setCell ⟨w.heap.size, 0, none⟩ (.pointer (some ⟨c, 0, none⟩))) := Chg.of_cell (S := fun k => k = w.heap.size) (b := w.heap.size) rfl 0 _
  have hnew : CsAt (w2.setCell ⟨w.heap.size, 0, none⟩ (.pointer (some ⟨c, 0, none⟩))) w.heap.size BuT (buV (.pointer (some ⟨c, 0, none⟩)) X.n X.c X.p) := by
    unfold CsAt
    rw [heap_setCell_same w2 w.heap.size 0 _ BuT _ HC2.out, bus_put]
  exact ⟨w.heap.size, fun k => w1.heap.size ≤ k ∧ k < w2.heap.size, rfl, ⟨⟨c, hnew, HU2.out.keep hc (fun k hk e => by omega)⟩, fun hk => by omega, HH.out.okc, HH.out.okp⟩, HB2.out.trans (hc.below HB2.out.size (fun k hk => by omega)), fun k hk => by omega, Nat.le_refl _⟩
end Go.Proofs.YtfjdalepaacmgaaGreat
