/-
  Contract of bus.Do.
-/
import Derived.Test.YtkknfhbaldeigaaBuF
set_option maxRecDepth 20000
namespace Go.Proofs.Ytkknfhbaldeigaa
open Go.ChangeShapes Go.WideShapes Go.ChangeAt Go.RowKit
namespace Bs
theorem readX_n (X : B) (d : Nat) (off size : Int) : (readX X d off size).n = X.n := by
  unfold readX
  split
  · rfl
  · split <;> rfl
theorem wrap_i (x : Int) : -9223372036854775808 ≤ wrap64 x ∧ wrap64 x ≤ 9223372036854775807 := by
  unfold wrap64
  omega
end Bs
set_option maxRecDepth 100000 in
set_option maxHeartbeats 32000000 in
theorem bdo_c (F : Nat → Prop) (b : Nat) (X : Bs.B) (h : Int) (a : Ak) (ha : a.In) (hn : X.u.out.length < 900) (w : World) (hb : Bu F w b X) :
    Calls Try.prog 5 #[.pointer (some ⟨b, 0, none⟩), .int .i64 h, .agg a.cells] w fun e w' => e = .returned (.tuple #[.agg (anB (Bs.doV X h a)), .bool (Bs.goB X h a)]) ∧ BuQ F w w' b (Bs.doX X h a) := by

  have hz := zero_an
  have hb0 : Below w.heap.size w ((w.alloc (.cells a.cells AKT)).alloc (.cells (anB 0) ANT)) := ((Below.refl _ _).alloc (Nat.le_refl _) _).alloc (by simp) _
  have hA : AkAt ((w.alloc (.cells a.cells AKT)).alloc (.cells (anB 0) ANT)) w.heap.size a := ⟨(CsAt.new w AKT a.cells).alloc _⟩
  have hR : CsAt ((w.alloc (.cells a.cells AKT)).alloc (.cells (anB 0) ANT)) (w.heap.size + 1) ANT (anB 0) := by
    have := CsAt.new (w.alloc (.cells a.cells AKT)) ANT (anB 0)
    simpa using this
  have HBE := Lib.hid hb0
  have HA := Lib.hid hA
  have HR := Lib.hid hR
  have HBU := Lib.hid hb
  have HIN := Lib.hid ha
  have hbl := hb.lt
  clear hb0 hA hR hb ha
  rcases kind_cases a.kind with hk | hk | hk | hk | hk | hk | hk
  · by_cases hd : Bs.dv X a < 3
    · have hm : Bs.mayB X.n a = true := by unfold Bs.mayB Bs.isK; rw [hk]; simpa [Bs.dv] using hd
      have HG := Lib.hid (show Bs.goB X h a = true by unfold Bs.goB; rw [hm, hk]; rfl)
      rw [show Bs.doV X h a = Bs.told X h a by unfold Bs.doV; rw [HG.out]; rfl, show Bs.doX X h a = Bs.wired (Bs.step X a) by unfold Bs.doX; rw [HG.out]; rfl, HG.out]
      have HV := Lib.hid (show Bs.told X h a = Bs.readB X (Bs.dv X a) (Bs.offD a.addr (Bs.dv X a)) a.size by unfold Bs.told; rw [hk]; rfl)
      have HY := Lib.hid (show Bs.wired (Bs.step X a) = Bs.wired (Bs.readX X (Bs.dv X a) (Bs.offD a.addr (Bs.dv X a)) a.size) by unfold Bs.step; rw [hk]; rfl)
      have HTG := Lib.hid (show Bs.tg (Bs.dev X.n a.addr a.size) a.addr a.size = #[.int .i64 (Bs.dv X a : Nat), .int .u64 (Bs.offD a.addr (Bs.dv X a)), .int .i64 a.size] by unfold Bs.tg; rw [if_pos (show Bs.dev X.n a.addr a.size < 3 from hd)]; rfl)
      have HOF := Lib.hid (Bs.offD_rng a.addr (Bs.dv X a))
      have HDD := Lib.hid hd
      clear HG
      go_enter Try.func5, Try.ntmps5
      go_upto_region 1 with fail
      generalize ((w.alloc (.cells a.cells AKT)).alloc (.cells (anB 0) ANT)) = w1 at *
      have HM := Lib.hid (may_c X.n b a HIN.out.size w1 (HBU.out.low HBE.out).n1)
      rw [hm] at HM
      go_wp2_with (refine wpList_load_row rfl AKT _ rfl w.heap.size rfl AKT _ (0, 0) _ HA.out.cs Try.underlying30 rfl info_AK ?_)
      refine HM.out.mono ?_
      rintro e w2 ⟨rfl, hb2⟩
      have HB2 := Lib.hid (HBE.out.trans (hb2.mono HBE.out.size))
      have HA2 := Lib.hid (HA.out.low hb2)
      have HR2 := Lib.hid (HR.out.low hb2)
      clear hb2 HM HBE HA HR
      have q0 := HA2.out.kind
      clear hm hd
      rw [hk] at q0
      go_upto_region 4 with fail
      have hb3 : Below w2.heap.size w2 (w2.alloc (.cells (anB 0) ANT)) := (Below.refl _ _).alloc (Nat.le_refl _) _
      have hsz : (w2.alloc (.cells (anB 0) ANT)).heap.size = w2.heap.size + 1 := by simp
      have hlr := HR2.out.lt
      have HK := Lib.hid (show DoK F w (w2.alloc (.cells (anB 0) ANT)) b (w.heap.size + 1) w2.heap.size from ⟨HBU.out.lo, hbl, ⟨by omega, by omega⟩, ⟨by omega, by omega⟩⟩)
      have HS := Lib.hid (show DoS F w (w2.alloc (.cells (anB 0) ANT)) (w2.alloc (.cells (anB 0) ANT)) b (w.heap.size + 1) w2.heap.size a X 0 from ⟨⟨F, HBU.out.low (HB2.out.trans (hb3.mono HB2.out.size)), fun _ hk => .inl hk⟩, Chg.of_below (HB2.out.trans (hb3.mono HB2.out.size)), HA2.out.low hb3, HR2.out.low hb3, CsAt.new _ _ _, Nat.le_refl _⟩)
      clear hb3 hsz hlr q0 HA2 HR2 HB2 hz
      generalize w2.alloc (.cells (anB 0) ANT) = w3 at *
      generalize w2.heap.size = tb at *
      have q0 := HS.out.ak.kind
      rw [hk] at q0
      go_upto_region 6 with fail
      clear q0
      have hs0 : AkAt w3.drew w.heap.size a ∧ w3.drew.cell? ⟨b, 1, none⟩ = some (.int .i64 X.n) := ⟨HS.out.ak.low (below_dU (Below.refl _ _) 1), (HS.out.low HK.out (below_dU (Below.refl _ _) 1)).n1⟩
      refine wp_region_noPanic ?_
      refine wp_region_held (S := fun W => AkAt W w.heap.size a ∧ W.cell? ⟨b, 1, none⟩ = some (.int .i64 X.n)) (by kernel_rfl) ?_
      refine takeH (fuel := 12) (i := 0) (.pointer (some ⟨b, 0, none⟩)) ?_ rfl (by kernel_rfl) (by kernel_rfl) (by kernel_rfl) (fun _ _ _ h => h) (by kernel_rfl) (fun W hS => by go_simp) hs0 ?_ ?_
      rotate_left 1
      · go_simp
        exact rfl
      refine takeH (fuel := 11) (i := 1) (.pointer (some ⟨b, 0, none⟩)) ?_ rfl (by kernel_rfl) (by kernel_rfl) (by kernel_rfl) (fun _ _ _ h => h) (by kernel_rfl) (fun W hS => by go_simp) hs0 ?_ ?_
      rotate_left 1
      · go_simp
        exact rfl
      refine takeH (fuel := 10) (i := 2) (.pointer (some ⟨b, 0, none⟩)) ?_ rfl (by kernel_rfl) (by kernel_rfl) (by kernel_rfl) (fun _ _ _ h => h) (by kernel_rfl) (fun W hS => by go_simp) hs0 ?_ ?_
      rotate_left 1
      · go_simp
        exact rfl
      refine takeH (fuel := 9) (i := 3) (.pointer (some ⟨b, 1, none⟩)) ?_ rfl (by kernel_rfl) (by kernel_rfl) (by kernel_rfl) (fun _ _ _ h => h) (by kernel_rfl) (fun W hS => by go_simp) hs0 ?_ ?_
      rotate_left 1
      · go_simp
        exact rfl
      refine takeH (fuel := 8) (i := 4) (.int .i64 X.n) ?_ rfl (by kernel_rfl) (by kernel_rfl) (by kernel_rfl) (fun _ _ _ h => h) (by kernel_rfl) (fun W hS => by (have q := hS.2; go_simp)) hs0 ?_ ?_
      rotate_left 1
      · go_simp
        exact rfl
      refine takeH (fuel := 7) (i := 5) (.pointer (some ⟨w.heap.size, 1, none⟩)) ?_ rfl (by kernel_rfl) (by kernel_rfl) (by kernel_rfl) (fun _ _ _ h => h) (by kernel_rfl) (fun W hS => by go_simp) hs0 ?_ ?_
      rotate_left 1
      · go_simp
        exact rfl
      refine takeH (fuel := 6) (i := 6) (.int .u64 a.addr) ?_ rfl (by kernel_rfl) (by kernel_rfl) (by kernel_rfl) (fun _ _ _ h => h) (by kernel_rfl) (fun W hS => by (have q := hS.1.addr; go_simp)) hs0 ?_ ?_
      rotate_left 1
      · go_simp
        exact rfl
      refine takeH (fuel := 5) (i := 7) (.pointer (some ⟨w.heap.size, 4, none⟩)) ?_ rfl (by kernel_rfl) (by kernel_rfl) (by kernel_rfl) (fun _ _ _ h => h) (by kernel_rfl) (fun W hS => by go_simp) hs0 ?_ ?_
      rotate_left 1
      · go_simp
        exact rfl
      refine takeH (fuel := 4) (i := 8) (.int .i64 a.size) ?_ rfl (by kernel_rfl) (by kernel_rfl) (by kernel_rfl) (fun _ _ _ h => h) (by kernel_rfl) (fun W hS => by (have q := hS.1.size; go_simp)) hs0 ?_ ?_
      rotate_left 1
      · go_simp
        exact rfl
      refine wpAnyH_all (fuel := 3) (rs := [9]) (by kernel_rfl) (by decide) ?_
      intro i hi
      obtain rfl : i = 9 := by simpa using hi
      refine wpOp_callX 26 #[.int .i64 X.n, .int .u64 a.addr, .int .i64 a.size] rfl (by kernel_rfl) (by go_simp) ?_
      refine (find_c X.n a.addr a.size w3.drew).mono ?_
      rintro e w4 ⟨rfl, hb4⟩
      rw [HTG.out]
      have hS4 := (HS.out.low HK.out (below_dU (Below.refl w3.heap.size w3) 1)).low HK.out hb4
      have hs4 : AkAt w4 w.heap.size a ∧ w4.cell? ⟨b, 1, none⟩ = some (.int .i64 X.n) := ⟨hS4.ak, hS4.n1⟩
      refine ⟨_, rfl, hs4, ?_⟩
      refine wpAnyH_all (fuel := 2) (rs := [10]) (by kernel_rfl) (by decide) ?_
      intro i hi
      obtain rfl : i = 10 := by simpa using hi
      refine wpOp_callX 25 #[.pointer (some ⟨b, 0, none⟩), .agg #[.int .i64 (Bs.dv X a : Nat), .int .u64 (Bs.offD a.addr (Bs.dv X a)), .int .i64 a.size]] rfl (by kernel_rfl) (by go_simp) ?_
      obtain ⟨G, hG, hG2⟩ := hS4.ex
      refine (bread_c G b X (Bs.dv X a) HDD.out (Bs.offD a.addr (Bs.dv X a)) a.size HOF.out.1 HOF.out.2 w4 hG).mono ?_
      rintro e w5 ⟨rfl, hq5⟩
      have hS5 := hS4.by_ HK.out hG2 hq5
      have hs5 : AkAt w5 w.heap.size a ∧ w5.cell? ⟨b, 1, none⟩ = some (.int .i64 X.n) := ⟨hS5.ak, by have q := hS5.n1; rwa [Bs.readX_n] at q⟩
      obtain ⟨qc, qf⟩ := hS5.cell
      refine ⟨_, rfl, hs5, ?_⟩
      refine takeH (fuel := 1) (i := 11) (.pointer (some ⟨tb, 0, none⟩)) ?_ rfl (by kernel_rfl) (by kernel_rfl) (by kernel_rfl) (fun _ _ _ h => h) (by kernel_rfl) (fun W hS => by go_simp) hs5 ?_ ?_
      rotate_left 1
      · go_simp
        exact rfl
      refine wpAnyH_all (fuel := 0) (rs := [12]) (by kernel_rfl) (by decide) ?_
      intro i hi
      obtain rfl : i = 12 := by simpa using hi
      refine wpOp_unitB (w5.setCell ⟨tb, 0, none⟩ (.int .u64 (Bs.readB X (Bs.dv X a) (Bs.offD a.addr (Bs.dv X a)) a.size))) _ rfl (by kernel_rfl) (by go_simp) rfl ?_
      have hS6 := hS5.tell HK.out (Bs.readB X (Bs.dv X a) (Bs.offD a.addr (Bs.dv X a)) a.size)
      have hs6 : AkAt (w5.setCell ⟨tb, 0, none⟩ (.int .u64 (Bs.readB X (Bs.dv X a) (Bs.offD a.addr (Bs.dv X a)) a.size))) w.heap.size a ∧ (w5.setCell ⟨tb, 0, none⟩ (.int .u64 (Bs.readB X (Bs.dv X a) (Bs.offD a.addr (Bs.dv X a)) a.size))).cell? ⟨b, 1, none⟩ = some (.int .i64 X.n) := ⟨hS6.ak, by have q := hS6.n1; rwa [Bs.readX_n] at q⟩
      refine ⟨hs6, ?_⟩
      refine wpAnyH_done (by kernel_rfl) ?_ _
      refine NoPanic.normal ?_
      have HT := Lib.hid hS6
      clear hs0 hs4 hs5 hs6 hS4 hS5 hS6 qc qf hG hG2 hq5 hb4 HS HTG HOF HDD
      generalize w5.setCell ⟨tb, 0, none⟩ (.int .u64 (Bs.readB X (Bs.dv X a) (Bs.offD a.addr (Bs.dv X a)) a.size)) = wz at *
      generalize Bs.readB X (Bs.dv X a) (Bs.offD a.addr (Bs.dv X a)) a.size = rv at *
      generalize Bs.readX X (Bs.dv X a) (Bs.offD a.addr (Bs.dv X a)) a.size = Y at *
      obtain ⟨q, hq⟩ : ∃ q, (Ut.cause Y.u != 1) = q := ⟨_, rfl⟩
      have HW := Lib.hid (show Bs.wired Y = { Y with p := Pc.wireW Y.n Y.p 10 q } by unfold Bs.wired; rw [hq])
      have HQQ := Lib.hid hq
      clear hq
      go_upto_region 18 with fail
      obtain ⟨G, hG, hG2⟩ := HT.out.ex
      obtain ⟨g, hrow, hpt⟩ := hG.ex
      have c0 : wz.cell? ⟨b, 0, none⟩ = some (.pointer (some ⟨g, 0, none⟩)) := by rw [hrow.cell]; exact buV_u
      have hbd : Below wz.heap.size wz wz.drew := below_dU (Below.refl _ _) 1
      have HGD := Lib.hid (hG.low hbd)
      have HRD := Lib.hid (hrow.low hbd)
      have HPD := Lib.hid (hpt.low hbd)
      have HTD := Lib.hid (HT.out.low HK.out hbd)
      have HG2 := Lib.hid hG2
      have hWd : wz.drew = wz.drew := rfl
      clear hG hG2 hrow hpt hbd HT
      refine wp_region_steady_tail (fun W => W = wz.drew) 8 (by kernel_rfl) (by kernel_rfl) hWd ?_
      iterate 7
        refine steady_val ?_ ?_ (by rfl) (fun W hS => ?_) ?_ ?_
        rotate_left 2
        · subst hS
          go_simp
          exact rfl
        · go_simp
          exact rfl
      refine steady_enter (.bool q) 31 #[.pointer (some ⟨g, 0, none⟩)] ?_ (by rfl) (fun W hS => ?_) (fun W hS => (by subst hS; exact (uline_c HPD.out).mono (by rintro e w' ⟨rfl, rfl⟩; exact ⟨by rw [HQQ.out], rfl⟩))) ?_ ?_
      rotate_left 1
      · subst hS
        go_simp
      · go_simp
        exact rfl
      refine steady_nil ?_
      rintro W rfl
      simp only [List.drop_succ_cons, List.drop_zero]
      try clear q4
      try clear q0
      clear hWd c0
      go_wp2_with fail
      refine (Bp.pwire_c (S := ⟨.pointer (some ⟨g, 0, none⟩), (Y).c, HGD.out.okc.len⟩) (some ⟨b, 20, none⟩) (Y).n (Y).p 10 (by omega) (by omega) q wz.drew (.inr ⟨b, rfl, ⟨HRD.out, HGD.out.okp⟩⟩)).mono ?_
      rintro e w9 ⟨rfl, hp9, ho9⟩
      have HF := Lib.hid (HTD.out.by_ HK.out HG2.out (BuQ.of_p HGD.out HPD.out hp9 ho9))
      clear hp9 ho9 HGD HRD HPD HTD HG2
      go_wp2_with (first | (refine wpList_load_row rfl ANT _ rfl tb rfl ANT _ (0, 0) _ HF.out.t Try.underlying34 rfl (iAN _) ?_) | (refine wpList_store_row rfl ANT _ _ rfl (w.heap.size + 1) (anB (rv)) (by kernel_rfl) (by kernel_rfl) ANT (anB 0) HF.out.r (iAN _) rfl (anB_one _) ?_))
      exact bodyPost_ret (results_cb ANT Try.results5 _ _ (w.heap.size + 1) _ _ rfl rfl (run_loadVar_row _ _ ANT ANT _ (0, 0) _ (HF.out.r.row (anB (rv))) Try.underlying34 rfl (iAN _))) rfl ⟨by rw [HV.out]; rfl, by rw [HY.out, HW.out]; exact HF.out.done HK.out _⟩
    · have hm : Bs.mayB X.n a = false := by unfold Bs.mayB Bs.isK; rw [hk]; simpa [Bs.dv] using hd
      have HG := Lib.hid (show Bs.goB X h a = false by unfold Bs.goB; rw [hm]; rfl)
      rw [show Bs.doV X h a = 0 by unfold Bs.doV; rw [HG.out]; rfl, show Bs.doX X h a = X by unfold Bs.doX; rw [HG.out]; rfl, HG.out]
      go_enter Try.func5, Try.ntmps5
      go_upto_region 1 with fail
      generalize ((w.alloc (.cells a.cells AKT)).alloc (.cells (anB 0) ANT)) = w1 at *
      have HM := Lib.hid (may_c X.n b a HIN.out.size w1 (HBU.out.low HBE.out).n1)
      rw [hm] at HM
      go_wp2_with (refine wpList_load_row rfl AKT _ rfl w.heap.size rfl AKT _ (0, 0) _ HA.out.cs Try.underlying30 rfl info_AK ?_)
      refine HM.out.mono ?_
      rintro e w2 ⟨rfl, hb2⟩
      have HB2 := Lib.hid (HBE.out.trans (hb2.mono HBE.out.size))
      have HA2 := Lib.hid (HA.out.low hb2)
      have HR2 := Lib.hid (HR.out.low hb2)
      clear hb2 HM HBE HA HR
      have q0 := HA2.out.kind
      clear hm hd
      go_upto_region 2 with fail
      clear hz
      go_wp2_with (refine wpList_store_row rfl ANT _ _ rfl (w.heap.size + 1) (anB 0) (by kernel_rfl) (by kernel_rfl) ANT (anB 0) HR2.out (iAN 0) rfl (anB_one 0) ?_)
      exact bodyPost_ret (results_cb ANT Try.results5 _ _ (w.heap.size + 1) _ _ rfl rfl (run_loadVar_row _ _ ANT ANT _ (0, 0) _ (HR2.out.row (anB 0)) Try.underlying34 rfl (iAN 0))) rfl ⟨rfl, HBU.out.keepQ (HB2.out.trans ((Chg.of_row (S := fun k => k = w.heap.size + 1) (b := w.heap.size + 1) rfl _).below HB2.out.size (fun k hk => by omega)))⟩
  · by_cases hd : Bs.dv X a < 3
    · have hm : Bs.mayB X.n a = true := by unfold Bs.mayB Bs.isK; rw [hk]; simpa [Bs.dv] using hd
      have HG := Lib.hid (show Bs.goB X h a = true by unfold Bs.goB; rw [hm, hk]; rfl)
      rw [show Bs.doV X h a = Bs.told X h a by unfold Bs.doV; rw [HG.out]; rfl, show Bs.doX X h a = Bs.wired (Bs.step X a) by unfold Bs.doX; rw [HG.out]; rfl, HG.out]
      have HV := Lib.hid (show Bs.told X h a = 0 by unfold Bs.told; rw [hk]; rfl)
      have HY := Lib.hid (show Bs.wired (Bs.step X a) = Bs.wired (Bs.writeX X (Bs.dv X a) (Bs.offD a.addr (Bs.dv X a)) a.size a.data) by unfold Bs.step; rw [hk]; rfl)
      have HTG := Lib.hid (show Bs.tg (Bs.dev X.n a.addr a.size) a.addr a.size = #[.int .i64 (Bs.dv X a : Nat), .int .u64 (Bs.offD a.addr (Bs.dv X a)), .int .i64 a.size] by unfold Bs.tg; rw [if_pos (show Bs.dev X.n a.addr a.size < 3 from hd)]; rfl)
      have HOF := Lib.hid (Bs.offD_rng a.addr (Bs.dv X a))
      have HDD := Lib.hid hd
      clear HG
      go_enter Try.func5, Try.ntmps5
      go_upto_region 1 with fail
      generalize ((w.alloc (.cells a.cells AKT)).alloc (.cells (anB 0) ANT)) = w1 at *
      have HM := Lib.hid (may_c X.n b a HIN.out.size w1 (HBU.out.low HBE.out).n1)
      rw [hm] at HM
      go_wp2_with (refine wpList_load_row rfl AKT _ rfl w.heap.size rfl AKT _ (0, 0) _ HA.out.cs Try.underlying30 rfl info_AK ?_)
      refine HM.out.mono ?_
      rintro e w2 ⟨rfl, hb2⟩
      have HB2 := Lib.hid (HBE.out.trans (hb2.mono HBE.out.size))
      have HA2 := Lib.hid (HA.out.low hb2)
      have HR2 := Lib.hid (HR.out.low hb2)
      clear hb2 HM HBE HA HR
      have q0 := HA2.out.kind
      clear hm hd
      rw [hk] at q0
      go_upto_region 4 with fail
      have hb3 : Below w2.heap.size w2 (w2.alloc (.cells (anB 0) ANT)) := (Below.refl _ _).alloc (Nat.le_refl _) _
      have hsz : (w2.alloc (.cells (anB 0) ANT)).heap.size = w2.heap.size + 1 := by simp
      have hlr := HR2.out.lt
      have HK := Lib.hid (show DoK F w (w2.alloc (.cells (anB 0) ANT)) b (w.heap.size + 1) w2.heap.size from ⟨HBU.out.lo, hbl, ⟨by omega, by omega⟩, ⟨by omega, by omega⟩⟩)
      have HS := Lib.hid (show DoS F w (w2.alloc (.cells (anB 0) ANT)) (w2.alloc (.cells (anB 0) ANT)) b (w.heap.size + 1) w2.heap.size a X 0 from ⟨⟨F, HBU.out.low (HB2.out.trans (hb3.mono HB2.out.size)), fun _ hk => .inl hk⟩, Chg.of_below (HB2.out.trans (hb3.mono HB2.out.size)), HA2.out.low hb3, HR2.out.low hb3, CsAt.new _ _ _, Nat.le_refl _⟩)
      clear hb3 hsz hlr q0 HA2 HR2 HB2 hz
      generalize w2.alloc (.cells (anB 0) ANT) = w3 at *
      generalize w2.heap.size = tb at *
      have q0 := HS.out.ak.kind
      rw [hk] at q0
      have HQ := Lib.hid (fun (W : World) (hl : Below w3.heap.size w3 W) => HS.out.low HK.out hl)
      go_upto_region 8 with fail
      clear q0
      refine wp_region_steady_tail (fun W => Below w3.heap.size w3 W) 12 (by kernel_rfl) (by kernel_rfl) (below_dU (Below.refl _ _) 1) ?_
      iterate 4
        refine steady_val ?_ ?_ (by kernel_rfl) (fun W hS => ?_) ?_ ?_
        rotate_left 2
        · go_simp
          exact rfl
        · go_simp
          exact rfl
      refine steady_val ?_ ?_ (by kernel_rfl) (fun W hS => ?_) ?_ ?_
      rotate_left 2
      · have q1 := (HQ.out _ hS).n1; go_simp
        exact rfl
      · go_simp
        exact rfl
      refine steady_val ?_ ?_ (by kernel_rfl) (fun W hS => ?_) ?_ ?_
      rotate_left 2
      · go_simp
        exact rfl
      · go_simp
        exact rfl
      refine steady_val ?_ ?_ (by kernel_rfl) (fun W hS => ?_) ?_ ?_
      rotate_left 2
      · have q1 := (HQ.out _ hS).ak.addr; go_simp
        exact rfl
      · go_simp
        exact rfl
      refine steady_val ?_ ?_ (by kernel_rfl) (fun W hS => ?_) ?_ ?_
      rotate_left 2
      · go_simp
        exact rfl
      · go_simp
        exact rfl
      refine steady_val ?_ ?_ (by kernel_rfl) (fun W hS => ?_) ?_ ?_
      rotate_left 2
      · have q1 := (HQ.out _ hS).ak.size; go_simp
        exact rfl
      · go_simp
        exact rfl
      refine steady_enter (.agg #[.int .i64 (Bs.dv X a : Nat), .int .u64 (Bs.offD a.addr (Bs.dv X a)), .int .i64 a.size]) 26 #[.int .i64 X.n, .int .u64 a.addr, .int .i64 a.size] ?_ (by kernel_rfl) (fun W hS => ?_) (fun W hS => (find_c X.n a.addr a.size W).mono (by rintro e w' ⟨rfl, hb⟩; exact ⟨by rw [HTG.out], hS.trans (hb.mono hS.size)⟩)) ?_ ?_
      rotate_left 1
      · go_simp
      · go_simp
        exact rfl
      refine steady_val ?_ ?_ (by kernel_rfl) (fun W hS => ?_) ?_ ?_
      rotate_left 2
      · go_simp
        exact rfl
      · go_simp
        exact rfl
      refine steady_val ?_ ?_ (by kernel_rfl) (fun W hS => ?_) ?_ ?_
      rotate_left 2
      · have q1 := (HQ.out _ hS).ak.data; go_simp
        exact rfl
      · go_simp
        exact rfl
      refine steady_nil ?_
      intro W hS
      simp only [List.drop_succ_cons, List.drop_zero]
      have HSW := Lib.hid (HQ.out W hS)
      clear HQ hS HS
      go_wp2_with fail
      obtain ⟨G, hG, hG2⟩ := HSW.out.ex
      refine (bwrite_c G b X (Bs.dv X a) HDD.out (Bs.offD a.addr (Bs.dv X a)) a.size a.data HOF.out.1 HOF.out.2 HIN.out.data.1 HIN.out.data.2 hn W hG).mono ?_
      rintro e wz ⟨rfl, hq5⟩
      have HT := Lib.hid (HSW.out.by_ HK.out hG2 hq5)
      clear hq5 hG hG2 HSW HTG HOF HDD
      generalize Bs.writeX X (Bs.dv X a) (Bs.offD a.addr (Bs.dv X a)) a.size a.data = Y at *
      obtain ⟨q, hq⟩ : ∃ q, (Ut.cause Y.u != 1) = q := ⟨_, rfl⟩
      have HW := Lib.hid (show Bs.wired Y = { Y with p := Pc.wireW Y.n Y.p 10 q } by unfold Bs.wired; rw [hq])
      have HQQ := Lib.hid hq
      clear hq
      go_upto_region 18 with fail
      obtain ⟨G, hG, hG2⟩ := HT.out.ex
      obtain ⟨g, hrow, hpt⟩ := hG.ex
      have c0 : wz.cell? ⟨b, 0, none⟩ = some (.pointer (some ⟨g, 0, none⟩)) := by rw [hrow.cell]; exact buV_u
      have hbd : Below wz.heap.size wz wz.drew := below_dU (Below.refl _ _) 1
      have HGD := Lib.hid (hG.low hbd)
      have HRD := Lib.hid (hrow.low hbd)
      have HPD := Lib.hid (hpt.low hbd)
      have HTD := Lib.hid (HT.out.low HK.out hbd)
      have HG2 := Lib.hid hG2
      have hWd : wz.drew = wz.drew := rfl
      clear hG hG2 hrow hpt hbd HT
      refine wp_region_steady_tail (fun W => W = wz.drew) 8 (by kernel_rfl) (by kernel_rfl) hWd ?_
      iterate 7
        refine steady_val ?_ ?_ (by rfl) (fun W hS => ?_) ?_ ?_
        rotate_left 2
        · subst hS
          go_simp
          exact rfl
        · go_simp
          exact rfl
      refine steady_enter (.bool q) 31 #[.pointer (some ⟨g, 0, none⟩)] ?_ (by rfl) (fun W hS => ?_) (fun W hS => (by subst hS; exact (uline_c HPD.out).mono (by rintro e w' ⟨rfl, rfl⟩; exact ⟨by rw [HQQ.out], rfl⟩))) ?_ ?_
      rotate_left 1
      · subst hS
        go_simp
      · go_simp
        exact rfl
      refine steady_nil ?_
      rintro W rfl
      simp only [List.drop_succ_cons, List.drop_zero]
      try clear q4
      try clear q0
      clear hWd c0
      go_wp2_with fail
      refine (Bp.pwire_c (S := ⟨.pointer (some ⟨g, 0, none⟩), (Y).c, HGD.out.okc.len⟩) (some ⟨b, 20, none⟩) (Y).n (Y).p 10 (by omega) (by omega) q wz.drew (.inr ⟨b, rfl, ⟨HRD.out, HGD.out.okp⟩⟩)).mono ?_
      rintro e w9 ⟨rfl, hp9, ho9⟩
      have HF := Lib.hid (HTD.out.by_ HK.out HG2.out (BuQ.of_p HGD.out HPD.out hp9 ho9))
      clear hp9 ho9 HGD HRD HPD HTD HG2
      go_wp2_with (first | (refine wpList_load_row rfl ANT _ rfl tb rfl ANT _ (0, 0) _ HF.out.t Try.underlying34 rfl (iAN _) ?_) | (refine wpList_store_row rfl ANT _ _ rfl (w.heap.size + 1) (anB (0)) (by kernel_rfl) (by kernel_rfl) ANT (anB 0) HF.out.r (iAN _) rfl (anB_one _) ?_))
      exact bodyPost_ret (results_cb ANT Try.results5 _ _ (w.heap.size + 1) _ _ rfl rfl (run_loadVar_row _ _ ANT ANT _ (0, 0) _ (HF.out.r.row (anB (0))) Try.underlying34 rfl (iAN _))) rfl ⟨by rw [HV.out]; rfl, by rw [HY.out, HW.out]; exact HF.out.done HK.out _⟩
    · have hm : Bs.mayB X.n a = false := by unfold Bs.mayB Bs.isK; rw [hk]; simpa [Bs.dv] using hd
      have HG := Lib.hid (show Bs.goB X h a = false by unfold Bs.goB; rw [hm]; rfl)
      rw [show Bs.doV X h a = 0 by unfold Bs.doV; rw [HG.out]; rfl, show Bs.doX X h a = X by unfold Bs.doX; rw [HG.out]; rfl, HG.out]
      go_enter Try.func5, Try.ntmps5
      go_upto_region 1 with fail
      generalize ((w.alloc (.cells a.cells AKT)).alloc (.cells (anB 0) ANT)) = w1 at *
      have HM := Lib.hid (may_c X.n b a HIN.out.size w1 (HBU.out.low HBE.out).n1)
      rw [hm] at HM
      go_wp2_with (refine wpList_load_row rfl AKT _ rfl w.heap.size rfl AKT _ (0, 0) _ HA.out.cs Try.underlying30 rfl info_AK ?_)
      refine HM.out.mono ?_
      rintro e w2 ⟨rfl, hb2⟩
      have HB2 := Lib.hid (HBE.out.trans (hb2.mono HBE.out.size))
      have HA2 := Lib.hid (HA.out.low hb2)
      have HR2 := Lib.hid (HR.out.low hb2)
      clear hb2 HM HBE HA HR
      have q0 := HA2.out.kind
      clear hm hd
      go_upto_region 2 with fail
      clear hz
      go_wp2_with (refine wpList_store_row rfl ANT _ _ rfl (w.heap.size + 1) (anB 0) (by kernel_rfl) (by kernel_rfl) ANT (anB 0) HR2.out (iAN 0) rfl (anB_one 0) ?_)
      exact bodyPost_ret (results_cb ANT Try.results5 _ _ (w.heap.size + 1) _ _ rfl rfl (run_loadVar_row _ _ ANT ANT _ (0, 0) _ (HR2.out.row (anB 0)) Try.underlying34 rfl (iAN 0))) rfl ⟨rfl, HBU.out.keepQ (HB2.out.trans ((Chg.of_row (S := fun k => k = w.heap.size + 1) (b := w.heap.size + 1) rfl _).below HB2.out.size (fun k hk => by omega)))⟩
  · have hm : Bs.mayB X.n a = true := by unfold Bs.mayB Bs.isK Bs.otherK; rw [hk]; rfl
    cases hh : Bs.hasB X.n h with
    | false =>
      have HG := Lib.hid (show Bs.goB X h a = false by unfold Bs.goB; rw [hm, hk, hh]; rfl)
      rw [show Bs.doV X h a = 0 by unfold Bs.doV; rw [HG.out]; rfl, show Bs.doX X h a = X by unfold Bs.doX; rw [HG.out]; rfl, HG.out]
      go_enter Try.func5, Try.ntmps5
      go_upto_region 1 with fail
      generalize ((w.alloc (.cells a.cells AKT)).alloc (.cells (anB 0) ANT)) = w1 at *
      have HM := Lib.hid (may_c X.n b a HIN.out.size w1 (HBU.out.low HBE.out).n1)
      rw [hm] at HM
      go_wp2_with (refine wpList_load_row rfl AKT _ rfl w.heap.size rfl AKT _ (0, 0) _ HA.out.cs Try.underlying30 rfl info_AK ?_)
      refine HM.out.mono ?_
      rintro e w2 ⟨rfl, hb2⟩
      have HB2 := Lib.hid (HBE.out.trans (hb2.mono HBE.out.size))
      have HA2 := Lib.hid (HA.out.low hb2)
      have HR2 := Lib.hid (HR.out.low hb2)
      clear hb2 HM HBE HA HR
      have q0 := HA2.out.kind
      rw [hk] at q0
      have HH := Lib.hid (has_c X.n b h w2 (HBU.out.low HB2.out).n1)
      rw [hh] at HH
      go_wp2_with fail
      refine HH.out.mono ?_
      rintro e w3 ⟨rfl, rfl⟩
      go_upto_region 2 with fail
      clear hz
      go_wp2_with (refine wpList_store_row rfl ANT _ _ rfl (w.heap.size + 1) (anB 0) (by kernel_rfl) (by kernel_rfl) ANT (anB 0) HR2.out (iAN 0) rfl (anB_one 0) ?_)
      exact bodyPost_ret (results_cb ANT Try.results5 _ _ (w.heap.size + 1) _ _ rfl rfl (run_loadVar_row _ _ ANT ANT _ (0, 0) _ (HR2.out.row (anB 0)) Try.underlying34 rfl (iAN 0))) rfl ⟨rfl, HBU.out.keepQ (HB2.out.trans ((Chg.of_row (S := fun k => k = w.heap.size + 1) (b := w.heap.size + 1) rfl _).below HB2.out.size (fun k hk => by omega)))⟩
    | true =>
      have HG := Lib.hid (show Bs.goB X h a = true by unfold Bs.goB; rw [hm, hk, hh]; rfl)
      rw [show Bs.doV X h a = Bs.told X h a by unfold Bs.doV; rw [HG.out]; rfl, show Bs.doX X h a = Bs.wired (Bs.step X a) by unfold Bs.doX; rw [HG.out]; rfl, HG.out]
      have HV := Lib.hid (show Bs.told X h a = Bs.lineB X h by unfold Bs.told; rw [hk]; rfl)
      have HY := Lib.hid (show Bs.wired (Bs.step X a) = Bs.wired (X) by unfold Bs.step; rw [hk]; rfl)
      go_enter Try.func5, Try.ntmps5
      go_upto_region 1 with fail
      generalize ((w.alloc (.cells a.cells AKT)).alloc (.cells (anB 0) ANT)) = w1 at *
      have HM := Lib.hid (may_c X.n b a HIN.out.size w1 (HBU.out.low HBE.out).n1)
      rw [hm] at HM
      go_wp2_with (refine wpList_load_row rfl AKT _ rfl w.heap.size rfl AKT _ (0, 0) _ HA.out.cs Try.underlying30 rfl info_AK ?_)
      refine HM.out.mono ?_
      rintro e w2 ⟨rfl, hb2⟩
      have HB2 := Lib.hid (HBE.out.trans (hb2.mono HBE.out.size))
      have HA2 := Lib.hid (HA.out.low hb2)
      have HR2 := Lib.hid (HR.out.low hb2)
      clear hb2 HM HBE HA HR
      have q0 := HA2.out.kind
      have HH := Lib.hid (has_c X.n b h w2 (HBU.out.low HB2.out).n1)
      rw [hh] at HH
      rw [hk] at q0
      go_wp2_with fail
      refine HH.out.mono ?_
      rintro e w2 ⟨rfl, rfl⟩
      clear HH hh hm
      rw [← hk] at q0
      rw [hk] at q0
      go_upto_region 4 with fail
      have hb3 : Below w2.heap.size w2 (w2.alloc (.cells (anB 0) ANT)) := (Below.refl _ _).alloc (Nat.le_refl _) _
      have hsz : (w2.alloc (.cells (anB 0) ANT)).heap.size = w2.heap.size + 1 := by simp
      have hlr := HR2.out.lt
      have HK := Lib.hid (show DoK F w (w2.alloc (.cells (anB 0) ANT)) b (w.heap.size + 1) w2.heap.size from ⟨HBU.out.lo, hbl, ⟨by omega, by omega⟩, ⟨by omega, by omega⟩⟩)
      have HS := Lib.hid (show DoS F w (w2.alloc (.cells (anB 0) ANT)) (w2.alloc (.cells (anB 0) ANT)) b (w.heap.size + 1) w2.heap.size a X 0 from ⟨⟨F, HBU.out.low (HB2.out.trans (hb3.mono HB2.out.size)), fun _ hk => .inl hk⟩, Chg.of_below (HB2.out.trans (hb3.mono HB2.out.size)), HA2.out.low hb3, HR2.out.low hb3, CsAt.new _ _ _, Nat.le_refl _⟩)
      clear hb3 hsz hlr q0 HA2 HR2 HB2 hz
      generalize w2.alloc (.cells (anB 0) ANT) = w3 at *
      generalize w2.heap.size = tb at *
      have q0 := HS.out.ak.kind
      rw [hk] at q0
      obtain ⟨G, hG, hG2⟩ := HS.out.ex
      have HL := Lib.hid (blines_c G b X h w3 hG)
      clear hG hG2
      generalize Bs.lineB X h = rv at *
      go_wp2_with fail
      refine HL.out.mono ?_
      rintro e w4 ⟨rfl, hb4⟩
      have HS4 := Lib.hid (HS.out.low HK.out hb4)
      have HT := Lib.hid (HS4.out.tell HK.out rv)
      obtain ⟨qc, qf⟩ := HS4.out.cell
      have q0 := HS4.out.ak.kind
      clear hb4 HL HS
      go_upto_region 18 with fail
      clear qc qf HS4
      generalize w4.setCell ⟨tb, 0, none⟩ (.int .u64 rv) = wz at *
      obtain ⟨q, hq⟩ : ∃ q, (Ut.cause X.u != 1) = q := ⟨_, rfl⟩
      have HW := Lib.hid (show Bs.wired X = { X with p := Pc.wireW X.n X.p 10 q } by unfold Bs.wired; rw [hq])
      have HQQ := Lib.hid hq
      clear hq
      go_upto_region 18 with fail
      obtain ⟨G, hG, hG2⟩ := HT.out.ex
      obtain ⟨g, hrow, hpt⟩ := hG.ex
      have c0 : wz.cell? ⟨b, 0, none⟩ = some (.pointer (some ⟨g, 0, none⟩)) := by rw [hrow.cell]; exact buV_u
      have hbd : Below wz.heap.size wz wz.drew := below_dU (Below.refl _ _) 1
      have HGD := Lib.hid (hG.low hbd)
      have HRD := Lib.hid (hrow.low hbd)
      have HPD := Lib.hid (hpt.low hbd)
      have HTD := Lib.hid (HT.out.low HK.out hbd)
      have HG2 := Lib.hid hG2
      have hWd : wz.drew = wz.drew := rfl
      clear hG hG2 hrow hpt hbd HT
      refine wp_region_steady_tail (fun W => W = wz.drew) 8 (by kernel_rfl) (by kernel_rfl) hWd ?_
      iterate 7
        refine steady_val ?_ ?_ (by rfl) (fun W hS => ?_) ?_ ?_
        rotate_left 2
        · subst hS
          go_simp
          exact rfl
        · go_simp
          exact rfl
      refine steady_enter (.bool q) 31 #[.pointer (some ⟨g, 0, none⟩)] ?_ (by rfl) (fun W hS => ?_) (fun W hS => (by subst hS; exact (uline_c HPD.out).mono (by rintro e w' ⟨rfl, rfl⟩; exact ⟨by rw [HQQ.out], rfl⟩))) ?_ ?_
      rotate_left 1
      · subst hS
        go_simp
      · go_simp
        exact rfl
      refine steady_nil ?_
      rintro W rfl
      simp only [List.drop_succ_cons, List.drop_zero]
      try clear q4
      try clear q0
      clear hWd c0
      go_wp2_with fail
      refine (Bp.pwire_c (S := ⟨.pointer (some ⟨g, 0, none⟩), (X).c, HGD.out.okc.len⟩) (some ⟨b, 20, none⟩) (X).n (X).p 10 (by omega) (by omega) q wz.drew (.inr ⟨b, rfl, ⟨HRD.out, HGD.out.okp⟩⟩)).mono ?_
      rintro e w9 ⟨rfl, hp9, ho9⟩
      have HF := Lib.hid (HTD.out.by_ HK.out HG2.out (BuQ.of_p HGD.out HPD.out hp9 ho9))
      clear hp9 ho9 HGD HRD HPD HTD HG2
      go_wp2_with (first | (refine wpList_load_row rfl ANT _ rfl tb rfl ANT _ (0, 0) _ HF.out.t Try.underlying34 rfl (iAN _) ?_) | (refine wpList_store_row rfl ANT _ _ rfl (w.heap.size + 1) (anB (rv)) (by kernel_rfl) (by kernel_rfl) ANT (anB 0) HF.out.r (iAN _) rfl (anB_one _) ?_))
      exact bodyPost_ret (results_cb ANT Try.results5 _ _ (w.heap.size + 1) _ _ rfl rfl (run_loadVar_row _ _ ANT ANT _ (0, 0) _ (HF.out.r.row (anB (rv))) Try.underlying34 rfl (iAN _))) rfl ⟨by rw [HV.out]; rfl, by rw [HY.out, HW.out]; exact HF.out.done HK.out _⟩
  · have hm : Bs.mayB X.n a = true := by unfold Bs.mayB Bs.isK Bs.otherK; rw [hk]; rfl
    have HG := Lib.hid (show Bs.goB X h a = true by unfold Bs.goB; rw [hm, hk]; rfl)
    rw [show Bs.doV X h a = Bs.told X h a by unfold Bs.doV; rw [HG.out]; rfl, show Bs.doX X h a = Bs.wired (Bs.step X a) by unfold Bs.doX; rw [HG.out]; rfl, HG.out]
    have HV := Lib.hid (show Bs.told X h a = 0 by unfold Bs.told; rw [hk]; rfl)
    have HY := Lib.hid (show Bs.wired (Bs.step X a) = Bs.wired ({ X with c := Ct.tickC X.n X.c (wrap64 a.data) }) by unfold Bs.step; rw [hk]; rfl)
    go_enter Try.func5, Try.ntmps5
    go_upto_region 1 with fail
    generalize ((w.alloc (.cells a.cells AKT)).alloc (.cells (anB 0) ANT)) = w1 at *
    have HM := Lib.hid (may_c X.n b a HIN.out.size w1 (HBU.out.low HBE.out).n1)
    rw [hm] at HM
    go_wp2_with (refine wpList_load_row rfl AKT _ rfl w.heap.size rfl AKT _ (0, 0) _ HA.out.cs Try.underlying30 rfl info_AK ?_)
    refine HM.out.mono ?_
    rintro e w2 ⟨rfl, hb2⟩
    have HB2 := Lib.hid (HBE.out.trans (hb2.mono HBE.out.size))
    have HA2 := Lib.hid (HA.out.low hb2)
    have HR2 := Lib.hid (HR.out.low hb2)
    clear hb2 HM HBE HA HR
    have q0 := HA2.out.kind
    clear hm
    rw [hk] at q0
    go_upto_region 4 with fail
    have hb3 : Below w2.heap.size w2 (w2.alloc (.cells (anB 0) ANT)) := (Below.refl _ _).alloc (Nat.le_refl _) _
    have hsz : (w2.alloc (.cells (anB 0) ANT)).heap.size = w2.heap.size + 1 := by simp
    have hlr := HR2.out.lt
    have HK := Lib.hid (show DoK F w (w2.alloc (.cells (anB 0) ANT)) b (w.heap.size + 1) w2.heap.size from ⟨HBU.out.lo, hbl, ⟨by omega, by omega⟩, ⟨by omega, by omega⟩⟩)
    have HS := Lib.hid (show DoS F w (w2.alloc (.cells (anB 0) ANT)) (w2.alloc (.cells (anB 0) ANT)) b (w.heap.size + 1) w2.heap.size a X 0 from ⟨⟨F, HBU.out.low (HB2.out.trans (hb3.mono HB2.out.size)), fun _ hk => .inl hk⟩, Chg.of_below (HB2.out.trans (hb3.mono HB2.out.size)), HA2.out.low hb3, HR2.out.low hb3, CsAt.new _ _ _, Nat.le_refl _⟩)
    clear hb3 hsz hlr q0 HA2 HR2 HB2 hz
    generalize w2.alloc (.cells (anB 0) ANT) = w3 at *
    generalize w2.heap.size = tb at *
    have q0 := HS.out.ak.kind
    rw [hk] at q0
    obtain ⟨G, hG, hG2⟩ := HS.out.ex
    obtain ⟨g, hrow, hpt⟩ := hG.ex
    have c0 : w3.cell? ⟨b, 0, none⟩ = some (.pointer (some ⟨g, 0, none⟩)) := by rw [hrow.cell]; exact buV_u
    have q6 := HS.out.ak.data
    have q4 := HS.out.ak.size
    have q8 := HS.out.ak.live
    have hbd : Below w3.heap.size w3 w3.drew := below_dU (Below.refl _ _) 1
    have HGD := Lib.hid (hG.low hbd)
    have HRD := Lib.hid (hrow.low hbd)
    have HPD := Lib.hid (hpt.low hbd)
    have HSD := Lib.hid (HS.out.low HK.out hbd)
    have HG3 := Lib.hid hG2
    have hWd : w3.drew = w3.drew := rfl
    clear hG hG2 hrow hpt hbd HS
    go_upto_region 12 with fail
    refine wp_region_steady_tail (fun W => W = w3.drew) 6 (by kernel_rfl) (by kernel_rfl) hWd ?_
    iterate 6
      refine steady_val ?_ ?_ (by rfl) (fun W hS => ?_) ?_ ?_
      rotate_left 2
      · subst hS
        go_simp
        exact rfl
      · go_simp
        exact rfl
    refine steady_nil ?_
    rintro W rfl
    simp only [List.drop_succ_cons, List.drop_zero]
    clear hWd c0 q0 q4 q6 q8
    go_wp2_with fail
    refine (Bm.tick_c (S := (.pointer (some ⟨g, 0, none⟩), X.p)) (some ⟨b, 2, none⟩) X.n X.c (wrap64 a.data) (Bs.wrap_i a.data).1 (Bs.wrap_i a.data).2 w3.drew (.inr ⟨b, rfl, ⟨HRD.out, HGD.out.okc⟩⟩)).mono ?_
    rintro e wz ⟨rfl, hp4, ho4⟩
    have HT := Lib.hid (HSD.out.by_ HK.out HG3.out (BuQ.of_c HGD.out HPD.out hp4 ho4))
    clear HSD HG3
    obtain ⟨Yv, hYv⟩ : ∃ y, ({ X with c := Ct.tickC X.n X.c (wrap64 a.data) } : Bs.B) = y := ⟨_, rfl⟩
    rw [hYv] at HT HY
    obtain ⟨q, hq⟩ : ∃ q, (Ut.cause Yv.u != 1) = q := ⟨_, rfl⟩
    have HW := Lib.hid (show Bs.wired Yv = { Yv with p := Pc.wireW Yv.n Yv.p 10 q } by unfold Bs.wired; rw [hq])
    have HQQ := Lib.hid hq
    clear hYv hq
    go_upto_region 18 with fail
    obtain ⟨G, hG, hG2⟩ := HT.out.ex
    obtain ⟨g, hrow, hpt⟩ := hG.ex
    have c0 : wz.cell? ⟨b, 0, none⟩ = some (.pointer (some ⟨g, 0, none⟩)) := by rw [hrow.cell]; exact buV_u
    have hbd : Below wz.heap.size wz wz.drew := below_dU (Below.refl _ _) 1
    have HGD := Lib.hid (hG.low hbd)
    have HRD := Lib.hid (hrow.low hbd)
    have HPD := Lib.hid (hpt.low hbd)
    have HTD := Lib.hid (HT.out.low HK.out hbd)
    have HG2 := Lib.hid hG2
    have hWd : wz.drew = wz.drew := rfl
    clear hG hG2 hrow hpt hbd HT
    refine wp_region_steady_tail (fun W => W = wz.drew) 8 (by kernel_rfl) (by kernel_rfl) hWd ?_
    iterate 7
      refine steady_val ?_ ?_ (by rfl) (fun W hS => ?_) ?_ ?_
      rotate_left 2
      · subst hS
        go_simp
        exact rfl
      · go_simp
        exact rfl
    refine steady_enter (.bool q) 31 #[.pointer (some ⟨g, 0, none⟩)] ?_ (by rfl) (fun W hS => ?_) (fun W hS => (by subst hS; exact (uline_c HPD.out).mono (by rintro e w' ⟨rfl, rfl⟩; exact ⟨by rw [HQQ.out], rfl⟩))) ?_ ?_
    rotate_left 1
    · subst hS
      go_simp
    · go_simp
      exact rfl
    refine steady_nil ?_
    rintro W rfl
    simp only [List.drop_succ_cons, List.drop_zero]
    try clear q4
    try clear q0
    clear hWd c0
    go_wp2_with fail
    refine (Bp.pwire_c (S := ⟨.pointer (some ⟨g, 0, none⟩), (Yv).c, HGD.out.okc.len⟩) (some ⟨b, 20, none⟩) (Yv).n (Yv).p 10 (by omega) (by omega) q wz.drew (.inr ⟨b, rfl, ⟨HRD.out, HGD.out.okp⟩⟩)).mono ?_
    rintro e w9 ⟨rfl, hp9, ho9⟩
    have HF := Lib.hid (HTD.out.by_ HK.out HG2.out (BuQ.of_p HGD.out HPD.out hp9 ho9))
    clear hp9 ho9 HGD HRD HPD HTD HG2
    go_wp2_with (first | (refine wpList_load_row rfl ANT _ rfl tb rfl ANT _ (0, 0) _ HF.out.t Try.underlying34 rfl (iAN _) ?_) | (refine wpList_store_row rfl ANT _ _ rfl (w.heap.size + 1) (anB (0)) (by kernel_rfl) (by kernel_rfl) ANT (anB 0) HF.out.r (iAN _) rfl (anB_one _) ?_))
    exact bodyPost_ret (results_cb ANT Try.results5 _ _ (w.heap.size + 1) _ _ rfl rfl (run_loadVar_row _ _ ANT ANT _ (0, 0) _ (HF.out.r.row (anB (0))) Try.underlying34 rfl (iAN _))) rfl ⟨by rw [HV.out]; rfl, by rw [HY.out, HW.out]; exact HF.out.done HK.out _⟩
  · have hm : Bs.mayB X.n a = true := by unfold Bs.mayB Bs.isK Bs.otherK; rw [hk]; rfl
    have HG := Lib.hid (show Bs.goB X h a = true by unfold Bs.goB; rw [hm, hk]; rfl)
    rw [show Bs.doV X h a = Bs.told X h a by unfold Bs.doV; rw [HG.out]; rfl, show Bs.doX X h a = Bs.wired (Bs.step X a) by unfold Bs.doX; rw [HG.out]; rfl, HG.out]
    have HV := Lib.hid (show Bs.told X h a = 0 by unfold Bs.told; rw [hk]; rfl)
    have HY := Lib.hid (show Bs.wired (Bs.step X a) = Bs.wired ({ X with u := Ut.inS X.u (a.data % 256) }) by unfold Bs.step; rw [hk]; rfl)
    go_enter Try.func5, Try.ntmps5
    go_upto_region 1 with fail
    generalize ((w.alloc (.cells a.cells AKT)).alloc (.cells (anB 0) ANT)) = w1 at *
    have HM := Lib.hid (may_c X.n b a HIN.out.size w1 (HBU.out.low HBE.out).n1)
    rw [hm] at HM
    go_wp2_with (refine wpList_load_row rfl AKT _ rfl w.heap.size rfl AKT _ (0, 0) _ HA.out.cs Try.underlying30 rfl info_AK ?_)
    refine HM.out.mono ?_
    rintro e w2 ⟨rfl, hb2⟩
    have HB2 := Lib.hid (HBE.out.trans (hb2.mono HBE.out.size))
    have HA2 := Lib.hid (HA.out.low hb2)
    have HR2 := Lib.hid (HR.out.low hb2)
    clear hb2 HM HBE HA HR
    have q0 := HA2.out.kind
    clear hm
    rw [hk] at q0
    go_upto_region 4 with fail
    have hb3 : Below w2.heap.size w2 (w2.alloc (.cells (anB 0) ANT)) := (Below.refl _ _).alloc (Nat.le_refl _) _
    have hsz : (w2.alloc (.cells (anB 0) ANT)).heap.size = w2.heap.size + 1 := by simp
    have hlr := HR2.out.lt
    have HK := Lib.hid (show DoK F w (w2.alloc (.cells (anB 0) ANT)) b (w.heap.size + 1) w2.heap.size from ⟨HBU.out.lo, hbl, ⟨by omega, by omega⟩, ⟨by omega, by omega⟩⟩)
    have HS := Lib.hid (show DoS F w (w2.alloc (.cells (anB 0) ANT)) (w2.alloc (.cells (anB 0) ANT)) b (w.heap.size + 1) w2.heap.size a X 0 from ⟨⟨F, HBU.out.low (HB2.out.trans (hb3.mono HB2.out.size)), fun _ hk => .inl hk⟩, Chg.of_below (HB2.out.trans (hb3.mono HB2.out.size)), HA2.out.low hb3, HR2.out.low hb3, CsAt.new _ _ _, Nat.le_refl _⟩)
    clear hb3 hsz hlr q0 HA2 HR2 HB2 hz
    generalize w2.alloc (.cells (anB 0) ANT) = w3 at *
    generalize w2.heap.size = tb at *
    have q0 := HS.out.ak.kind
    rw [hk] at q0
    obtain ⟨G, hG, hG2⟩ := HS.out.ex
    obtain ⟨g, hrow, hpt⟩ := hG.ex
    have c0 : w3.cell? ⟨b, 0, none⟩ = some (.pointer (some ⟨g, 0, none⟩)) := by rw [hrow.cell]; exact buV_u
    have q6 := HS.out.ak.data
    have q4 := HS.out.ak.size
    have q8 := HS.out.ak.live
    have hbd : Below w3.heap.size w3 w3.drew := below_dU (Below.refl _ _) 1
    have HGD := Lib.hid (hG.low hbd)
    have HRD := Lib.hid (hrow.low hbd)
    have HPD := Lib.hid (hpt.low hbd)
    have HSD := Lib.hid (HS.out.low HK.out hbd)
    have HG3 := Lib.hid hG2
    have hWd : w3.drew = w3.drew := rfl
    clear hG hG2 hrow hpt hbd HS
    go_upto_region 14 with fail
    refine wp_region_steady_tail (fun W => W = w3.drew) 7 (by kernel_rfl) (by kernel_rfl) hWd ?_
    have ew : IntKind.u8.wrap a.data = a.data % 256 := by rw [IntKind.wrap_u8]
    iterate 7
      refine steady_val ?_ ?_ (by rfl) (fun W hS => ?_) ?_ ?_
      rotate_left 2
      · subst hS
        go_simp
        exact rfl
      · go_simp
        exact rfl
    refine steady_nil ?_
    rintro W rfl
    simp only [List.drop_succ_cons, List.drop_zero]
    clear hWd c0 q0 q4 q6 q8
    go_wp2_with fail
    refine (uinput_c (x := a.data % 256) ⟨by omega, by omega⟩ HPD.out).mono ?_
    rintro e wz ⟨rfl, hq4⟩
    have HT := Lib.hid (HSD.out.by_ HK.out HG3.out (BuQ.of_u HGD.out HRD.out hq4))
    clear HSD HG3
    obtain ⟨Yv, hYv⟩ : ∃ y, ({ X with u := Ut.inS X.u (a.data % 256) } : Bs.B) = y := ⟨_, rfl⟩
    rw [hYv] at HT HY
    obtain ⟨q, hq⟩ : ∃ q, (Ut.cause Yv.u != 1) = q := ⟨_, rfl⟩
    have HW := Lib.hid (show Bs.wired Yv = { Yv with p := Pc.wireW Yv.n Yv.p 10 q } by unfold Bs.wired; rw [hq])
    have HQQ := Lib.hid hq
    clear hYv hq
    go_upto_region 18 with fail
    obtain ⟨G, hG, hG2⟩ := HT.out.ex
    obtain ⟨g, hrow, hpt⟩ := hG.ex
    have c0 : wz.cell? ⟨b, 0, none⟩ = some (.pointer (some ⟨g, 0, none⟩)) := by rw [hrow.cell]; exact buV_u
    have hbd : Below wz.heap.size wz wz.drew := below_dU (Below.refl _ _) 1
    have HGD := Lib.hid (hG.low hbd)
    have HRD := Lib.hid (hrow.low hbd)
    have HPD := Lib.hid (hpt.low hbd)
    have HTD := Lib.hid (HT.out.low HK.out hbd)
    have HG2 := Lib.hid hG2
    have hWd : wz.drew = wz.drew := rfl
    clear hG hG2 hrow hpt hbd HT
    refine wp_region_steady_tail (fun W => W = wz.drew) 8 (by kernel_rfl) (by kernel_rfl) hWd ?_
    iterate 7
      refine steady_val ?_ ?_ (by rfl) (fun W hS => ?_) ?_ ?_
      rotate_left 2
      · subst hS
        go_simp
        exact rfl
      · go_simp
        exact rfl
    refine steady_enter (.bool q) 31 #[.pointer (some ⟨g, 0, none⟩)] ?_ (by rfl) (fun W hS => ?_) (fun W hS => (by subst hS; exact (uline_c HPD.out).mono (by rintro e w' ⟨rfl, rfl⟩; exact ⟨by rw [HQQ.out], rfl⟩))) ?_ ?_
    rotate_left 1
    · subst hS
      go_simp
    · go_simp
      exact rfl
    refine steady_nil ?_
    rintro W rfl
    simp only [List.drop_succ_cons, List.drop_zero]
    try clear q4
    try clear q0
    clear hWd c0
    go_wp2_with fail
    refine (Bp.pwire_c (S := ⟨.pointer (some ⟨g, 0, none⟩), (Yv).c, HGD.out.okc.len⟩) (some ⟨b, 20, none⟩) (Yv).n (Yv).p 10 (by omega) (by omega) q wz.drew (.inr ⟨b, rfl, ⟨HRD.out, HGD.out.okp⟩⟩)).mono ?_
    rintro e w9 ⟨rfl, hp9, ho9⟩
    have HF := Lib.hid (HTD.out.by_ HK.out HG2.out (BuQ.of_p HGD.out HPD.out hp9 ho9))
    clear hp9 ho9 HGD HRD HPD HTD HG2
    go_wp2_with (first | (refine wpList_load_row rfl ANT _ rfl tb rfl ANT _ (0, 0) _ HF.out.t Try.underlying34 rfl (iAN _) ?_) | (refine wpList_store_row rfl ANT _ _ rfl (w.heap.size + 1) (anB (0)) (by kernel_rfl) (by kernel_rfl) ANT (anB 0) HF.out.r (iAN _) rfl (anB_one _) ?_))
    exact bodyPost_ret (results_cb ANT Try.results5 _ _ (w.heap.size + 1) _ _ rfl rfl (run_loadVar_row _ _ ANT ANT _ (0, 0) _ (HF.out.r.row (anB (0))) Try.underlying34 rfl (iAN _))) rfl ⟨by rw [HV.out]; rfl, by rw [HY.out, HW.out]; exact HF.out.done HK.out _⟩
  · have hm : Bs.mayB X.n a = true := by unfold Bs.mayB Bs.isK Bs.otherK; rw [hk]; rfl
    have HG := Lib.hid (show Bs.goB X h a = true by unfold Bs.goB; rw [hm, hk]; rfl)
    rw [show Bs.doV X h a = Bs.told X h a by unfold Bs.doV; rw [HG.out]; rfl, show Bs.doX X h a = Bs.wired (Bs.step X a) by unfold Bs.doX; rw [HG.out]; rfl, HG.out]
    by_cases hz10 : a.size = 10
    · have HV := Lib.hid (show Bs.told X h a = 0 by unfold Bs.told; rw [hk]; rfl)
      have HY := Lib.hid (show Bs.wired (Bs.step X a) = Bs.wired (X) by unfold Bs.step; rw [hk]; simp [hz10])
      have g10 : (a.size != 10) = false := by simpa using hz10
      go_enter Try.func5, Try.ntmps5
      go_upto_region 1 with fail
      generalize ((w.alloc (.cells a.cells AKT)).alloc (.cells (anB 0) ANT)) = w1 at *
      have HM := Lib.hid (may_c X.n b a HIN.out.size w1 (HBU.out.low HBE.out).n1)
      rw [hm] at HM
      go_wp2_with (refine wpList_load_row rfl AKT _ rfl w.heap.size rfl AKT _ (0, 0) _ HA.out.cs Try.underlying30 rfl info_AK ?_)
      refine HM.out.mono ?_
      rintro e w2 ⟨rfl, hb2⟩
      have HB2 := Lib.hid (HBE.out.trans (hb2.mono HBE.out.size))
      have HA2 := Lib.hid (HA.out.low hb2)
      have HR2 := Lib.hid (HR.out.low hb2)
      clear hb2 HM HBE HA HR
      have q0 := HA2.out.kind
      clear hm hz10
      rw [hk] at q0
      go_upto_region 4 with fail
      have hb3 : Below w2.heap.size w2 (w2.alloc (.cells (anB 0) ANT)) := (Below.refl _ _).alloc (Nat.le_refl _) _
      have hsz : (w2.alloc (.cells (anB 0) ANT)).heap.size = w2.heap.size + 1 := by simp
      have hlr := HR2.out.lt
      have HK := Lib.hid (show DoK F w (w2.alloc (.cells (anB 0) ANT)) b (w.heap.size + 1) w2.heap.size from ⟨HBU.out.lo, hbl, ⟨by omega, by omega⟩, ⟨by omega, by omega⟩⟩)
      have HS := Lib.hid (show DoS F w (w2.alloc (.cells (anB 0) ANT)) (w2.alloc (.cells (anB 0) ANT)) b (w.heap.size + 1) w2.heap.size a X 0 from ⟨⟨F, HBU.out.low (HB2.out.trans (hb3.mono HB2.out.size)), fun _ hk => .inl hk⟩, Chg.of_below (HB2.out.trans (hb3.mono HB2.out.size)), HA2.out.low hb3, HR2.out.low hb3, CsAt.new _ _ _, Nat.le_refl _⟩)
      clear hb3 hsz hlr q0 HA2 HR2 HB2 hz
      generalize w2.alloc (.cells (anB 0) ANT) = w3 at *
      generalize w2.heap.size = tb at *
      have q0 := HS.out.ak.kind
      rw [hk] at q0
      have q4 := HS.out.ak.size
      have HT := HS
      clear HS
      obtain ⟨q, hq⟩ : ∃ q, (Ut.cause X.u != 1) = q := ⟨_, rfl⟩
      have HW := Lib.hid (show Bs.wired X = { X with p := Pc.wireW X.n X.p 10 q } by unfold Bs.wired; rw [hq])
      have HQQ := Lib.hid hq
      clear hq
      go_upto_region 18 with fail
      obtain ⟨G, hG, hG2⟩ := HT.out.ex
      obtain ⟨g, hrow, hpt⟩ := hG.ex
      have c0 : w3.cell? ⟨b, 0, none⟩ = some (.pointer (some ⟨g, 0, none⟩)) := by rw [hrow.cell]; exact buV_u
      have hbd : Below w3.heap.size w3 w3.drew := below_dU (Below.refl _ _) 1
      have HGD := Lib.hid (hG.low hbd)
      have HRD := Lib.hid (hrow.low hbd)
      have HPD := Lib.hid (hpt.low hbd)
      have HTD := Lib.hid (HT.out.low HK.out hbd)
      have HG2 := Lib.hid hG2
      have hWd : w3.drew = w3.drew := rfl
      clear hG hG2 hrow hpt hbd HT
      refine wp_region_steady_tail (fun W => W = w3.drew) 8 (by kernel_rfl) (by kernel_rfl) hWd ?_
      iterate 7
        refine steady_val ?_ ?_ (by rfl) (fun W hS => ?_) ?_ ?_
        rotate_left 2
        · subst hS
          go_simp
          exact rfl
        · go_simp
          exact rfl
      refine steady_enter (.bool q) 31 #[.pointer (some ⟨g, 0, none⟩)] ?_ (by rfl) (fun W hS => ?_) (fun W hS => (by subst hS; exact (uline_c HPD.out).mono (by rintro e w' ⟨rfl, rfl⟩; exact ⟨by rw [HQQ.out], rfl⟩))) ?_ ?_
      rotate_left 1
      · subst hS
        go_simp
      · go_simp
        exact rfl
      refine steady_nil ?_
      rintro W rfl
      simp only [List.drop_succ_cons, List.drop_zero]
      try clear q4
      try clear q0
      clear hWd c0
      go_wp2_with fail
      refine (Bp.pwire_c (S := ⟨.pointer (some ⟨g, 0, none⟩), (X).c, HGD.out.okc.len⟩) (some ⟨b, 20, none⟩) (X).n (X).p 10 (by omega) (by omega) q w3.drew (.inr ⟨b, rfl, ⟨HRD.out, HGD.out.okp⟩⟩)).mono ?_
      rintro e w9 ⟨rfl, hp9, ho9⟩
      have HF := Lib.hid (HTD.out.by_ HK.out HG2.out (BuQ.of_p HGD.out HPD.out hp9 ho9))
      clear hp9 ho9 HGD HRD HPD HTD HG2
      go_wp2_with (first | (refine wpList_load_row rfl ANT _ rfl tb rfl ANT _ (0, 0) _ HF.out.t Try.underlying34 rfl (iAN _) ?_) | (refine wpList_store_row rfl ANT _ _ rfl (w.heap.size + 1) (anB (0)) (by kernel_rfl) (by kernel_rfl) ANT (anB 0) HF.out.r (iAN _) rfl (anB_one _) ?_))
      exact bodyPost_ret (results_cb ANT Try.results5 _ _ (w.heap.size + 1) _ _ rfl rfl (run_loadVar_row _ _ ANT ANT _ (0, 0) _ (HF.out.r.row (anB (0))) Try.underlying34 rfl (iAN _))) rfl ⟨by rw [HV.out]; rfl, by rw [HY.out, HW.out]; exact HF.out.done HK.out _⟩
    · have HV := Lib.hid (show Bs.told X h a = 0 by unfold Bs.told; rw [hk]; rfl)
      have HY := Lib.hid (show Bs.wired (Bs.step X a) = Bs.wired ({ X with p := Pc.wireW X.n X.p a.size a.live }) by unfold Bs.step; rw [hk]; simp [hz10])
      have g10 : (a.size != 10) = true := by simpa using hz10
      go_enter Try.func5, Try.ntmps5
      go_upto_region 1 with fail
      generalize ((w.alloc (.cells a.cells AKT)).alloc (.cells (anB 0) ANT)) = w1 at *
      have HM := Lib.hid (may_c X.n b a HIN.out.size w1 (HBU.out.low HBE.out).n1)
      rw [hm] at HM
      go_wp2_with (refine wpList_load_row rfl AKT _ rfl w.heap.size rfl AKT _ (0, 0) _ HA.out.cs Try.underlying30 rfl info_AK ?_)
      refine HM.out.mono ?_
      rintro e w2 ⟨rfl, hb2⟩
      have HB2 := Lib.hid (HBE.out.trans (hb2.mono HBE.out.size))
      have HA2 := Lib.hid (HA.out.low hb2)
      have HR2 := Lib.hid (HR.out.low hb2)
      clear hb2 HM HBE HA HR
      have q0 := HA2.out.kind
      clear hm hz10
      rw [hk] at q0
      go_upto_region 4 with fail
      have hb3 : Below w2.heap.size w2 (w2.alloc (.cells (anB 0) ANT)) := (Below.refl _ _).alloc (Nat.le_refl _) _
      have hsz : (w2.alloc (.cells (anB 0) ANT)).heap.size = w2.heap.size + 1 := by simp
      have hlr := HR2.out.lt
      have HK := Lib.hid (show DoK F w (w2.alloc (.cells (anB 0) ANT)) b (w.heap.size + 1) w2.heap.size from ⟨HBU.out.lo, hbl, ⟨by omega, by omega⟩, ⟨by omega, by omega⟩⟩)
      have HS := Lib.hid (show DoS F w (w2.alloc (.cells (anB 0) ANT)) (w2.alloc (.cells (anB 0) ANT)) b (w.heap.size + 1) w2.heap.size a X 0 from ⟨⟨F, HBU.out.low (HB2.out.trans (hb3.mono HB2.out.size)), fun _ hk => .inl hk⟩, Chg.of_below (HB2.out.trans (hb3.mono HB2.out.size)), HA2.out.low hb3, HR2.out.low hb3, CsAt.new _ _ _, Nat.le_refl _⟩)
      clear hb3 hsz hlr q0 HA2 HR2 HB2 hz
      generalize w2.alloc (.cells (anB 0) ANT) = w3 at *
      generalize w2.heap.size = tb at *
      have q0 := HS.out.ak.kind
      rw [hk] at q0
      obtain ⟨G, hG, hG2⟩ := HS.out.ex
      obtain ⟨g, hrow, hpt⟩ := hG.ex
      have c0 : w3.cell? ⟨b, 0, none⟩ = some (.pointer (some ⟨g, 0, none⟩)) := by rw [hrow.cell]; exact buV_u
      have q6 := HS.out.ak.data
      have q4 := HS.out.ak.size
      have q8 := HS.out.ak.live
      have hbd : Below w3.heap.size w3 w3.drew := below_dU (Below.refl _ _) 1
      have HGD := Lib.hid (hG.low hbd)
      have HRD := Lib.hid (hrow.low hbd)
      have HPD := Lib.hid (hpt.low hbd)
      have HSD := Lib.hid (HS.out.low HK.out hbd)
      have HG3 := Lib.hid hG2
      have hWd : w3.drew = w3.drew := rfl
      clear hG hG2 hrow hpt hbd HS
      go_upto_region 17 with fail
      refine wp_region_steady_tail (fun W => W = w3.drew) 7 (by kernel_rfl) (by kernel_rfl) hWd ?_
      iterate 7
        refine steady_val ?_ ?_ (by rfl) (fun W hS => ?_) ?_ ?_
        rotate_left 2
        · subst hS
          go_simp
          exact rfl
        · go_simp
          exact rfl
      refine steady_nil ?_
      rintro W rfl
      simp only [List.drop_succ_cons, List.drop_zero]
      clear hWd c0 q0 q4 q6 q8
      go_wp2_with fail
      refine (Bp.pwire_c (S := ⟨.pointer (some ⟨g, 0, none⟩), X.c, HGD.out.okc.len⟩) (some ⟨b, 20, none⟩) X.n X.p a.size HIN.out.size.1 HIN.out.size.2 a.live w3.drew (.inr ⟨b, rfl, ⟨HRD.out, HGD.out.okp⟩⟩)).mono ?_
      rintro e wz ⟨rfl, hp4, ho4⟩
      have HT := Lib.hid (HSD.out.by_ HK.out HG3.out (BuQ.of_p HGD.out HPD.out hp4 ho4))
      clear HSD HG3
      obtain ⟨Yv, hYv⟩ : ∃ y, ({ X with p := Pc.wireW X.n X.p a.size a.live } : Bs.B) = y := ⟨_, rfl⟩
      rw [hYv] at HT HY
      obtain ⟨q, hq⟩ : ∃ q, (Ut.cause Yv.u != 1) = q := ⟨_, rfl⟩
      have HW := Lib.hid (show Bs.wired Yv = { Yv with p := Pc.wireW Yv.n Yv.p 10 q } by unfold Bs.wired; rw [hq])
      have HQQ := Lib.hid hq
      clear hYv hq
      go_upto_region 18 with fail
      obtain ⟨G, hG, hG2⟩ := HT.out.ex
      obtain ⟨g, hrow, hpt⟩ := hG.ex
      have c0 : wz.cell? ⟨b, 0, none⟩ = some (.pointer (some ⟨g, 0, none⟩)) := by rw [hrow.cell]; exact buV_u
      have hbd : Below wz.heap.size wz wz.drew := below_dU (Below.refl _ _) 1
      have HGD := Lib.hid (hG.low hbd)
      have HRD := Lib.hid (hrow.low hbd)
      have HPD := Lib.hid (hpt.low hbd)
      have HTD := Lib.hid (HT.out.low HK.out hbd)
      have HG2 := Lib.hid hG2
      have hWd : wz.drew = wz.drew := rfl
      clear hG hG2 hrow hpt hbd HT
      refine wp_region_steady_tail (fun W => W = wz.drew) 8 (by kernel_rfl) (by kernel_rfl) hWd ?_
      iterate 7
        refine steady_val ?_ ?_ (by rfl) (fun W hS => ?_) ?_ ?_
        rotate_left 2
        · subst hS
          go_simp
          exact rfl
        · go_simp
          exact rfl
      refine steady_enter (.bool q) 31 #[.pointer (some ⟨g, 0, none⟩)] ?_ (by rfl) (fun W hS => ?_) (fun W hS => (by subst hS; exact (uline_c HPD.out).mono (by rintro e w' ⟨rfl, rfl⟩; exact ⟨by rw [HQQ.out], rfl⟩))) ?_ ?_
      rotate_left 1
      · subst hS
        go_simp
      · go_simp
        exact rfl
      refine steady_nil ?_
      rintro W rfl
      simp only [List.drop_succ_cons, List.drop_zero]
      try clear q4
      try clear q0
      clear hWd c0
      go_wp2_with fail
      refine (Bp.pwire_c (S := ⟨.pointer (some ⟨g, 0, none⟩), (Yv).c, HGD.out.okc.len⟩) (some ⟨b, 20, none⟩) (Yv).n (Yv).p 10 (by omega) (by omega) q wz.drew (.inr ⟨b, rfl, ⟨HRD.out, HGD.out.okp⟩⟩)).mono ?_
      rintro e w9 ⟨rfl, hp9, ho9⟩
      have HF := Lib.hid (HTD.out.by_ HK.out HG2.out (BuQ.of_p HGD.out HPD.out hp9 ho9))
      clear hp9 ho9 HGD HRD HPD HTD HG2
      go_wp2_with (first | (refine wpList_load_row rfl ANT _ rfl tb rfl ANT _ (0, 0) _ HF.out.t Try.underlying34 rfl (iAN _) ?_) | (refine wpList_store_row rfl ANT _ _ rfl (w.heap.size + 1) (anB (0)) (by kernel_rfl) (by kernel_rfl) ANT (anB 0) HF.out.r (iAN _) rfl (anB_one _) ?_))
      exact bodyPost_ret (results_cb ANT Try.results5 _ _ (w.heap.size + 1) _ _ rfl rfl (run_loadVar_row _ _ ANT ANT _ (0, 0) _ (HF.out.r.row (anB (0))) Try.underlying34 rfl (iAN _))) rfl ⟨by rw [HV.out]; rfl, by rw [HY.out, HW.out]; exact HF.out.done HK.out _⟩
  · obtain ⟨k1, k2, k3, k4, k5, k6⟩ := hk
    have hm : Bs.mayB X.n a = false := by unfold Bs.mayB Bs.isK Bs.otherK; rw [show (a.kind == 9) = false by simpa using k1, show (a.kind == 10) = false by simpa using k2, show (a.kind == 11) = false by simpa using k3, show (a.kind == 18) = false by simpa using k4, show (a.kind == 19) = false by simpa using k5, show (a.kind == 20) = false by simpa using k6]; rfl
    have HG := Lib.hid (show Bs.goB X h a = false by unfold Bs.goB; rw [hm]; rfl)
    rw [show Bs.doV X h a = 0 by unfold Bs.doV; rw [HG.out]; rfl, show Bs.doX X h a = X by unfold Bs.doX; rw [HG.out]; rfl, HG.out]
    go_enter Try.func5, Try.ntmps5
    go_upto_region 1 with fail
    generalize ((w.alloc (.cells a.cells AKT)).alloc (.cells (anB 0) ANT)) = w1 at *
    have HM := Lib.hid (may_c X.n b a HIN.out.size w1 (HBU.out.low HBE.out).n1)
    rw [hm] at HM
    go_wp2_with (refine wpList_load_row rfl AKT _ rfl w.heap.size rfl AKT _ (0, 0) _ HA.out.cs Try.underlying30 rfl info_AK ?_)
    refine HM.out.mono ?_
    rintro e w2 ⟨rfl, hb2⟩
    have HB2 := Lib.hid (HBE.out.trans (hb2.mono HBE.out.size))
    have HA2 := Lib.hid (HA.out.low hb2)
    have HR2 := Lib.hid (HR.out.low hb2)
    clear hb2 HM HBE HA HR
    have q0 := HA2.out.kind
    clear hm k1 k2 k3 k4 k5 k6
    go_upto_region 2 with fail
    clear hz
    go_wp2_with (refine wpList_store_row rfl ANT _ _ rfl (w.heap.size + 1) (anB 0) (by kernel_rfl) (by kernel_rfl) ANT (anB 0) HR2.out (iAN 0) rfl (anB_one 0) ?_)
    exact bodyPost_ret (results_cb ANT Try.results5 _ _ (w.heap.size + 1) _ _ rfl rfl (run_loadVar_row _ _ ANT ANT _ (0, 0) _ (HR2.out.row (anB 0)) Try.underlying34 rfl (iAN 0))) rfl ⟨rfl, HBU.out.keepQ (HB2.out.trans ((Chg.of_row (S := fun k => k = w.heap.size + 1) (b := w.heap.size + 1) rfl _).below HB2.out.size (fun k hk => by omega)))⟩
end Go.Proofs.Ytkknfhbaldeigaa
