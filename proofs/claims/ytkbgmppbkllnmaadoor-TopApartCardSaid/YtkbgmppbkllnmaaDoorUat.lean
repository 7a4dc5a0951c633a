/-
  TrapBack walked.
-/
import Derived.Test.YtkbgmppbkllnmaaDoorUaq
import Derived.Test.YtkbgmppbkllnmaaDoorUas
set_option maxRecDepth 20000
namespace Go.Proofs.YtkbgmppbkllnmaaDoor
open Go.ChangeShapes Go.WideShapes Go.ChangeAt Go.RowKit Wd Csr Sta Cf Cau

theorem zero_ca (W : World) : (zeroValue CaT).run Tryd.prog W = .ok (.agg zCa) W := by kernel_rfl
theorem vec_ex1 : vecS 257 true 7 = 284 := by decide +kernel
theorem vec_ex2 : vecS 257 false 7 = 256 := by decide +kernel
set_option maxHeartbeats 2000000 in
theorem live23_c (w : World) : Calls Tryd.prog 10 #[] w fun e w' => e = .returned (.bool true) ∧ Below w.heap.size w w' := by
  have HV1 := Lib.hid (fun W => vec_c 257 true 7 W)
  rw [vec_ex1] at HV1
  have HV2 := Lib.hid (fun W => vec_c 257 false 7 W)
  rw [vec_ex2] at HV2
  go_enter Tryd.func10, Tryd.ntmps10
  go_upto_region 2 with (first
    | (refine wpList_allocY rfl _ rfl CaT rfl zCa (zero_ca _) ?_)
    | (refine wpList_storeNew (w0 := w) rfl CaT _ _ rfl zCa #[.bool true, .int .i64 7] CaT rfl rfl info_caS rfl rfl ?_))
  have HB1 := Lib.hid ((Below.refl w.heap.size w).alloc (Nat.le_refl _) (.cells #[.bool true, .int .i64 7] CaT))
  have HC1 := Lib.hid (CsAt.new w CaT #[.bool true, .int .i64 7])
  generalize w.alloc (.cells #[.bool true, .int .i64 7] CaT) = w1 at *
  go_wp2_with (refine wpList_load_row rfl CaT _ rfl w.heap.size rfl CaT _ (0, 0) _ HC1.out Tryd.underlying24 rfl info_caS ?_)
  refine (HV1.out _).mono ?_
  rintro e w2 ⟨rfl, hb⟩
  have HB2 := Lib.hid (HB1.out.trans (hb.mono HB1.out.size))
  clear hb
  go_wp2_with fail
  refine (HV2.out _).mono ?_
  rintro e w3 ⟨rfl, hb⟩
  have HB3 := Lib.hid (HB2.out.trans (hb.mono HB2.out.size))
  clear hb
  go_wp2_with fail
  go_ret
  exact ⟨rfl, HB3.out⟩
abbrev TpT : TypeId := 27
/-- What stands in the laws of layer 23: the file, the reference's, the tables, the trap in its box. -/
structure TwS (w W : World) (g gx : Nat) (s x : S) (d : Tp) : Prop where
  fl : FlAt W g s
  x : CsAt W gx RfT (refV x)
  n : RowsIn W
  k : KeptIn W
  t : CsAt W w.heap.size TpT d.cells
  hg : w.heap.size < g
  hx : w.heap.size < gx
  ne : g ≠ gx
  far : g ≠ 2 ∧ g ≠ 1
  farx : gx ≠ 2 ∧ gx ≠ 1
  bel : Below w.heap.size w W
section
variable {w W W' : World} {g gx : Nat} {s s' x x' : S} {d : Tp}
theorem TwS.low (h : TwS w W g gx s x d) (hb : Below W.heap.size W W') : TwS w W' g gx s x d := ⟨h.fl.low hb, h.x.low hb, h.n.low hb, h.k.low hb, h.t.low hb, h.hg, h.hx, h.ne, h.far, h.farx, h.bel.trans (hb.mono h.bel.size)⟩
theorem TwS.drew (h : TwS w W g gx s x d) : TwS w W.drew g gx s x d := ⟨h.fl.drew, h.x, h.n, h.k, h.t, h.hg, h.hx, h.ne, h.far, h.farx, h.bel.drew⟩
theorem TwS.fq (h : TwS w W g gx s x d) (q : FQ g s' W W') : TwS w W' g gx s' x d :=
  ⟨q.fl, q.chg.cs h.x (fun (e : gx = g) => h.ne e.symm), (q.tab h.far h.n h.k).1, (q.tab h.far h.n h.k).2, q.chg.cs h.t (fun (e : w.heap.size = g) => by have := h.hg; omega), h.hg, h.hx, h.ne, h.far, h.farx,
    h.bel.trans (q.chg.below h.bel.size (fun k hk => by rw [show k = g from hk]; exact Nat.le_of_lt h.hg))⟩
theorem TwS.row (h : TwS w W g gx s x d) : TwS w (W.setRow gx (refV x')) g gx s x' d := by
  have hc : Chg (one gx) W (W.setRow gx (refV x')) := Chg.of_row (S := one gx) rfl _
  exact ⟨⟨h.fl.r.rowFar h.ne _, h.fl.ok⟩, h.x.row _, h.n.chg hc (fun (e : 2 = gx) => h.farx.1 e.symm), h.k.chg hc (fun (e : 1 = gx) => h.farx.2 e.symm), h.t.rowFar (fun e => by have := h.hx; omega) _, h.hg, h.hx, h.ne, h.far, h.farx, below_setRow h.bel (Nat.le_of_lt h.hx) _⟩
end
/-- Files' results, laid into boxes of their own. -/
theorem boxA (W : World) (fz rz : Array Value) : CsAt ((W.alloc (.cells fz FlT)).alloc (.cells rz RfT)) W.heap.size FlT fz := (CsAt.new W FlT fz).alloc _
theorem boxC (W : World) (fz rz : Array Value) : CsAt ((W.alloc (.cells fz FlT)).alloc (.cells rz RfT)) (W.heap.size + 1) RfT rz := by
  have h := CsAt.new (W.alloc (.cells fz FlT)) RfT rz
  rw [World.size_alloc] at h
  exact h
theorem boxB (W : World) (fz fs rz : Array Value) : CsAt (((W.alloc (.cells fz FlT)).alloc (.cells rz RfT)).setRow W.heap.size fs) (W.heap.size + 1) RfT rz := (boxC W fz rz).rowFar (by omega) _
theorem boxD (W : World) (fz fs rz : Array Value) : CsAt (((W.alloc (.cells fz FlT)).alloc (.cells rz RfT)).setRow W.heap.size fs) (W.alloc (.cells fz FlT)).heap.size RfT rz := by
  rw [World.size_alloc]
  exact boxB W fz fs rz
theorem boxed (W : World) (fz fs rz rs : Array Value) :
    CsAt ((((W.alloc (.cells fz FlT)).alloc (.cells rz RfT)).setRow W.heap.size fs).setRow (W.heap.size + 1) rs) W.heap.size FlT fs ∧ CsAt ((((W.alloc (.cells fz FlT)).alloc (.cells rz RfT)).setRow W.heap.size fs).setRow (W.heap.size + 1) rs) (W.heap.size + 1) RfT rs ∧ Below W.heap.size W ((((W.alloc (.cells fz FlT)).alloc (.cells rz RfT)).setRow W.heap.size fs).setRow (W.heap.size + 1) rs) := by
  have ha := ((boxA W fz rz).row fs).rowFar (show W.heap.size ≠ W.heap.size + 1 by omega) rs
  have hb := (boxB W fz fs rz).row rs
  have hB : Below W.heap.size W ((W.alloc (.cells fz FlT)).alloc (.cells rz RfT)) := ((Below.refl _ _).alloc (Nat.le_refl _) _).alloc (by rw [World.size_alloc]; omega) _
  exact ⟨ha, hb, below_setRow (below_setRow hB (Nat.le_refl _) _) (by omega) _⟩
theorem TwS.new {w W : World} {d : Tp} (hN : RowsIn w) (hK : KeptIn w) (hb : Below (w.alloc (.cells d.cells TpT)).heap.size (w.alloc (.cells d.cells TpT)) W) {s : S} (ok : Ok s) :
    TwS w ((((W.alloc (.cells (fileV (zero 0)) FlT)).alloc (.cells (refV (zero 0)) RfT)).setRow W.heap.size (fileV s)).setRow (W.heap.size + 1) (refV s)) W.heap.size (W.heap.size + 1) s s d := by
  obtain ⟨h1, h2, h3⟩ := boxed W (fileV (zero 0)) (fileV s) (refV (zero 0)) (refV s)
  have hb0 : Below w.heap.size w (w.alloc (.cells d.cells TpT)) := (Below.refl _ _).alloc (Nat.le_refl _) _
  have hbW := hb0.trans (hb.mono hb0.size)
  have hB := hbW.trans (h3.mono hbW.size)
  have hs := hb.size
  simp only [World.size_alloc] at hs
  exact ⟨⟨h1, ok⟩, h2, hN.low hB, hK.low hB, ((CsAt.new w TpT _).low hb).low h3, by omega, by omega, by omega, new_far hN hK (by omega), new_far hN hK (by omega), hB⟩
theorem leaveP3 (x : Int) : leaveP x 3 = mppS x := by unfold leaveP; exact if_pos rfl
theorem leaveP1 (x : Int) : leaveP x 1 = cutS x 8 1 := by unfold leaveP; rw [if_neg (by decide), if_pos rfl]
theorem backA3 (s : S) : backA s 3 = s.f 833 := by unfold backA; exact if_pos rfl
theorem backA1 (s : S) : backA s 1 = s.f 321 := by unfold backA; rw [if_neg (by decide), if_pos rfl]
theorem epI3 : epI 3 = 833 ∧ caI 3 = 834 ∧ vaI 3 = 835 := ⟨rfl, rfl, rfl⟩
theorem epI1 : epI 1 = 321 ∧ caI 1 = 322 ∧ vaI 1 = 323 := ⟨rfl, rfl, rfl⟩
/-- Behind a trap and its return. -/
theorem trap_back {s : S} (al : Al s) {i : Bool} {c p pc d0 d1 cw tv a : Int} (ha : toK i c p d0 d1 = a) (hp : p = 0 ∨ p = 1 ∨ p = 3) (hpc : W64 pc) :
    ¬ a < p ∧ leaveP ((trapS s a p pc cw tv).f 768) a = p ∧ backA (backS (trapS s a p pc cw tv) a) a = bits .andNot .u64 pc 3 := by
  have hpr : isPriv p = true := by rcases hp with rfl | rfl | rfl <;> rfl
  have hf : (trapS s a p pc cw tv).f 768 = enterV (s.f 768) p a := put_at _ _ _
  rw [hf]
  rcases toK_cases i c p d0 d1 with h | h
  · rw [h] at ha
    subst ha
    refine ⟨by omega, ?_, ?_⟩
    · rw [leaveP3]
      unfold enterV
      rw [hpr, if_pos rfl, if_pos rfl]
      exact trapM_back _ hp
    · rw [backA3]
      unfold backS trapS
      rw [epI3.1, epI3.2.1, epI3.2.2]
      rw [if_pos (.inl rfl), put_ne _ _ (by decide), put_ne _ _ (by decide), layS_ne _ _ (by decide), layS_ne _ _ (by decide)]
      rw [layS_at, leg_epc al (.inl rfl) hpc]
  · have hp3 : p ≠ 3 := by
      intro e
      unfold toK at h
      rw [if_neg (fun hh => hh.1 e)] at h
      omega
    rw [h] at ha
    subst ha
    refine ⟨by omega, ?_, ?_⟩
    · rw [leaveP1]
      unfold enterV
      rw [hpr, if_pos rfl, if_neg (by omega), if_pos rfl]
      rcases hp with rfl | rfl | rfl
      · exact trapU_back _ false
      · exact trapU_back _ true
      · exact absurd rfl hp3
    · rw [backA1]
      unfold backS trapS
      rw [epI1.1, epI1.2.1, epI1.2.2]
      rw [if_pos (.inr rfl), put_ne _ _ (by decide), put_ne _ _ (by decide), layS_ne _ _ (by decide), layS_ne _ _ (by decide)]
      rw [layS_at, leg_epc al (.inr rfl) hpc]
set_option maxHeartbeats 16000000 in
theorem tback_walk (ao : Option Addr) (n cap : Nat) (l : List Df) (q : Tp) (w : World) (hds : Dfs w ao n l) (hq : q.In) (hT : RowsIn w ∧ KeptIn w) :
    Calls Tryd.prog 4 #[.slice ao n cap, .agg q.cells] w fun e w' => e = .returned (.bool true) ∧ Below w.heap.size w w' := by
  obtain ⟨⟨i, c⟩, p, pc, tv⟩ := q
  have hb0 : Below w.heap.size w (w.alloc (.cells (Tp.cells ⟨⟨i, c⟩, p, pc, tv⟩) TpT)) := (Below.refl _ _).alloc (Nat.le_refl _) _
  have HB0 := Lib.hid hb0
  have z2 : (w.alloc (.cells (Tp.cells ⟨⟨i, c⟩, p, pc, tv⟩) TpT)).cell? ⟨w.heap.size, 2, none⟩ = some (.int .i64 p) := (CsAt.new w TpT (Tp.cells ⟨⟨i, c⟩, p, pc, tv⟩)).cell 2
  dsimp only [Tp.cells, Kc.cells] at HB0 z2 ⊢
  have HPC := Lib.hid (lt64 hq.pc)
  have HTV := Lib.hid (lt64 hq.tval)
  have HT := Lib.hid hT
  have HFI := Lib.hid (fun (W : World) (hb : Below w.heap.size w W) => files_c ao n cap l W (hds.low hb) ⟨hT.1.low hb, hT.2.low hb⟩)
  clear hds hq hT hb0
  by_cases hlong : 30 < n
  · have g0 : decide ((n : Int) > 30) = true := by simp; omega
    clear hlong
    go_enter Tryd.func4, Tryd.ntmps4
    go_upto_region 1 with fail
    generalize (w.alloc (.cells #[.bool i, .int .i64 c, .int .i64 p, .int .u64 pc, .int .u64 tv] TpT)) = w1 at *
    go_wp2_with fail
    refine (live23_c _).mono ?_
    rintro e w2 ⟨rfl, hb⟩
    have HB := Lib.hid (HB0.out.trans (hb.mono HB0.out.size))
    clear hb
    go_wp2_with fail
    go_ret
    exact ⟨rfl, HB.out⟩
  · have g0 : decide ((n : Int) > 30) = false := by simp; omega
    clear hlong
    by_cases hp : p = 0 ∨ p = 1 ∨ p = 3
    · have HTB := Lib.hid (fun s (al : Al s) a (ha : toK i c p (s.f 770) (s.f 771) = a) => trap_back (cw := wordK i c) (tv := tv) al ha hp HPC.out)
      rcases hp with rfl | rfl | rfl
      · go_enter Tryd.func4, Tryd.ntmps4
        go_upto_region 3 with fail
        go_wp2_with fail
        refine (HFI.out _ HB0.out).mono ?_
        rintro e w2 ⟨s, ok, al, rfl, hb⟩
        have HP := Lib.hid (TwS.new (d := ⟨⟨i, c⟩, 0, pc, tv⟩) HT.out.1 HT.out.2 hb ok)
        have HAL := Lib.hid al
        clear hb al ok z2
        go_upto_region 4 with (first
          | (refine wpList_allocY rfl _ rfl FlT rfl (fileV (zero 0)) (zero_fl _) ?_)
          | (refine wpList_allocY rfl _ rfl RfT rfl (refV (zero 0)) (zero_rf _) ?_)
          | (refine wpList_store_row rfl FlT _ _ rfl w2.heap.size (fileV s) rfl rfl FlT _ (boxA w2 _ _) (iFl _) (by rw [fileV_size, fileV_size]) (flV_one _) ?_)
          | (refine wpList_store_row rfl RfT _ _ rfl (w2.alloc (.cells (fileV (zero 0)) FlT)).heap.size (refV s) rfl rfl RfT _ (boxD w2 _ _ _) (iRf _) (by rw [refV_size, refV_size]) (rfV_one _) ?_))
        try simp only [World.size_alloc]
        generalize ((((w2.alloc (.cells (fileV (zero 0)) FlT)).alloc (.cells (refV (zero 0)) RfT)).setRow w2.heap.size (fileV s)).setRow (w2.heap.size + 1) (refV s)) = w3 at *
        generalize w2.heap.size = g at *
        have z0 := HP.out.t.cell 0
        have z1 := HP.out.t.cell 1
        have z2 := HP.out.t.cell 2
        have z3 := HP.out.t.cell 3
        have z4 := HP.out.t.cell 4
        simp only [Tp.cells, List.getElem?_toArray, List.getElem?_cons_zero, List.getElem?_cons_succ] at z0 z1 z2 z3 z4
        go_wp2_with fail
        refine (fent_c g s i c 0 pc tv HPC.out HTV.out _ HP.out.n HP.out.k HP.out.far HP.out.fl).mono ?_
        rintro e w4 ⟨rfl, hq⟩
        have HP4 := Lib.hid (HP.out.fq hq)
        clear hq z0 z1 z2 z3 z4 HP
        obtain ⟨a, ha⟩ : ∃ a, a = toK i c 0 (s.f 770) (s.f 771) := ⟨_, rfl⟩
        obtain ⟨hlt, hbk, hpc2⟩ := HTB.out s HAL.out a ha.symm
        rw [← ha] at HP4 ⊢
        have HLV := Lib.hid (fun W (hn : RowsIn W) (hk : KeptIn W) h => flv_c g (trapS s a 0 pc (wordK i c) tv) a W hn hk HP4.out.far h)
        rw [hbk, hpc2] at HLV
        clear ha HTB hbk hpc2
        generalize trapA s a i c = ta at *
        have hd : decide (a < 0) = false := decide_eq_false (by omega)
        clear hlt
        have z2 := HP4.out.t.cell 2
        simp only [Tp.cells, List.getElem?_toArray, List.getElem?_cons_zero, List.getElem?_cons_succ] at z2
        go_wp2_with fail
        refine (HLV.out _ HP4.out.n HP4.out.k HP4.out.fl).mono ?_
        rintro e w5 ⟨rfl, hq⟩
        have HP5 := Lib.hid (HP4.out.fq hq)
        clear hq z2 HP4
        have z2 := HP5.out.t.cell 2
        have z3 := HP5.out.t.cell 3
        simp only [Tp.cells, List.getElem?_toArray, List.getElem?_cons_zero, List.getElem?_cons_succ] at z2 z3
        have hqq : (bits .andNot .u64 pc 3 == bits .andNot .u64 pc 3) = true := by simp
        go_wp2_with fail
        refine (live23_c _).mono ?_
        rintro e w6 ⟨rfl, hb⟩
        have HP6 := Lib.hid (HP5.out.low hb)
        clear hb
        go_wp2_with fail
        go_ret
        exact ⟨rfl, HP6.out.bel⟩
      · go_enter Tryd.func4, Tryd.ntmps4
        go_upto_region 3 with fail
        go_wp2_with fail
        refine (HFI.out _ HB0.out).mono ?_
        rintro e w2 ⟨s, ok, al, rfl, hb⟩
        have HP := Lib.hid (TwS.new (d := ⟨⟨i, c⟩, 1, pc, tv⟩) HT.out.1 HT.out.2 hb ok)
        have HAL := Lib.hid al
        clear hb al ok z2
        go_upto_region 4 with (first
          | (refine wpList_allocY rfl _ rfl FlT rfl (fileV (zero 0)) (zero_fl _) ?_)
          | (refine wpList_allocY rfl _ rfl RfT rfl (refV (zero 0)) (zero_rf _) ?_)
          | (refine wpList_store_row rfl FlT _ _ rfl w2.heap.size (fileV s) rfl rfl FlT _ (boxA w2 _ _) (iFl _) (by rw [fileV_size, fileV_size]) (flV_one _) ?_)
          | (refine wpList_store_row rfl RfT _ _ rfl (w2.alloc (.cells (fileV (zero 0)) FlT)).heap.size (refV s) rfl rfl RfT _ (boxD w2 _ _ _) (iRf _) (by rw [refV_size, refV_size]) (rfV_one _) ?_))
        try simp only [World.size_alloc]
        generalize ((((w2.alloc (.cells (fileV (zero 0)) FlT)).alloc (.cells (refV (zero 0)) RfT)).setRow w2.heap.size (fileV s)).setRow (w2.heap.size + 1) (refV s)) = w3 at *
        generalize w2.heap.size = g at *
        have z0 := HP.out.t.cell 0
        have z1 := HP.out.t.cell 1
        have z2 := HP.out.t.cell 2
        have z3 := HP.out.t.cell 3
        have z4 := HP.out.t.cell 4
        simp only [Tp.cells, List.getElem?_toArray, List.getElem?_cons_zero, List.getElem?_cons_succ] at z0 z1 z2 z3 z4
        go_wp2_with fail
        refine (fent_c g s i c 1 pc tv HPC.out HTV.out _ HP.out.n HP.out.k HP.out.far HP.out.fl).mono ?_
        rintro e w4 ⟨rfl, hq⟩
        have HP4 := Lib.hid (HP.out.fq hq)
        clear hq z0 z1 z2 z3 z4 HP
        obtain ⟨a, ha⟩ : ∃ a, a = toK i c 1 (s.f 770) (s.f 771) := ⟨_, rfl⟩
        obtain ⟨hlt, hbk, hpc2⟩ := HTB.out s HAL.out a ha.symm
        rw [← ha] at HP4 ⊢
        have HLV := Lib.hid (fun W (hn : RowsIn W) (hk : KeptIn W) h => flv_c g (trapS s a 1 pc (wordK i c) tv) a W hn hk HP4.out.far h)
        rw [hbk, hpc2] at HLV
        clear ha HTB hbk hpc2
        generalize trapA s a i c = ta at *
        have hd : decide (a < 1) = false := decide_eq_false (by omega)
        clear hlt
        have z2 := HP4.out.t.cell 2
        simp only [Tp.cells, List.getElem?_toArray, List.getElem?_cons_zero, List.getElem?_cons_succ] at z2
        go_wp2_with fail
        refine (HLV.out _ HP4.out.n HP4.out.k HP4.out.fl).mono ?_
        rintro e w5 ⟨rfl, hq⟩
        have HP5 := Lib.hid (HP4.out.fq hq)
        clear hq z2 HP4
        have z2 := HP5.out.t.cell 2
        have z3 := HP5.out.t.cell 3
        simp only [Tp.cells, List.getElem?_toArray, List.getElem?_cons_zero, List.getElem?_cons_succ] at z2 z3
        have hqq : (bits .andNot .u64 pc 3 == bits .andNot .u64 pc 3) = true := by simp
        go_wp2_with fail
        refine (live23_c _).mono ?_
        rintro e w6 ⟨rfl, hb⟩
        have HP6 := Lib.hid (HP5.out.low hb)
        clear hb
        go_wp2_with fail
        go_ret
        exact ⟨rfl, HP6.out.bel⟩
      · go_enter Tryd.func4, Tryd.ntmps4
        go_upto_region 3 with fail
        go_wp2_with fail
        refine (HFI.out _ HB0.out).mono ?_
        rintro e w2 ⟨s, ok, al, rfl, hb⟩
        have HP := Lib.hid (TwS.new (d := ⟨⟨i, c⟩, 3, pc, tv⟩) HT.out.1 HT.out.2 hb ok)
        have HAL := Lib.hid al
        clear hb al ok z2
        go_upto_region 4 with (first
          | (refine wpList_allocY rfl _ rfl FlT rfl (fileV (zero 0)) (zero_fl _) ?_)
          | (refine wpList_allocY rfl _ rfl RfT rfl (refV (zero 0)) (zero_rf _) ?_)
          | (refine wpList_store_row rfl FlT _ _ rfl w2.heap.size (fileV s) rfl rfl FlT _ (boxA w2 _ _) (iFl _) (by rw [fileV_size, fileV_size]) (flV_one _) ?_)
          | (refine wpList_store_row rfl RfT _ _ rfl (w2.alloc (.cells (fileV (zero 0)) FlT)).heap.size (refV s) rfl rfl RfT _ (boxD w2 _ _ _) (iRf _) (by rw [refV_size, refV_size]) (rfV_one _) ?_))
        try simp only [World.size_alloc]
        generalize ((((w2.alloc (.cells (fileV (zero 0)) FlT)).alloc (.cells (refV (zero 0)) RfT)).setRow w2.heap.size (fileV s)).setRow (w2.heap.size + 1) (refV s)) = w3 at *
        generalize w2.heap.size = g at *
        have z0 := HP.out.t.cell 0
        have z1 := HP.out.t.cell 1
        have z2 := HP.out.t.cell 2
        have z3 := HP.out.t.cell 3
        have z4 := HP.out.t.cell 4
        simp only [Tp.cells, List.getElem?_toArray, List.getElem?_cons_zero, List.getElem?_cons_succ] at z0 z1 z2 z3 z4
        go_wp2_with fail
        refine (fent_c g s i c 3 pc tv HPC.out HTV.out _ HP.out.n HP.out.k HP.out.far HP.out.fl).mono ?_
        rintro e w4 ⟨rfl, hq⟩
        have HP4 := Lib.hid (HP.out.fq hq)
        clear hq z0 z1 z2 z3 z4 HP
        obtain ⟨a, ha⟩ : ∃ a, a = toK i c 3 (s.f 770) (s.f 771) := ⟨_, rfl⟩
        obtain ⟨hlt, hbk, hpc2⟩ := HTB.out s HAL.out a ha.symm
        rw [← ha] at HP4 ⊢
        have HLV := Lib.hid (fun W (hn : RowsIn W) (hk : KeptIn W) h => flv_c g (trapS s a 3 pc (wordK i c) tv) a W hn hk HP4.out.far h)
        rw [hbk, hpc2] at HLV
        clear ha HTB hbk hpc2
        generalize trapA s a i c = ta at *
        have hd : decide (a < 3) = false := decide_eq_false (by omega)
        clear hlt
        have z2 := HP4.out.t.cell 2
        simp only [Tp.cells, List.getElem?_toArray, List.getElem?_cons_zero, List.getElem?_cons_succ] at z2
        go_wp2_with fail
        refine (HLV.out _ HP4.out.n HP4.out.k HP4.out.fl).mono ?_
        rintro e w5 ⟨rfl, hq⟩
        have HP5 := Lib.hid (HP4.out.fq hq)
        clear hq z2 HP4
        have z2 := HP5.out.t.cell 2
        have z3 := HP5.out.t.cell 3
        simp only [Tp.cells, List.getElem?_toArray, List.getElem?_cons_zero, List.getElem?_cons_succ] at z2 z3
        have hqq : (bits .andNot .u64 pc 3 == bits .andNot .u64 pc 3) = true := by simp
        go_wp2_with fail
        refine (live23_c _).mono ?_
        rintro e w6 ⟨rfl, hb⟩
        have HP6 := Lib.hid (HP5.out.low hb)
        clear hb
        go_wp2_with fail
        go_ret
        exact ⟨rfl, HP6.out.bel⟩
    · have h0 : (p != 0) = true := by simp; omega
      have h1 : (p != 1) = true := by simp; omega
      have h3 : (p != 3) = true := by simp; omega
      clear hp
      go_enter Tryd.func4, Tryd.ntmps4
      go_upto_region 1 with fail
      generalize (w.alloc (.cells #[.bool i, .int .i64 c, .int .i64 p, .int .u64 pc, .int .u64 tv] TpT)) = w1 at *
      go_wp2_with fail
      refine (live23_c _).mono ?_
      rintro e w2 ⟨rfl, hb⟩
      have HB := Lib.hid (HB0.out.trans (hb.mono HB0.out.size))
      clear hb
      go_wp2_with fail
      go_ret
      exact ⟨rfl, HB.out⟩
end Go.Proofs.YtkbgmppbkllnmaaDoor
