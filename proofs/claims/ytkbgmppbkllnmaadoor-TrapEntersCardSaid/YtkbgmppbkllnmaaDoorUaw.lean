/-
  The reference of layer 23: a trap is entered, and left.
-/
import Derived.Test.YtkbgmppbkllnmaaDoorUav
import Derived.Test.YtkbgmppbkllnmaaDoorUaq
set_option maxRecDepth 20000
namespace Go.Proofs.YtkbgmppbkllnmaaDoor
open Go.ChangeShapes Go.WideShapes Go.ChangeAt Go.RowKit Wd Csr Sta Cf Cau

theorem nd_medeleg : numC ⟨#[109, 101, 100, 101, 108, 101, 103]⟩ = ((rowC 12).1 : Nat) := by kernel_rfl
theorem nd_mepc : numC ⟨#[109, 101, 112, 99]⟩ = ((rowC 18).1 : Nat) := by kernel_rfl
theorem nd_mcause : numC ⟨#[109, 99, 97, 117, 115, 101]⟩ = ((rowC 19).1 : Nat) := by kernel_rfl
theorem nd_mtval : numC ⟨#[109, 116, 118, 97, 108]⟩ = ((rowC 20).1 : Nat) := by kernel_rfl
theorem nd_mtvec : numC ⟨#[109, 116, 118, 101, 99]⟩ = ((rowC 15).1 : Nat) := by kernel_rfl
theorem nd_sepc : numC ⟨#[115, 101, 112, 99]⟩ = ((rowC 5).1 : Nat) := by kernel_rfl
theorem nd_scause : numC ⟨#[115, 99, 97, 117, 115, 101]⟩ = ((rowC 6).1 : Nat) := by kernel_rfl
theorem nd_stval : numC ⟨#[115, 116, 118, 97, 108]⟩ = ((rowC 7).1 : Nat) := by kernel_rfl
theorem nd_stvec : numC ⟨#[115, 116, 118, 101, 99]⟩ = ((rowC 2).1 : Nat) := by kernel_rfl
/-- What stands while the reference enters a trap: its file and the cause in boxes, its result. -/
structure RnS (w W : World) (t : S) (b : Bool) (n : Int) : Prop where
  r : CsAt W w.heap.size RfT (refV t)
  c : CsAt W (w.heap.size + 1) RcT #[.bool b, .int .i64 n]
  z : CsAt W (w.heap.size + 2) RfT (refV (zero 0))
  bel : Below w.heap.size w W
section
variable {w W W' : World} {t : S} {b : Bool} {n : Int}
theorem RnS.low (h : RnS w W t b n) (hb : Below W.heap.size W W') : RnS w W' t b n := ⟨h.r.low hb, h.c.low hb, h.z.low hb, h.bel.trans (hb.mono h.bel.size)⟩
theorem RnS.drew (h : RnS w W t b n) : RnS w W.drew t b n := ⟨h.r, h.c, h.z, h.bel.drew⟩
theorem RnS.put (h : RnS w W t b n) (u : S) : RnS w (W.setRow w.heap.size (refV u)) u b n := ⟨h.r.row _, h.c.rowFar (by omega) _, h.z.rowFar (by omega) _, below_setRow h.bel (Nat.le_refl _) _⟩
end
theorem RnS.new (w : World) (s : S) (b : Bool) (n : Int) : RnS w (((w.alloc (.cells (refV s) RfT)).alloc (.cells #[.bool b, .int .i64 n] RcT)).alloc (.cells (refV (zero 0)) RfT)) s b n := by
  refine ⟨((CsAt.new w RfT _).alloc _).alloc _, ?_, ?_, (((Below.refl _ _).alloc (Nat.le_refl _) _).alloc (by simp) _).alloc (by simp; omega) _⟩
  · have := (CsAt.new (w.alloc (.cells (refV s) RfT)) RcT #[.bool b, .int .i64 n]).alloc (.cells (refV (zero 0)) RfT)
    simpa using this
  · have := CsAt.new ((w.alloc (.cells (refV s) RfT)).alloc (.cells #[.bool b, .int .i64 n] RcT)) RfT (refV (zero 0))
    simpa using this
theorem info_rcS : (Tryd.prog.info? RcT).map (·.size) = some 2 := by kernel_rfl
theorem ref_trap (s : S) {a : Int} (ha : a = 3 ∨ a = 1) (p pc c tv : Int) :
    (layS (layS (layS s (epI a) pc) (caI a) c) (vaI a) tv).put 768 (enterV ((layS (layS (layS s (epI a) pc) (caI a) c) (vaI a) tv).f 768) p a) = trapS s a p pc c tv := by
  have hs : (layS (layS (layS s (epI a) pc) (caI a) c) (vaI a) tv).f 768 = s.f 768 := by
    rw [layS_ne, layS_ne, layS_ne]
    all_goals rcases ha with rfl | rfl <;> decide
  rw [hs]; rfl
set_option maxHeartbeats 8000000 in
theorem rent3_c (s : S) (ok : Ok s) (b : Bool) (n p pc tv : Int) (hpc : W64 pc) (htv : W64 tv) (ha : toK b n p (s.f 770) (s.f 771) = 3) (w : World) :
    Calls Tryd.prog 12 #[.agg (refV s), .agg #[.bool b, .int .i64 n], .int .i64 p, .int .u64 pc, .int .u64 tv] w fun e w' =>
      e = .returned (.tuple #[.agg (refV (trapS s 3 p pc (wordK b n) tv)), .int .i64 3, .int .u64 (trapA s 3 b n)]) ∧ Below w.heap.size w w' := by
  have HS1 := Lib.hid (RnS.new w s b n)
  have HD1 := Lib.hid (fun W => rword_c s ⟨#[109, 101, 100, 101, 108, 101, 103]⟩ 12 (by decide) nd_medeleg W)
  have HD2 := Lib.hid (fun W => rword_c s ⟨#[109, 105, 100, 101, 108, 101, 103]⟩ 13 (by decide) nc_mideleg W)
  rw [show ((((rowC 12).1 : Nat) : Int)) = 770 from rfl] at HD1
  rw [show ((((rowC 13).1 : Nat) : Int)) = 771 from rfl] at HD2
  have HTO := Lib.hid (fun W => krto_c b n p (s.f 770) (s.f 771) W (ok.w _) (ok.w _))
  rw [ha] at HTO
  have HTA := Lib.hid (show trapA s 3 b n = vecS (s.f 773) b n from rfl)
  have hfin := ref_trap s (a := 3) (by decide) p pc (wordK b n) tv
  have htv0 := trap_tvec s (a := 3) (by decide) p pc (wordK b n) tv
  have HWD := Lib.hid (fun W => krword_c b n W)
  have hcw := wordK_range b n
  rw [show epI 3 = 833 from rfl, show caI 3 = 834 from rfl, show vaI 3 = 835 from rfl] at hfin
  rw [show tvI 3 = 773 from rfl] at htv0
  generalize trapS s 3 p pc (wordK b n) tv = s4 at *
  generalize wordK b n = cw at *
  have HL1 := Lib.hid (fun W => rlay3_c s ok ⟨#[109, 101, 112, 99]⟩ pc hpc 18 (by decide) nd_mepc W)
  rw [show ((((rowC 18).1 : Nat) : Int)) = 833 from rfl] at HL1
  have ok1 : Ok (layS s 833 pc) := layS_ok ok pc (by decide)
  generalize layS s 833 pc = s1 at *
  have HL2 := Lib.hid (fun W => rlay3_c s1 ok1 ⟨#[109, 99, 97, 117, 115, 101]⟩ cw hcw 19 (by decide) nd_mcause W)
  rw [show ((((rowC 19).1 : Nat) : Int)) = 834 from rfl] at HL2
  have ok2 : Ok (layS s1 834 cw) := layS_ok ok1 cw (by decide)
  generalize layS s1 834 cw = s2 at *
  have HL3 := Lib.hid (fun W => rlay3_c s2 ok2 ⟨#[109, 116, 118, 97, 108]⟩ tv htv 20 (by decide) nd_mtval W)
  rw [show ((((rowC 20).1 : Nat) : Int)) = 835 from rfl] at HL3
  have ok3 : Ok (layS s2 835 tv) := layS_ok ok2 tv (by decide)
  generalize layS s2 835 tv = s3 at *
  have HW3 := Lib.hid (fun W => rword_c s3 ⟨#[109, 115, 116, 97, 116, 117, 115]⟩ 10 (by decide) nc_mstatus W)
  rw [show ((((rowC 10).1 : Nat) : Int)) = 768 from rfl] at HW3
  have HE3 := Lib.hid (fun W => renter_c (s3.f 768) p 3 (ok3.w _) W)
  have HP3 := Lib.hid (fun W => rWith_c s3 ⟨#[109, 115, 116, 97, 116, 117, 115]⟩ (enterV (s3.f 768) p 3) 10 (by decide) nc_mstatus W)
  rw [show ((((rowC 10).1 : Nat) : Int)) = 768 from rfl, hfin] at HP3
  generalize enterV (s3.f 768) p 3 = en at *
  generalize s3.f 768 = y3 at *
  have HWT := Lib.hid (fun W => rword_c s4 ⟨#[109, 116, 118, 101, 99]⟩ 15 (by decide) nd_mtvec W)
  rw [show ((((rowC 15).1 : Nat) : Int)) = 773 from rfl, htv0] at HWT
  have HVC := Lib.hid (fun W => rvec_c (s.f 773) (ok.w _) b n W)
  rw [HTA.out]
  generalize vecS (s.f 773) b n = va at *
  generalize s.f 773 = tw at *
  clear hfin htv0 hcw ok1 ok2 ok3 HTA ha hpc htv
  generalize s.f 770 = d0 at *
  generalize s.f 771 = d1 at *
  go_enter Tryd.func12, Tryd.ntmps12
  go_upto_region 1 with (refine wpList_allocY rfl _ rfl RfT rfl (refV (zero 0)) (zero_rf _) ?_)
  generalize (((w.alloc (.cells (refV s) RfT)).alloc (.cells #[.bool b, .int .i64 n] RcT)).alloc (.cells (refV (zero 0)) RfT)) = w1 at *
  refine wp_region_steady (fun W => RnS w W s b n) (by kernel_rfl) (by kernel_rfl) HS1.out.drew ?_
  refine steady_val (.agg #[.bool b, .int .i64 n]) ?_ (by kernel_rfl) (fun W hS => exec_load_row RcT _ rfl (w.heap.size + 1) rfl RcT _ _ hS.c Tryd.underlying41 rfl info_rcS) ?_ ?_
  rotate_left 1
  · go_simp
    exact rfl
  refine steady_val ?_ ?_ (by kernel_rfl) (fun W hS => ?_) ?_ ?_
  rotate_left 2
  · go_simp
    exact rfl
  · go_simp
    exact rfl
  refine steady_val (.agg (refV s)) ?_ (by kernel_rfl) (fun W hS => exec_load_row RfT _ rfl w.heap.size rfl RfT _ _ hS.r Tryd.underlying38 rfl (iRf _)) ?_ ?_
  rotate_left 1
  · go_simp
    exact rfl
  refine steady_enter (.int .u64 d0) 35 #[.agg (refV s), .string ⟨#[109, 101, 100, 101, 108, 101, 103]⟩] ?_ (by kernel_rfl) (fun W hS => ?_) (fun W hS => (HD1.out W).mono (by rintro e w' ⟨rfl, hb⟩; exact ⟨rfl, hS.low hb⟩)) ?_ ?_
  rotate_left 1
  · go_simp
  · go_simp
    exact rfl
  refine steady_val (.agg (refV s)) ?_ (by kernel_rfl) (fun W hS => exec_load_row RfT _ rfl w.heap.size rfl RfT _ _ hS.r Tryd.underlying38 rfl (iRf _)) ?_ ?_
  rotate_left 1
  · go_simp
    exact rfl
  refine steady_enter (.int .u64 d1) 35 #[.agg (refV s), .string ⟨#[109, 105, 100, 101, 108, 101, 103]⟩] ?_ (by kernel_rfl) (fun W hS => ?_) (fun W hS => (HD2.out W).mono (by rintro e w' ⟨rfl, hb⟩; exact ⟨rfl, hS.low hb⟩)) ?_ ?_
  rotate_left 1
  · go_simp
  · go_simp
    exact rfl
  refine steady_enter (.int .i64 3) 34 #[.agg #[.bool b, .int .i64 n], .int .i64 p, .int .u64 d0, .int .u64 d1] ?_ (by kernel_rfl) (fun W hS => ?_) (fun W hS => (HTO.out W).mono (by rintro e w' ⟨rfl, hb⟩; exact ⟨rfl, hS.low hb⟩)) ?_ ?_
  rotate_left 1
  · go_simp
  · go_simp
    exact rfl
  refine steady_val ?_ ?_ (by kernel_rfl) (fun W hS => ?_) ?_ ?_
  rotate_left 2
  · go_simp
    exact rfl
  · go_simp
    exact rfl
  refine steady_nil ?_
  intro W hS
  have HS2 := Lib.hid hS
  clear hS HS1 HD1 HD2 HTO
  go_upto_region 5 with fail
  go_wp2_with (refine wpList_load_row rfl RfT _ rfl w.heap.size rfl RfT _ (0, 0) _ HS2.out.r Tryd.underlying38 rfl (iRf _) ?_)
  refine (HL1.out _).mono ?_
  rintro e w3 ⟨rfl, hb⟩
  have HS3 := Lib.hid (HS2.out.low hb)
  clear hb HS2 HL1
  go_upto_region 6 with (refine wpList_store_row rfl RfT _ _ rfl w.heap.size (refV s1) rfl rfl RfT _ HS3.out.r (iRf _) (by rw [refV_size, refV_size]) (rfV_one _) ?_)
  have HS4 := Lib.hid (HS3.out.put s1)
  clear HS3
  generalize w3.setRow w.heap.size (refV s1) = w4 at *
  refine wp_region_steady_tail (fun W => RnS w W s1 b n) 6 (by kernel_rfl) (by kernel_rfl) HS4.out.drew ?_
  refine steady_val (.agg (refV s1)) ?_ (by kernel_rfl) (fun W hS => exec_load_row RfT _ rfl w.heap.size rfl RfT _ _ hS.r Tryd.underlying38 rfl (iRf _)) ?_ ?_
  rotate_left 1
  · go_simp
    exact rfl
  refine steady_val ?_ ?_ (by kernel_rfl) (fun W hS => ?_) ?_ ?_
  rotate_left 2
  · go_simp
    exact rfl
  · go_simp
    exact rfl
  refine steady_val (.string ⟨#[109, 99, 97, 117, 115, 101]⟩) ?_ (by kernel_rfl) (fun W hS => by kernel_rfl) ?_ ?_
  rotate_left 1
  · go_simp
    exact rfl
  refine steady_val (.agg #[.bool b, .int .i64 n]) ?_ (by kernel_rfl) (fun W hS => exec_load_row RcT _ rfl (w.heap.size + 1) rfl RcT _ _ hS.c Tryd.underlying41 rfl info_rcS) ?_ ?_
  rotate_left 1
  · go_simp
    exact rfl
  refine steady_enter (.int .u64 cw) 37 #[.agg #[.bool b, .int .i64 n]] ?_ (by kernel_rfl) (fun W hS => ?_) (fun W hS => (HWD.out W).mono (by rintro e w' ⟨rfl, hb⟩; exact ⟨rfl, hS.low hb⟩)) ?_ ?_
  rotate_left 1
  · go_simp
  · go_simp
    exact rfl
  refine steady_enter (.agg (refV s2)) 36 #[.agg (refV s1), .string ⟨#[109, 99, 97, 117, 115, 101]⟩, .int .u64 cw] ?_ (by kernel_rfl) (fun W hS => ?_) (fun W hS => (HL2.out W).mono (by rintro e w' ⟨rfl, hb⟩; exact ⟨rfl, hS.low hb⟩)) ?_ ?_
  rotate_left 1
  · go_simp
  · go_simp
    exact rfl
  refine steady_nil ?_
  intro W hS
  have HS5 := Lib.hid hS
  clear hS HS4 HL2 HWD
  simp only [List.drop_succ_cons, List.drop_zero]
  go_upto_region 7 with (refine wpList_store_row rfl RfT _ _ rfl w.heap.size (refV s2) rfl rfl RfT _ HS5.out.r (iRf _) (by rw [refV_size, refV_size]) (rfV_one _) ?_)
  have HS6 := Lib.hid (HS5.out.put s2)
  clear HS5
  generalize W.setRow w.heap.size (refV s2) = w6 at *
  go_wp2_with (refine wpList_load_row rfl RfT _ rfl w.heap.size rfl RfT _ (0, 0) _ HS6.out.r Tryd.underlying38 rfl (iRf _) ?_)
  refine (HL3.out _).mono ?_
  rintro e w7 ⟨rfl, hb⟩
  have HS7 := Lib.hid (HS6.out.low hb)
  clear hb HS6 HL3
  go_upto_region 8 with (refine wpList_store_row rfl RfT _ _ rfl w.heap.size (refV s3) rfl rfl RfT _ HS7.out.r (iRf _) (by rw [refV_size, refV_size]) (rfV_one _) ?_)
  have HS8 := Lib.hid (HS7.out.put s3)
  clear HS7
  generalize w7.setRow w.heap.size (refV s3) = w8 at *
  refine wp_region_steady_tail (fun W => RnS w W s3 b n) 7 (by kernel_rfl) (by kernel_rfl) HS8.out.drew ?_
  refine steady_val (.agg (refV s3)) ?_ (by kernel_rfl) (fun W hS => exec_load_row RfT _ rfl w.heap.size rfl RfT _ _ hS.r Tryd.underlying38 rfl (iRf _)) ?_ ?_
  rotate_left 1
  · go_simp
    exact rfl
  refine steady_val (.agg (refV s3)) ?_ (by kernel_rfl) (fun W hS => exec_load_row RfT _ rfl w.heap.size rfl RfT _ _ hS.r Tryd.underlying38 rfl (iRf _)) ?_ ?_
  rotate_left 1
  · go_simp
    exact rfl
  refine steady_enter (.int .u64 y3) 35 #[.agg (refV s3), .string ⟨#[109, 115, 116, 97, 116, 117, 115]⟩] ?_ (by kernel_rfl) (fun W hS => ?_) (fun W hS => (HW3.out W).mono (by rintro e w' ⟨rfl, hb⟩; exact ⟨rfl, hS.low hb⟩)) ?_ ?_
  rotate_left 1
  · go_simp
  · go_simp
    exact rfl
  iterate 2
    refine steady_val ?_ ?_ (by kernel_rfl) (fun W hS => ?_) ?_ ?_
    rotate_left 2
    · go_simp
      exact rfl
    · go_simp
      exact rfl
  refine steady_enter (.int .u64 en) 39 #[.int .u64 y3, .int .i64 p, .int .i64 3] ?_ (by kernel_rfl) (fun W hS => ?_) (fun W hS => (HE3.out W).mono (by rintro e w' ⟨rfl, hb⟩; exact ⟨rfl, hS.low hb⟩)) ?_ ?_
  rotate_left 1
  · go_simp
  · go_simp
    exact rfl
  refine steady_enter (.agg (refV s4)) 38 #[.agg (refV s3), .string ⟨#[109, 115, 116, 97, 116, 117, 115]⟩, .int .u64 en] ?_ (by kernel_rfl) (fun W hS => ?_) (fun W hS => (HP3.out W).mono (by rintro e w' ⟨rfl, hb⟩; exact ⟨rfl, hS.low hb⟩)) ?_ ?_
  rotate_left 1
  · go_simp
  · go_simp
    exact rfl
  refine steady_nil ?_
  intro W hS
  have HS9 := Lib.hid hS
  clear hS HS8 HW3 HE3 HP3
  simp only [List.drop_succ_cons, List.drop_zero]
  go_upto_region 9 with (refine wpList_store_row rfl RfT _ _ rfl w.heap.size (refV s4) rfl rfl RfT _ HS9.out.r (iRf _) (by rw [refV_size, refV_size]) (rfV_one _) ?_)
  have HSA := Lib.hid (HS9.out.put s4)
  clear HS9
  generalize W.setRow w.heap.size (refV s4) = wa at *
  have h1 : CsAt wa.drew w.heap.size RfT (refV s4) := HSA.out.r
  have h2 : CsAt wa.drew (w.heap.size + 1) RcT #[.bool b, .int .i64 n] := HSA.out.c
  have h3 := HSA.out.drew
  refine wp_region_noPanic ?_
  refine wp_region_held (S := fun V => CsAt V w.heap.size RfT (refV s4) ∧ CsAt V (w.heap.size + 1) RcT #[.bool b, .int .i64 n]) (by kernel_rfl) ?_
  refine takeH (fuel := 10) (i := 0) (.agg (refV s4)) ?_ rfl (by kernel_rfl) (by kernel_rfl) (by kernel_rfl) (fun _ _ _ h => h) (by kernel_rfl) (fun W hS => exec_load_row RfT _ rfl w.heap.size rfl RfT _ _ hS.1 Tryd.underlying38 rfl (iRf _)) ⟨h1, h2⟩ ?_ ?_
  rotate_left 1
  · go_simp
    exact rfl
  refine takeH (fuel := 9) (i := 1) (.int .i64 3) ?_ rfl (by kernel_rfl) (by kernel_rfl) (by kernel_rfl) (fun _ _ _ h => h) (by kernel_rfl) (fun W hS => by go_simp) ⟨h1, h2⟩ ?_ ?_
  rotate_left 1
  · go_simp
    exact rfl
  refine takeH (fuel := 8) (i := 2) (.agg (refV s4)) ?_ rfl (by kernel_rfl) (by kernel_rfl) (by kernel_rfl) (fun _ _ _ h => h) (by kernel_rfl) (fun W hS => exec_load_row RfT _ rfl w.heap.size rfl RfT _ _ hS.1 Tryd.underlying38 rfl (iRf _)) ⟨h1, h2⟩ ?_ ?_
  rotate_left 1
  · go_simp
    exact rfl
  refine takeH (fuel := 7) (i := 3) (.string ⟨#[109]⟩) ?_ rfl (by kernel_rfl) (by kernel_rfl) (by kernel_rfl) (fun _ _ _ h => h) (by kernel_rfl) (fun W hS => by go_simp) ⟨h1, h2⟩ ?_ ?_
  rotate_left 1
  · go_simp
    exact rfl
  refine takeH (fuel := 6) (i := 4) (.string ⟨#[109, 116, 118, 101, 99]⟩) ?_ rfl (by kernel_rfl) (by kernel_rfl) (by kernel_rfl) (fun _ _ _ h => h) (by kernel_rfl) (fun W hS => by kernel_rfl) ⟨h1, h2⟩ ?_ ?_
  rotate_left 1
  · go_simp
    exact rfl
  refine takeH (fuel := 5) (i := 6) (.agg #[.bool b, .int .i64 n]) ?_ rfl (by kernel_rfl) (by kernel_rfl) (by kernel_rfl) (fun _ _ _ h => h) (by kernel_rfl) (fun W hS => exec_load_row RcT _ rfl (w.heap.size + 1) rfl RcT _ _ hS.2 Tryd.underlying41 rfl info_rcS) ⟨h1, h2⟩ ?_ ?_
  rotate_left 1
  · go_simp
    exact rfl
  refine wpAnyH_all (fuel := 4) (rs := [5]) (by kernel_rfl) (by decide) ?_
  intro i hi
  obtain rfl : i = 5 := by simpa using hi
  refine wpOp_callX 35 #[.agg (refV s4), .string ⟨#[109, 116, 118, 101, 99]⟩] rfl (by kernel_rfl) (by go_simp) ?_
  refine (HWT.out _).mono ?_
  rintro e wb ⟨rfl, hb⟩
  replace h1 := h1.low hb
  replace h2 := h2.low hb
  replace h3 := h3.low hb
  clear hb
  refine ⟨_, rfl, ⟨h1, h2⟩, ?_⟩
  refine wpAnyH_all (fuel := 3) (rs := [7]) (by kernel_rfl) (by decide) ?_
  intro i hi
  obtain rfl : i = 7 := by simpa using hi
  refine wpOp_callX 15 #[.int .u64 tw, .agg #[.bool b, .int .i64 n]] rfl (by kernel_rfl) (by go_simp) ?_
  refine (HVC.out _).mono ?_
  rintro e wc ⟨rfl, hb⟩
  replace h1 := h1.low hb
  replace h2 := h2.low hb
  replace h3 := h3.low hb
  clear hb
  refine ⟨_, rfl, ⟨h1, h2⟩, ?_⟩
  refine wpAnyH_all (fuel := 2) (rs := [8]) (by kernel_rfl) (by decide) ?_
  intro i hi
  obtain rfl : i = 8 := by simpa using hi
  refine wpOp_unitB (wc.setRow (w.heap.size + 2) (refV s4)) _ rfl (by kernel_rfl) (exec_store_row RfT _ _ rfl (w.heap.size + 2) (refV s4) rfl rfl RfT _ h3.z (iRf _) (by rw [refV_size, refV_size]) (rfV_one _)) rfl ?_
  have k1 := h1.rowFar (show w.heap.size ≠ w.heap.size + 2 by omega) (refV s4)
  have k2 := h2.rowFar (show w.heap.size + 1 ≠ w.heap.size + 2 by omega) (refV s4)
  have HZ := Lib.hid (h3.z.row (refV s4))
  have HBL := Lib.hid (below_setRow h3.bel (show w.heap.size ≤ w.heap.size + 2 by omega) (refV s4))
  refine ⟨⟨k1, k2⟩, ?_⟩
  refine takeH (fuel := 1) (i := 9) (.int .i64 3) ?_ rfl (by kernel_rfl) (by kernel_rfl) (by kernel_rfl) (fun _ _ _ h => h) (by kernel_rfl) (fun W hS => by go_simp) ⟨k1, k2⟩ ?_ ?_
  rotate_left 1
  · go_simp
    exact rfl
  refine takeH (fuel := 0) (i := 10) (.int .u64 va) ?_ rfl (by kernel_rfl) (by kernel_rfl) (by kernel_rfl) (fun _ _ _ h => h) (by kernel_rfl) (fun W hS => by go_simp) ⟨k1, k2⟩ ?_ ?_
  rotate_left 1
  · go_simp
    exact rfl
  refine wpAnyH_done (by kernel_rfl) ?_ _
  refine NoPanic.normal ?_
  generalize wc.setRow (w.heap.size + 2) (refV s4) = wz at *
  clear h1 h2 h3 k1 k2
  go_wp2_with fail
  exact bodyPost_ret (results_cbbF RfT Tryd.results12 _ wz (w.heap.size + 2) (refV s4) (.int .i64 3) (.int .u64 va) rfl rfl rfl (run_loadVar_row _ _ RfT RfT _ (0, 0) _ HZ.out Tryd.underlying38 rfl (iRf _))) rfl ⟨rfl, HBL.out⟩
set_option maxHeartbeats 8000000 in
theorem rent1_c (s : S) (ok : Ok s) (b : Bool) (n p pc tv : Int) (hpc : W64 pc) (htv : W64 tv) (ha : toK b n p (s.f 770) (s.f 771) = 1) (w : World) :
    Calls Tryd.prog 12 #[.agg (refV s), .agg #[.bool b, .int .i64 n], .int .i64 p, .int .u64 pc, .int .u64 tv] w fun e w' =>
      e = .returned (.tuple #[.agg (refV (trapS s 1 p pc (wordK b n) tv)), .int .i64 1, .int .u64 (trapA s 1 b n)]) ∧ Below w.heap.size w w' := by
  have HS1 := Lib.hid (RnS.new w s b n)
  have HD1 := Lib.hid (fun W => rword_c s ⟨#[109, 101, 100, 101, 108, 101, 103]⟩ 12 (by decide) nd_medeleg W)
  have HD2 := Lib.hid (fun W => rword_c s ⟨#[109, 105, 100, 101, 108, 101, 103]⟩ 13 (by decide) nc_mideleg W)
  rw [show ((((rowC 12).1 : Nat) : Int)) = 770 from rfl] at HD1
  rw [show ((((rowC 13).1 : Nat) : Int)) = 771 from rfl] at HD2
  have HTO := Lib.hid (fun W => krto_c b n p (s.f 770) (s.f 771) W (ok.w _) (ok.w _))
  rw [ha] at HTO
  have HTA := Lib.hid (show trapA s 1 b n = vecS (s.f 261) b n from rfl)
  have hfin := ref_trap s (a := 1) (by decide) p pc (wordK b n) tv
  have htv0 := trap_tvec s (a := 1) (by decide) p pc (wordK b n) tv
  have HWD := Lib.hid (fun W => krword_c b n W)
  have hcw := wordK_range b n
  rw [show epI 1 = 321 from rfl, show caI 1 = 322 from rfl, show vaI 1 = 323 from rfl] at hfin
  rw [show tvI 1 = 261 from rfl] at htv0
  generalize trapS s 1 p pc (wordK b n) tv = s4 at *
  generalize wordK b n = cw at *
  have HL1 := Lib.hid (fun W => rlay3_c s ok ⟨#[115, 101, 112, 99]⟩ pc hpc 5 (by decide) nd_sepc W)
  rw [show ((((rowC 5).1 : Nat) : Int)) = 321 from rfl] at HL1
  have ok1 : Ok (layS s 321 pc) := layS_ok ok pc (by decide)
  generalize layS s 321 pc = s1 at *
  have HL2 := Lib.hid (fun W => rlay3_c s1 ok1 ⟨#[115, 99, 97, 117, 115, 101]⟩ cw hcw 6 (by decide) nd_scause W)
  rw [show ((((rowC 6).1 : Nat) : Int)) = 322 from rfl] at HL2
  have ok2 : Ok (layS s1 322 cw) := layS_ok ok1 cw (by decide)
  generalize layS s1 322 cw = s2 at *
  have HL3 := Lib.hid (fun W => rlay3_c s2 ok2 ⟨#[115, 116, 118, 97, 108]⟩ tv htv 7 (by decide) nd_stval W)
  rw [show ((((rowC 7).1 : Nat) : Int)) = 323 from rfl] at HL3
  have ok3 : Ok (layS s2 323 tv) := layS_ok ok2 tv (by decide)
  generalize layS s2 323 tv = s3 at *
  have HW3 := Lib.hid (fun W => rword_c s3 ⟨#[109, 115, 116, 97, 116, 117, 115]⟩ 10 (by decide) nc_mstatus W)
  rw [show ((((rowC 10).1 : Nat) : Int)) = 768 from rfl] at HW3
  have HE3 := Lib.hid (fun W => renter_c (s3.f 768) p 1 (ok3.w _) W)
  have HP3 := Lib.hid (fun W => rWith_c s3 ⟨#[109, 115, 116, 97, 116, 117, 115]⟩ (enterV (s3.f 768) p 1) 10 (by decide) nc_mstatus W)
  rw [show ((((rowC 10).1 : Nat) : Int)) = 768 from rfl, hfin] at HP3
  generalize enterV (s3.f 768) p 1 = en at *
  generalize s3.f 768 = y3 at *
  have HWT := Lib.hid (fun W => rword_c s4 ⟨#[115, 116, 118, 101, 99]⟩ 2 (by decide) nd_stvec W)
  rw [show ((((rowC 2).1 : Nat) : Int)) = 261 from rfl, htv0] at HWT
  have HVC := Lib.hid (fun W => rvec_c (s.f 261) (ok.w _) b n W)
  rw [HTA.out]
  generalize vecS (s.f 261) b n = va at *
  generalize s.f 261 = tw at *
  clear hfin htv0 hcw ok1 ok2 ok3 HTA ha hpc htv
  generalize s.f 770 = d0 at *
  generalize s.f 771 = d1 at *
  go_enter Tryd.func12, Tryd.ntmps12
  go_upto_region 1 with (refine wpList_allocY rfl _ rfl RfT rfl (refV (zero 0)) (zero_rf _) ?_)
  generalize (((w.alloc (.cells (refV s) RfT)).alloc (.cells #[.bool b, .int .i64 n] RcT)).alloc (.cells (refV (zero 0)) RfT)) = w1 at *
  refine wp_region_steady (fun W => RnS w W s b n) (by kernel_rfl) (by kernel_rfl) HS1.out.drew ?_
  refine steady_val (.agg #[.bool b, .int .i64 n]) ?_ (by kernel_rfl) (fun W hS => exec_load_row RcT _ rfl (w.heap.size + 1) rfl RcT _ _ hS.c Tryd.underlying41 rfl info_rcS) ?_ ?_
  rotate_left 1
  · go_simp
    exact rfl
  refine steady_val ?_ ?_ (by kernel_rfl) (fun W hS => ?_) ?_ ?_
  rotate_left 2
  · go_simp
    exact rfl
  · go_simp
    exact rfl
  refine steady_val (.agg (refV s)) ?_ (by kernel_rfl) (fun W hS => exec_load_row RfT _ rfl w.heap.size rfl RfT _ _ hS.r Tryd.underlying38 rfl (iRf _)) ?_ ?_
  rotate_left 1
  · go_simp
    exact rfl
  refine steady_enter (.int .u64 d0) 35 #[.agg (refV s), .string ⟨#[109, 101, 100, 101, 108, 101, 103]⟩] ?_ (by kernel_rfl) (fun W hS => ?_) (fun W hS => (HD1.out W).mono (by rintro e w' ⟨rfl, hb⟩; exact ⟨rfl, hS.low hb⟩)) ?_ ?_
  rotate_left 1
  · go_simp
  · go_simp
    exact rfl
  refine steady_val (.agg (refV s)) ?_ (by kernel_rfl) (fun W hS => exec_load_row RfT _ rfl w.heap.size rfl RfT _ _ hS.r Tryd.underlying38 rfl (iRf _)) ?_ ?_
  rotate_left 1
  · go_simp
    exact rfl
  refine steady_enter (.int .u64 d1) 35 #[.agg (refV s), .string ⟨#[109, 105, 100, 101, 108, 101, 103]⟩] ?_ (by kernel_rfl) (fun W hS => ?_) (fun W hS => (HD2.out W).mono (by rintro e w' ⟨rfl, hb⟩; exact ⟨rfl, hS.low hb⟩)) ?_ ?_
  rotate_left 1
  · go_simp
  · go_simp
    exact rfl
  refine steady_enter (.int .i64 1) 34 #[.agg #[.bool b, .int .i64 n], .int .i64 p, .int .u64 d0, .int .u64 d1] ?_ (by kernel_rfl) (fun W hS => ?_) (fun W hS => (HTO.out W).mono (by rintro e w' ⟨rfl, hb⟩; exact ⟨rfl, hS.low hb⟩)) ?_ ?_
  rotate_left 1
  · go_simp
  · go_simp
    exact rfl
  refine steady_val ?_ ?_ (by kernel_rfl) (fun W hS => ?_) ?_ ?_
  rotate_left 2
  · go_simp
    exact rfl
  · go_simp
    exact rfl
  refine steady_nil ?_
  intro W hS
  have HS2 := Lib.hid hS
  clear hS HS1 HD1 HD2 HTO
  go_upto_region 5 with fail
  go_wp2_with (refine wpList_load_row rfl RfT _ rfl w.heap.size rfl RfT _ (0, 0) _ HS2.out.r Tryd.underlying38 rfl (iRf _) ?_)
  refine (HL1.out _).mono ?_
  rintro e w3 ⟨rfl, hb⟩
  have HS3 := Lib.hid (HS2.out.low hb)
  clear hb HS2 HL1
  go_upto_region 6 with (refine wpList_store_row rfl RfT _ _ rfl w.heap.size (refV s1) rfl rfl RfT _ HS3.out.r (iRf _) (by rw [refV_size, refV_size]) (rfV_one _) ?_)
  have HS4 := Lib.hid (HS3.out.put s1)
  clear HS3
  generalize w3.setRow w.heap.size (refV s1) = w4 at *
  refine wp_region_steady_tail (fun W => RnS w W s1 b n) 6 (by kernel_rfl) (by kernel_rfl) HS4.out.drew ?_
  refine steady_val (.agg (refV s1)) ?_ (by kernel_rfl) (fun W hS => exec_load_row RfT _ rfl w.heap.size rfl RfT _ _ hS.r Tryd.underlying38 rfl (iRf _)) ?_ ?_
  rotate_left 1
  · go_simp
    exact rfl
  refine steady_val ?_ ?_ (by kernel_rfl) (fun W hS => ?_) ?_ ?_
  rotate_left 2
  · go_simp
    exact rfl
  · go_simp
    exact rfl
  refine steady_val (.string ⟨#[115, 99, 97, 117, 115, 101]⟩) ?_ (by kernel_rfl) (fun W hS => by kernel_rfl) ?_ ?_
  rotate_left 1
  · go_simp
    exact rfl
  refine steady_val (.agg #[.bool b, .int .i64 n]) ?_ (by kernel_rfl) (fun W hS => exec_load_row RcT _ rfl (w.heap.size + 1) rfl RcT _ _ hS.c Tryd.underlying41 rfl info_rcS) ?_ ?_
  rotate_left 1
  · go_simp
    exact rfl
  refine steady_enter (.int .u64 cw) 37 #[.agg #[.bool b, .int .i64 n]] ?_ (by kernel_rfl) (fun W hS => ?_) (fun W hS => (HWD.out W).mono (by rintro e w' ⟨rfl, hb⟩; exact ⟨rfl, hS.low hb⟩)) ?_ ?_
  rotate_left 1
  · go_simp
  · go_simp
    exact rfl
  refine steady_enter (.agg (refV s2)) 36 #[.agg (refV s1), .string ⟨#[115, 99, 97, 117, 115, 101]⟩, .int .u64 cw] ?_ (by kernel_rfl) (fun W hS => ?_) (fun W hS => (HL2.out W).mono (by rintro e w' ⟨rfl, hb⟩; exact ⟨rfl, hS.low hb⟩)) ?_ ?_
  rotate_left 1
  · go_simp
  · go_simp
    exact rfl
  refine steady_nil ?_
  intro W hS
  have HS5 := Lib.hid hS
  clear hS HS4 HL2 HWD
  simp only [List.drop_succ_cons, List.drop_zero]
  go_upto_region 7 with (refine wpList_store_row rfl RfT _ _ rfl w.heap.size (refV s2) rfl rfl RfT _ HS5.out.r (iRf _) (by rw [refV_size, refV_size]) (rfV_one _) ?_)
  have HS6 := Lib.hid (HS5.out.put s2)
  clear HS5
  generalize W.setRow w.heap.size (refV s2) = w6 at *
  go_wp2_with (refine wpList_load_row rfl RfT _ rfl w.heap.size rfl RfT _ (0, 0) _ HS6.out.r Tryd.underlying38 rfl (iRf _) ?_)
  refine (HL3.out _).mono ?_
  rintro e w7 ⟨rfl, hb⟩
  have HS7 := Lib.hid (HS6.out.low hb)
  clear hb HS6 HL3
  go_upto_region 8 with (refine wpList_store_row rfl RfT _ _ rfl w.heap.size (refV s3) rfl rfl RfT _ HS7.out.r (iRf _) (by rw [refV_size, refV_size]) (rfV_one _) ?_)
  have HS8 := Lib.hid (HS7.out.put s3)
  clear HS7
  generalize w7.setRow w.heap.size (refV s3) = w8 at *
  refine wp_region_steady_tail (fun W => RnS w W s3 b n) 7 (by kernel_rfl) (by kernel_rfl) HS8.out.drew ?_
  refine steady_val (.agg (refV s3)) ?_ (by kernel_rfl) (fun W hS => exec_load_row RfT _ rfl w.heap.size rfl RfT _ _ hS.r Tryd.underlying38 rfl (iRf _)) ?_ ?_
  rotate_left 1
  · go_simp
    exact rfl
  refine steady_val (.agg (refV s3)) ?_ (by kernel_rfl) (fun W hS => exec_load_row RfT _ rfl w.heap.size rfl RfT _ _ hS.r Tryd.underlying38 rfl (iRf _)) ?_ ?_
  rotate_left 1
  · go_simp
    exact rfl
  refine steady_enter (.int .u64 y3) 35 #[.agg (refV s3), .string ⟨#[109, 115, 116, 97, 116, 117, 115]⟩] ?_ (by kernel_rfl) (fun W hS => ?_) (fun W hS => (HW3.out W).mono (by rintro e w' ⟨rfl, hb⟩; exact ⟨rfl, hS.low hb⟩)) ?_ ?_
  rotate_left 1
  · go_simp
  · go_simp
    exact rfl
  iterate 2
    refine steady_val ?_ ?_ (by kernel_rfl) (fun W hS => ?_) ?_ ?_
    rotate_left 2
    · go_simp
      exact rfl
    · go_simp
      exact rfl
  refine steady_enter (.int .u64 en) 39 #[.int .u64 y3, .int .i64 p, .int .i64 1] ?_ (by kernel_rfl) (fun W hS => ?_) (fun W hS => (HE3.out W).mono (by rintro e w' ⟨rfl, hb⟩; exact ⟨rfl, hS.low hb⟩)) ?_ ?_
  rotate_left 1
  · go_simp
  · go_simp
    exact rfl
  refine steady_enter (.agg (refV s4)) 38 #[.agg (refV s3), .string ⟨#[109, 115, 116, 97, 116, 117, 115]⟩, .int .u64 en] ?_ (by kernel_rfl) (fun W hS => ?_) (fun W hS => (HP3.out W).mono (by rintro e w' ⟨rfl, hb⟩; exact ⟨rfl, hS.low hb⟩)) ?_ ?_
  rotate_left 1
  · go_simp
  · go_simp
    exact rfl
  refine steady_nil ?_
  intro W hS
  have HS9 := Lib.hid hS
  clear hS HS8 HW3 HE3 HP3
  simp only [List.drop_succ_cons, List.drop_zero]
  go_upto_region 9 with (refine wpList_store_row rfl RfT _ _ rfl w.heap.size (refV s4) rfl rfl RfT _ HS9.out.r (iRf _) (by rw [refV_size, refV_size]) (rfV_one _) ?_)
  have HSA := Lib.hid (HS9.out.put s4)
  clear HS9
  generalize W.setRow w.heap.size (refV s4) = wa at *
  have h1 : CsAt wa.drew w.heap.size RfT (refV s4) := HSA.out.r
  have h2 : CsAt wa.drew (w.heap.size + 1) RcT #[.bool b, .int .i64 n] := HSA.out.c
  have h3 := HSA.out.drew
  refine wp_region_noPanic ?_
  refine wp_region_held (S := fun V => CsAt V w.heap.size RfT (refV s4) ∧ CsAt V (w.heap.size + 1) RcT #[.bool b, .int .i64 n]) (by kernel_rfl) ?_
  refine takeH (fuel := 10) (i := 0) (.agg (refV s4)) ?_ rfl (by kernel_rfl) (by kernel_rfl) (by kernel_rfl) (fun _ _ _ h => h) (by kernel_rfl) (fun W hS => exec_load_row RfT _ rfl w.heap.size rfl RfT _ _ hS.1 Tryd.underlying38 rfl (iRf _)) ⟨h1, h2⟩ ?_ ?_
  rotate_left 1
  · go_simp
    exact rfl
  refine takeH (fuel := 9) (i := 1) (.int .i64 1) ?_ rfl (by kernel_rfl) (by kernel_rfl) (by kernel_rfl) (fun _ _ _ h => h) (by kernel_rfl) (fun W hS => by go_simp) ⟨h1, h2⟩ ?_ ?_
  rotate_left 1
  · go_simp
    exact rfl
  refine takeH (fuel := 8) (i := 2) (.agg (refV s4)) ?_ rfl (by kernel_rfl) (by kernel_rfl) (by kernel_rfl) (fun _ _ _ h => h) (by kernel_rfl) (fun W hS => exec_load_row RfT _ rfl w.heap.size rfl RfT _ _ hS.1 Tryd.underlying38 rfl (iRf _)) ⟨h1, h2⟩ ?_ ?_
  rotate_left 1
  · go_simp
    exact rfl
  refine takeH (fuel := 7) (i := 3) (.string ⟨#[115]⟩) ?_ rfl (by kernel_rfl) (by kernel_rfl) (by kernel_rfl) (fun _ _ _ h => h) (by kernel_rfl) (fun W hS => by go_simp) ⟨h1, h2⟩ ?_ ?_
  rotate_left 1
  · go_simp
    exact rfl
  refine takeH (fuel := 6) (i := 4) (.string ⟨#[115, 116, 118, 101, 99]⟩) ?_ rfl (by kernel_rfl) (by kernel_rfl) (by kernel_rfl) (fun _ _ _ h => h) (by kernel_rfl) (fun W hS => by kernel_rfl) ⟨h1, h2⟩ ?_ ?_
  rotate_left 1
  · go_simp
    exact rfl
  refine takeH (fuel := 5) (i := 6) (.agg #[.bool b, .int .i64 n]) ?_ rfl (by kernel_rfl) (by kernel_rfl) (by kernel_rfl) (fun _ _ _ h => h) (by kernel_rfl) (fun W hS => exec_load_row RcT _ rfl (w.heap.size + 1) rfl RcT _ _ hS.2 Tryd.underlying41 rfl info_rcS) ⟨h1, h2⟩ ?_ ?_
  rotate_left 1
  · go_simp
    exact rfl
  refine wpAnyH_all (fuel := 4) (rs := [5]) (by kernel_rfl) (by decide) ?_
  intro i hi
  obtain rfl : i = 5 := by simpa using hi
  refine wpOp_callX 35 #[.agg (refV s4), .string ⟨#[115, 116, 118, 101, 99]⟩] rfl (by kernel_rfl) (by go_simp) ?_
  refine (HWT.out _).mono ?_
  rintro e wb ⟨rfl, hb⟩
  replace h1 := h1.low hb
  replace h2 := h2.low hb
  replace h3 := h3.low hb
  clear hb
  refine ⟨_, rfl, ⟨h1, h2⟩, ?_⟩
  refine wpAnyH_all (fuel := 3) (rs := [7]) (by kernel_rfl) (by decide) ?_
  intro i hi
  obtain rfl : i = 7 := by simpa using hi
  refine wpOp_callX 15 #[.int .u64 tw, .agg #[.bool b, .int .i64 n]] rfl (by kernel_rfl) (by go_simp) ?_
  refine (HVC.out _).mono ?_
  rintro e wc ⟨rfl, hb⟩
  replace h1 := h1.low hb
  replace h2 := h2.low hb
  replace h3 := h3.low hb
  clear hb
  refine ⟨_, rfl, ⟨h1, h2⟩, ?_⟩
  refine wpAnyH_all (fuel := 2) (rs := [8]) (by kernel_rfl) (by decide) ?_
  intro i hi
  obtain rfl : i = 8 := by simpa using hi
  refine wpOp_unitB (wc.setRow (w.heap.size + 2) (refV s4)) _ rfl (by kernel_rfl) (exec_store_row RfT _ _ rfl (w.heap.size + 2) (refV s4) rfl rfl RfT _ h3.z (iRf _) (by rw [refV_size, refV_size]) (rfV_one _)) rfl ?_
  have k1 := h1.rowFar (show w.heap.size ≠ w.heap.size + 2 by omega) (refV s4)
  have k2 := h2.rowFar (show w.heap.size + 1 ≠ w.heap.size + 2 by omega) (refV s4)
  have HZ := Lib.hid (h3.z.row (refV s4))
  have HBL := Lib.hid (below_setRow h3.bel (show w.heap.size ≤ w.heap.size + 2 by omega) (refV s4))
  refine ⟨⟨k1, k2⟩, ?_⟩
  refine takeH (fuel := 1) (i := 9) (.int .i64 1) ?_ rfl (by kernel_rfl) (by kernel_rfl) (by kernel_rfl) (fun _ _ _ h => h) (by kernel_rfl) (fun W hS => by go_simp) ⟨k1, k2⟩ ?_ ?_
  rotate_left 1
  · go_simp
    exact rfl
  refine takeH (fuel := 0) (i := 10) (.int .u64 va) ?_ rfl (by kernel_rfl) (by kernel_rfl) (by kernel_rfl) (fun _ _ _ h => h) (by kernel_rfl) (fun W hS => by go_simp) ⟨k1, k2⟩ ?_ ?_
  rotate_left 1
  · go_simp
    exact rfl
  refine wpAnyH_done (by kernel_rfl) ?_ _
  refine NoPanic.normal ?_
  generalize wc.setRow (w.heap.size + 2) (refV s4) = wz at *
  clear h1 h2 h3 k1 k2
  go_wp2_with fail
  exact bodyPost_ret (results_cbbF RfT Tryd.results12 _ wz (w.heap.size + 2) (refV s4) (.int .i64 1) (.int .u64 va) rfl rfl rfl (run_loadVar_row _ _ RfT RfT _ (0, 0) _ HZ.out Tryd.underlying38 rfl (iRf _))) rfl ⟨rfl, HBL.out⟩
theorem rent_c (s : S) (ok : Ok s) (b : Bool) (n p pc tv : Int) (hpc : W64 pc) (htv : W64 tv) (w : World) :
    Calls Tryd.prog 12 #[.agg (refV s), .agg #[.bool b, .int .i64 n], .int .i64 p, .int .u64 pc, .int .u64 tv] w fun e w' =>
      e = .returned (.tuple #[.agg (refV (trapS s (toK b n p (s.f 770) (s.f 771)) p pc (wordK b n) tv)), .int .i64 (toK b n p (s.f 770) (s.f 771)), .int .u64 (trapA s (toK b n p (s.f 770) (s.f 771)) b n)]) ∧ Below w.heap.size w w' := by
  rcases toK_cases b n p (s.f 770) (s.f 771) with h | h
  · have := rent3_c s ok b n p pc tv hpc htv h w
    rw [h]; exact this
  · have := rent1_c s ok b n p pc tv hpc htv h w
    rw [h]; exact this
theorem RtS.box (w : World) (s : S) : RtS w ((w.alloc (.cells (refV s) RfT)).alloc (.cells (refV (zero 0)) RfT)) s (zero 0) := RtS.new w s
set_option maxHeartbeats 4000000 in
theorem rlv0_c (s : S) (a : Int) (h3 : a ≠ 3) (h1 : a ≠ 1) (w : World) : Calls Tryd.prog 16 #[.agg (refV s), .int .i64 a] w fun e w' => e = .returned (.tuple #[.agg (refV s), .int .i64 0, .int .u64 0]) ∧ Below w.heap.size w w' := by
  have HS1 := Lib.hid (RtS.new w s)
  have e1 : (a != 1) = true := by simpa using h1
  have e3 : (a != 3) = true := by simpa using h3
  clear h3 h1
  go_enter Tryd.func16, Tryd.ntmps16
  go_upto_region 1 with (refine wpList_allocY rfl _ rfl RfT rfl (refV (zero 0)) (zero_rf _) ?_)
  generalize ((w.alloc (.cells (refV s) RfT)).alloc (.cells (refV (zero 0)) RfT)) = w1 at *
  go_wp2_with (first
    | (refine wpList_load_row rfl RfT _ rfl w.heap.size rfl RfT _ (0, 0) _ HS1.out.r Tryd.underlying38 rfl (iRf _) ?_)
    | (refine wpList_store_row rfl RfT _ _ rfl (w.heap.size + 1) (refV s) rfl rfl RfT _ HS1.out.z (iRf _) (by rw [refV_size, refV_size]) (rfV_one _) ?_))
  exact bodyPost_ret (results_cbbF RfT Tryd.results16 _ _ (w.heap.size + 1) (refV s) (.int .i64 0) (.int .u64 0) rfl rfl rfl (run_loadVar_row _ _ RfT RfT _ (0, 0) _ (HS1.out.z.row _) Tryd.underlying38 rfl (iRf _))) rfl ⟨rfl, below_setRow HS1.out.bel (by omega) _⟩
set_option maxHeartbeats 4000000 in
theorem rlv3_c (s : S) (ok : Ok s) (w : World) : Calls Tryd.prog 16 #[.agg (refV s), .int .i64 3] w fun e w' => e = .returned (.tuple #[.agg (refV (backS s 3)), .int .i64 (leaveP (s.f 768) 3), .int .u64 (backA (backS s 3) 3)]) ∧ Below w.heap.size w w' := by
  have HS1 := Lib.hid (RtS.new w s)
  have HW := Lib.hid (fun W => rword_c s ⟨#[109, 115, 116, 97, 116, 117, 115]⟩ 10 (by decide) nc_mstatus W)
  rw [show ((((rowC 10).1 : Nat) : Int)) = 768 from rfl] at HW
  have HL := Lib.hid (fun W => rleave_c (s.f 768) 3 (ok.w _) W)
  have HP := Lib.hid (fun W => rWith_c s ⟨#[109, 115, 116, 97, 116, 117, 115]⟩ (leaveV (s.f 768) 3) 10 (by decide) nc_mstatus W)
  rw [show ((((rowC 10).1 : Nat) : Int)) = 768 from rfl, show s.put 768 (leaveV (s.f 768) 3) = backS s 3 from rfl] at HP
  have HE := Lib.hid (fun W => rword_c (backS s 3) ⟨#[109, 101, 112, 99]⟩ 18 (by decide) nd_mepc W)
  rw [show ((((rowC 18).1 : Nat) : Int)) = 833 from rfl] at HE
  have hba : backA (backS s 3) 3 = (backS s 3).f 833 := rfl
  rw [hba]
  clear hba ok
  generalize leaveV (s.f 768) 3 = x at *
  generalize leaveP (s.f 768) 3 = pp at *
  generalize s.f 768 = y at *
  generalize backS s 3 = u at *
  generalize u.f 833 = va at *
  go_enter Tryd.func16, Tryd.ntmps16
  go_upto_region 1 with (refine wpList_allocY rfl _ rfl RfT rfl (refV (zero 0)) (zero_rf _) ?_)
  generalize ((w.alloc (.cells (refV s) RfT)).alloc (.cells (refV (zero 0)) RfT)) = w1 at *
  go_upto_region 3 with fail
  go_wp2_with (refine wpList_load_row rfl RfT _ rfl w.heap.size rfl RfT _ (0, 0) _ HS1.out.r Tryd.underlying38 rfl (iRf _) ?_)
  refine (HW.out _).mono ?_
  rintro e w2 ⟨rfl, hb⟩
  have HS2 := Lib.hid (HS1.out.low hb)
  clear hb HS1 HW
  go_wp2_with fail
  refine (HL.out _).mono ?_
  rintro e w3 ⟨rfl, hb⟩
  have HS3 := Lib.hid (HS2.out.low hb)
  clear hb HS2 HL
  go_upto_region 4 with fail
  go_wp2_with (refine wpList_load_row rfl RfT _ rfl w.heap.size rfl RfT _ (0, 0) _ HS3.out.r Tryd.underlying38 rfl (iRf _) ?_)
  refine (HP.out _).mono ?_
  rintro e w4 ⟨rfl, hb⟩
  have HS4 := Lib.hid (HS3.out.low hb)
  clear hb HS3 HP
  go_upto_region 7 with (refine wpList_store_row rfl RfT _ _ rfl w.heap.size (refV u) rfl rfl RfT _ HS4.out.r (iRf _) (by rw [refV_size, refV_size]) (rfV_one _) ?_)
  have HS5 := Lib.hid (HS4.out.put u)
  clear HS4
  generalize w4.setRow w.heap.size (refV u) = wa at *
  have h1 : CsAt wa.drew w.heap.size RfT (refV u) := HS5.out.r
  have h3 := HS5.out.drew
  refine wp_region_noPanic ?_
  refine wp_region_held (S := fun V => CsAt V w.heap.size RfT (refV u)) (by kernel_rfl) ?_
  refine takeH (fuel := 6) (i := 0) (.agg (refV u)) ?_ rfl (by kernel_rfl) (by kernel_rfl) (by kernel_rfl) (fun _ _ _ h => h) (by kernel_rfl) (fun W hS => exec_load_row RfT _ rfl w.heap.size rfl RfT _ _ hS Tryd.underlying38 rfl (iRf _)) h1 ?_ ?_
  rotate_left 1
  · go_simp
    exact rfl
  refine takeH (fuel := 5) (i := 1) (.int .i64 pp) ?_ rfl (by kernel_rfl) (by kernel_rfl) (by kernel_rfl) (fun _ _ _ h => h) (by kernel_rfl) (fun W hS => by go_simp) h1 ?_ ?_
  rotate_left 1
  · go_simp
    exact rfl
  refine takeH (fuel := 4) (i := 2) (.agg (refV u)) ?_ rfl (by kernel_rfl) (by kernel_rfl) (by kernel_rfl) (fun _ _ _ h => h) (by kernel_rfl) (fun W hS => exec_load_row RfT _ rfl w.heap.size rfl RfT _ _ hS Tryd.underlying38 rfl (iRf _)) h1 ?_ ?_
  rotate_left 1
  · go_simp
    exact rfl
  refine wpAnyH_all (fuel := 3) (rs := [3]) (by kernel_rfl) (by decide) ?_
  intro i hi
  obtain rfl : i = 3 := by simpa using hi
  refine wpOp_callX 35 #[.agg (refV u), .string ⟨#[109, 101, 112, 99]⟩] rfl (by kernel_rfl) (by go_simp) ?_
  refine (HE.out _).mono ?_
  rintro e wc ⟨rfl, hb⟩
  replace h1 := h1.low hb
  replace h3 := h3.low hb
  clear hb
  refine ⟨_, rfl, h1, ?_⟩
  refine wpAnyH_all (fuel := 2) (rs := [4]) (by kernel_rfl) (by decide) ?_
  intro i hi
  obtain rfl : i = 4 := by simpa using hi
  refine wpOp_unitB (wc.setRow (w.heap.size + 1) (refV u)) _ rfl (by kernel_rfl) (exec_store_row RfT _ _ rfl (w.heap.size + 1) (refV u) rfl rfl RfT _ h3.z (iRf _) (by rw [refV_size, refV_size]) (rfV_one _)) rfl ?_
  have k1 := h1.rowFar (show w.heap.size ≠ w.heap.size + 1 by omega) (refV u)
  have HZ := Lib.hid (h3.z.row (refV u))
  have HBL := Lib.hid (below_setRow h3.bel (show w.heap.size ≤ w.heap.size + 1 by omega) (refV u))
  refine ⟨k1, ?_⟩
  refine takeH (fuel := 1) (i := 5) (.int .i64 pp) ?_ rfl (by kernel_rfl) (by kernel_rfl) (by kernel_rfl) (fun _ _ _ h => h) (by kernel_rfl) (fun W hS => by go_simp) k1 ?_ ?_
  rotate_left 1
  · go_simp
    exact rfl
  refine takeH (fuel := 0) (i := 6) (.int .u64 va) ?_ rfl (by kernel_rfl) (by kernel_rfl) (by kernel_rfl) (fun _ _ _ h => h) (by kernel_rfl) (fun W hS => by go_simp) k1 ?_ ?_
  rotate_left 1
  · go_simp
    exact rfl
  refine wpAnyH_done (by kernel_rfl) ?_ _
  refine NoPanic.normal ?_
  generalize wc.setRow (w.heap.size + 1) (refV u) = wz at *
  clear h1 h3 k1
  go_wp2_with fail
  exact bodyPost_ret (results_cbbF RfT Tryd.results16 _ wz (w.heap.size + 1) (refV u) (.int .i64 pp) (.int .u64 va) rfl rfl rfl (run_loadVar_row _ _ RfT RfT _ (0, 0) _ HZ.out Tryd.underlying38 rfl (iRf _))) rfl ⟨rfl, HBL.out⟩
set_option maxHeartbeats 4000000 in
theorem rlv1_c (s : S) (ok : Ok s) (w : World) : Calls Tryd.prog 16 #[.agg (refV s), .int .i64 1] w fun e w' => e = .returned (.tuple #[.agg (refV (backS s 1)), .int .i64 (leaveP (s.f 768) 1), .int .u64 (backA (backS s 1) 1)]) ∧ Below w.heap.size w w' := by
  have HS1 := Lib.hid (RtS.new w s)
  have HW := Lib.hid (fun W => rword_c s ⟨#[109, 115, 116, 97, 116, 117, 115]⟩ 10 (by decide) nc_mstatus W)
  rw [show ((((rowC 10).1 : Nat) : Int)) = 768 from rfl] at HW
  have HL := Lib.hid (fun W => rleave_c (s.f 768) 1 (ok.w _) W)
  have HP := Lib.hid (fun W => rWith_c s ⟨#[109, 115, 116, 97, 116, 117, 115]⟩ (leaveV (s.f 768) 1) 10 (by decide) nc_mstatus W)
  rw [show ((((rowC 10).1 : Nat) : Int)) = 768 from rfl, show s.put 768 (leaveV (s.f 768) 1) = backS s 1 from rfl] at HP
  have HE := Lib.hid (fun W => rword_c (backS s 1) ⟨#[115, 101, 112, 99]⟩ 5 (by decide) nd_sepc W)
  rw [show ((((rowC 5).1 : Nat) : Int)) = 321 from rfl] at HE
  have hba : backA (backS s 1) 1 = (backS s 1).f 321 := rfl
  rw [hba]
  clear hba ok
  generalize leaveV (s.f 768) 1 = x at *
  generalize leaveP (s.f 768) 1 = pp at *
  generalize s.f 768 = y at *
  generalize backS s 1 = u at *
  generalize u.f 321 = va at *
  go_enter Tryd.func16, Tryd.ntmps16
  go_upto_region 1 with (refine wpList_allocY rfl _ rfl RfT rfl (refV (zero 0)) (zero_rf _) ?_)
  generalize ((w.alloc (.cells (refV s) RfT)).alloc (.cells (refV (zero 0)) RfT)) = w1 at *
  go_upto_region 3 with fail
  go_wp2_with (refine wpList_load_row rfl RfT _ rfl w.heap.size rfl RfT _ (0, 0) _ HS1.out.r Tryd.underlying38 rfl (iRf _) ?_)
  refine (HW.out _).mono ?_
  rintro e w2 ⟨rfl, hb⟩
  have HS2 := Lib.hid (HS1.out.low hb)
  clear hb HS1 HW
  go_wp2_with fail
  refine (HL.out _).mono ?_
  rintro e w3 ⟨rfl, hb⟩
  have HS3 := Lib.hid (HS2.out.low hb)
  clear hb HS2 HL
  go_upto_region 4 with fail
  go_wp2_with (refine wpList_load_row rfl RfT _ rfl w.heap.size rfl RfT _ (0, 0) _ HS3.out.r Tryd.underlying38 rfl (iRf _) ?_)
  refine (HP.out _).mono ?_
  rintro e w4 ⟨rfl, hb⟩
  have HS4 := Lib.hid (HS3.out.low hb)
  clear hb HS3 HP
  go_upto_region 6 with (refine wpList_store_row rfl RfT _ _ rfl w.heap.size (refV u) rfl rfl RfT _ HS4.out.r (iRf _) (by rw [refV_size, refV_size]) (rfV_one _) ?_)
  have HS5 := Lib.hid (HS4.out.put u)
  clear HS4
  generalize w4.setRow w.heap.size (refV u) = wa at *
  have h1 : CsAt wa.drew w.heap.size RfT (refV u) := HS5.out.r
  have h3 := HS5.out.drew
  refine wp_region_noPanic ?_
  refine wp_region_held (S := fun V => CsAt V w.heap.size RfT (refV u)) (by kernel_rfl) ?_
  refine takeH (fuel := 6) (i := 0) (.agg (refV u)) ?_ rfl (by kernel_rfl) (by kernel_rfl) (by kernel_rfl) (fun _ _ _ h => h) (by kernel_rfl) (fun W hS => exec_load_row RfT _ rfl w.heap.size rfl RfT _ _ hS Tryd.underlying38 rfl (iRf _)) h1 ?_ ?_
  rotate_left 1
  · go_simp
    exact rfl
  refine takeH (fuel := 5) (i := 1) (.int .i64 pp) ?_ rfl (by kernel_rfl) (by kernel_rfl) (by kernel_rfl) (fun _ _ _ h => h) (by kernel_rfl) (fun W hS => by go_simp) h1 ?_ ?_
  rotate_left 1
  · go_simp
    exact rfl
  refine takeH (fuel := 4) (i := 2) (.agg (refV u)) ?_ rfl (by kernel_rfl) (by kernel_rfl) (by kernel_rfl) (fun _ _ _ h => h) (by kernel_rfl) (fun W hS => exec_load_row RfT _ rfl w.heap.size rfl RfT _ _ hS Tryd.underlying38 rfl (iRf _)) h1 ?_ ?_
  rotate_left 1
  · go_simp
    exact rfl
  refine wpAnyH_all (fuel := 3) (rs := [3]) (by kernel_rfl) (by decide) ?_
  intro i hi
  obtain rfl : i = 3 := by simpa using hi
  refine wpOp_callX 35 #[.agg (refV u), .string ⟨#[115, 101, 112, 99]⟩] rfl (by kernel_rfl) (by go_simp) ?_
  refine (HE.out _).mono ?_
  rintro e wc ⟨rfl, hb⟩
  replace h1 := h1.low hb
  replace h3 := h3.low hb
  clear hb
  refine ⟨_, rfl, h1, ?_⟩
  refine wpAnyH_all (fuel := 2) (rs := [4]) (by kernel_rfl) (by decide) ?_
  intro i hi
  obtain rfl : i = 4 := by simpa using hi
  refine wpOp_unitB (wc.setRow (w.heap.size + 1) (refV u)) _ rfl (by kernel_rfl) (exec_store_row RfT _ _ rfl (w.heap.size + 1) (refV u) rfl rfl RfT _ h3.z (iRf _) (by rw [refV_size, refV_size]) (rfV_one _)) rfl ?_
  have k1 := h1.rowFar (show w.heap.size ≠ w.heap.size + 1 by omega) (refV u)
  have HZ := Lib.hid (h3.z.row (refV u))
  have HBL := Lib.hid (below_setRow h3.bel (show w.heap.size ≤ w.heap.size + 1 by omega) (refV u))
  refine ⟨k1, ?_⟩
  refine takeH (fuel := 1) (i := 5) (.int .i64 pp) ?_ rfl (by kernel_rfl) (by kernel_rfl) (by kernel_rfl) (fun _ _ _ h => h) (by kernel_rfl) (fun W hS => by go_simp) k1 ?_ ?_
  rotate_left 1
  · go_simp
    exact rfl
  refine takeH (fuel := 0) (i := 6) (.int .u64 va) ?_ rfl (by kernel_rfl) (by kernel_rfl) (by kernel_rfl) (fun _ _ _ h => h) (by kernel_rfl) (fun W hS => by go_simp) k1 ?_ ?_
  rotate_left 1
  · go_simp
    exact rfl
  refine wpAnyH_done (by kernel_rfl) ?_ _
  refine NoPanic.normal ?_
  generalize wc.setRow (w.heap.size + 1) (refV u) = wz at *
  clear h1 h3 k1
  go_wp2_with fail
  exact bodyPost_ret (results_cbbF RfT Tryd.results16 _ wz (w.heap.size + 1) (refV u) (.int .i64 pp) (.int .u64 va) rfl rfl rfl (run_loadVar_row _ _ RfT RfT _ (0, 0) _ HZ.out Tryd.underlying38 rfl (iRf _))) rfl ⟨rfl, HBL.out⟩
theorem rlv_c (s : S) (ok : Ok s) (a : Int) (w : World) : Calls Tryd.prog 16 #[.agg (refV s), .int .i64 a] w fun e w' => e = .returned (.tuple #[.agg (refV (backS s a)), .int .i64 (leaveP (s.f 768) a), .int .u64 (backA (backS s a) a)]) ∧ Below w.heap.size w w' := by
  by_cases h3 : a = 3
  · subst h3; exact rlv3_c s ok w
  · by_cases h1 : a = 1
    · subst h1; exact rlv1_c s ok w
    · have e1 : leaveP (s.f 768) a = 0 := by unfold leaveP; rw [if_neg h3, if_neg h1]
      have e2 : backS s a = s := if_neg (by omega)
      have e3 : backA s a = 0 := by unfold backA; rw [if_neg h3, if_neg h1]
      rw [e1, e2, e3]
      exact rlv0_c s a h3 h1 w
end Go.Proofs.YtkbgmppbkllnmaaDoor
