/-
  The reference of layer 22: New, Get.
-/
import Derived.Test.YtfjdalepaacmgaaDoorCfF
set_option maxRecDepth 20000
namespace Go.Proofs.YtfjdalepaacmgaaDoor
open Go.ChangeShapes Go.WideShapes Go.ChangeAt Go.RowKit Wd Csr Sta Cf

theorem nc_mstatus : numC ⟨#[109, 115, 116, 97, 116, 117, 115]⟩ = ((rowC 10).1 : Nat) := by kernel_rfl
theorem nc_mideleg : numC ⟨#[109, 105, 100, 101, 108, 101, 103]⟩ = ((rowC 13).1 : Nat) := by kernel_rfl
theorem nc_mie : numC ⟨#[109, 105, 101]⟩ = ((rowC 14).1 : Nat) := by kernel_rfl
theorem nc_mip : numC ⟨#[109, 105, 112]⟩ = ((rowC 21).1 : Nat) := by kernel_rfl
theorem nc_mcycle : numC ⟨#[109, 99, 121, 99, 108, 101]⟩ = ((rowC 25).1 : Nat) := by kernel_rfl
theorem nc_minstret : numC ⟨#[109, 105, 110, 115, 116, 114, 101, 116]⟩ = ((rowC 26).1 : Nat) := by kernel_rfl
theorem nc_mcounteren : numC ⟨#[109, 99, 111, 117, 110, 116, 101, 114, 101, 110]⟩ = ((rowC 16).1 : Nat) := by kernel_rfl
theorem nc_scounteren : numC ⟨#[115, 99, 111, 117, 110, 116, 101, 114, 101, 110]⟩ = ((rowC 3).1 : Nat) := by kernel_rfl
set_option maxHeartbeats 2000000 in
theorem rnew22_c (h : Int) (w : World) : Calls Tryd.prog 31 #[.int .i64 h] w fun e w' => e = .returned (.agg (refV (new h))) ∧ Below w.heap.size w w' := by
  have hB : Below w.heap.size w (w.alloc (.cells (refV (zero 0)) RfT)) := (Below.refl _ _).alloc (Nat.le_refl _) _
  have HB := Lib.hid hB
  have HZ := Lib.hid (CsAt.new w RfT (refV (zero 0)))
  have HW := Lib.hid (fun W => rwith_c (zero h) ⟨#[109, 115, 116, 97, 116, 117, 115]⟩ 42949672960 10 (by decide) nc_mstatus W)
  rw [show ((zero h).put (((rowC 10).1 : Nat) : Int) 42949672960) = new h from rfl] at HW
  clear hB
  go_enter Tryd.func31, Tryd.ntmps31
  go_upto_region 1 with (refine wpList_allocY rfl _ rfl RfT rfl (refV (zero 0)) (zero_rf _) ?_)
  generalize (w.alloc (.cells (refV (zero 0)) RfT)) = w1 at *
  go_wp2_with (refine wpList_buildTo rfl RfT _ rfl _ rfl (refV (zero h)) ((congrArg (Tryd.prog.built RfT) (show _ = [(0, Value.int .i64 h)] by kernel_rfl)).trans (built_rf h)) ?_)
  refine (HW.out _).mono ?_
  rintro e w2 ⟨rfl, hb⟩
  have HZ2 := Lib.hid (HZ.out.low hb)
  have HB2 := Lib.hid (HB.out.trans (hb.mono HB.out.size))
  clear hb
  go_wp2_with (refine wpList_store_row rfl RfT _ _ rfl w.heap.size (refV (new h)) rfl rfl RfT _ HZ2.out (iRf _) (by rw [refV_size, refV_size]) (rfV_one _) ?_)
  exact bodyPost_ret (results_cell_row Tryd.results31 _ _ _ _ _ _ _ rfl (HZ2.out.row _) Tryd.underlying58 rfl (iRf _)) rfl ⟨rfl, below_setRow HB2.out (Nat.le_refl _) _⟩
/-- What stands while the reference reads: its file in a box. -/
structure RgS (w W : World) (s : S) : Prop where
  r : CsAt W w.heap.size RfT (refV s)
  bel : Below w.heap.size w W
theorem RgS.low {w W W' : World} {s : S} (h : RgS w W s) (hb : Below W.heap.size W W') : RgS w W' s := ⟨h.r.low hb, h.bel.trans (hb.mono h.bel.size)⟩
theorem RgS.drew {w W : World} {s : S} (h : RgS w W s) : RgS w W.drew s := ⟨h.r, h.bel.drew⟩
set_option maxHeartbeats 4000000 in
theorem rg_0 (s : S) (ok : Ok s) (n l a m : Int) (nm : ByteArray) (hl : W64 l) (hOf : rAgg (ofN n) = .agg #[.int .i64 a, .string nm, .int .u64 m]) (e0 : (nm.toList == []) = true) (w : World) :
    Calls Tryd.prog 60 #[.agg (refV s), .int .i64 n, .int .u64 l] w fun e w' => e = .returned (.int .u64 (0)) ∧ Below w.heap.size w w' := by
  have HS1 := Lib.hid (show RgS w (w.alloc (.cells (refV s) RfT)) s from ⟨CsAt.new w RfT _, (Below.refl _ _).alloc (Nat.le_refl _) _⟩)
  have HO := Lib.hid (fun W => rof_c n W)
  rw [hOf] at HO
  have f1 := fld_rr1 a nm m
  go_enter Tryd.func60, Tryd.ntmps60
  go_upto_region 1 with fail
  generalize w.alloc (.cells (refV s) RfT) = w1 at *
  go_wp2_with (refine wpList_load_row rfl RfT _ rfl w.heap.size rfl RfT _ (0, 0) _ HS1.out.r Tryd.underlying58 rfl (iRf _) ?_)
  refine ((rword_c s ⟨#[109, 105, 112]⟩ 21 (by decide) nc_mip _)).mono ?_
  rintro e w2 ⟨rfl, hb⟩
  have HS2 := Lib.hid (HS1.out.low hb)
  clear hb
  go_wp2_with (refine wpList_load_row rfl RfT _ rfl w.heap.size rfl RfT _ (0, 0) _ HS2.out.r Tryd.underlying58 rfl (iRf _) ?_)
  refine (rand_c l 2696 hl ⟨by omega, by omega⟩ _).mono ?_
  rintro e w3 ⟨rfl, hb⟩
  have HS3 := Lib.hid (HS2.out.low hb)
  clear hb
  go_wp2_with (refine wpList_load_row rfl RfT _ rfl w.heap.size rfl RfT _ (0, 0) _ HS3.out.r Tryd.underlying58 rfl (iRf _) ?_)
  refine (ror_c (s.f 836) (bits .and .u64 l 2696) (ok.w _) (and_64 hl ⟨by omega, by omega⟩) _).mono ?_
  rintro e w4 ⟨rfl, hb⟩
  have HS4 := Lib.hid (HS3.out.low hb)
  clear hb
  rw [show bits .or .u64 (s.f 836) (bits .and .u64 l 2696) = pendS s l from rfl]
  go_wp2_with (refine wpList_load_row rfl RfT _ rfl w.heap.size rfl RfT _ (0, 0) _ HS4.out.r Tryd.underlying58 rfl (iRf _) ?_)
  refine (HO.out _).mono ?_
  rintro e w5 ⟨rfl, hb⟩
  have HS5 := Lib.hid (HS4.out.low hb)
  clear hb
  go_wp2_with (refine wpList_load_row rfl RfT _ rfl w.heap.size rfl RfT _ (0, 0) _ HS5.out.r Tryd.underlying58 rfl (iRf _) ?_)
  go_ret
  exact ⟨rfl, HS5.out.bel⟩
set_option maxHeartbeats 4000000 in
theorem rg_1 (s : S) (ok : Ok s) (n l a m : Int) (nm : ByteArray) (hl : W64 l) (hOf : rAgg (ofN n) = .agg #[.int .i64 a, .string nm, .int .u64 m]) (e0 : (nm.toList == []) = false) (e1 : (nm.toList == [116, 105, 109, 101]) = true) (w : World) :
    Calls Tryd.prog 60 #[.agg (refV s), .int .i64 n, .int .u64 l] w fun e w' => e = .returned (.int .u64 (0)) ∧ Below w.heap.size w w' := by
  have HS1 := Lib.hid (show RgS w (w.alloc (.cells (refV s) RfT)) s from ⟨CsAt.new w RfT _, (Below.refl _ _).alloc (Nat.le_refl _) _⟩)
  have HO := Lib.hid (fun W => rof_c n W)
  rw [hOf] at HO
  have f1 := fld_rr1 a nm m
  go_enter Tryd.func60, Tryd.ntmps60
  go_upto_region 1 with fail
  generalize w.alloc (.cells (refV s) RfT) = w1 at *
  go_wp2_with (refine wpList_load_row rfl RfT _ rfl w.heap.size rfl RfT _ (0, 0) _ HS1.out.r Tryd.underlying58 rfl (iRf _) ?_)
  refine ((rword_c s ⟨#[109, 105, 112]⟩ 21 (by decide) nc_mip _)).mono ?_
  rintro e w2 ⟨rfl, hb⟩
  have HS2 := Lib.hid (HS1.out.low hb)
  clear hb
  go_wp2_with (refine wpList_load_row rfl RfT _ rfl w.heap.size rfl RfT _ (0, 0) _ HS2.out.r Tryd.underlying58 rfl (iRf _) ?_)
  refine (rand_c l 2696 hl ⟨by omega, by omega⟩ _).mono ?_
  rintro e w3 ⟨rfl, hb⟩
  have HS3 := Lib.hid (HS2.out.low hb)
  clear hb
  go_wp2_with (refine wpList_load_row rfl RfT _ rfl w.heap.size rfl RfT _ (0, 0) _ HS3.out.r Tryd.underlying58 rfl (iRf _) ?_)
  refine (ror_c (s.f 836) (bits .and .u64 l 2696) (ok.w _) (and_64 hl ⟨by omega, by omega⟩) _).mono ?_
  rintro e w4 ⟨rfl, hb⟩
  have HS4 := Lib.hid (HS3.out.low hb)
  clear hb
  rw [show bits .or .u64 (s.f 836) (bits .and .u64 l 2696) = pendS s l from rfl]
  go_wp2_with (refine wpList_load_row rfl RfT _ rfl w.heap.size rfl RfT _ (0, 0) _ HS4.out.r Tryd.underlying58 rfl (iRf _) ?_)
  refine (HO.out _).mono ?_
  rintro e w5 ⟨rfl, hb⟩
  have HS5 := Lib.hid (HS4.out.low hb)
  clear hb
  go_wp2_with (refine wpList_load_row rfl RfT _ rfl w.heap.size rfl RfT _ (0, 0) _ HS5.out.r Tryd.underlying58 rfl (iRf _) ?_)
  go_ret
  exact ⟨rfl, HS5.out.bel⟩
set_option maxHeartbeats 4000000 in
theorem rg_2 (s : S) (ok : Ok s) (n l a m : Int) (nm : ByteArray) (hl : W64 l) (hOf : rAgg (ofN n) = .agg #[.int .i64 a, .string nm, .int .u64 m]) (e0 : (nm.toList == []) = false) (e1 : (nm.toList == [116, 105, 109, 101]) = false) (e2 : (nm.toList == [115, 104, 111, 111, 116]) = true) (w : World) :
    Calls Tryd.prog 60 #[.agg (refV s), .int .i64 n, .int .u64 l] w fun e w' => e = .returned (.int .u64 (0)) ∧ Below w.heap.size w w' := by
  have HS1 := Lib.hid (show RgS w (w.alloc (.cells (refV s) RfT)) s from ⟨CsAt.new w RfT _, (Below.refl _ _).alloc (Nat.le_refl _) _⟩)
  have HO := Lib.hid (fun W => rof_c n W)
  rw [hOf] at HO
  have f1 := fld_rr1 a nm m
  go_enter Tryd.func60, Tryd.ntmps60
  go_upto_region 1 with fail
  generalize w.alloc (.cells (refV s) RfT) = w1 at *
  go_wp2_with (refine wpList_load_row rfl RfT _ rfl w.heap.size rfl RfT _ (0, 0) _ HS1.out.r Tryd.underlying58 rfl (iRf _) ?_)
  refine ((rword_c s ⟨#[109, 105, 112]⟩ 21 (by decide) nc_mip _)).mono ?_
  rintro e w2 ⟨rfl, hb⟩
  have HS2 := Lib.hid (HS1.out.low hb)
  clear hb
  go_wp2_with (refine wpList_load_row rfl RfT _ rfl w.heap.size rfl RfT _ (0, 0) _ HS2.out.r Tryd.underlying58 rfl (iRf _) ?_)
  refine (rand_c l 2696 hl ⟨by omega, by omega⟩ _).mono ?_
  rintro e w3 ⟨rfl, hb⟩
  have HS3 := Lib.hid (HS2.out.low hb)
  clear hb
  go_wp2_with (refine wpList_load_row rfl RfT _ rfl w.heap.size rfl RfT _ (0, 0) _ HS3.out.r Tryd.underlying58 rfl (iRf _) ?_)
  refine (ror_c (s.f 836) (bits .and .u64 l 2696) (ok.w _) (and_64 hl ⟨by omega, by omega⟩) _).mono ?_
  rintro e w4 ⟨rfl, hb⟩
  have HS4 := Lib.hid (HS3.out.low hb)
  clear hb
  rw [show bits .or .u64 (s.f 836) (bits .and .u64 l 2696) = pendS s l from rfl]
  go_wp2_with (refine wpList_load_row rfl RfT _ rfl w.heap.size rfl RfT _ (0, 0) _ HS4.out.r Tryd.underlying58 rfl (iRf _) ?_)
  refine (HO.out _).mono ?_
  rintro e w5 ⟨rfl, hb⟩
  have HS5 := Lib.hid (HS4.out.low hb)
  clear hb
  go_wp2_with (refine wpList_load_row rfl RfT _ rfl w.heap.size rfl RfT _ (0, 0) _ HS5.out.r Tryd.underlying58 rfl (iRf _) ?_)
  go_ret
  exact ⟨rfl, HS5.out.bel⟩
set_option maxHeartbeats 4000000 in
theorem rg_3 (s : S) (ok : Ok s) (n l a m : Int) (nm : ByteArray) (hl : W64 l) (hOf : rAgg (ofN n) = .agg #[.int .i64 a, .string nm, .int .u64 m]) (e0 : (nm.toList == []) = false) (e1 : (nm.toList == [116, 105, 109, 101]) = false) (e2 : (nm.toList == [115, 104, 111, 111, 116]) = false) (e3 : (nm.toList == [109, 118, 101, 110, 100, 111, 114, 105, 100]) = true) (w : World) :
    Calls Tryd.prog 60 #[.agg (refV s), .int .i64 n, .int .u64 l] w fun e w' => e = .returned (.int .u64 (0)) ∧ Below w.heap.size w w' := by
  have HS1 := Lib.hid (show RgS w (w.alloc (.cells (refV s) RfT)) s from ⟨CsAt.new w RfT _, (Below.refl _ _).alloc (Nat.le_refl _) _⟩)
  have HO := Lib.hid (fun W => rof_c n W)
  rw [hOf] at HO
  have f1 := fld_rr1 a nm m
  go_enter Tryd.func60, Tryd.ntmps60
  go_upto_region 1 with fail
  generalize w.alloc (.cells (refV s) RfT) = w1 at *
  go_wp2_with (refine wpList_load_row rfl RfT _ rfl w.heap.size rfl RfT _ (0, 0) _ HS1.out.r Tryd.underlying58 rfl (iRf _) ?_)
  refine ((rword_c s ⟨#[109, 105, 112]⟩ 21 (by decide) nc_mip _)).mono ?_
  rintro e w2 ⟨rfl, hb⟩
  have HS2 := Lib.hid (HS1.out.low hb)
  clear hb
  go_wp2_with (refine wpList_load_row rfl RfT _ rfl w.heap.size rfl RfT _ (0, 0) _ HS2.out.r Tryd.underlying58 rfl (iRf _) ?_)
  refine (rand_c l 2696 hl ⟨by omega, by omega⟩ _).mono ?_
  rintro e w3 ⟨rfl, hb⟩
  have HS3 := Lib.hid (HS2.out.low hb)
  clear hb
  go_wp2_with (refine wpList_load_row rfl RfT _ rfl w.heap.size rfl RfT _ (0, 0) _ HS3.out.r Tryd.underlying58 rfl (iRf _) ?_)
  refine (ror_c (s.f 836) (bits .and .u64 l 2696) (ok.w _) (and_64 hl ⟨by omega, by omega⟩) _).mono ?_
  rintro e w4 ⟨rfl, hb⟩
  have HS4 := Lib.hid (HS3.out.low hb)
  clear hb
  rw [show bits .or .u64 (s.f 836) (bits .and .u64 l 2696) = pendS s l from rfl]
  go_wp2_with (refine wpList_load_row rfl RfT _ rfl w.heap.size rfl RfT _ (0, 0) _ HS4.out.r Tryd.underlying58 rfl (iRf _) ?_)
  refine (HO.out _).mono ?_
  rintro e w5 ⟨rfl, hb⟩
  have HS5 := Lib.hid (HS4.out.low hb)
  clear hb
  go_wp2_with (refine wpList_load_row rfl RfT _ rfl w.heap.size rfl RfT _ (0, 0) _ HS5.out.r Tryd.underlying58 rfl (iRf _) ?_)
  go_ret
  exact ⟨rfl, HS5.out.bel⟩
set_option maxHeartbeats 4000000 in
theorem rg_4 (s : S) (ok : Ok s) (n l a m : Int) (nm : ByteArray) (hl : W64 l) (hOf : rAgg (ofN n) = .agg #[.int .i64 a, .string nm, .int .u64 m]) (e0 : (nm.toList == []) = false) (e1 : (nm.toList == [116, 105, 109, 101]) = false) (e2 : (nm.toList == [115, 104, 111, 111, 116]) = false) (e3 : (nm.toList == [109, 118, 101, 110, 100, 111, 114, 105, 100]) = false) (e4 : (nm.toList == [109, 97, 114, 99, 104, 105, 100]) = true) (w : World) :
    Calls Tryd.prog 60 #[.agg (refV s), .int .i64 n, .int .u64 l] w fun e w' => e = .returned (.int .u64 (0)) ∧ Below w.heap.size w w' := by
  have HS1 := Lib.hid (show RgS w (w.alloc (.cells (refV s) RfT)) s from ⟨CsAt.new w RfT _, (Below.refl _ _).alloc (Nat.le_refl _) _⟩)
  have HO := Lib.hid (fun W => rof_c n W)
  rw [hOf] at HO
  have f1 := fld_rr1 a nm m
  go_enter Tryd.func60, Tryd.ntmps60
  go_upto_region 1 with fail
  generalize w.alloc (.cells (refV s) RfT) = w1 at *
  go_wp2_with (refine wpList_load_row rfl RfT _ rfl w.heap.size rfl RfT _ (0, 0) _ HS1.out.r Tryd.underlying58 rfl (iRf _) ?_)
  refine ((rword_c s ⟨#[109, 105, 112]⟩ 21 (by decide) nc_mip _)).mono ?_
  rintro e w2 ⟨rfl, hb⟩
  have HS2 := Lib.hid (HS1.out.low hb)
  clear hb
  go_wp2_with (refine wpList_load_row rfl RfT _ rfl w.heap.size rfl RfT _ (0, 0) _ HS2.out.r Tryd.underlying58 rfl (iRf _) ?_)
  refine (rand_c l 2696 hl ⟨by omega, by omega⟩ _).mono ?_
  rintro e w3 ⟨rfl, hb⟩
  have HS3 := Lib.hid (HS2.out.low hb)
  clear hb
  go_wp2_with (refine wpList_load_row rfl RfT _ rfl w.heap.size rfl RfT _ (0, 0) _ HS3.out.r Tryd.underlying58 rfl (iRf _) ?_)
  refine (ror_c (s.f 836) (bits .and .u64 l 2696) (ok.w _) (and_64 hl ⟨by omega, by omega⟩) _).mono ?_
  rintro e w4 ⟨rfl, hb⟩
  have HS4 := Lib.hid (HS3.out.low hb)
  clear hb
  rw [show bits .or .u64 (s.f 836) (bits .and .u64 l 2696) = pendS s l from rfl]
  go_wp2_with (refine wpList_load_row rfl RfT _ rfl w.heap.size rfl RfT _ (0, 0) _ HS4.out.r Tryd.underlying58 rfl (iRf _) ?_)
  refine (HO.out _).mono ?_
  rintro e w5 ⟨rfl, hb⟩
  have HS5 := Lib.hid (HS4.out.low hb)
  clear hb
  go_wp2_with (refine wpList_load_row rfl RfT _ rfl w.heap.size rfl RfT _ (0, 0) _ HS5.out.r Tryd.underlying58 rfl (iRf _) ?_)
  go_ret
  exact ⟨rfl, HS5.out.bel⟩
set_option maxHeartbeats 4000000 in
theorem rg_5 (s : S) (ok : Ok s) (n l a m : Int) (nm : ByteArray) (hl : W64 l) (hOf : rAgg (ofN n) = .agg #[.int .i64 a, .string nm, .int .u64 m]) (e0 : (nm.toList == []) = false) (e1 : (nm.toList == [116, 105, 109, 101]) = false) (e2 : (nm.toList == [115, 104, 111, 111, 116]) = false) (e3 : (nm.toList == [109, 118, 101, 110, 100, 111, 114, 105, 100]) = false) (e4 : (nm.toList == [109, 97, 114, 99, 104, 105, 100]) = false) (e5 : (nm.toList == [109, 105, 109, 112, 105, 100]) = true) (w : World) :
    Calls Tryd.prog 60 #[.agg (refV s), .int .i64 n, .int .u64 l] w fun e w' => e = .returned (.int .u64 (0)) ∧ Below w.heap.size w w' := by
  have HS1 := Lib.hid (show RgS w (w.alloc (.cells (refV s) RfT)) s from ⟨CsAt.new w RfT _, (Below.refl _ _).alloc (Nat.le_refl _) _⟩)
  have HO := Lib.hid (fun W => rof_c n W)
  rw [hOf] at HO
  have f1 := fld_rr1 a nm m
  go_enter Tryd.func60, Tryd.ntmps60
  go_upto_region 1 with fail
  generalize w.alloc (.cells (refV s) RfT) = w1 at *
  go_wp2_with (refine wpList_load_row rfl RfT _ rfl w.heap.size rfl RfT _ (0, 0) _ HS1.out.r Tryd.underlying58 rfl (iRf _) ?_)
  refine ((rword_c s ⟨#[109, 105, 112]⟩ 21 (by decide) nc_mip _)).mono ?_
  rintro e w2 ⟨rfl, hb⟩
  have HS2 := Lib.hid (HS1.out.low hb)
  clear hb
  go_wp2_with (refine wpList_load_row rfl RfT _ rfl w.heap.size rfl RfT _ (0, 0) _ HS2.out.r Tryd.underlying58 rfl (iRf _) ?_)
  refine (rand_c l 2696 hl ⟨by omega, by omega⟩ _).mono ?_
  rintro e w3 ⟨rfl, hb⟩
  have HS3 := Lib.hid (HS2.out.low hb)
  clear hb
  go_wp2_with (refine wpList_load_row rfl RfT _ rfl w.heap.size rfl RfT _ (0, 0) _ HS3.out.r Tryd.underlying58 rfl (iRf _) ?_)
  refine (ror_c (s.f 836) (bits .and .u64 l 2696) (ok.w _) (and_64 hl ⟨by omega, by omega⟩) _).mono ?_
  rintro e w4 ⟨rfl, hb⟩
  have HS4 := Lib.hid (HS3.out.low hb)
  clear hb
  rw [show bits .or .u64 (s.f 836) (bits .and .u64 l 2696) = pendS s l from rfl]
  go_wp2_with (refine wpList_load_row rfl RfT _ rfl w.heap.size rfl RfT _ (0, 0) _ HS4.out.r Tryd.underlying58 rfl (iRf _) ?_)
  refine (HO.out _).mono ?_
  rintro e w5 ⟨rfl, hb⟩
  have HS5 := Lib.hid (HS4.out.low hb)
  clear hb
  go_wp2_with (refine wpList_load_row rfl RfT _ rfl w.heap.size rfl RfT _ (0, 0) _ HS5.out.r Tryd.underlying58 rfl (iRf _) ?_)
  go_ret
  exact ⟨rfl, HS5.out.bel⟩
set_option maxHeartbeats 4000000 in
theorem rg_6 (s : S) (ok : Ok s) (n l a m : Int) (nm : ByteArray) (hl : W64 l) (hOf : rAgg (ofN n) = .agg #[.int .i64 a, .string nm, .int .u64 m]) (e0 : (nm.toList == []) = false) (e1 : (nm.toList == [116, 105, 109, 101]) = false) (e2 : (nm.toList == [115, 104, 111, 111, 116]) = false) (e3 : (nm.toList == [109, 118, 101, 110, 100, 111, 114, 105, 100]) = false) (e4 : (nm.toList == [109, 97, 114, 99, 104, 105, 100]) = false) (e5 : (nm.toList == [109, 105, 109, 112, 105, 100]) = false) (e6 : (nm.toList == [115, 115, 116, 97, 116, 117, 115]) = true) (w : World) :
    Calls Tryd.prog 60 #[.agg (refV s), .int .i64 n, .int .u64 l] w fun e w' => e = .returned (.int .u64 (viewS (s.f 768))) ∧ Below w.heap.size w w' := by
  have HS1 := Lib.hid (show RgS w (w.alloc (.cells (refV s) RfT)) s from ⟨CsAt.new w RfT _, (Below.refl _ _).alloc (Nat.le_refl _) _⟩)
  have HO := Lib.hid (fun W => rof_c n W)
  rw [hOf] at HO
  have f1 := fld_rr1 a nm m
  go_enter Tryd.func60, Tryd.ntmps60
  go_upto_region 1 with fail
  generalize w.alloc (.cells (refV s) RfT) = w1 at *
  go_wp2_with (refine wpList_load_row rfl RfT _ rfl w.heap.size rfl RfT _ (0, 0) _ HS1.out.r Tryd.underlying58 rfl (iRf _) ?_)
  refine ((rword_c s ⟨#[109, 105, 112]⟩ 21 (by decide) nc_mip _)).mono ?_
  rintro e w2 ⟨rfl, hb⟩
  have HS2 := Lib.hid (HS1.out.low hb)
  clear hb
  go_wp2_with (refine wpList_load_row rfl RfT _ rfl w.heap.size rfl RfT _ (0, 0) _ HS2.out.r Tryd.underlying58 rfl (iRf _) ?_)
  refine (rand_c l 2696 hl ⟨by omega, by omega⟩ _).mono ?_
  rintro e w3 ⟨rfl, hb⟩
  have HS3 := Lib.hid (HS2.out.low hb)
  clear hb
  go_wp2_with (refine wpList_load_row rfl RfT _ rfl w.heap.size rfl RfT _ (0, 0) _ HS3.out.r Tryd.underlying58 rfl (iRf _) ?_)
  refine (ror_c (s.f 836) (bits .and .u64 l 2696) (ok.w _) (and_64 hl ⟨by omega, by omega⟩) _).mono ?_
  rintro e w4 ⟨rfl, hb⟩
  have HS4 := Lib.hid (HS3.out.low hb)
  clear hb
  rw [show bits .or .u64 (s.f 836) (bits .and .u64 l 2696) = pendS s l from rfl]
  go_wp2_with (refine wpList_load_row rfl RfT _ rfl w.heap.size rfl RfT _ (0, 0) _ HS4.out.r Tryd.underlying58 rfl (iRf _) ?_)
  refine (HO.out _).mono ?_
  rintro e w5 ⟨rfl, hb⟩
  have HS5 := Lib.hid (HS4.out.low hb)
  clear hb
  go_wp2_with (refine wpList_load_row rfl RfT _ rfl w.heap.size rfl RfT _ (0, 0) _ HS5.out.r Tryd.underlying58 rfl (iRf _) ?_)
  refine ((rword_c s ⟨#[109, 115, 116, 97, 116, 117, 115]⟩ 10 (by decide) nc_mstatus _)).mono ?_
  rintro e w6 ⟨rfl, hb⟩
  have HS6 := Lib.hid (HS5.out.low hb)
  clear hb
  go_wp2_with (refine wpList_load_row rfl RfT _ rfl w.heap.size rfl RfT _ (0, 0) _ HS6.out.r Tryd.underlying58 rfl (iRf _) ?_)
  refine (rview_c (s.f 768) (ok.w _) _).mono ?_
  rintro e w7 ⟨rfl, hb⟩
  have HS7 := Lib.hid (HS6.out.low hb)
  clear hb
  go_wp2_with (refine wpList_load_row rfl RfT _ rfl w.heap.size rfl RfT _ (0, 0) _ HS7.out.r Tryd.underlying58 rfl (iRf _) ?_)
  go_ret
  exact ⟨rfl, HS7.out.bel⟩
set_option maxHeartbeats 4000000 in
theorem rg_7 (s : S) (ok : Ok s) (n l a m : Int) (nm : ByteArray) (hl : W64 l) (hOf : rAgg (ofN n) = .agg #[.int .i64 a, .string nm, .int .u64 m]) (e0 : (nm.toList == []) = false) (e1 : (nm.toList == [116, 105, 109, 101]) = false) (e2 : (nm.toList == [115, 104, 111, 111, 116]) = false) (e3 : (nm.toList == [109, 118, 101, 110, 100, 111, 114, 105, 100]) = false) (e4 : (nm.toList == [109, 97, 114, 99, 104, 105, 100]) = false) (e5 : (nm.toList == [109, 105, 109, 112, 105, 100]) = false) (e6 : (nm.toList == [115, 115, 116, 97, 116, 117, 115]) = false) (e7 : (nm.toList == [115, 105, 101]) = true) (w : World) :
    Calls Tryd.prog 60 #[.agg (refV s), .int .i64 n, .int .u64 l] w fun e w' => e = .returned (.int .u64 (bits .and .u64 (s.f 772) (s.f 771))) ∧ Below w.heap.size w w' := by
  have HS1 := Lib.hid (show RgS w (w.alloc (.cells (refV s) RfT)) s from ⟨CsAt.new w RfT _, (Below.refl _ _).alloc (Nat.le_refl _) _⟩)
  have HO := Lib.hid (fun W => rof_c n W)
  rw [hOf] at HO
  have f1 := fld_rr1 a nm m
  go_enter Tryd.func60, Tryd.ntmps60
  go_upto_region 1 with fail
  generalize w.alloc (.cells (refV s) RfT) = w1 at *
  go_wp2_with (refine wpList_load_row rfl RfT _ rfl w.heap.size rfl RfT _ (0, 0) _ HS1.out.r Tryd.underlying58 rfl (iRf _) ?_)
  refine ((rword_c s ⟨#[109, 105, 112]⟩ 21 (by decide) nc_mip _)).mono ?_
  rintro e w2 ⟨rfl, hb⟩
  have HS2 := Lib.hid (HS1.out.low hb)
  clear hb
  go_wp2_with (refine wpList_load_row rfl RfT _ rfl w.heap.size rfl RfT _ (0, 0) _ HS2.out.r Tryd.underlying58 rfl (iRf _) ?_)
  refine (rand_c l 2696 hl ⟨by omega, by omega⟩ _).mono ?_
  rintro e w3 ⟨rfl, hb⟩
  have HS3 := Lib.hid (HS2.out.low hb)
  clear hb
  go_wp2_with (refine wpList_load_row rfl RfT _ rfl w.heap.size rfl RfT _ (0, 0) _ HS3.out.r Tryd.underlying58 rfl (iRf _) ?_)
  refine (ror_c (s.f 836) (bits .and .u64 l 2696) (ok.w _) (and_64 hl ⟨by omega, by omega⟩) _).mono ?_
  rintro e w4 ⟨rfl, hb⟩
  have HS4 := Lib.hid (HS3.out.low hb)
  clear hb
  rw [show bits .or .u64 (s.f 836) (bits .and .u64 l 2696) = pendS s l from rfl]
  go_wp2_with (refine wpList_load_row rfl RfT _ rfl w.heap.size rfl RfT _ (0, 0) _ HS4.out.r Tryd.underlying58 rfl (iRf _) ?_)
  refine (HO.out _).mono ?_
  rintro e w5 ⟨rfl, hb⟩
  have HS5 := Lib.hid (HS4.out.low hb)
  clear hb
  go_upto_region 13 with (refine wpList_load_row rfl RfT _ rfl w.heap.size rfl RfT _ (0, 0) _ HS5.out.r Tryd.underlying58 rfl (iRf _) ?_)
  refine wp_region_steady (fun W => RgS w W s) (by kernel_rfl) (by kernel_rfl) HS5.out.drew ?_
  refine steady_val (.agg (refV s)) ?_ (by kernel_rfl) (fun W hS => exec_load_row RfT _ rfl w.heap.size rfl RfT _ _ hS.r Tryd.underlying58 rfl (iRf _)) ?_ ?_
  rotate_left 1
  · go_simp
    exact rfl
  refine steady_enter (.int .u64 (s.f 772)) 65 #[.agg (refV s), .string ⟨#[109, 105, 101]⟩] ?_ (by kernel_rfl) (fun W hS => ?_) (fun W hS => (rword_c s ⟨#[109, 105, 101]⟩ 14 (by decide) nc_mie W).mono (by rintro e w' ⟨rfl, hb⟩; exact ⟨rfl, hS.low hb⟩)) ?_ ?_
  rotate_left 1
  · go_simp
  · go_simp
    exact rfl
  refine steady_val (.agg (refV s)) ?_ (by kernel_rfl) (fun W hS => exec_load_row RfT _ rfl w.heap.size rfl RfT _ _ hS.r Tryd.underlying58 rfl (iRf _)) ?_ ?_
  rotate_left 1
  · go_simp
    exact rfl
  refine steady_enter (.int .u64 (s.f 771)) 65 #[.agg (refV s), .string ⟨#[109, 105, 100, 101, 108, 101, 103]⟩] ?_ (by kernel_rfl) (fun W hS => ?_) (fun W hS => (rword_c s ⟨#[109, 105, 100, 101, 108, 101, 103]⟩ 13 (by decide) nc_mideleg W).mono (by rintro e w' ⟨rfl, hb⟩; exact ⟨rfl, hS.low hb⟩)) ?_ ?_
  rotate_left 1
  · go_simp
  · go_simp
    exact rfl
  refine steady_enter (.int .u64 (bits .and .u64 (s.f 772) (s.f 771))) 86 #[.int .u64 (s.f 772), .int .u64 (s.f 771)] ?_ (by kernel_rfl) (fun W hS => ?_) (fun W hS => (rand_c (s.f 772) (s.f 771) (ok.w _) (ok.w _) W).mono (by rintro e w' ⟨rfl, hb⟩; exact ⟨rfl, hS.low hb⟩)) ?_ ?_
  rotate_left 1
  · go_simp
  · go_simp
    exact rfl
  refine steady_val ?_ ?_ (by kernel_rfl) (fun W hS => ?_) ?_ ?_
  rotate_left 2
  · go_simp
    exact rfl
  · go_simp
    exact rfl
  refine steady_nil ?_
  intro W hS
  have HS6 := Lib.hid hS
  clear hS
  go_wp2_with fail
  go_ret
  exact ⟨rfl, HS6.out.bel⟩
set_option maxHeartbeats 4000000 in
theorem rg_8 (s : S) (ok : Ok s) (n l a m : Int) (nm : ByteArray) (hl : W64 l) (hOf : rAgg (ofN n) = .agg #[.int .i64 a, .string nm, .int .u64 m]) (e0 : (nm.toList == []) = false) (e1 : (nm.toList == [116, 105, 109, 101]) = false) (e2 : (nm.toList == [115, 104, 111, 111, 116]) = false) (e3 : (nm.toList == [109, 118, 101, 110, 100, 111, 114, 105, 100]) = false) (e4 : (nm.toList == [109, 97, 114, 99, 104, 105, 100]) = false) (e5 : (nm.toList == [109, 105, 109, 112, 105, 100]) = false) (e6 : (nm.toList == [115, 115, 116, 97, 116, 117, 115]) = false) (e7 : (nm.toList == [115, 105, 101]) = false) (e8 : (nm.toList == [115, 105, 112]) = true) (w : World) :
    Calls Tryd.prog 60 #[.agg (refV s), .int .i64 n, .int .u64 l] w fun e w' => e = .returned (.int .u64 (bits .and .u64 (pendS s l) (s.f 771))) ∧ Below w.heap.size w w' := by
  have HS1 := Lib.hid (show RgS w (w.alloc (.cells (refV s) RfT)) s from ⟨CsAt.new w RfT _, (Below.refl _ _).alloc (Nat.le_refl _) _⟩)
  have HO := Lib.hid (fun W => rof_c n W)
  rw [hOf] at HO
  have f1 := fld_rr1 a nm m
  go_enter Tryd.func60, Tryd.ntmps60
  go_upto_region 1 with fail
  generalize w.alloc (.cells (refV s) RfT) = w1 at *
  go_wp2_with (refine wpList_load_row rfl RfT _ rfl w.heap.size rfl RfT _ (0, 0) _ HS1.out.r Tryd.underlying58 rfl (iRf _) ?_)
  refine ((rword_c s ⟨#[109, 105, 112]⟩ 21 (by decide) nc_mip _)).mono ?_
  rintro e w2 ⟨rfl, hb⟩
  have HS2 := Lib.hid (HS1.out.low hb)
  clear hb
  go_wp2_with (refine wpList_load_row rfl RfT _ rfl w.heap.size rfl RfT _ (0, 0) _ HS2.out.r Tryd.underlying58 rfl (iRf _) ?_)
  refine (rand_c l 2696 hl ⟨by omega, by omega⟩ _).mono ?_
  rintro e w3 ⟨rfl, hb⟩
  have HS3 := Lib.hid (HS2.out.low hb)
  clear hb
  go_wp2_with (refine wpList_load_row rfl RfT _ rfl w.heap.size rfl RfT _ (0, 0) _ HS3.out.r Tryd.underlying58 rfl (iRf _) ?_)
  refine (ror_c (s.f 836) (bits .and .u64 l 2696) (ok.w _) (and_64 hl ⟨by omega, by omega⟩) _).mono ?_
  rintro e w4 ⟨rfl, hb⟩
  have HS4 := Lib.hid (HS3.out.low hb)
  clear hb
  rw [show bits .or .u64 (s.f 836) (bits .and .u64 l 2696) = pendS s l from rfl]
  go_wp2_with (refine wpList_load_row rfl RfT _ rfl w.heap.size rfl RfT _ (0, 0) _ HS4.out.r Tryd.underlying58 rfl (iRf _) ?_)
  refine (HO.out _).mono ?_
  rintro e w5 ⟨rfl, hb⟩
  have HS5 := Lib.hid (HS4.out.low hb)
  clear hb
  go_wp2_with (refine wpList_load_row rfl RfT _ rfl w.heap.size rfl RfT _ (0, 0) _ HS5.out.r Tryd.underlying58 rfl (iRf _) ?_)
  refine ((rword_c s ⟨#[109, 105, 100, 101, 108, 101, 103]⟩ 13 (by decide) nc_mideleg _)).mono ?_
  rintro e w6 ⟨rfl, hb⟩
  have HS6 := Lib.hid (HS5.out.low hb)
  clear hb
  go_wp2_with (refine wpList_load_row rfl RfT _ rfl w.heap.size rfl RfT _ (0, 0) _ HS6.out.r Tryd.underlying58 rfl (iRf _) ?_)
  refine (rand_c (pendS s l) (s.f 771) (pend_64 ok hl) (ok.w _) _).mono ?_
  rintro e w7 ⟨rfl, hb⟩
  have HS7 := Lib.hid (HS6.out.low hb)
  clear hb
  go_wp2_with (refine wpList_load_row rfl RfT _ rfl w.heap.size rfl RfT _ (0, 0) _ HS7.out.r Tryd.underlying58 rfl (iRf _) ?_)
  go_ret
  exact ⟨rfl, HS7.out.bel⟩
set_option maxHeartbeats 4000000 in
theorem rg_9 (s : S) (ok : Ok s) (n l a m : Int) (nm : ByteArray) (hl : W64 l) (hOf : rAgg (ofN n) = .agg #[.int .i64 a, .string nm, .int .u64 m]) (e0 : (nm.toList == []) = false) (e1 : (nm.toList == [116, 105, 109, 101]) = false) (e2 : (nm.toList == [115, 104, 111, 111, 116]) = false) (e3 : (nm.toList == [109, 118, 101, 110, 100, 111, 114, 105, 100]) = false) (e4 : (nm.toList == [109, 97, 114, 99, 104, 105, 100]) = false) (e5 : (nm.toList == [109, 105, 109, 112, 105, 100]) = false) (e6 : (nm.toList == [115, 115, 116, 97, 116, 117, 115]) = false) (e7 : (nm.toList == [115, 105, 101]) = false) (e8 : (nm.toList == [115, 105, 112]) = false) (e9 : (nm.toList == [109, 105, 112]) = true) (w : World) :
    Calls Tryd.prog 60 #[.agg (refV s), .int .i64 n, .int .u64 l] w fun e w' => e = .returned (.int .u64 (pendS s l)) ∧ Below w.heap.size w w' := by
  have HS1 := Lib.hid (show RgS w (w.alloc (.cells (refV s) RfT)) s from ⟨CsAt.new w RfT _, (Below.refl _ _).alloc (Nat.le_refl _) _⟩)
  have HO := Lib.hid (fun W => rof_c n W)
  rw [hOf] at HO
  have f1 := fld_rr1 a nm m
  go_enter Tryd.func60, Tryd.ntmps60
  go_upto_region 1 with fail
  generalize w.alloc (.cells (refV s) RfT) = w1 at *
  go_wp2_with (refine wpList_load_row rfl RfT _ rfl w.heap.size rfl RfT _ (0, 0) _ HS1.out.r Tryd.underlying58 rfl (iRf _) ?_)
  refine ((rword_c s ⟨#[109, 105, 112]⟩ 21 (by decide) nc_mip _)).mono ?_
  rintro e w2 ⟨rfl, hb⟩
  have HS2 := Lib.hid (HS1.out.low hb)
  clear hb
  go_wp2_with (refine wpList_load_row rfl RfT _ rfl w.heap.size rfl RfT _ (0, 0) _ HS2.out.r Tryd.underlying58 rfl (iRf _) ?_)
  refine (rand_c l 2696 hl ⟨by omega, by omega⟩ _).mono ?_
  rintro e w3 ⟨rfl, hb⟩
  have HS3 := Lib.hid (HS2.out.low hb)
  clear hb
  go_wp2_with (refine wpList_load_row rfl RfT _ rfl w.heap.size rfl RfT _ (0, 0) _ HS3.out.r Tryd.underlying58 rfl (iRf _) ?_)
  refine (ror_c (s.f 836) (bits .and .u64 l 2696) (ok.w _) (and_64 hl ⟨by omega, by omega⟩) _).mono ?_
  rintro e w4 ⟨rfl, hb⟩
  have HS4 := Lib.hid (HS3.out.low hb)
  clear hb
  rw [show bits .or .u64 (s.f 836) (bits .and .u64 l 2696) = pendS s l from rfl]
  go_wp2_with (refine wpList_load_row rfl RfT _ rfl w.heap.size rfl RfT _ (0, 0) _ HS4.out.r Tryd.underlying58 rfl (iRf _) ?_)
  refine (HO.out _).mono ?_
  rintro e w5 ⟨rfl, hb⟩
  have HS5 := Lib.hid (HS4.out.low hb)
  clear hb
  go_wp2_with (refine wpList_load_row rfl RfT _ rfl w.heap.size rfl RfT _ (0, 0) _ HS5.out.r Tryd.underlying58 rfl (iRf _) ?_)
  go_ret
  exact ⟨rfl, HS5.out.bel⟩
set_option maxHeartbeats 4000000 in
theorem rg_10 (s : S) (ok : Ok s) (n l a m : Int) (nm : ByteArray) (hl : W64 l) (hOf : rAgg (ofN n) = .agg #[.int .i64 a, .string nm, .int .u64 m]) (e0 : (nm.toList == []) = false) (e1 : (nm.toList == [116, 105, 109, 101]) = false) (e2 : (nm.toList == [115, 104, 111, 111, 116]) = false) (e3 : (nm.toList == [109, 118, 101, 110, 100, 111, 114, 105, 100]) = false) (e4 : (nm.toList == [109, 97, 114, 99, 104, 105, 100]) = false) (e5 : (nm.toList == [109, 105, 109, 112, 105, 100]) = false) (e6 : (nm.toList == [115, 115, 116, 97, 116, 117, 115]) = false) (e7 : (nm.toList == [115, 105, 101]) = false) (e8 : (nm.toList == [115, 105, 112]) = false) (e9 : (nm.toList == [109, 105, 112]) = false) (e10 : (nm.toList == [109, 105, 115, 97]) = true) (w : World) :
    Calls Tryd.prog 60 #[.agg (refV s), .int .i64 n, .int .u64 l] w fun e w' => e = .returned (.int .u64 (9223372036856090881)) ∧ Below w.heap.size w w' := by
  have HS1 := Lib.hid (show RgS w (w.alloc (.cells (refV s) RfT)) s from ⟨CsAt.new w RfT _, (Below.refl _ _).alloc (Nat.le_refl _) _⟩)
  have HO := Lib.hid (fun W => rof_c n W)
  rw [hOf] at HO
  have f1 := fld_rr1 a nm m
  go_enter Tryd.func60, Tryd.ntmps60
  go_upto_region 1 with fail
  generalize w.alloc (.cells (refV s) RfT) = w1 at *
  go_wp2_with (refine wpList_load_row rfl RfT _ rfl w.heap.size rfl RfT _ (0, 0) _ HS1.out.r Tryd.underlying58 rfl (iRf _) ?_)
  refine ((rword_c s ⟨#[109, 105, 112]⟩ 21 (by decide) nc_mip _)).mono ?_
  rintro e w2 ⟨rfl, hb⟩
  have HS2 := Lib.hid (HS1.out.low hb)
  clear hb
  go_wp2_with (refine wpList_load_row rfl RfT _ rfl w.heap.size rfl RfT _ (0, 0) _ HS2.out.r Tryd.underlying58 rfl (iRf _) ?_)
  refine (rand_c l 2696 hl ⟨by omega, by omega⟩ _).mono ?_
  rintro e w3 ⟨rfl, hb⟩
  have HS3 := Lib.hid (HS2.out.low hb)
  clear hb
  go_wp2_with (refine wpList_load_row rfl RfT _ rfl w.heap.size rfl RfT _ (0, 0) _ HS3.out.r Tryd.underlying58 rfl (iRf _) ?_)
  refine (ror_c (s.f 836) (bits .and .u64 l 2696) (ok.w _) (and_64 hl ⟨by omega, by omega⟩) _).mono ?_
  rintro e w4 ⟨rfl, hb⟩
  have HS4 := Lib.hid (HS3.out.low hb)
  clear hb
  rw [show bits .or .u64 (s.f 836) (bits .and .u64 l 2696) = pendS s l from rfl]
  go_wp2_with (refine wpList_load_row rfl RfT _ rfl w.heap.size rfl RfT _ (0, 0) _ HS4.out.r Tryd.underlying58 rfl (iRf _) ?_)
  refine (HO.out _).mono ?_
  rintro e w5 ⟨rfl, hb⟩
  have HS5 := Lib.hid (HS4.out.low hb)
  clear hb
  go_wp2_with (refine wpList_load_row rfl RfT _ rfl w.heap.size rfl RfT _ (0, 0) _ HS5.out.r Tryd.underlying58 rfl (iRf _) ?_)
  go_ret
  exact ⟨rfl, HS5.out.bel⟩
set_option maxHeartbeats 4000000 in
theorem rg_11 (s : S) (ok : Ok s) (n l a m : Int) (nm : ByteArray) (hl : W64 l) (hOf : rAgg (ofN n) = .agg #[.int .i64 a, .string nm, .int .u64 m]) (e0 : (nm.toList == []) = false) (e1 : (nm.toList == [116, 105, 109, 101]) = false) (e2 : (nm.toList == [115, 104, 111, 111, 116]) = false) (e3 : (nm.toList == [109, 118, 101, 110, 100, 111, 114, 105, 100]) = false) (e4 : (nm.toList == [109, 97, 114, 99, 104, 105, 100]) = false) (e5 : (nm.toList == [109, 105, 109, 112, 105, 100]) = false) (e6 : (nm.toList == [115, 115, 116, 97, 116, 117, 115]) = false) (e7 : (nm.toList == [115, 105, 101]) = false) (e8 : (nm.toList == [115, 105, 112]) = false) (e9 : (nm.toList == [109, 105, 112]) = false) (e10 : (nm.toList == [109, 105, 115, 97]) = false) (e11 : (nm.toList == [99, 121, 99, 108, 101]) = true) (w : World) :
    Calls Tryd.prog 60 #[.agg (refV s), .int .i64 n, .int .u64 l] w fun e w' => e = .returned (.int .u64 (s.f 2816)) ∧ Below w.heap.size w w' := by
  have HS1 := Lib.hid (show RgS w (w.alloc (.cells (refV s) RfT)) s from ⟨CsAt.new w RfT _, (Below.refl _ _).alloc (Nat.le_refl _) _⟩)
  have HO := Lib.hid (fun W => rof_c n W)
  rw [hOf] at HO
  have f1 := fld_rr1 a nm m
  go_enter Tryd.func60, Tryd.ntmps60
  go_upto_region 1 with fail
  generalize w.alloc (.cells (refV s) RfT) = w1 at *
  go_wp2_with (refine wpList_load_row rfl RfT _ rfl w.heap.size rfl RfT _ (0, 0) _ HS1.out.r Tryd.underlying58 rfl (iRf _) ?_)
  refine ((rword_c s ⟨#[109, 105, 112]⟩ 21 (by decide) nc_mip _)).mono ?_
  rintro e w2 ⟨rfl, hb⟩
  have HS2 := Lib.hid (HS1.out.low hb)
  clear hb
  go_wp2_with (refine wpList_load_row rfl RfT _ rfl w.heap.size rfl RfT _ (0, 0) _ HS2.out.r Tryd.underlying58 rfl (iRf _) ?_)
  refine (rand_c l 2696 hl ⟨by omega, by omega⟩ _).mono ?_
  rintro e w3 ⟨rfl, hb⟩
  have HS3 := Lib.hid (HS2.out.low hb)
  clear hb
  go_wp2_with (refine wpList_load_row rfl RfT _ rfl w.heap.size rfl RfT _ (0, 0) _ HS3.out.r Tryd.underlying58 rfl (iRf _) ?_)
  refine (ror_c (s.f 836) (bits .and .u64 l 2696) (ok.w _) (and_64 hl ⟨by omega, by omega⟩) _).mono ?_
  rintro e w4 ⟨rfl, hb⟩
  have HS4 := Lib.hid (HS3.out.low hb)
  clear hb
  rw [show bits .or .u64 (s.f 836) (bits .and .u64 l 2696) = pendS s l from rfl]
  go_wp2_with (refine wpList_load_row rfl RfT _ rfl w.heap.size rfl RfT _ (0, 0) _ HS4.out.r Tryd.underlying58 rfl (iRf _) ?_)
  refine (HO.out _).mono ?_
  rintro e w5 ⟨rfl, hb⟩
  have HS5 := Lib.hid (HS4.out.low hb)
  clear hb
  go_wp2_with (refine wpList_load_row rfl RfT _ rfl w.heap.size rfl RfT _ (0, 0) _ HS5.out.r Tryd.underlying58 rfl (iRf _) ?_)
  refine ((rword_c s ⟨#[109, 99, 121, 99, 108, 101]⟩ 25 (by decide) nc_mcycle _)).mono ?_
  rintro e w6 ⟨rfl, hb⟩
  have HS6 := Lib.hid (HS5.out.low hb)
  clear hb
  go_wp2_with (refine wpList_load_row rfl RfT _ rfl w.heap.size rfl RfT _ (0, 0) _ HS6.out.r Tryd.underlying58 rfl (iRf _) ?_)
  go_ret
  exact ⟨rfl, HS6.out.bel⟩
set_option maxHeartbeats 4000000 in
theorem rg_12 (s : S) (ok : Ok s) (n l a m : Int) (nm : ByteArray) (hl : W64 l) (hOf : rAgg (ofN n) = .agg #[.int .i64 a, .string nm, .int .u64 m]) (e0 : (nm.toList == []) = false) (e1 : (nm.toList == [116, 105, 109, 101]) = false) (e2 : (nm.toList == [115, 104, 111, 111, 116]) = false) (e3 : (nm.toList == [109, 118, 101, 110, 100, 111, 114, 105, 100]) = false) (e4 : (nm.toList == [109, 97, 114, 99, 104, 105, 100]) = false) (e5 : (nm.toList == [109, 105, 109, 112, 105, 100]) = false) (e6 : (nm.toList == [115, 115, 116, 97, 116, 117, 115]) = false) (e7 : (nm.toList == [115, 105, 101]) = false) (e8 : (nm.toList == [115, 105, 112]) = false) (e9 : (nm.toList == [109, 105, 112]) = false) (e10 : (nm.toList == [109, 105, 115, 97]) = false) (e11 : (nm.toList == [99, 121, 99, 108, 101]) = false) (e12 : (nm.toList == [105, 110, 115, 116, 114, 101, 116]) = true) (w : World) :
    Calls Tryd.prog 60 #[.agg (refV s), .int .i64 n, .int .u64 l] w fun e w' => e = .returned (.int .u64 (s.f 2818)) ∧ Below w.heap.size w w' := by
  have HS1 := Lib.hid (show RgS w (w.alloc (.cells (refV s) RfT)) s from ⟨CsAt.new w RfT _, (Below.refl _ _).alloc (Nat.le_refl _) _⟩)
  have HO := Lib.hid (fun W => rof_c n W)
  rw [hOf] at HO
  have f1 := fld_rr1 a nm m
  go_enter Tryd.func60, Tryd.ntmps60
  go_upto_region 1 with fail
  generalize w.alloc (.cells (refV s) RfT) = w1 at *
  go_wp2_with (refine wpList_load_row rfl RfT _ rfl w.heap.size rfl RfT _ (0, 0) _ HS1.out.r Tryd.underlying58 rfl (iRf _) ?_)
  refine ((rword_c s ⟨#[109, 105, 112]⟩ 21 (by decide) nc_mip _)).mono ?_
  rintro e w2 ⟨rfl, hb⟩
  have HS2 := Lib.hid (HS1.out.low hb)
  clear hb
  go_wp2_with (refine wpList_load_row rfl RfT _ rfl w.heap.size rfl RfT _ (0, 0) _ HS2.out.r Tryd.underlying58 rfl (iRf _) ?_)
  refine (rand_c l 2696 hl ⟨by omega, by omega⟩ _).mono ?_
  rintro e w3 ⟨rfl, hb⟩
  have HS3 := Lib.hid (HS2.out.low hb)
  clear hb
  go_wp2_with (refine wpList_load_row rfl RfT _ rfl w.heap.size rfl RfT _ (0, 0) _ HS3.out.r Tryd.underlying58 rfl (iRf _) ?_)
  refine (ror_c (s.f 836) (bits .and .u64 l 2696) (ok.w _) (and_64 hl ⟨by omega, by omega⟩) _).mono ?_
  rintro e w4 ⟨rfl, hb⟩
  have HS4 := Lib.hid (HS3.out.low hb)
  clear hb
  rw [show bits .or .u64 (s.f 836) (bits .and .u64 l 2696) = pendS s l from rfl]
  go_wp2_with (refine wpList_load_row rfl RfT _ rfl w.heap.size rfl RfT _ (0, 0) _ HS4.out.r Tryd.underlying58 rfl (iRf _) ?_)
  refine (HO.out _).mono ?_
  rintro e w5 ⟨rfl, hb⟩
  have HS5 := Lib.hid (HS4.out.low hb)
  clear hb
  go_wp2_with (refine wpList_load_row rfl RfT _ rfl w.heap.size rfl RfT _ (0, 0) _ HS5.out.r Tryd.underlying58 rfl (iRf _) ?_)
  refine ((rword_c s ⟨#[109, 105, 110, 115, 116, 114, 101, 116]⟩ 26 (by decide) nc_minstret _)).mono ?_
  rintro e w6 ⟨rfl, hb⟩
  have HS6 := Lib.hid (HS5.out.low hb)
  clear hb
  go_wp2_with (refine wpList_load_row rfl RfT _ rfl w.heap.size rfl RfT _ (0, 0) _ HS6.out.r Tryd.underlying58 rfl (iRf _) ?_)
  go_ret
  exact ⟨rfl, HS6.out.bel⟩
set_option maxHeartbeats 4000000 in
theorem rg_13 (s : S) (ok : Ok s) (n l a m : Int) (nm : ByteArray) (hl : W64 l) (hOf : rAgg (ofN n) = .agg #[.int .i64 a, .string nm, .int .u64 m]) (e0 : (nm.toList == []) = false) (e1 : (nm.toList == [116, 105, 109, 101]) = false) (e2 : (nm.toList == [115, 104, 111, 111, 116]) = false) (e3 : (nm.toList == [109, 118, 101, 110, 100, 111, 114, 105, 100]) = false) (e4 : (nm.toList == [109, 97, 114, 99, 104, 105, 100]) = false) (e5 : (nm.toList == [109, 105, 109, 112, 105, 100]) = false) (e6 : (nm.toList == [115, 115, 116, 97, 116, 117, 115]) = false) (e7 : (nm.toList == [115, 105, 101]) = false) (e8 : (nm.toList == [115, 105, 112]) = false) (e9 : (nm.toList == [109, 105, 112]) = false) (e10 : (nm.toList == [109, 105, 115, 97]) = false) (e11 : (nm.toList == [99, 121, 99, 108, 101]) = false) (e12 : (nm.toList == [105, 110, 115, 116, 114, 101, 116]) = false) (e13 : (nm.toList == [109, 104, 97, 114, 116, 105, 100]) = true) (w : World) :
    Calls Tryd.prog 60 #[.agg (refV s), .int .i64 n, .int .u64 l] w fun e w' => e = .returned (.int .u64 (IntKind.u64.wrap s.h)) ∧ Below w.heap.size w w' := by
  have HS1 := Lib.hid (show RgS w (w.alloc (.cells (refV s) RfT)) s from ⟨CsAt.new w RfT _, (Below.refl _ _).alloc (Nat.le_refl _) _⟩)
  have HO := Lib.hid (fun W => rof_c n W)
  rw [hOf] at HO
  have f1 := fld_rr1 a nm m
  go_enter Tryd.func60, Tryd.ntmps60
  go_upto_region 1 with fail
  generalize w.alloc (.cells (refV s) RfT) = w1 at *
  go_wp2_with (refine wpList_load_row rfl RfT _ rfl w.heap.size rfl RfT _ (0, 0) _ HS1.out.r Tryd.underlying58 rfl (iRf _) ?_)
  refine ((rword_c s ⟨#[109, 105, 112]⟩ 21 (by decide) nc_mip _)).mono ?_
  rintro e w2 ⟨rfl, hb⟩
  have HS2 := Lib.hid (HS1.out.low hb)
  clear hb
  go_wp2_with (refine wpList_load_row rfl RfT _ rfl w.heap.size rfl RfT _ (0, 0) _ HS2.out.r Tryd.underlying58 rfl (iRf _) ?_)
  refine (rand_c l 2696 hl ⟨by omega, by omega⟩ _).mono ?_
  rintro e w3 ⟨rfl, hb⟩
  have HS3 := Lib.hid (HS2.out.low hb)
  clear hb
  go_wp2_with (refine wpList_load_row rfl RfT _ rfl w.heap.size rfl RfT _ (0, 0) _ HS3.out.r Tryd.underlying58 rfl (iRf _) ?_)
  refine (ror_c (s.f 836) (bits .and .u64 l 2696) (ok.w _) (and_64 hl ⟨by omega, by omega⟩) _).mono ?_
  rintro e w4 ⟨rfl, hb⟩
  have HS4 := Lib.hid (HS3.out.low hb)
  clear hb
  rw [show bits .or .u64 (s.f 836) (bits .and .u64 l 2696) = pendS s l from rfl]
  go_wp2_with (refine wpList_load_row rfl RfT _ rfl w.heap.size rfl RfT _ (0, 0) _ HS4.out.r Tryd.underlying58 rfl (iRf _) ?_)
  refine (HO.out _).mono ?_
  rintro e w5 ⟨rfl, hb⟩
  have HS5 := Lib.hid (HS4.out.low hb)
  clear hb
  have c0 : w5.cell? ⟨w.heap.size, 0, none⟩ = some (.int .i64 s.h) := by rw [HS5.out.r.cell, refV_0]
  go_wp2_with (refine wpList_load_row rfl RfT _ rfl w.heap.size rfl RfT _ (0, 0) _ HS5.out.r Tryd.underlying58 rfl (iRf _) ?_)
  go_ret
  exact ⟨rfl, HS5.out.bel⟩
set_option maxHeartbeats 4000000 in
theorem rg_x (s : S) (ok : Ok s) (n l a m : Int) (nm : ByteArray) (hl : W64 l) (hOf : rAgg (ofN n) = .agg #[.int .i64 a, .string nm, .int .u64 m]) (e0 : (nm.toList == []) = false) (e1 : (nm.toList == [116, 105, 109, 101]) = false) (e2 : (nm.toList == [115, 104, 111, 111, 116]) = false) (e3 : (nm.toList == [109, 118, 101, 110, 100, 111, 114, 105, 100]) = false) (e4 : (nm.toList == [109, 97, 114, 99, 104, 105, 100]) = false) (e5 : (nm.toList == [109, 105, 109, 112, 105, 100]) = false) (e6 : (nm.toList == [115, 115, 116, 97, 116, 117, 115]) = false) (e7 : (nm.toList == [115, 105, 101]) = false) (e8 : (nm.toList == [115, 105, 112]) = false) (e9 : (nm.toList == [109, 105, 112]) = false) (e10 : (nm.toList == [109, 105, 115, 97]) = false) (e11 : (nm.toList == [99, 121, 99, 108, 101]) = false) (e12 : (nm.toList == [105, 110, 115, 116, 114, 101, 116]) = false) (e13 : (nm.toList == [109, 104, 97, 114, 116, 105, 100]) = false) (k : Nat) (hk : k < 34) (hn : n = ((rowC k).1 : Nat)) (w : World) :
    Calls Tryd.prog 60 #[.agg (refV s), .int .i64 n, .int .u64 l] w fun e w' => e = .returned (.int .u64 (s.f n)) ∧ Below w.heap.size w w' := by
  have HS1 := Lib.hid (show RgS w (w.alloc (.cells (refV s) RfT)) s from ⟨CsAt.new w RfT _, (Below.refl _ _).alloc (Nat.le_refl _) _⟩)
  have HO := Lib.hid (fun W => rof_c n W)
  rw [hOf] at HO
  have f1 := fld_rr1 a nm m
  have HRC := Lib.hid (fun (W : World) (h : CsAt W w.heap.size RfT (refV s)) => show W.cell? ⟨w.heap.size, 1 + k, none⟩ = some (.int .u64 (s.f n)) by rw [hn]; exact ref_cell h hk)
  have HAT := Lib.hid (fun W => rat_c n k hk hn W)
  clear hn
  go_enter Tryd.func60, Tryd.ntmps60
  go_upto_region 1 with fail
  generalize w.alloc (.cells (refV s) RfT) = w1 at *
  go_wp2_with (refine wpList_load_row rfl RfT _ rfl w.heap.size rfl RfT _ (0, 0) _ HS1.out.r Tryd.underlying58 rfl (iRf _) ?_)
  refine ((rword_c s ⟨#[109, 105, 112]⟩ 21 (by decide) nc_mip _)).mono ?_
  rintro e w2 ⟨rfl, hb⟩
  have HS2 := Lib.hid (HS1.out.low hb)
  clear hb
  go_wp2_with (refine wpList_load_row rfl RfT _ rfl w.heap.size rfl RfT _ (0, 0) _ HS2.out.r Tryd.underlying58 rfl (iRf _) ?_)
  refine (rand_c l 2696 hl ⟨by omega, by omega⟩ _).mono ?_
  rintro e w3 ⟨rfl, hb⟩
  have HS3 := Lib.hid (HS2.out.low hb)
  clear hb
  go_wp2_with (refine wpList_load_row rfl RfT _ rfl w.heap.size rfl RfT _ (0, 0) _ HS3.out.r Tryd.underlying58 rfl (iRf _) ?_)
  refine (ror_c (s.f 836) (bits .and .u64 l 2696) (ok.w _) (and_64 hl ⟨by omega, by omega⟩) _).mono ?_
  rintro e w4 ⟨rfl, hb⟩
  have HS4 := Lib.hid (HS3.out.low hb)
  clear hb
  rw [show bits .or .u64 (s.f 836) (bits .and .u64 l 2696) = pendS s l from rfl]
  go_wp2_with (refine wpList_load_row rfl RfT _ rfl w.heap.size rfl RfT _ (0, 0) _ HS4.out.r Tryd.underlying58 rfl (iRf _) ?_)
  refine (HO.out _).mono ?_
  rintro e w5 ⟨rfl, hb⟩
  have HS5 := Lib.hid (HS4.out.low hb)
  clear hb
  go_wp2_with (refine wpList_load_row rfl RfT _ rfl w.heap.size rfl RfT _ (0, 0) _ HS5.out.r Tryd.underlying58 rfl (iRf _) ?_)
  refine (HAT.out _).mono ?_
  rintro e w6 ⟨rfl, hb⟩
  have HS6 := Lib.hid (HS5.out.low hb)
  clear hb
  have c0 : w6.cell? ⟨w.heap.size, 1 + k, none⟩ = some (.int .u64 (s.f n)) := HRC.out w6 HS6.out.r
  have hk2 : (k : Int) < 34 := by omega
  clear hOf f1 HO HRC HAT
  go_wp2_with (refine wpList_load_row rfl RfT _ rfl w.heap.size rfl RfT _ (0, 0) _ HS6.out.r Tryd.underlying58 rfl (iRf _) ?_)
  go_ret
  exact ⟨rfl, HS6.out.bel⟩
theorem unk_idx {n : Int} (h : known n = false) : idxK n = none := by
  cases hi : idxK n with
  | none => rfl
  | some i =>
    obtain ⟨h22, hn⟩ := idx_some hi
    have := (by decide +kernel : ∀ i : Fin 22, known ((keptN i.val : Nat) : Int) = true) ⟨i, h22⟩
    simp only at this
    rw [← hn, h] at this
    cases this
theorem unk_get {s : S} (ok : Ok s) {n : Int} (h : known n = false) (l : Int) : getS s n l = 0 := by
  have hne : ∀ m : Int, known m = true → n ≠ m := fun m hm e => by rw [e, hm] at h; cases h
  unfold getS
  rw [if_neg (hne 256 (by decide +kernel)), if_neg (hne 260 (by decide +kernel)), if_neg (hne 324 (by decide +kernel)), if_neg (hne 836 (by decide +kernel)), if_neg (hne 769 (by decide +kernel)), if_neg (hne 3072 (by decide +kernel)), if_neg (hne 3074 (by decide +kernel)), if_neg (hne 3860 (by decide +kernel))]
  exact ok.z n (unk_idx h)
set_option maxHeartbeats 4000000 in
theorem rget22_c (s : S) (ok : Ok s) (n l : Int) (hl : W64 l) (w : World) : Calls Tryd.prog 60 #[.agg (refV s), .int .i64 n, .int .u64 l] w fun e w' => e = .returned (.int .u64 (getS s n l)) ∧ Below w.heap.size w w' := by
  cases hkn : known n
  · rw [unk_get ok hkn]
    refine rg_0 s ok n l 0 0 ⟨#[]⟩ hl ?_ (by decide +kernel) w
    rw [of_unknown hkn]; rfl
  · obtain ⟨k, hk, hn, ho⟩ := of_known hkn
    have hOf : rAgg (ofN n) = rAgg (rowC k) := by rw [ho]
    clear ho hkn
    match k, hk with
    | 0, _ =>
      have hn : n = 256 := hn
      subst hn
      exact rg_6 s ok 256 l _ _ _ hl hOf (by decide +kernel) (by decide +kernel) (by decide +kernel) (by decide +kernel) (by decide +kernel) (by decide +kernel) (by decide +kernel) w
    | 1, _ =>
      have hn : n = 260 := hn
      subst hn
      exact rg_7 s ok 260 l _ _ _ hl hOf (by decide +kernel) (by decide +kernel) (by decide +kernel) (by decide +kernel) (by decide +kernel) (by decide +kernel) (by decide +kernel) (by decide +kernel) w
    | 2, _ =>
      have hn : n = 261 := hn
      subst hn
      exact rg_x s ok 261 l _ _ _ hl hOf (by decide +kernel) (by decide +kernel) (by decide +kernel) (by decide +kernel) (by decide +kernel) (by decide +kernel) (by decide +kernel) (by decide +kernel) (by decide +kernel) (by decide +kernel) (by decide +kernel) (by decide +kernel) (by decide +kernel) (by decide +kernel) 2 (by decide) rfl w
    | 3, _ =>
      have hn : n = 262 := hn
      subst hn
      exact rg_x s ok 262 l _ _ _ hl hOf (by decide +kernel) (by decide +kernel) (by decide +kernel) (by decide +kernel) (by decide +kernel) (by decide +kernel) (by decide +kernel) (by decide +kernel) (by decide +kernel) (by decide +kernel) (by decide +kernel) (by decide +kernel) (by decide +kernel) (by decide +kernel) 3 (by decide) rfl w
    | 4, _ =>
      have hn : n = 320 := hn
      subst hn
      exact rg_x s ok 320 l _ _ _ hl hOf (by decide +kernel) (by decide +kernel) (by decide +kernel) (by decide +kernel) (by decide +kernel) (by decide +kernel) (by decide +kernel) (by decide +kernel) (by decide +kernel) (by decide +kernel) (by decide +kernel) (by decide +kernel) (by decide +kernel) (by decide +kernel) 4 (by decide) rfl w
    | 5, _ =>
      have hn : n = 321 := hn
      subst hn
      exact rg_x s ok 321 l _ _ _ hl hOf (by decide +kernel) (by decide +kernel) (by decide +kernel) (by decide +kernel) (by decide +kernel) (by decide +kernel) (by decide +kernel) (by decide +kernel) (by decide +kernel) (by decide +kernel) (by decide +kernel) (by decide +kernel) (by decide +kernel) (by decide +kernel) 5 (by decide) rfl w
    | 6, _ =>
      have hn : n = 322 := hn
      subst hn
      exact rg_x s ok 322 l _ _ _ hl hOf (by decide +kernel) (by decide +kernel) (by decide +kernel) (by decide +kernel) (by decide +kernel) (by decide +kernel) (by decide +kernel) (by decide +kernel) (by decide +kernel) (by decide +kernel) (by decide +kernel) (by decide +kernel) (by decide +kernel) (by decide +kernel) 6 (by decide) rfl w
    | 7, _ =>
      have hn : n = 323 := hn
      subst hn
      exact rg_x s ok 323 l _ _ _ hl hOf (by decide +kernel) (by decide +kernel) (by decide +kernel) (by decide +kernel) (by decide +kernel) (by decide +kernel) (by decide +kernel) (by decide +kernel) (by decide +kernel) (by decide +kernel) (by decide +kernel) (by decide +kernel) (by decide +kernel) (by decide +kernel) 7 (by decide) rfl w
    | 8, _ =>
      have hn : n = 324 := hn
      subst hn
      exact rg_8 s ok 324 l _ _ _ hl hOf (by decide +kernel) (by decide +kernel) (by decide +kernel) (by decide +kernel) (by decide +kernel) (by decide +kernel) (by decide +kernel) (by decide +kernel) (by decide +kernel) w
    | 9, _ =>
      have hn : n = 384 := hn
      subst hn
      exact rg_x s ok 384 l _ _ _ hl hOf (by decide +kernel) (by decide +kernel) (by decide +kernel) (by decide +kernel) (by decide +kernel) (by decide +kernel) (by decide +kernel) (by decide +kernel) (by decide +kernel) (by decide +kernel) (by decide +kernel) (by decide +kernel) (by decide +kernel) (by decide +kernel) 9 (by decide) rfl w
    | 10, _ =>
      have hn : n = 768 := hn
      subst hn
      exact rg_x s ok 768 l _ _ _ hl hOf (by decide +kernel) (by decide +kernel) (by decide +kernel) (by decide +kernel) (by decide +kernel) (by decide +kernel) (by decide +kernel) (by decide +kernel) (by decide +kernel) (by decide +kernel) (by decide +kernel) (by decide +kernel) (by decide +kernel) (by decide +kernel) 10 (by decide) rfl w
    | 11, _ =>
      have hn : n = 769 := hn
      subst hn
      exact rg_10 s ok 769 l _ _ _ hl hOf (by decide +kernel) (by decide +kernel) (by decide +kernel) (by decide +kernel) (by decide +kernel) (by decide +kernel) (by decide +kernel) (by decide +kernel) (by decide +kernel) (by decide +kernel) (by decide +kernel) w
    | 12, _ =>
      have hn : n = 770 := hn
      subst hn
      exact rg_x s ok 770 l _ _ _ hl hOf (by decide +kernel) (by decide +kernel) (by decide +kernel) (by decide +kernel) (by decide +kernel) (by decide +kernel) (by decide +kernel) (by decide +kernel) (by decide +kernel) (by decide +kernel) (by decide +kernel) (by decide +kernel) (by decide +kernel) (by decide +kernel) 12 (by decide) rfl w
    | 13, _ =>
      have hn : n = 771 := hn
      subst hn
      exact rg_x s ok 771 l _ _ _ hl hOf (by decide +kernel) (by decide +kernel) (by decide +kernel) (by decide +kernel) (by decide +kernel) (by decide +kernel) (by decide +kernel) (by decide +kernel) (by decide +kernel) (by decide +kernel) (by decide +kernel) (by decide +kernel) (by decide +kernel) (by decide +kernel) 13 (by decide) rfl w
    | 14, _ =>
      have hn : n = 772 := hn
      subst hn
      exact rg_x s ok 772 l _ _ _ hl hOf (by decide +kernel) (by decide +kernel) (by decide +kernel) (by decide +kernel) (by decide +kernel) (by decide +kernel) (by decide +kernel) (by decide +kernel) (by decide +kernel) (by decide +kernel) (by decide +kernel) (by decide +kernel) (by decide +kernel) (by decide +kernel) 14 (by decide) rfl w
    | 15, _ =>
      have hn : n = 773 := hn
      subst hn
      exact rg_x s ok 773 l _ _ _ hl hOf (by decide +kernel) (by decide +kernel) (by decide +kernel) (by decide +kernel) (by decide +kernel) (by decide +kernel) (by decide +kernel) (by decide +kernel) (by decide +kernel) (by decide +kernel) (by decide +kernel) (by decide +kernel) (by decide +kernel) (by decide +kernel) 15 (by decide) rfl w
    | 16, _ =>
      have hn : n = 774 := hn
      subst hn
      exact rg_x s ok 774 l _ _ _ hl hOf (by decide +kernel) (by decide +kernel) (by decide +kernel) (by decide +kernel) (by decide +kernel) (by decide +kernel) (by decide +kernel) (by decide +kernel) (by decide +kernel) (by decide +kernel) (by decide +kernel) (by decide +kernel) (by decide +kernel) (by decide +kernel) 16 (by decide) rfl w
    | 17, _ =>
      have hn : n = 832 := hn
      subst hn
      exact rg_x s ok 832 l _ _ _ hl hOf (by decide +kernel) (by decide +kernel) (by decide +kernel) (by decide +kernel) (by decide +kernel) (by decide +kernel) (by decide +kernel) (by decide +kernel) (by decide +kernel) (by decide +kernel) (by decide +kernel) (by decide +kernel) (by decide +kernel) (by decide +kernel) 17 (by decide) rfl w
    | 18, _ =>
      have hn : n = 833 := hn
      subst hn
      exact rg_x s ok 833 l _ _ _ hl hOf (by decide +kernel) (by decide +kernel) (by decide +kernel) (by decide +kernel) (by decide +kernel) (by decide +kernel) (by decide +kernel) (by decide +kernel) (by decide +kernel) (by decide +kernel) (by decide +kernel) (by decide +kernel) (by decide +kernel) (by decide +kernel) 18 (by decide) rfl w
    | 19, _ =>
      have hn : n = 834 := hn
      subst hn
      exact rg_x s ok 834 l _ _ _ hl hOf (by decide +kernel) (by decide +kernel) (by decide +kernel) (by decide +kernel) (by decide +kernel) (by decide +kernel) (by decide +kernel) (by decide +kernel) (by decide +kernel) (by decide +kernel) (by decide +kernel) (by decide +kernel) (by decide +kernel) (by decide +kernel) 19 (by decide) rfl w
    | 20, _ =>
      have hn : n = 835 := hn
      subst hn
      exact rg_x s ok 835 l _ _ _ hl hOf (by decide +kernel) (by decide +kernel) (by decide +kernel) (by decide +kernel) (by decide +kernel) (by decide +kernel) (by decide +kernel) (by decide +kernel) (by decide +kernel) (by decide +kernel) (by decide +kernel) (by decide +kernel) (by decide +kernel) (by decide +kernel) 20 (by decide) rfl w
    | 21, _ =>
      have hn : n = 836 := hn
      subst hn
      exact rg_9 s ok 836 l _ _ _ hl hOf (by decide +kernel) (by decide +kernel) (by decide +kernel) (by decide +kernel) (by decide +kernel) (by decide +kernel) (by decide +kernel) (by decide +kernel) (by decide +kernel) (by decide +kernel) w
    | 22, _ =>
      have hn : n = 1472 := hn
      subst hn
      exact rg_x s ok 1472 l _ _ _ hl hOf (by decide +kernel) (by decide +kernel) (by decide +kernel) (by decide +kernel) (by decide +kernel) (by decide +kernel) (by decide +kernel) (by decide +kernel) (by decide +kernel) (by decide +kernel) (by decide +kernel) (by decide +kernel) (by decide +kernel) (by decide +kernel) 22 (by decide) rfl w
    | 23, _ =>
      have hn : n = 1473 := hn
      subst hn
      exact rg_x s ok 1473 l _ _ _ hl hOf (by decide +kernel) (by decide +kernel) (by decide +kernel) (by decide +kernel) (by decide +kernel) (by decide +kernel) (by decide +kernel) (by decide +kernel) (by decide +kernel) (by decide +kernel) (by decide +kernel) (by decide +kernel) (by decide +kernel) (by decide +kernel) 23 (by decide) rfl w
    | 24, _ =>
      have hn : n = 1474 := hn
      subst hn
      have hz : getS s 1474 l = 0 := ok.z _ (by decide)
      rw [hz]
      exact rg_2 s ok 1474 l _ _ _ hl hOf (by decide +kernel) (by decide +kernel) (by decide +kernel) w
    | 25, _ =>
      have hn : n = 2816 := hn
      subst hn
      exact rg_x s ok 2816 l _ _ _ hl hOf (by decide +kernel) (by decide +kernel) (by decide +kernel) (by decide +kernel) (by decide +kernel) (by decide +kernel) (by decide +kernel) (by decide +kernel) (by decide +kernel) (by decide +kernel) (by decide +kernel) (by decide +kernel) (by decide +kernel) (by decide +kernel) 25 (by decide) rfl w
    | 26, _ =>
      have hn : n = 2818 := hn
      subst hn
      exact rg_x s ok 2818 l _ _ _ hl hOf (by decide +kernel) (by decide +kernel) (by decide +kernel) (by decide +kernel) (by decide +kernel) (by decide +kernel) (by decide +kernel) (by decide +kernel) (by decide +kernel) (by decide +kernel) (by decide +kernel) (by decide +kernel) (by decide +kernel) (by decide +kernel) 26 (by decide) rfl w
    | 27, _ =>
      have hn : n = 3072 := hn
      subst hn
      exact rg_11 s ok 3072 l _ _ _ hl hOf (by decide +kernel) (by decide +kernel) (by decide +kernel) (by decide +kernel) (by decide +kernel) (by decide +kernel) (by decide +kernel) (by decide +kernel) (by decide +kernel) (by decide +kernel) (by decide +kernel) (by decide +kernel) w
    | 28, _ =>
      have hn : n = 3073 := hn
      subst hn
      have hz : getS s 3073 l = 0 := ok.z _ (by decide)
      rw [hz]
      exact rg_1 s ok 3073 l _ _ _ hl hOf (by decide +kernel) (by decide +kernel) w
    | 29, _ =>
      have hn : n = 3074 := hn
      subst hn
      exact rg_12 s ok 3074 l _ _ _ hl hOf (by decide +kernel) (by decide +kernel) (by decide +kernel) (by decide +kernel) (by decide +kernel) (by decide +kernel) (by decide +kernel) (by decide +kernel) (by decide +kernel) (by decide +kernel) (by decide +kernel) (by decide +kernel) (by decide +kernel) w
    | 30, _ =>
      have hn : n = 3857 := hn
      subst hn
      have hz : getS s 3857 l = 0 := ok.z _ (by decide)
      rw [hz]
      exact rg_3 s ok 3857 l _ _ _ hl hOf (by decide +kernel) (by decide +kernel) (by decide +kernel) (by decide +kernel) w
    | 31, _ =>
      have hn : n = 3858 := hn
      subst hn
      have hz : getS s 3858 l = 0 := ok.z _ (by decide)
      rw [hz]
      exact rg_4 s ok 3858 l _ _ _ hl hOf (by decide +kernel) (by decide +kernel) (by decide +kernel) (by decide +kernel) (by decide +kernel) w
    | 32, _ =>
      have hn : n = 3859 := hn
      subst hn
      have hz : getS s 3859 l = 0 := ok.z _ (by decide)
      rw [hz]
      exact rg_5 s ok 3859 l _ _ _ hl hOf (by decide +kernel) (by decide +kernel) (by decide +kernel) (by decide +kernel) (by decide +kernel) (by decide +kernel) w
    | 33, _ =>
      have hn : n = 3860 := hn
      subst hn
      exact rg_13 s ok 3860 l _ _ _ hl hOf (by decide +kernel) (by decide +kernel) (by decide +kernel) (by decide +kernel) (by decide +kernel) (by decide +kernel) (by decide +kernel) (by decide +kernel) (by decide +kernel) (by decide +kernel) (by decide +kernel) (by decide +kernel) (by decide +kernel) (by decide +kernel) w
    | k + 34, h => exact absurd h (by omega)
end Go.Proofs.YtfjdalepaacmgaaDoor
