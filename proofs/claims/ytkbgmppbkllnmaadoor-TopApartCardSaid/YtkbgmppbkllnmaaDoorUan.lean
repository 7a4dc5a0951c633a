/-
  The reference of layer 22: Set. Plain numbers, no program: the table of the causes of traps, their words, who takes them, and which interrupt comes first. Two values of a struct's or an array's type (of integers, bools, and such structs and arrays) compared: they are equal just if all their cells are.
-/
import Derived.Test.YtkbgmppbkllnmaaDoorUam
import Derived.Test.YtkbgmppbkllnmaaDoorUaa
import Derived.Test.YtkbgmppbkllnmaaDoorRows
import Derived.DeepKeys
import Derived.Laws.StructEq
import Derived.WalkKit
set_option maxRecDepth 20000
namespace Go.Proofs.YtkbgmppbkllnmaaDoor
open Go.ChangeShapes Go.WideShapes Go.ChangeAt Go.RowKit Wd Csr Sta Cf

/-- What stands while the reference sets: its file in a box, its result. -/
structure RtS (w W : World) (s t : S) : Prop where
  r : CsAt W w.heap.size RfT (refV s)
  z : CsAt W (w.heap.size + 1) RfT (refV t)
  bel : Below w.heap.size w W
theorem RtS.low {w W W' : World} {s t : S} (h : RtS w W s t) (hb : Below W.heap.size W W') : RtS w W' s t := ⟨h.r.low hb, h.z.low hb, h.bel.trans (hb.mono h.bel.size)⟩
theorem RtS.drew {w W : World} {s t : S} (h : RtS w W s t) : RtS w W.drew s t := ⟨h.r, h.z, h.bel.drew⟩
theorem RtS.new (w : World) (s : S) : RtS w ((w.alloc (.cells (refV s) RfT)).alloc (.cells (refV (zero 0)) RfT)) s (zero 0) := by
  refine ⟨(CsAt.new w RfT _).alloc _, ?_, ((Below.refl _ _).alloc (Nat.le_refl _) _).alloc (by simp) _⟩
  have := CsAt.new (w.alloc (.cells (refV s) RfT)) RfT (refV (zero 0))
  simpa using this
theorem sip_next {d w v : Int} (hd : W64 d) (hw : W64 w) : nextS (bits .and .u64 d 2) w v = if tb d 1 then putS w 1 1 (bi (tb v 1)) else w := by
  have hn := nextS_range (bits .and .u64 d 2) w v
  have hm : ∀ i, i < 64 → tb (bits .and .u64 d 2) i = (tb d i && decide (i = 1)) := fun i hi => by rw [tb_and hd.1 hd.2 (by omega) (by omega), tb2 hi]
  cases h1 : tb d 1
  · rw [if_neg (by simp)]
    apply ext hn.1 hn.2 hw.1 hw.2
    intro i hi
    rw [tb_next _ _ _ hi, hm i hi]
    by_cases e : i = 1
    · subst e; rw [h1]; rfl
    · simp [e]
  · rw [if_pos rfl]
    have hp := putS_range w 1 1 (bi (tb v 1))
    apply ext hn.1 hn.2 hp.1 hp.2
    intro i hi
    rw [tb_next _ _ _ hi, hm i hi, show putS w 1 1 (bi (tb v 1)) = putS w ((1 : Nat) : Int) 1 (bi (tb v 1)) from rfl, tb_p1 w _ 1 hi, tb_bi0]
    by_cases e : i = 1
    · subst e; rw [h1]; simp
    · simp [e]
theorem sie_wrap {d w v : Int} (hd : W64 d) (hw : W64 w) (hv : W64 v) : IntKind.u64.wrap (w - bits .and .u64 w d) = bits .andNot .u64 w d ∧ IntKind.u64.wrap (bits .andNot .u64 w d + bits .and .u64 v d) = nextS d w v := by
  have h1 := not_and hw hd
  have h2 := next_sum hd hw hv
  have h3 := andNot_range hw.1 hw.2 hd.1 hd.2
  have h4 := nextS_range d w v
  rw [IntKind.wrap_u64, IntKind.wrap_u64]
  omega
theorem S_eta (s : S) : ({ s with cw := s.cw || false, iw := s.iw || false } : S) = s := by cases s; simp
theorem set_same {s : S} {n : Int} (v : Int) (h : idxK n = none) (h1 : (n == 256) = false) (h2 : (n == 260) = false) (h3 : (n == 324) = false) (h4 : (n == 2816) = false) (h5 : (n == 2818) = false) : setS s n v = s := by
  unfold setS setW
  rw [if_neg (by simpa using h1), if_neg (by simpa using h2), if_neg (by simpa using h3), if_pos h, h4, h5]
  exact S_eta s
theorem set_put {s : S} {n : Int} (v : Int) (h : idxK n ≠ none) (h1 : (n == 256) = false) (h2 : (n == 260) = false) (h3 : (n == 324) = false) (h4 : (n == 2816) = false) (h5 : (n == 2818) = false) : setS s n v = s.put n (legS n (s.f n) v) := by
  unfold setS setW
  rw [if_neg (by simpa using h1), if_neg (by simpa using h2), if_neg (by simpa using h3), if_neg h, h4, h5]
  exact S_eta (s.put n (legS n (s.f n) v))
theorem set_sst (s : S) (v : Int) : setS s 256 v = s.put 768 (legS 256 (s.f 768) v) := S_eta (s.put 768 (legS 256 (s.f 768) v))
theorem set_sie (s : S) (v : Int) : setS s 260 v = s.put 772 (nextS (s.f 771) (s.f 772) v) := S_eta (s.put 772 (nextS (s.f 771) (s.f 772) v))
theorem set_sip (s : S) (v : Int) : setS s 324 v = s.put 836 (nextS (bits .and .u64 (s.f 771) 2) (s.f 836) v) := S_eta (s.put 836 (nextS (bits .and .u64 (s.f 771) 2) (s.f 836) v))
theorem set_mcy (s : S) (v : Int) : setS s 2816 v = ({ s with cw := true } : S).put 2816 (legS 2816 (s.f 2816) v) := by
  show ({ s.put 2816 (legS 2816 (s.f 2816) v) with cw := s.cw || true, iw := s.iw || false } : S) = _
  rw [Bool.or_true, Bool.or_false]; rfl
theorem set_min (s : S) (v : Int) : setS s 2818 v = ({ s with iw := true } : S).put 2818 (legS 2818 (s.f 2818) v) := by
  show ({ s.put 2818 (legS 2818 (s.f 2818) v) with cw := s.cw || false, iw := s.iw || true } : S) = _
  rw [Bool.or_true, Bool.or_false]; rfl
theorem ref_cw {W : World} {b : Nat} {s : S} (h : CsAt W b RfT (refV s)) (x : Bool) : CsAt (W.setCell ⟨b, 35, none⟩ (.bool x)) b RfT (refV { s with cw := x }) := by
  unfold CsAt
  rw [heap_setCell_same W b 35 _ RfT _ h, refV_cwput]
theorem ref_iw {W : World} {b : Nat} {s : S} (h : CsAt W b RfT (refV s)) (x : Bool) : CsAt (W.setCell ⟨b, 36, none⟩ (.bool x)) b RfT (refV { s with iw := x }) := by
  unfold CsAt
  rw [heap_setCell_same W b 36 _ RfT _ h, refV_iwput]
set_option maxHeartbeats 4000000 in
theorem rs_0 (s : S) (_ok : Ok s) (n v a m : Int) (nm : ByteArray) (_hv : W64 v) (hOf : rAgg (ofN n) = .agg #[.int .i64 a, .string nm, .int .u64 m]) (e0 : (nm.toList == []) = true) (w : World) :
    Calls Tryd.prog 68 #[.agg (refV s), .int .i64 n, .int .u64 v] w fun e w' => e = .returned (.agg (refV (s))) ∧ Below w.heap.size w w' := by
  have HS1 := Lib.hid (RtS.new w s)
  have HO := Lib.hid (fun W => rof_c n W)
  rw [hOf] at HO
  have f1 := fld_rr1 a nm m
  go_enter Tryd.func68, Tryd.ntmps68
  go_upto_region 1 with (refine wpList_allocY rfl _ rfl RfT rfl (refV (zero 0)) (zero_rf _) ?_)
  generalize ((w.alloc (.cells (refV s) RfT)).alloc (.cells (refV (zero 0)) RfT)) = w1 at *
  go_wp2_with (refine wpList_load_row rfl RfT _ rfl w.heap.size rfl RfT _ (0, 0) _ HS1.out.r Tryd.underlying38 rfl (iRf _) ?_)
  refine (rword_c s ⟨#[109, 105, 100, 101, 108, 101, 103]⟩ 13 (by decide) nc_mideleg _).mono ?_
  rintro e w2 ⟨rfl, hb⟩
  have HS2 := Lib.hid (HS1.out.low hb)
  clear hb
  rw [show ((((rowC 13).1 : Nat) : Int)) = 771 from rfl]
  go_wp2_with (refine wpList_load_row rfl RfT _ rfl w.heap.size rfl RfT _ (0, 0) _ HS2.out.r Tryd.underlying38 rfl (iRf _) ?_)
  refine (HO.out _).mono ?_
  rintro e w3 ⟨rfl, hb⟩
  have HS3 := Lib.hid (HS2.out.low hb)
  clear hb
  go_wp2_with (first | (refine wpList_load_row rfl RfT _ rfl w.heap.size rfl RfT _ (0, 0) _ HS3.out.r Tryd.underlying38 rfl (iRf _) ?_) | (refine wpList_store_row rfl RfT _ _ rfl (w.heap.size + 1) (refV (s)) rfl rfl RfT _ HS3.out.z (iRf _) (by rw [refV_size, refV_size]) (rfV_one _) ?_))
  exact bodyPost_ret (results_cell_row Tryd.results68 _ _ _ _ _ _ _ rfl (HS3.out.z.row _) Tryd.underlying38 rfl (iRf _)) rfl ⟨rfl, below_setRow HS3.out.bel (by omega) _⟩
set_option maxHeartbeats 4000000 in
theorem rs_1 (s : S) (_ok : Ok s) (n v a m : Int) (nm : ByteArray) (_hv : W64 v) (hOf : rAgg (ofN n) = .agg #[.int .i64 a, .string nm, .int .u64 m]) (e0 : (nm.toList == []) = false) (e1 : (nm.toList == [115, 104, 111, 111, 116]) = true) (w : World) :
    Calls Tryd.prog 68 #[.agg (refV s), .int .i64 n, .int .u64 v] w fun e w' => e = .returned (.agg (refV (s))) ∧ Below w.heap.size w w' := by
  have HS1 := Lib.hid (RtS.new w s)
  have HO := Lib.hid (fun W => rof_c n W)
  rw [hOf] at HO
  have f1 := fld_rr1 a nm m
  go_enter Tryd.func68, Tryd.ntmps68
  go_upto_region 1 with (refine wpList_allocY rfl _ rfl RfT rfl (refV (zero 0)) (zero_rf _) ?_)
  generalize ((w.alloc (.cells (refV s) RfT)).alloc (.cells (refV (zero 0)) RfT)) = w1 at *
  go_wp2_with (refine wpList_load_row rfl RfT _ rfl w.heap.size rfl RfT _ (0, 0) _ HS1.out.r Tryd.underlying38 rfl (iRf _) ?_)
  refine (rword_c s ⟨#[109, 105, 100, 101, 108, 101, 103]⟩ 13 (by decide) nc_mideleg _).mono ?_
  rintro e w2 ⟨rfl, hb⟩
  have HS2 := Lib.hid (HS1.out.low hb)
  clear hb
  rw [show ((((rowC 13).1 : Nat) : Int)) = 771 from rfl]
  go_wp2_with (refine wpList_load_row rfl RfT _ rfl w.heap.size rfl RfT _ (0, 0) _ HS2.out.r Tryd.underlying38 rfl (iRf _) ?_)
  refine (HO.out _).mono ?_
  rintro e w3 ⟨rfl, hb⟩
  have HS3 := Lib.hid (HS2.out.low hb)
  clear hb
  go_wp2_with (first | (refine wpList_load_row rfl RfT _ rfl w.heap.size rfl RfT _ (0, 0) _ HS3.out.r Tryd.underlying38 rfl (iRf _) ?_) | (refine wpList_store_row rfl RfT _ _ rfl (w.heap.size + 1) (refV (s)) rfl rfl RfT _ HS3.out.z (iRf _) (by rw [refV_size, refV_size]) (rfV_one _) ?_))
  exact bodyPost_ret (results_cell_row Tryd.results68 _ _ _ _ _ _ _ rfl (HS3.out.z.row _) Tryd.underlying38 rfl (iRf _)) rfl ⟨rfl, below_setRow HS3.out.bel (by omega) _⟩
set_option maxHeartbeats 4000000 in
theorem rs_2 (s : S) (_ok : Ok s) (n v a m : Int) (nm : ByteArray) (_hv : W64 v) (hOf : rAgg (ofN n) = .agg #[.int .i64 a, .string nm, .int .u64 m]) (e0 : (nm.toList == []) = false) (e1 : (nm.toList == [115, 104, 111, 111, 116]) = false) (e2 : (nm.toList == [109, 105, 115, 97]) = true) (w : World) :
    Calls Tryd.prog 68 #[.agg (refV s), .int .i64 n, .int .u64 v] w fun e w' => e = .returned (.agg (refV (s))) ∧ Below w.heap.size w w' := by
  have HS1 := Lib.hid (RtS.new w s)
  have HO := Lib.hid (fun W => rof_c n W)
  rw [hOf] at HO
  have f1 := fld_rr1 a nm m
  go_enter Tryd.func68, Tryd.ntmps68
  go_upto_region 1 with (refine wpList_allocY rfl _ rfl RfT rfl (refV (zero 0)) (zero_rf _) ?_)
  generalize ((w.alloc (.cells (refV s) RfT)).alloc (.cells (refV (zero 0)) RfT)) = w1 at *
  go_wp2_with (refine wpList_load_row rfl RfT _ rfl w.heap.size rfl RfT _ (0, 0) _ HS1.out.r Tryd.underlying38 rfl (iRf _) ?_)
  refine (rword_c s ⟨#[109, 105, 100, 101, 108, 101, 103]⟩ 13 (by decide) nc_mideleg _).mono ?_
  rintro e w2 ⟨rfl, hb⟩
  have HS2 := Lib.hid (HS1.out.low hb)
  clear hb
  rw [show ((((rowC 13).1 : Nat) : Int)) = 771 from rfl]
  go_wp2_with (refine wpList_load_row rfl RfT _ rfl w.heap.size rfl RfT _ (0, 0) _ HS2.out.r Tryd.underlying38 rfl (iRf _) ?_)
  refine (HO.out _).mono ?_
  rintro e w3 ⟨rfl, hb⟩
  have HS3 := Lib.hid (HS2.out.low hb)
  clear hb
  go_wp2_with (first | (refine wpList_load_row rfl RfT _ rfl w.heap.size rfl RfT _ (0, 0) _ HS3.out.r Tryd.underlying38 rfl (iRf _) ?_) | (refine wpList_store_row rfl RfT _ _ rfl (w.heap.size + 1) (refV (s)) rfl rfl RfT _ HS3.out.z (iRf _) (by rw [refV_size, refV_size]) (rfV_one _) ?_))
  exact bodyPost_ret (results_cell_row Tryd.results68 _ _ _ _ _ _ _ rfl (HS3.out.z.row _) Tryd.underlying38 rfl (iRf _)) rfl ⟨rfl, below_setRow HS3.out.bel (by omega) _⟩
set_option maxHeartbeats 4000000 in
theorem rs_3 (s : S) (_ok : Ok s) (n v a m : Int) (nm : ByteArray) (_hv : W64 v) (hOf : rAgg (ofN n) = .agg #[.int .i64 a, .string nm, .int .u64 m]) (e0 : (nm.toList == []) = false) (e1 : (nm.toList == [115, 104, 111, 111, 116]) = false) (e2 : (nm.toList == [109, 105, 115, 97]) = false) (e3 : (nm.toList == [99, 121, 99, 108, 101]) = true) (w : World) :
    Calls Tryd.prog 68 #[.agg (refV s), .int .i64 n, .int .u64 v] w fun e w' => e = .returned (.agg (refV (s))) ∧ Below w.heap.size w w' := by
  have HS1 := Lib.hid (RtS.new w s)
  have HO := Lib.hid (fun W => rof_c n W)
  rw [hOf] at HO
  have f1 := fld_rr1 a nm m
  go_enter Tryd.func68, Tryd.ntmps68
  go_upto_region 1 with (refine wpList_allocY rfl _ rfl RfT rfl (refV (zero 0)) (zero_rf _) ?_)
  generalize ((w.alloc (.cells (refV s) RfT)).alloc (.cells (refV (zero 0)) RfT)) = w1 at *
  go_wp2_with (refine wpList_load_row rfl RfT _ rfl w.heap.size rfl RfT _ (0, 0) _ HS1.out.r Tryd.underlying38 rfl (iRf _) ?_)
  refine (rword_c s ⟨#[109, 105, 100, 101, 108, 101, 103]⟩ 13 (by decide) nc_mideleg _).mono ?_
  rintro e w2 ⟨rfl, hb⟩
  have HS2 := Lib.hid (HS1.out.low hb)
  clear hb
  rw [show ((((rowC 13).1 : Nat) : Int)) = 771 from rfl]
  go_wp2_with (refine wpList_load_row rfl RfT _ rfl w.heap.size rfl RfT _ (0, 0) _ HS2.out.r Tryd.underlying38 rfl (iRf _) ?_)
  refine (HO.out _).mono ?_
  rintro e w3 ⟨rfl, hb⟩
  have HS3 := Lib.hid (HS2.out.low hb)
  clear hb
  go_wp2_with (first | (refine wpList_load_row rfl RfT _ rfl w.heap.size rfl RfT _ (0, 0) _ HS3.out.r Tryd.underlying38 rfl (iRf _) ?_) | (refine wpList_store_row rfl RfT _ _ rfl (w.heap.size + 1) (refV (s)) rfl rfl RfT _ HS3.out.z (iRf _) (by rw [refV_size, refV_size]) (rfV_one _) ?_))
  exact bodyPost_ret (results_cell_row Tryd.results68 _ _ _ _ _ _ _ rfl (HS3.out.z.row _) Tryd.underlying38 rfl (iRf _)) rfl ⟨rfl, below_setRow HS3.out.bel (by omega) _⟩
set_option maxHeartbeats 4000000 in
theorem rs_4 (s : S) (_ok : Ok s) (n v a m : Int) (nm : ByteArray) (_hv : W64 v) (hOf : rAgg (ofN n) = .agg #[.int .i64 a, .string nm, .int .u64 m]) (e0 : (nm.toList == []) = false) (e1 : (nm.toList == [115, 104, 111, 111, 116]) = false) (e2 : (nm.toList == [109, 105, 115, 97]) = false) (e3 : (nm.toList == [99, 121, 99, 108, 101]) = false) (e4 : (nm.toList == [116, 105, 109, 101]) = true) (w : World) :
    Calls Tryd.prog 68 #[.agg (refV s), .int .i64 n, .int .u64 v] w fun e w' => e = .returned (.agg (refV (s))) ∧ Below w.heap.size w w' := by
  have HS1 := Lib.hid (RtS.new w s)
  have HO := Lib.hid (fun W => rof_c n W)
  rw [hOf] at HO
  have f1 := fld_rr1 a nm m
  go_enter Tryd.func68, Tryd.ntmps68
  go_upto_region 1 with (refine wpList_allocY rfl _ rfl RfT rfl (refV (zero 0)) (zero_rf _) ?_)
  generalize ((w.alloc (.cells (refV s) RfT)).alloc (.cells (refV (zero 0)) RfT)) = w1 at *
  go_wp2_with (refine wpList_load_row rfl RfT _ rfl w.heap.size rfl RfT _ (0, 0) _ HS1.out.r Tryd.underlying38 rfl (iRf _) ?_)
  refine (rword_c s ⟨#[109, 105, 100, 101, 108, 101, 103]⟩ 13 (by decide) nc_mideleg _).mono ?_
  rintro e w2 ⟨rfl, hb⟩
  have HS2 := Lib.hid (HS1.out.low hb)
  clear hb
  rw [show ((((rowC 13).1 : Nat) : Int)) = 771 from rfl]
  go_wp2_with (refine wpList_load_row rfl RfT _ rfl w.heap.size rfl RfT _ (0, 0) _ HS2.out.r Tryd.underlying38 rfl (iRf _) ?_)
  refine (HO.out _).mono ?_
  rintro e w3 ⟨rfl, hb⟩
  have HS3 := Lib.hid (HS2.out.low hb)
  clear hb
  go_wp2_with (first | (refine wpList_load_row rfl RfT _ rfl w.heap.size rfl RfT _ (0, 0) _ HS3.out.r Tryd.underlying38 rfl (iRf _) ?_) | (refine wpList_store_row rfl RfT _ _ rfl (w.heap.size + 1) (refV (s)) rfl rfl RfT _ HS3.out.z (iRf _) (by rw [refV_size, refV_size]) (rfV_one _) ?_))
  exact bodyPost_ret (results_cell_row Tryd.results68 _ _ _ _ _ _ _ rfl (HS3.out.z.row _) Tryd.underlying38 rfl (iRf _)) rfl ⟨rfl, below_setRow HS3.out.bel (by omega) _⟩
set_option maxHeartbeats 4000000 in
theorem rs_5 (s : S) (_ok : Ok s) (n v a m : Int) (nm : ByteArray) (_hv : W64 v) (hOf : rAgg (ofN n) = .agg #[.int .i64 a, .string nm, .int .u64 m]) (e0 : (nm.toList == []) = false) (e1 : (nm.toList == [115, 104, 111, 111, 116]) = false) (e2 : (nm.toList == [109, 105, 115, 97]) = false) (e3 : (nm.toList == [99, 121, 99, 108, 101]) = false) (e4 : (nm.toList == [116, 105, 109, 101]) = false) (e5 : (nm.toList == [105, 110, 115, 116, 114, 101, 116]) = true) (w : World) :
    Calls Tryd.prog 68 #[.agg (refV s), .int .i64 n, .int .u64 v] w fun e w' => e = .returned (.agg (refV (s))) ∧ Below w.heap.size w w' := by
  have HS1 := Lib.hid (RtS.new w s)
  have HO := Lib.hid (fun W => rof_c n W)
  rw [hOf] at HO
  have f1 := fld_rr1 a nm m
  go_enter Tryd.func68, Tryd.ntmps68
  go_upto_region 1 with (refine wpList_allocY rfl _ rfl RfT rfl (refV (zero 0)) (zero_rf _) ?_)
  generalize ((w.alloc (.cells (refV s) RfT)).alloc (.cells (refV (zero 0)) RfT)) = w1 at *
  go_wp2_with (refine wpList_load_row rfl RfT _ rfl w.heap.size rfl RfT _ (0, 0) _ HS1.out.r Tryd.underlying38 rfl (iRf _) ?_)
  refine (rword_c s ⟨#[109, 105, 100, 101, 108, 101, 103]⟩ 13 (by decide) nc_mideleg _).mono ?_
  rintro e w2 ⟨rfl, hb⟩
  have HS2 := Lib.hid (HS1.out.low hb)
  clear hb
  rw [show ((((rowC 13).1 : Nat) : Int)) = 771 from rfl]
  go_wp2_with (refine wpList_load_row rfl RfT _ rfl w.heap.size rfl RfT _ (0, 0) _ HS2.out.r Tryd.underlying38 rfl (iRf _) ?_)
  refine (HO.out _).mono ?_
  rintro e w3 ⟨rfl, hb⟩
  have HS3 := Lib.hid (HS2.out.low hb)
  clear hb
  go_wp2_with (first | (refine wpList_load_row rfl RfT _ rfl w.heap.size rfl RfT _ (0, 0) _ HS3.out.r Tryd.underlying38 rfl (iRf _) ?_) | (refine wpList_store_row rfl RfT _ _ rfl (w.heap.size + 1) (refV (s)) rfl rfl RfT _ HS3.out.z (iRf _) (by rw [refV_size, refV_size]) (rfV_one _) ?_))
  exact bodyPost_ret (results_cell_row Tryd.results68 _ _ _ _ _ _ _ rfl (HS3.out.z.row _) Tryd.underlying38 rfl (iRf _)) rfl ⟨rfl, below_setRow HS3.out.bel (by omega) _⟩
set_option maxHeartbeats 4000000 in
theorem rs_6 (s : S) (_ok : Ok s) (n v a m : Int) (nm : ByteArray) (_hv : W64 v) (hOf : rAgg (ofN n) = .agg #[.int .i64 a, .string nm, .int .u64 m]) (e0 : (nm.toList == []) = false) (e1 : (nm.toList == [115, 104, 111, 111, 116]) = false) (e2 : (nm.toList == [109, 105, 115, 97]) = false) (e3 : (nm.toList == [99, 121, 99, 108, 101]) = false) (e4 : (nm.toList == [116, 105, 109, 101]) = false) (e5 : (nm.toList == [105, 110, 115, 116, 114, 101, 116]) = false) (e6 : (nm.toList == [109, 118, 101, 110, 100, 111, 114, 105, 100]) = true) (w : World) :
    Calls Tryd.prog 68 #[.agg (refV s), .int .i64 n, .int .u64 v] w fun e w' => e = .returned (.agg (refV (s))) ∧ Below w.heap.size w w' := by
  have HS1 := Lib.hid (RtS.new w s)
  have HO := Lib.hid (fun W => rof_c n W)
  rw [hOf] at HO
  have f1 := fld_rr1 a nm m
  go_enter Tryd.func68, Tryd.ntmps68
  go_upto_region 1 with (refine wpList_allocY rfl _ rfl RfT rfl (refV (zero 0)) (zero_rf _) ?_)
  generalize ((w.alloc (.cells (refV s) RfT)).alloc (.cells (refV (zero 0)) RfT)) = w1 at *
  go_wp2_with (refine wpList_load_row rfl RfT _ rfl w.heap.size rfl RfT _ (0, 0) _ HS1.out.r Tryd.underlying38 rfl (iRf _) ?_)
  refine (rword_c s ⟨#[109, 105, 100, 101, 108, 101, 103]⟩ 13 (by decide) nc_mideleg _).mono ?_
  rintro e w2 ⟨rfl, hb⟩
  have HS2 := Lib.hid (HS1.out.low hb)
  clear hb
  rw [show ((((rowC 13).1 : Nat) : Int)) = 771 from rfl]
  go_wp2_with (refine wpList_load_row rfl RfT _ rfl w.heap.size rfl RfT _ (0, 0) _ HS2.out.r Tryd.underlying38 rfl (iRf _) ?_)
  refine (HO.out _).mono ?_
  rintro e w3 ⟨rfl, hb⟩
  have HS3 := Lib.hid (HS2.out.low hb)
  clear hb
  go_wp2_with (first | (refine wpList_load_row rfl RfT _ rfl w.heap.size rfl RfT _ (0, 0) _ HS3.out.r Tryd.underlying38 rfl (iRf _) ?_) | (refine wpList_store_row rfl RfT _ _ rfl (w.heap.size + 1) (refV (s)) rfl rfl RfT _ HS3.out.z (iRf _) (by rw [refV_size, refV_size]) (rfV_one _) ?_))
  exact bodyPost_ret (results_cell_row Tryd.results68 _ _ _ _ _ _ _ rfl (HS3.out.z.row _) Tryd.underlying38 rfl (iRf _)) rfl ⟨rfl, below_setRow HS3.out.bel (by omega) _⟩
set_option maxHeartbeats 4000000 in
theorem rs_7 (s : S) (_ok : Ok s) (n v a m : Int) (nm : ByteArray) (_hv : W64 v) (hOf : rAgg (ofN n) = .agg #[.int .i64 a, .string nm, .int .u64 m]) (e0 : (nm.toList == []) = false) (e1 : (nm.toList == [115, 104, 111, 111, 116]) = false) (e2 : (nm.toList == [109, 105, 115, 97]) = false) (e3 : (nm.toList == [99, 121, 99, 108, 101]) = false) (e4 : (nm.toList == [116, 105, 109, 101]) = false) (e5 : (nm.toList == [105, 110, 115, 116, 114, 101, 116]) = false) (e6 : (nm.toList == [109, 118, 101, 110, 100, 111, 114, 105, 100]) = false) (e7 : (nm.toList == [109, 97, 114, 99, 104, 105, 100]) = true) (w : World) :
    Calls Tryd.prog 68 #[.agg (refV s), .int .i64 n, .int .u64 v] w fun e w' => e = .returned (.agg (refV (s))) ∧ Below w.heap.size w w' := by
  have HS1 := Lib.hid (RtS.new w s)
  have HO := Lib.hid (fun W => rof_c n W)
  rw [hOf] at HO
  have f1 := fld_rr1 a nm m
  go_enter Tryd.func68, Tryd.ntmps68
  go_upto_region 1 with (refine wpList_allocY rfl _ rfl RfT rfl (refV (zero 0)) (zero_rf _) ?_)
  generalize ((w.alloc (.cells (refV s) RfT)).alloc (.cells (refV (zero 0)) RfT)) = w1 at *
  go_wp2_with (refine wpList_load_row rfl RfT _ rfl w.heap.size rfl RfT _ (0, 0) _ HS1.out.r Tryd.underlying38 rfl (iRf _) ?_)
  refine (rword_c s ⟨#[109, 105, 100, 101, 108, 101, 103]⟩ 13 (by decide) nc_mideleg _).mono ?_
  rintro e w2 ⟨rfl, hb⟩
  have HS2 := Lib.hid (HS1.out.low hb)
  clear hb
  rw [show ((((rowC 13).1 : Nat) : Int)) = 771 from rfl]
  go_wp2_with (refine wpList_load_row rfl RfT _ rfl w.heap.size rfl RfT _ (0, 0) _ HS2.out.r Tryd.underlying38 rfl (iRf _) ?_)
  refine (HO.out _).mono ?_
  rintro e w3 ⟨rfl, hb⟩
  have HS3 := Lib.hid (HS2.out.low hb)
  clear hb
  go_wp2_with (first | (refine wpList_load_row rfl RfT _ rfl w.heap.size rfl RfT _ (0, 0) _ HS3.out.r Tryd.underlying38 rfl (iRf _) ?_) | (refine wpList_store_row rfl RfT _ _ rfl (w.heap.size + 1) (refV (s)) rfl rfl RfT _ HS3.out.z (iRf _) (by rw [refV_size, refV_size]) (rfV_one _) ?_))
  exact bodyPost_ret (results_cell_row Tryd.results68 _ _ _ _ _ _ _ rfl (HS3.out.z.row _) Tryd.underlying38 rfl (iRf _)) rfl ⟨rfl, below_setRow HS3.out.bel (by omega) _⟩
set_option maxHeartbeats 4000000 in
theorem rs_8 (s : S) (_ok : Ok s) (n v a m : Int) (nm : ByteArray) (_hv : W64 v) (hOf : rAgg (ofN n) = .agg #[.int .i64 a, .string nm, .int .u64 m]) (e0 : (nm.toList == []) = false) (e1 : (nm.toList == [115, 104, 111, 111, 116]) = false) (e2 : (nm.toList == [109, 105, 115, 97]) = false) (e3 : (nm.toList == [99, 121, 99, 108, 101]) = false) (e4 : (nm.toList == [116, 105, 109, 101]) = false) (e5 : (nm.toList == [105, 110, 115, 116, 114, 101, 116]) = false) (e6 : (nm.toList == [109, 118, 101, 110, 100, 111, 114, 105, 100]) = false) (e7 : (nm.toList == [109, 97, 114, 99, 104, 105, 100]) = false) (e8 : (nm.toList == [109, 105, 109, 112, 105, 100]) = true) (w : World) :
    Calls Tryd.prog 68 #[.agg (refV s), .int .i64 n, .int .u64 v] w fun e w' => e = .returned (.agg (refV (s))) ∧ Below w.heap.size w w' := by
  have HS1 := Lib.hid (RtS.new w s)
  have HO := Lib.hid (fun W => rof_c n W)
  rw [hOf] at HO
  have f1 := fld_rr1 a nm m
  go_enter Tryd.func68, Tryd.ntmps68
  go_upto_region 1 with (refine wpList_allocY rfl _ rfl RfT rfl (refV (zero 0)) (zero_rf _) ?_)
  generalize ((w.alloc (.cells (refV s) RfT)).alloc (.cells (refV (zero 0)) RfT)) = w1 at *
  go_wp2_with (refine wpList_load_row rfl RfT _ rfl w.heap.size rfl RfT _ (0, 0) _ HS1.out.r Tryd.underlying38 rfl (iRf _) ?_)
  refine (rword_c s ⟨#[109, 105, 100, 101, 108, 101, 103]⟩ 13 (by decide) nc_mideleg _).mono ?_
  rintro e w2 ⟨rfl, hb⟩
  have HS2 := Lib.hid (HS1.out.low hb)
  clear hb
  rw [show ((((rowC 13).1 : Nat) : Int)) = 771 from rfl]
  go_wp2_with (refine wpList_load_row rfl RfT _ rfl w.heap.size rfl RfT _ (0, 0) _ HS2.out.r Tryd.underlying38 rfl (iRf _) ?_)
  refine (HO.out _).mono ?_
  rintro e w3 ⟨rfl, hb⟩
  have HS3 := Lib.hid (HS2.out.low hb)
  clear hb
  go_wp2_with (first | (refine wpList_load_row rfl RfT _ rfl w.heap.size rfl RfT _ (0, 0) _ HS3.out.r Tryd.underlying38 rfl (iRf _) ?_) | (refine wpList_store_row rfl RfT _ _ rfl (w.heap.size + 1) (refV (s)) rfl rfl RfT _ HS3.out.z (iRf _) (by rw [refV_size, refV_size]) (rfV_one _) ?_))
  exact bodyPost_ret (results_cell_row Tryd.results68 _ _ _ _ _ _ _ rfl (HS3.out.z.row _) Tryd.underlying38 rfl (iRf _)) rfl ⟨rfl, below_setRow HS3.out.bel (by omega) _⟩
set_option maxHeartbeats 4000000 in
theorem rs_9 (s : S) (_ok : Ok s) (n v a m : Int) (nm : ByteArray) (_hv : W64 v) (hOf : rAgg (ofN n) = .agg #[.int .i64 a, .string nm, .int .u64 m]) (e0 : (nm.toList == []) = false) (e1 : (nm.toList == [115, 104, 111, 111, 116]) = false) (e2 : (nm.toList == [109, 105, 115, 97]) = false) (e3 : (nm.toList == [99, 121, 99, 108, 101]) = false) (e4 : (nm.toList == [116, 105, 109, 101]) = false) (e5 : (nm.toList == [105, 110, 115, 116, 114, 101, 116]) = false) (e6 : (nm.toList == [109, 118, 101, 110, 100, 111, 114, 105, 100]) = false) (e7 : (nm.toList == [109, 97, 114, 99, 104, 105, 100]) = false) (e8 : (nm.toList == [109, 105, 109, 112, 105, 100]) = false) (e9 : (nm.toList == [109, 104, 97, 114, 116, 105, 100]) = true) (w : World) :
    Calls Tryd.prog 68 #[.agg (refV s), .int .i64 n, .int .u64 v] w fun e w' => e = .returned (.agg (refV (s))) ∧ Below w.heap.size w w' := by
  have HS1 := Lib.hid (RtS.new w s)
  have HO := Lib.hid (fun W => rof_c n W)
  rw [hOf] at HO
  have f1 := fld_rr1 a nm m
  go_enter Tryd.func68, Tryd.ntmps68
  go_upto_region 1 with (refine wpList_allocY rfl _ rfl RfT rfl (refV (zero 0)) (zero_rf _) ?_)
  generalize ((w.alloc (.cells (refV s) RfT)).alloc (.cells (refV (zero 0)) RfT)) = w1 at *
  go_wp2_with (refine wpList_load_row rfl RfT _ rfl w.heap.size rfl RfT _ (0, 0) _ HS1.out.r Tryd.underlying38 rfl (iRf _) ?_)
  refine (rword_c s ⟨#[109, 105, 100, 101, 108, 101, 103]⟩ 13 (by decide) nc_mideleg _).mono ?_
  rintro e w2 ⟨rfl, hb⟩
  have HS2 := Lib.hid (HS1.out.low hb)
  clear hb
  rw [show ((((rowC 13).1 : Nat) : Int)) = 771 from rfl]
  go_wp2_with (refine wpList_load_row rfl RfT _ rfl w.heap.size rfl RfT _ (0, 0) _ HS2.out.r Tryd.underlying38 rfl (iRf _) ?_)
  refine (HO.out _).mono ?_
  rintro e w3 ⟨rfl, hb⟩
  have HS3 := Lib.hid (HS2.out.low hb)
  clear hb
  go_wp2_with (first | (refine wpList_load_row rfl RfT _ rfl w.heap.size rfl RfT _ (0, 0) _ HS3.out.r Tryd.underlying38 rfl (iRf _) ?_) | (refine wpList_store_row rfl RfT _ _ rfl (w.heap.size + 1) (refV (s)) rfl rfl RfT _ HS3.out.z (iRf _) (by rw [refV_size, refV_size]) (rfV_one _) ?_))
  exact bodyPost_ret (results_cell_row Tryd.results68 _ _ _ _ _ _ _ rfl (HS3.out.z.row _) Tryd.underlying38 rfl (iRf _)) rfl ⟨rfl, below_setRow HS3.out.bel (by omega) _⟩
set_option maxHeartbeats 4000000 in
theorem rs_10 (s : S) (ok : Ok s) (n v a m : Int) (nm : ByteArray) (hv : W64 v) (hOf : rAgg (ofN n) = .agg #[.int .i64 a, .string nm, .int .u64 m]) (e0 : (nm.toList == []) = false) (e1 : (nm.toList == [115, 104, 111, 111, 116]) = false) (e2 : (nm.toList == [109, 105, 115, 97]) = false) (e3 : (nm.toList == [99, 121, 99, 108, 101]) = false) (e4 : (nm.toList == [116, 105, 109, 101]) = false) (e5 : (nm.toList == [105, 110, 115, 116, 114, 101, 116]) = false) (e6 : (nm.toList == [109, 118, 101, 110, 100, 111, 114, 105, 100]) = false) (e7 : (nm.toList == [109, 97, 114, 99, 104, 105, 100]) = false) (e8 : (nm.toList == [109, 105, 109, 112, 105, 100]) = false) (e9 : (nm.toList == [109, 104, 97, 114, 116, 105, 100]) = false) (e10 : (nm.toList == [115, 115, 116, 97, 116, 117, 115]) = true) (w : World) :
    Calls Tryd.prog 68 #[.agg (refV s), .int .i64 n, .int .u64 v] w fun e w' => e = .returned (.agg (refV (s.put 768 (legS 256 (s.f 768) v)))) ∧ Below w.heap.size w w' := by
  have HS1 := Lib.hid (RtS.new w s)
  have HO := Lib.hid (fun W => rof_c n W)
  rw [hOf] at HO
  have f1 := fld_rr1 a nm m
  go_enter Tryd.func68, Tryd.ntmps68
  go_upto_region 1 with (refine wpList_allocY rfl _ rfl RfT rfl (refV (zero 0)) (zero_rf _) ?_)
  generalize ((w.alloc (.cells (refV s) RfT)).alloc (.cells (refV (zero 0)) RfT)) = w1 at *
  go_wp2_with (refine wpList_load_row rfl RfT _ rfl w.heap.size rfl RfT _ (0, 0) _ HS1.out.r Tryd.underlying38 rfl (iRf _) ?_)
  refine (rword_c s ⟨#[109, 105, 100, 101, 108, 101, 103]⟩ 13 (by decide) nc_mideleg _).mono ?_
  rintro e w2 ⟨rfl, hb⟩
  have HS2 := Lib.hid (HS1.out.low hb)
  clear hb
  rw [show ((((rowC 13).1 : Nat) : Int)) = 771 from rfl]
  go_wp2_with (refine wpList_load_row rfl RfT _ rfl w.heap.size rfl RfT _ (0, 0) _ HS2.out.r Tryd.underlying38 rfl (iRf _) ?_)
  refine (HO.out _).mono ?_
  rintro e w3 ⟨rfl, hb⟩
  have HS3 := Lib.hid (HS2.out.low hb)
  clear hb
  go_upto_region 16 with (refine wpList_load_row rfl RfT _ rfl w.heap.size rfl RfT _ (0, 0) _ HS3.out.r Tryd.underlying38 rfl (iRf _) ?_)
  refine wp_region_steady_tail (fun W => RtS w W s (zero 0)) 6 (by kernel_rfl) (by kernel_rfl) HS3.out.drew ?_
  refine steady_val (.agg (refV s)) ?_ (by kernel_rfl) (fun W hS => exec_load_row RfT _ rfl w.heap.size rfl RfT _ _ hS.r Tryd.underlying38 rfl (iRf _)) ?_ ?_
  rotate_left 1
  · go_simp
    exact rfl
  refine steady_val (.agg (refV s)) ?_ (by kernel_rfl) (fun W hS => exec_load_row RfT _ rfl w.heap.size rfl RfT _ _ hS.r Tryd.underlying38 rfl (iRf _)) ?_ ?_
  rotate_left 1
  · go_simp
    exact rfl
  refine steady_enter (.int .u64 (s.f 768)) 35 #[.agg (refV s), .string ⟨#[109, 115, 116, 97, 116, 117, 115]⟩] ?_ (by kernel_rfl) (fun W hS => ?_) (fun W hS => (rword_c s ⟨#[109, 115, 116, 97, 116, 117, 115]⟩ 10 (by decide) nc_mstatus W).mono (by rintro e w' ⟨rfl, hb⟩; exact ⟨rfl, hS.low hb⟩)) ?_ ?_
  rotate_left 1
  · go_simp
  · go_simp
    exact rfl
  refine steady_val ?_ ?_ (by kernel_rfl) (fun W hS => ?_) ?_ ?_
  rotate_left 2
  · go_simp
    exact rfl
  · go_simp
    exact rfl
  refine steady_enter (.int .u64 (legS 256 (s.f 768) v)) 90 #[.int .u64 (s.f 768), .int .u64 v] ?_ (by kernel_rfl) (fun W hS => ?_) (fun W hS => (rlay_c (s.f 768) v (ok.w _) hv W).mono (by rintro e w' ⟨rfl, hb⟩; exact ⟨rfl, hS.low hb⟩)) ?_ ?_
  rotate_left 1
  · go_simp
  · go_simp
    exact rfl
  refine steady_enter (.agg (refV (s.put 768 (legS 256 (s.f 768) v)))) 67 #[.agg (refV s), .string ⟨#[109, 115, 116, 97, 116, 117, 115]⟩, .int .u64 (legS 256 (s.f 768) v)] ?_ (by kernel_rfl) (fun W hS => ?_) (fun W hS => (rwith_c s ⟨#[109, 115, 116, 97, 116, 117, 115]⟩ (legS 256 (s.f 768) v) 10 (by decide) nc_mstatus W).mono (by rintro e w' ⟨rfl, hb⟩; exact ⟨rfl, hS.low hb⟩)) ?_ ?_
  rotate_left 1
  · go_simp
  · go_simp
    exact rfl
  refine steady_nil ?_
  intro W hS
  have HSZ := Lib.hid hS
  clear hS
  simp only [List.drop_succ_cons, List.drop_zero]
  go_wp2_with (refine wpList_store_row rfl RfT _ _ rfl (w.heap.size + 1) (refV (s.put 768 (legS 256 (s.f 768) v))) rfl rfl RfT _ HSZ.out.z (iRf _) (by rw [refV_size, refV_size]) (rfV_one _) ?_)
  exact bodyPost_ret (results_cell_row Tryd.results68 _ _ _ _ _ _ _ rfl (HSZ.out.z.row _) Tryd.underlying38 rfl (iRf _)) rfl ⟨rfl, below_setRow HSZ.out.bel (by omega) _⟩
set_option maxHeartbeats 4000000 in
theorem rs_11 (s : S) (ok : Ok s) (n v a m : Int) (nm : ByteArray) (hv : W64 v) (hOf : rAgg (ofN n) = .agg #[.int .i64 a, .string nm, .int .u64 m]) (e0 : (nm.toList == []) = false) (e1 : (nm.toList == [115, 104, 111, 111, 116]) = false) (e2 : (nm.toList == [109, 105, 115, 97]) = false) (e3 : (nm.toList == [99, 121, 99, 108, 101]) = false) (e4 : (nm.toList == [116, 105, 109, 101]) = false) (e5 : (nm.toList == [105, 110, 115, 116, 114, 101, 116]) = false) (e6 : (nm.toList == [109, 118, 101, 110, 100, 111, 114, 105, 100]) = false) (e7 : (nm.toList == [109, 97, 114, 99, 104, 105, 100]) = false) (e8 : (nm.toList == [109, 105, 109, 112, 105, 100]) = false) (e9 : (nm.toList == [109, 104, 97, 114, 116, 105, 100]) = false) (e10 : (nm.toList == [115, 115, 116, 97, 116, 117, 115]) = false) (e11 : (nm.toList == [115, 105, 101]) = true) (w : World) :
    Calls Tryd.prog 68 #[.agg (refV s), .int .i64 n, .int .u64 v] w fun e w' => e = .returned (.agg (refV (s.put 772 (nextS (s.f 771) (s.f 772) v)))) ∧ Below w.heap.size w w' := by
  have HS1 := Lib.hid (RtS.new w s)
  have HO := Lib.hid (fun W => rof_c n W)
  rw [hOf] at HO
  have f1 := fld_rr1 a nm m
  go_enter Tryd.func68, Tryd.ntmps68
  go_upto_region 1 with (refine wpList_allocY rfl _ rfl RfT rfl (refV (zero 0)) (zero_rf _) ?_)
  generalize ((w.alloc (.cells (refV s) RfT)).alloc (.cells (refV (zero 0)) RfT)) = w1 at *
  go_wp2_with (refine wpList_load_row rfl RfT _ rfl w.heap.size rfl RfT _ (0, 0) _ HS1.out.r Tryd.underlying38 rfl (iRf _) ?_)
  refine (rword_c s ⟨#[109, 105, 100, 101, 108, 101, 103]⟩ 13 (by decide) nc_mideleg _).mono ?_
  rintro e w2 ⟨rfl, hb⟩
  have HS2 := Lib.hid (HS1.out.low hb)
  clear hb
  rw [show ((((rowC 13).1 : Nat) : Int)) = 771 from rfl]
  go_wp2_with (refine wpList_load_row rfl RfT _ rfl w.heap.size rfl RfT _ (0, 0) _ HS2.out.r Tryd.underlying38 rfl (iRf _) ?_)
  refine (HO.out _).mono ?_
  rintro e w3 ⟨rfl, hb⟩
  have HS3 := Lib.hid (HS2.out.low hb)
  clear hb
  obtain ⟨hsub, hadd⟩ := sie_wrap (ok.w 771) (ok.w 772) hv
  go_upto_region 18 with (refine wpList_load_row rfl RfT _ rfl w.heap.size rfl RfT _ (0, 0) _ HS3.out.r Tryd.underlying38 rfl (iRf _) ?_)
  go_wp2_with (refine wpList_load_row rfl RfT _ rfl w.heap.size rfl RfT _ (0, 0) _ HS3.out.r Tryd.underlying38 rfl (iRf _) ?_)
  refine (rword_c s ⟨#[109, 105, 101]⟩ 14 (by decide) nc_mie _).mono ?_
  rintro e w4 ⟨rfl, hb⟩
  have HS4 := Lib.hid (HS3.out.low hb)
  rw [show ((((rowC 14).1 : Nat) : Int)) = 772 from rfl]
  clear hb
  go_upto_region 19 with (refine wpList_load_row rfl RfT _ rfl w.heap.size rfl RfT _ (0, 0) _ HS4.out.r Tryd.underlying38 rfl (iRf _) ?_)
  refine wp_region_steady_tail (fun W => RtS w W s (zero 0)) 11 (by kernel_rfl) (by kernel_rfl) HS4.out.drew ?_
  refine steady_val (.agg (refV s)) ?_ (by kernel_rfl) (fun W hS => exec_load_row RfT _ rfl w.heap.size rfl RfT _ _ hS.r Tryd.underlying38 rfl (iRf _)) ?_ ?_
  rotate_left 1
  · go_simp
    exact rfl
  iterate 3
    refine steady_val ?_ ?_ (by kernel_rfl) (fun W hS => ?_) ?_ ?_
    rotate_left 2
    · go_simp
      exact rfl
    · go_simp
      exact rfl
  refine steady_enter (.int .u64 (bits .and .u64 (s.f 772) (s.f 771))) 81 #[.int .u64 (s.f 772), .int .u64 (s.f 771)] ?_ (by kernel_rfl) (fun W hS => ?_) (fun W hS => (rand_c (s.f 772) (s.f 771) (ok.w _) (ok.w _) W).mono (by rintro e w' ⟨rfl, hb⟩; exact ⟨rfl, hS.low hb⟩)) ?_ ?_
  rotate_left 1
  · go_simp
  · go_simp
    exact rfl
  refine steady_val (.int .u64 (bits .andNot .u64 (s.f 772) (s.f 771))) ?_ (by kernel_rfl) (fun W hS => by go_simp) ?_ ?_
  rotate_left 1
  · go_simp
    exact rfl
  iterate 2
    refine steady_val ?_ ?_ (by kernel_rfl) (fun W hS => ?_) ?_ ?_
    rotate_left 2
    · go_simp
      exact rfl
    · go_simp
      exact rfl
  refine steady_enter (.int .u64 (bits .and .u64 v (s.f 771))) 81 #[.int .u64 v, .int .u64 (s.f 771)] ?_ (by kernel_rfl) (fun W hS => ?_) (fun W hS => (rand_c v (s.f 771) hv (ok.w _) W).mono (by rintro e w' ⟨rfl, hb⟩; exact ⟨rfl, hS.low hb⟩)) ?_ ?_
  rotate_left 1
  · go_simp
  · go_simp
    exact rfl
  refine steady_val (.int .u64 (nextS (s.f 771) (s.f 772) v)) ?_ (by kernel_rfl) (fun W hS => by go_simp) ?_ ?_
  rotate_left 1
  · go_simp
    exact rfl
  refine steady_enter (.agg (refV (s.put 772 (nextS (s.f 771) (s.f 772) v)))) 67 #[.agg (refV s), .string ⟨#[109, 105, 101]⟩, .int .u64 (nextS (s.f 771) (s.f 772) v)] ?_ (by kernel_rfl) (fun W hS => ?_) (fun W hS => (rwith_c s ⟨#[109, 105, 101]⟩ (nextS (s.f 771) (s.f 772) v) 14 (by decide) nc_mie W).mono (by rintro e w' ⟨rfl, hb⟩; exact ⟨rfl, hS.low hb⟩)) ?_ ?_
  rotate_left 1
  · go_simp
  · go_simp
    exact rfl
  refine steady_nil ?_
  intro W hS
  have HSZ := Lib.hid hS
  clear hS
  simp only [List.drop_succ_cons, List.drop_zero]
  go_wp2_with (refine wpList_store_row rfl RfT _ _ rfl (w.heap.size + 1) (refV (s.put 772 (nextS (s.f 771) (s.f 772) v))) rfl rfl RfT _ HSZ.out.z (iRf _) (by rw [refV_size, refV_size]) (rfV_one _) ?_)
  exact bodyPost_ret (results_cell_row Tryd.results68 _ _ _ _ _ _ _ rfl (HSZ.out.z.row _) Tryd.underlying38 rfl (iRf _)) rfl ⟨rfl, below_setRow HSZ.out.bel (by omega) _⟩
set_option maxHeartbeats 4000000 in
theorem rs_12 (s : S) (ok : Ok s) (n v a m : Int) (nm : ByteArray) (hv : W64 v) (hOf : rAgg (ofN n) = .agg #[.int .i64 a, .string nm, .int .u64 m]) (e0 : (nm.toList == []) = false) (e1 : (nm.toList == [115, 104, 111, 111, 116]) = false) (e2 : (nm.toList == [109, 105, 115, 97]) = false) (e3 : (nm.toList == [99, 121, 99, 108, 101]) = false) (e4 : (nm.toList == [116, 105, 109, 101]) = false) (e5 : (nm.toList == [105, 110, 115, 116, 114, 101, 116]) = false) (e6 : (nm.toList == [109, 118, 101, 110, 100, 111, 114, 105, 100]) = false) (e7 : (nm.toList == [109, 97, 114, 99, 104, 105, 100]) = false) (e8 : (nm.toList == [109, 105, 109, 112, 105, 100]) = false) (e9 : (nm.toList == [109, 104, 97, 114, 116, 105, 100]) = false) (e10 : (nm.toList == [115, 115, 116, 97, 116, 117, 115]) = false) (e11 : (nm.toList == [115, 105, 101]) = false) (e12 : (nm.toList == [115, 105, 112]) = true) (w : World) :
    Calls Tryd.prog 68 #[.agg (refV s), .int .i64 n, .int .u64 v] w fun e w' => e = .returned (.agg (refV (s.put 836 (nextS (bits .and .u64 (s.f 771) 2) (s.f 836) v)))) ∧ Below w.heap.size w w' := by
  have HS1 := Lib.hid (RtS.new w s)
  have HO := Lib.hid (fun W => rof_c n W)
  rw [hOf] at HO
  have f1 := fld_rr1 a nm m
  rw [sip_next (v := v) (ok.w 771) (ok.w 836)]
  cases hd : tb (s.f 771) 1
  · simp only [Bool.false_eq_true, if_false]
    have HB1 := Lib.hid (fun W => bit_c (s.f 771) ((1 : Nat) : Int) W (ok.w 771).1 (ok.w 771).2)
    rw [tbI_nat _ 1 (by omega), hd] at HB1
    have HB2 := Lib.hid (fun W => bit_c v ((1 : Nat) : Int) W hv.1 hv.2)
    rw [tbI_nat _ 1 (by omega)] at HB2
    have HWT := Lib.hid (fun x W => rwith_c s ⟨#[109, 105, 112]⟩ x 21 (by decide) nc_mip W)
    have HPT := Lib.hid (fun W => refPut_c (s.f 836) 1 1 (bi (tb v 1)) W (ok.w 836).1 (ok.w 836).2 (by omega) (by omega) (bi_range _).1 (by have := bi_range (tb v 1); omega))
    go_enter Tryd.func68, Tryd.ntmps68
    go_upto_region 1 with (refine wpList_allocY rfl _ rfl RfT rfl (refV (zero 0)) (zero_rf _) ?_)
    generalize ((w.alloc (.cells (refV s) RfT)).alloc (.cells (refV (zero 0)) RfT)) = w1 at *
    go_wp2_with (refine wpList_load_row rfl RfT _ rfl w.heap.size rfl RfT _ (0, 0) _ HS1.out.r Tryd.underlying38 rfl (iRf _) ?_)
    refine (rword_c s ⟨#[109, 105, 100, 101, 108, 101, 103]⟩ 13 (by decide) nc_mideleg _).mono ?_
    rintro e w2 ⟨rfl, hb⟩
    have HS2 := Lib.hid (HS1.out.low hb)
    clear hb
    rw [show ((((rowC 13).1 : Nat) : Int)) = 771 from rfl]
    go_wp2_with (refine wpList_load_row rfl RfT _ rfl w.heap.size rfl RfT _ (0, 0) _ HS2.out.r Tryd.underlying38 rfl (iRf _) ?_)
    refine (HO.out _).mono ?_
    rintro e w3 ⟨rfl, hb⟩
    have HS3 := Lib.hid (HS2.out.low hb)
    clear hb
    go_upto_region 21 with (refine wpList_load_row rfl RfT _ rfl w.heap.size rfl RfT _ (0, 0) _ HS3.out.r Tryd.underlying38 rfl (iRf _) ?_)
    go_wp2_with (refine wpList_load_row rfl RfT _ rfl w.heap.size rfl RfT _ (0, 0) _ HS3.out.r Tryd.underlying38 rfl (iRf _) ?_)
    refine (rword_c s ⟨#[109, 105, 112]⟩ 21 (by decide) nc_mip _).mono ?_
    rintro e w4 ⟨rfl, hb⟩
    have HS4 := Lib.hid (HS3.out.low hb)
    rw [show ((((rowC 21).1 : Nat) : Int)) = 836 from rfl]
    clear hb
    go_wp2_with fail
    refine (HB1.out _).mono ?_
    rintro e w5 ⟨rfl, rfl⟩
    go_wp2_with (refine wpList_load_row rfl RfT _ rfl w.heap.size rfl RfT _ (0, 0) _ HS4.out.r Tryd.underlying38 rfl (iRf _) ?_)
    refine (HWT.out (s.f 836) _).mono ?_
    rintro e w6 ⟨rfl, hb⟩
    have HS6 := Lib.hid (HS4.out.low hb)
    clear hb
    go_wp2_with (refine wpList_store_row rfl RfT _ _ rfl (w.heap.size + 1) (refV (s.put 836 ((s.f 836)))) rfl rfl RfT _ HS6.out.z (iRf _) (by rw [refV_size, refV_size]) (rfV_one _) ?_)
    exact bodyPost_ret (results_cell_row Tryd.results68 _ _ _ _ _ _ _ rfl (HS6.out.z.row _) Tryd.underlying38 rfl (iRf _)) rfl ⟨rfl, below_setRow HS6.out.bel (by omega) _⟩
  · simp only [if_true]
    have HB1 := Lib.hid (fun W => bit_c (s.f 771) ((1 : Nat) : Int) W (ok.w 771).1 (ok.w 771).2)
    rw [tbI_nat _ 1 (by omega), hd] at HB1
    have HB2 := Lib.hid (fun W => bit_c v ((1 : Nat) : Int) W hv.1 hv.2)
    rw [tbI_nat _ 1 (by omega)] at HB2
    have HWT := Lib.hid (fun x W => rwith_c s ⟨#[109, 105, 112]⟩ x 21 (by decide) nc_mip W)
    have HPT := Lib.hid (fun W => refPut_c (s.f 836) 1 1 (bi (tb v 1)) W (ok.w 836).1 (ok.w 836).2 (by omega) (by omega) (bi_range _).1 (by have := bi_range (tb v 1); omega))
    go_enter Tryd.func68, Tryd.ntmps68
    go_upto_region 1 with (refine wpList_allocY rfl _ rfl RfT rfl (refV (zero 0)) (zero_rf _) ?_)
    generalize ((w.alloc (.cells (refV s) RfT)).alloc (.cells (refV (zero 0)) RfT)) = w1 at *
    go_wp2_with (refine wpList_load_row rfl RfT _ rfl w.heap.size rfl RfT _ (0, 0) _ HS1.out.r Tryd.underlying38 rfl (iRf _) ?_)
    refine (rword_c s ⟨#[109, 105, 100, 101, 108, 101, 103]⟩ 13 (by decide) nc_mideleg _).mono ?_
    rintro e w2 ⟨rfl, hb⟩
    have HS2 := Lib.hid (HS1.out.low hb)
    clear hb
    rw [show ((((rowC 13).1 : Nat) : Int)) = 771 from rfl]
    go_wp2_with (refine wpList_load_row rfl RfT _ rfl w.heap.size rfl RfT _ (0, 0) _ HS2.out.r Tryd.underlying38 rfl (iRf _) ?_)
    refine (HO.out _).mono ?_
    rintro e w3 ⟨rfl, hb⟩
    have HS3 := Lib.hid (HS2.out.low hb)
    clear hb
    go_upto_region 21 with (refine wpList_load_row rfl RfT _ rfl w.heap.size rfl RfT _ (0, 0) _ HS3.out.r Tryd.underlying38 rfl (iRf _) ?_)
    go_wp2_with (refine wpList_load_row rfl RfT _ rfl w.heap.size rfl RfT _ (0, 0) _ HS3.out.r Tryd.underlying38 rfl (iRf _) ?_)
    refine (rword_c s ⟨#[109, 105, 112]⟩ 21 (by decide) nc_mip _).mono ?_
    rintro e w4 ⟨rfl, hb⟩
    have HS4 := Lib.hid (HS3.out.low hb)
    rw [show ((((rowC 21).1 : Nat) : Int)) = 836 from rfl]
    clear hb
    go_wp2_with fail
    refine (HB1.out _).mono ?_
    rintro e w5 ⟨rfl, rfl⟩
    go_wp2_with fail
    refine (HB2.out _).mono ?_
    rintro e w6 ⟨rfl, rfl⟩
    go_wp2_with fail
    refine (HPT.out _).mono ?_
    rintro e w7 ⟨rfl, hb⟩
    have HS7 := Lib.hid (HS4.out.low hb)
    clear hb
    go_wp2_with (refine wpList_load_row rfl RfT _ rfl w.heap.size rfl RfT _ (0, 0) _ HS7.out.r Tryd.underlying38 rfl (iRf _) ?_)
    refine (HWT.out (putS (s.f 836) 1 1 (bi (tb v 1))) _).mono ?_
    rintro e w8 ⟨rfl, hb⟩
    have HS8 := Lib.hid (HS7.out.low hb)
    clear hb
    go_wp2_with (refine wpList_store_row rfl RfT _ _ rfl (w.heap.size + 1) (refV (s.put 836 ((putS (s.f 836) 1 1 (bi (tb v 1)))))) rfl rfl RfT _ HS8.out.z (iRf _) (by rw [refV_size, refV_size]) (rfV_one _) ?_)
    exact bodyPost_ret (results_cell_row Tryd.results68 _ _ _ _ _ _ _ rfl (HS8.out.z.row _) Tryd.underlying38 rfl (iRf _)) rfl ⟨rfl, below_setRow HS8.out.bel (by omega) _⟩
set_option maxHeartbeats 4000000 in
theorem rs_13 (s : S) (ok : Ok s) (n v a m : Int) (nm : ByteArray) (hv : W64 v) (hOf : rAgg (ofN n) = .agg #[.int .i64 a, .string nm, .int .u64 m]) (e0 : (nm.toList == []) = false) (e1 : (nm.toList == [115, 104, 111, 111, 116]) = false) (e2 : (nm.toList == [109, 105, 115, 97]) = false) (e3 : (nm.toList == [99, 121, 99, 108, 101]) = false) (e4 : (nm.toList == [116, 105, 109, 101]) = false) (e5 : (nm.toList == [105, 110, 115, 116, 114, 101, 116]) = false) (e6 : (nm.toList == [109, 118, 101, 110, 100, 111, 114, 105, 100]) = false) (e7 : (nm.toList == [109, 97, 114, 99, 104, 105, 100]) = false) (e8 : (nm.toList == [109, 105, 109, 112, 105, 100]) = false) (e9 : (nm.toList == [109, 104, 97, 114, 116, 105, 100]) = false) (e10 : (nm.toList == [115, 115, 116, 97, 116, 117, 115]) = false) (e11 : (nm.toList == [115, 105, 101]) = false) (e12 : (nm.toList == [115, 105, 112]) = false) (e13 : (nm.toList == [109, 99, 121, 99, 108, 101]) = true) (k : Nat) (hk : k < 34) (hn : n = ((rowC k).1 : Nat)) (hnc : numC nm = ((rowC k).1 : Nat)) (w : World) :
    Calls Tryd.prog 68 #[.agg (refV s), .int .i64 n, .int .u64 v] w fun e w' => e = .returned (.agg (refV (({ s with cw := true } : S).put n (legS n (s.f n) v)))) ∧ Below w.heap.size w w' := by
  have HS1 := Lib.hid (RtS.new w s)
  have HO := Lib.hid (fun W => rof_c n W)
  rw [hOf] at HO
  have f1 := fld_rr1 a nm m
  have HWW := Lib.hid (fun W => rword_c ({ s with cw := true } : S) nm k hk hnc W)
  have HWT := Lib.hid (fun W => rwith_c ({ s with cw := true } : S) nm (legS n (s.f n) v) k hk hnc W)
  rw [← hn] at HWW HWT
  clear hn hnc
  go_enter Tryd.func68, Tryd.ntmps68
  go_upto_region 1 with (refine wpList_allocY rfl _ rfl RfT rfl (refV (zero 0)) (zero_rf _) ?_)
  generalize ((w.alloc (.cells (refV s) RfT)).alloc (.cells (refV (zero 0)) RfT)) = w1 at *
  go_wp2_with (refine wpList_load_row rfl RfT _ rfl w.heap.size rfl RfT _ (0, 0) _ HS1.out.r Tryd.underlying38 rfl (iRf _) ?_)
  refine (rword_c s ⟨#[109, 105, 100, 101, 108, 101, 103]⟩ 13 (by decide) nc_mideleg _).mono ?_
  rintro e w2 ⟨rfl, hb⟩
  have HS2 := Lib.hid (HS1.out.low hb)
  clear hb
  rw [show ((((rowC 13).1 : Nat) : Int)) = 771 from rfl]
  go_wp2_with (refine wpList_load_row rfl RfT _ rfl w.heap.size rfl RfT _ (0, 0) _ HS2.out.r Tryd.underlying38 rfl (iRf _) ?_)
  refine (HO.out _).mono ?_
  rintro e w3 ⟨rfl, hb⟩
  have HS3 := Lib.hid (HS2.out.low hb)
  clear hb
  have c0 : w3.cell? ⟨w.heap.size, 35, none⟩ = some (.bool s.cw) := by rw [HS3.out.r.cell, refV_cw]
  have y0 := HS3.out.r.frozen 35
  go_upto_region 29 with (refine wpList_load_row rfl RfT _ rfl w.heap.size rfl RfT _ (0, 0) _ HS3.out.r Tryd.underlying38 rfl (iRf _) ?_)
  have HS4 := Lib.hid (show RtS w (w3.setCell ⟨w.heap.size, 35, none⟩ (.bool true)) ({ s with cw := true } : S) (zero 0) from ⟨ref_cw HS3.out.r true, (Chg.of_cell (S := one w.heap.size) rfl _ _).cs HS3.out.z (fun (e : w.heap.size + 1 = w.heap.size) => by omega), HS3.out.bel.setCell (by exact Nat.le_refl _) _⟩)
  generalize w3.setCell ⟨w.heap.size, 35, none⟩ (.bool true) = w4 at *
  clear c0 y0
  refine wp_region_steady_tail (fun W => RtS w W ({ s with cw := true } : S) (zero 0)) 9 (by kernel_rfl) (by kernel_rfl) HS4.out.drew ?_
  refine steady_val (.agg (refV ({ s with cw := true } : S))) ?_ (by kernel_rfl) (fun W hS => exec_load_row RfT _ rfl w.heap.size rfl RfT _ _ hS.r Tryd.underlying38 rfl (iRf _)) ?_ ?_
  rotate_left 1
  · go_simp
    exact rfl
  iterate 2
    refine steady_val ?_ ?_ (by kernel_rfl) (fun W hS => ?_) ?_ ?_
    rotate_left 2
    · go_simp
      exact rfl
    · go_simp
      exact rfl
  refine steady_val (.agg (refV ({ s with cw := true } : S))) ?_ (by kernel_rfl) (fun W hS => exec_load_row RfT _ rfl w.heap.size rfl RfT _ _ hS.r Tryd.underlying38 rfl (iRf _)) ?_ ?_
  rotate_left 1
  · go_simp
    exact rfl
  refine steady_val ?_ ?_ (by kernel_rfl) (fun W hS => ?_) ?_ ?_
  rotate_left 2
  · go_simp
    exact rfl
  · go_simp
    exact rfl
  refine steady_enter (.int .u64 (s.f n)) 35 #[.agg (refV ({ s with cw := true } : S)), .string nm] ?_ (by kernel_rfl) (fun W hS => ?_) (fun W hS => (HWW.out W).mono (by rintro e w' ⟨rfl, hb⟩; exact ⟨rfl, hS.low hb⟩)) ?_ ?_
  rotate_left 1
  · go_simp
  · go_simp
    exact rfl
  refine steady_val ?_ ?_ (by kernel_rfl) (fun W hS => ?_) ?_ ?_
  rotate_left 2
  · go_simp
    exact rfl
  · go_simp
    exact rfl
  refine steady_enter (.int .u64 (legS n (s.f n) v)) 76 #[.int .i64 n, .int .u64 (s.f n), .int .u64 v] ?_ (by kernel_rfl) (fun W hS => ?_) (fun W hS => (rlegal_c n (s.f n) v (ok.w _) hv W).mono (by rintro e w' ⟨rfl, hb⟩; exact ⟨rfl, hS.low hb⟩)) ?_ ?_
  rotate_left 1
  · go_simp
  · go_simp
    exact rfl
  refine steady_enter (.agg (refV (({ s with cw := true } : S).put n (legS n (s.f n) v)))) 67 #[.agg (refV ({ s with cw := true } : S)), .string nm, .int .u64 (legS n (s.f n) v)] ?_ (by kernel_rfl) (fun W hS => ?_) (fun W hS => (HWT.out W).mono (by rintro e w' ⟨rfl, hb⟩; exact ⟨rfl, hS.low hb⟩)) ?_ ?_
  rotate_left 1
  · go_simp
  · go_simp
    exact rfl
  refine steady_nil ?_
  intro W hS
  have HSZ := Lib.hid hS
  clear hS
  simp only [List.drop_succ_cons, List.drop_zero]
  go_wp2_with (refine wpList_store_row rfl RfT _ _ rfl (w.heap.size + 1) (refV (({ s with cw := true } : S).put n (legS n (s.f n) v))) rfl rfl RfT _ HSZ.out.z (iRf _) (by rw [refV_size, refV_size]) (rfV_one _) ?_)
  exact bodyPost_ret (results_cell_row Tryd.results68 _ _ _ _ _ _ _ rfl (HSZ.out.z.row _) Tryd.underlying38 rfl (iRf _)) rfl ⟨rfl, below_setRow HSZ.out.bel (by omega) _⟩
set_option maxHeartbeats 4000000 in
theorem rs_14 (s : S) (ok : Ok s) (n v a m : Int) (nm : ByteArray) (hv : W64 v) (hOf : rAgg (ofN n) = .agg #[.int .i64 a, .string nm, .int .u64 m]) (e0 : (nm.toList == []) = false) (e1 : (nm.toList == [115, 104, 111, 111, 116]) = false) (e2 : (nm.toList == [109, 105, 115, 97]) = false) (e3 : (nm.toList == [99, 121, 99, 108, 101]) = false) (e4 : (nm.toList == [116, 105, 109, 101]) = false) (e5 : (nm.toList == [105, 110, 115, 116, 114, 101, 116]) = false) (e6 : (nm.toList == [109, 118, 101, 110, 100, 111, 114, 105, 100]) = false) (e7 : (nm.toList == [109, 97, 114, 99, 104, 105, 100]) = false) (e8 : (nm.toList == [109, 105, 109, 112, 105, 100]) = false) (e9 : (nm.toList == [109, 104, 97, 114, 116, 105, 100]) = false) (e10 : (nm.toList == [115, 115, 116, 97, 116, 117, 115]) = false) (e11 : (nm.toList == [115, 105, 101]) = false) (e12 : (nm.toList == [115, 105, 112]) = false) (e13 : (nm.toList == [109, 99, 121, 99, 108, 101]) = false) (e14 : (nm.toList == [109, 105, 110, 115, 116, 114, 101, 116]) = true) (k : Nat) (hk : k < 34) (hn : n = ((rowC k).1 : Nat)) (hnc : numC nm = ((rowC k).1 : Nat)) (w : World) :
    Calls Tryd.prog 68 #[.agg (refV s), .int .i64 n, .int .u64 v] w fun e w' => e = .returned (.agg (refV (({ s with iw := true } : S).put n (legS n (s.f n) v)))) ∧ Below w.heap.size w w' := by
  have HS1 := Lib.hid (RtS.new w s)
  have HO := Lib.hid (fun W => rof_c n W)
  rw [hOf] at HO
  have f1 := fld_rr1 a nm m
  have HWW := Lib.hid (fun W => rword_c ({ s with iw := true } : S) nm k hk hnc W)
  have HWT := Lib.hid (fun W => rwith_c ({ s with iw := true } : S) nm (legS n (s.f n) v) k hk hnc W)
  rw [← hn] at HWW HWT
  clear hn hnc
  go_enter Tryd.func68, Tryd.ntmps68
  go_upto_region 1 with (refine wpList_allocY rfl _ rfl RfT rfl (refV (zero 0)) (zero_rf _) ?_)
  generalize ((w.alloc (.cells (refV s) RfT)).alloc (.cells (refV (zero 0)) RfT)) = w1 at *
  go_wp2_with (refine wpList_load_row rfl RfT _ rfl w.heap.size rfl RfT _ (0, 0) _ HS1.out.r Tryd.underlying38 rfl (iRf _) ?_)
  refine (rword_c s ⟨#[109, 105, 100, 101, 108, 101, 103]⟩ 13 (by decide) nc_mideleg _).mono ?_
  rintro e w2 ⟨rfl, hb⟩
  have HS2 := Lib.hid (HS1.out.low hb)
  clear hb
  rw [show ((((rowC 13).1 : Nat) : Int)) = 771 from rfl]
  go_wp2_with (refine wpList_load_row rfl RfT _ rfl w.heap.size rfl RfT _ (0, 0) _ HS2.out.r Tryd.underlying38 rfl (iRf _) ?_)
  refine (HO.out _).mono ?_
  rintro e w3 ⟨rfl, hb⟩
  have HS3 := Lib.hid (HS2.out.low hb)
  clear hb
  have c0 : w3.cell? ⟨w.heap.size, 36, none⟩ = some (.bool s.iw) := by rw [HS3.out.r.cell, refV_iw]
  have y0 := HS3.out.r.frozen 36
  go_upto_region 29 with (refine wpList_load_row rfl RfT _ rfl w.heap.size rfl RfT _ (0, 0) _ HS3.out.r Tryd.underlying38 rfl (iRf _) ?_)
  have HS4 := Lib.hid (show RtS w (w3.setCell ⟨w.heap.size, 36, none⟩ (.bool true)) ({ s with iw := true } : S) (zero 0) from ⟨ref_iw HS3.out.r true, (Chg.of_cell (S := one w.heap.size) rfl _ _).cs HS3.out.z (fun (e : w.heap.size + 1 = w.heap.size) => by omega), HS3.out.bel.setCell (by exact Nat.le_refl _) _⟩)
  generalize w3.setCell ⟨w.heap.size, 36, none⟩ (.bool true) = w4 at *
  clear c0 y0
  refine wp_region_steady_tail (fun W => RtS w W ({ s with iw := true } : S) (zero 0)) 9 (by kernel_rfl) (by kernel_rfl) HS4.out.drew ?_
  refine steady_val (.agg (refV ({ s with iw := true } : S))) ?_ (by kernel_rfl) (fun W hS => exec_load_row RfT _ rfl w.heap.size rfl RfT _ _ hS.r Tryd.underlying38 rfl (iRf _)) ?_ ?_
  rotate_left 1
  · go_simp
    exact rfl
  iterate 2
    refine steady_val ?_ ?_ (by kernel_rfl) (fun W hS => ?_) ?_ ?_
    rotate_left 2
    · go_simp
      exact rfl
    · go_simp
      exact rfl
  refine steady_val (.agg (refV ({ s with iw := true } : S))) ?_ (by kernel_rfl) (fun W hS => exec_load_row RfT _ rfl w.heap.size rfl RfT _ _ hS.r Tryd.underlying38 rfl (iRf _)) ?_ ?_
  rotate_left 1
  · go_simp
    exact rfl
  refine steady_val ?_ ?_ (by kernel_rfl) (fun W hS => ?_) ?_ ?_
  rotate_left 2
  · go_simp
    exact rfl
  · go_simp
    exact rfl
  refine steady_enter (.int .u64 (s.f n)) 35 #[.agg (refV ({ s with iw := true } : S)), .string nm] ?_ (by kernel_rfl) (fun W hS => ?_) (fun W hS => (HWW.out W).mono (by rintro e w' ⟨rfl, hb⟩; exact ⟨rfl, hS.low hb⟩)) ?_ ?_
  rotate_left 1
  · go_simp
  · go_simp
    exact rfl
  refine steady_val ?_ ?_ (by kernel_rfl) (fun W hS => ?_) ?_ ?_
  rotate_left 2
  · go_simp
    exact rfl
  · go_simp
    exact rfl
  refine steady_enter (.int .u64 (legS n (s.f n) v)) 76 #[.int .i64 n, .int .u64 (s.f n), .int .u64 v] ?_ (by kernel_rfl) (fun W hS => ?_) (fun W hS => (rlegal_c n (s.f n) v (ok.w _) hv W).mono (by rintro e w' ⟨rfl, hb⟩; exact ⟨rfl, hS.low hb⟩)) ?_ ?_
  rotate_left 1
  · go_simp
  · go_simp
    exact rfl
  refine steady_enter (.agg (refV (({ s with iw := true } : S).put n (legS n (s.f n) v)))) 67 #[.agg (refV ({ s with iw := true } : S)), .string nm, .int .u64 (legS n (s.f n) v)] ?_ (by kernel_rfl) (fun W hS => ?_) (fun W hS => (HWT.out W).mono (by rintro e w' ⟨rfl, hb⟩; exact ⟨rfl, hS.low hb⟩)) ?_ ?_
  rotate_left 1
  · go_simp
  · go_simp
    exact rfl
  refine steady_nil ?_
  intro W hS
  have HSZ := Lib.hid hS
  clear hS
  simp only [List.drop_succ_cons, List.drop_zero]
  go_wp2_with (refine wpList_store_row rfl RfT _ _ rfl (w.heap.size + 1) (refV (({ s with iw := true } : S).put n (legS n (s.f n) v))) rfl rfl RfT _ HSZ.out.z (iRf _) (by rw [refV_size, refV_size]) (rfV_one _) ?_)
  exact bodyPost_ret (results_cell_row Tryd.results68 _ _ _ _ _ _ _ rfl (HSZ.out.z.row _) Tryd.underlying38 rfl (iRf _)) rfl ⟨rfl, below_setRow HSZ.out.bel (by omega) _⟩
set_option maxHeartbeats 4000000 in
theorem rs_x (s : S) (ok : Ok s) (n v a m : Int) (nm : ByteArray) (hv : W64 v) (hOf : rAgg (ofN n) = .agg #[.int .i64 a, .string nm, .int .u64 m]) (e0 : (nm.toList == []) = false) (e1 : (nm.toList == [115, 104, 111, 111, 116]) = false) (e2 : (nm.toList == [109, 105, 115, 97]) = false) (e3 : (nm.toList == [99, 121, 99, 108, 101]) = false) (e4 : (nm.toList == [116, 105, 109, 101]) = false) (e5 : (nm.toList == [105, 110, 115, 116, 114, 101, 116]) = false) (e6 : (nm.toList == [109, 118, 101, 110, 100, 111, 114, 105, 100]) = false) (e7 : (nm.toList == [109, 97, 114, 99, 104, 105, 100]) = false) (e8 : (nm.toList == [109, 105, 109, 112, 105, 100]) = false) (e9 : (nm.toList == [109, 104, 97, 114, 116, 105, 100]) = false) (e10 : (nm.toList == [115, 115, 116, 97, 116, 117, 115]) = false) (e11 : (nm.toList == [115, 105, 101]) = false) (e12 : (nm.toList == [115, 105, 112]) = false) (e13 : (nm.toList == [109, 99, 121, 99, 108, 101]) = false) (e14 : (nm.toList == [109, 105, 110, 115, 116, 114, 101, 116]) = false) (k : Nat) (hk : k < 34) (hn : n = ((rowC k).1 : Nat)) (hnc : numC nm = ((rowC k).1 : Nat)) (w : World) :
    Calls Tryd.prog 68 #[.agg (refV s), .int .i64 n, .int .u64 v] w fun e w' => e = .returned (.agg (refV (s.put n (legS n (s.f n) v)))) ∧ Below w.heap.size w w' := by
  have HS1 := Lib.hid (RtS.new w s)
  have HO := Lib.hid (fun W => rof_c n W)
  rw [hOf] at HO
  have f1 := fld_rr1 a nm m
  have HWW := Lib.hid (fun W => rword_c s nm k hk hnc W)
  have HWT := Lib.hid (fun W => rwith_c s nm (legS n (s.f n) v) k hk hnc W)
  rw [← hn] at HWW HWT
  clear hn hnc
  go_enter Tryd.func68, Tryd.ntmps68
  go_upto_region 1 with (refine wpList_allocY rfl _ rfl RfT rfl (refV (zero 0)) (zero_rf _) ?_)
  generalize ((w.alloc (.cells (refV s) RfT)).alloc (.cells (refV (zero 0)) RfT)) = w1 at *
  go_wp2_with (refine wpList_load_row rfl RfT _ rfl w.heap.size rfl RfT _ (0, 0) _ HS1.out.r Tryd.underlying38 rfl (iRf _) ?_)
  refine (rword_c s ⟨#[109, 105, 100, 101, 108, 101, 103]⟩ 13 (by decide) nc_mideleg _).mono ?_
  rintro e w2 ⟨rfl, hb⟩
  have HS2 := Lib.hid (HS1.out.low hb)
  clear hb
  rw [show ((((rowC 13).1 : Nat) : Int)) = 771 from rfl]
  go_wp2_with (refine wpList_load_row rfl RfT _ rfl w.heap.size rfl RfT _ (0, 0) _ HS2.out.r Tryd.underlying38 rfl (iRf _) ?_)
  refine (HO.out _).mono ?_
  rintro e w3 ⟨rfl, hb⟩
  have HS3 := Lib.hid (HS2.out.low hb)
  clear hb
  go_upto_region 29 with (refine wpList_load_row rfl RfT _ rfl w.heap.size rfl RfT _ (0, 0) _ HS3.out.r Tryd.underlying38 rfl (iRf _) ?_)
  refine wp_region_steady_tail (fun W => RtS w W s (zero 0)) 9 (by kernel_rfl) (by kernel_rfl) HS3.out.drew ?_
  refine steady_val (.agg (refV s)) ?_ (by kernel_rfl) (fun W hS => exec_load_row RfT _ rfl w.heap.size rfl RfT _ _ hS.r Tryd.underlying38 rfl (iRf _)) ?_ ?_
  rotate_left 1
  · go_simp
    exact rfl
  iterate 2
    refine steady_val ?_ ?_ (by kernel_rfl) (fun W hS => ?_) ?_ ?_
    rotate_left 2
    · go_simp
      exact rfl
    · go_simp
      exact rfl
  refine steady_val (.agg (refV s)) ?_ (by kernel_rfl) (fun W hS => exec_load_row RfT _ rfl w.heap.size rfl RfT _ _ hS.r Tryd.underlying38 rfl (iRf _)) ?_ ?_
  rotate_left 1
  · go_simp
    exact rfl
  refine steady_val ?_ ?_ (by kernel_rfl) (fun W hS => ?_) ?_ ?_
  rotate_left 2
  · go_simp
    exact rfl
  · go_simp
    exact rfl
  refine steady_enter (.int .u64 (s.f n)) 35 #[.agg (refV s), .string nm] ?_ (by kernel_rfl) (fun W hS => ?_) (fun W hS => (HWW.out W).mono (by rintro e w' ⟨rfl, hb⟩; exact ⟨rfl, hS.low hb⟩)) ?_ ?_
  rotate_left 1
  · go_simp
  · go_simp
    exact rfl
  refine steady_val ?_ ?_ (by kernel_rfl) (fun W hS => ?_) ?_ ?_
  rotate_left 2
  · go_simp
    exact rfl
  · go_simp
    exact rfl
  refine steady_enter (.int .u64 (legS n (s.f n) v)) 76 #[.int .i64 n, .int .u64 (s.f n), .int .u64 v] ?_ (by kernel_rfl) (fun W hS => ?_) (fun W hS => (rlegal_c n (s.f n) v (ok.w _) hv W).mono (by rintro e w' ⟨rfl, hb⟩; exact ⟨rfl, hS.low hb⟩)) ?_ ?_
  rotate_left 1
  · go_simp
  · go_simp
    exact rfl
  refine steady_enter (.agg (refV (s.put n (legS n (s.f n) v)))) 67 #[.agg (refV s), .string nm, .int .u64 (legS n (s.f n) v)] ?_ (by kernel_rfl) (fun W hS => ?_) (fun W hS => (HWT.out W).mono (by rintro e w' ⟨rfl, hb⟩; exact ⟨rfl, hS.low hb⟩)) ?_ ?_
  rotate_left 1
  · go_simp
  · go_simp
    exact rfl
  refine steady_nil ?_
  intro W hS
  have HSZ := Lib.hid hS
  clear hS
  simp only [List.drop_succ_cons, List.drop_zero]
  go_wp2_with (refine wpList_store_row rfl RfT _ _ rfl (w.heap.size + 1) (refV (s.put n (legS n (s.f n) v))) rfl rfl RfT _ HSZ.out.z (iRf _) (by rw [refV_size, refV_size]) (rfV_one _) ?_)
  exact bodyPost_ret (results_cell_row Tryd.results68 _ _ _ _ _ _ _ rfl (HSZ.out.z.row _) Tryd.underlying38 rfl (iRf _)) rfl ⟨rfl, below_setRow HSZ.out.bel (by omega) _⟩
theorem nc_row : ∀ k : Fin 34, numC (cB (rowC k.val).2.1) = ((rowC k.val).1 : Nat) := by decide +kernel
theorem unk_set {s : S} {n : Int} (h : known n = false) (v : Int) : setS s n v = s := by
  have hne : ∀ m : Int, known m = true → (n == m) = false := fun m hm => by
    simp only [beq_eq_false_iff_ne, ne_eq]
    intro e
    rw [e, hm] at h
    cases h
  exact set_same v (unk_idx h) (hne 256 (by decide +kernel)) (hne 260 (by decide +kernel)) (hne 324 (by decide +kernel)) (hne 2816 (by decide +kernel)) (hne 2818 (by decide +kernel))
set_option maxHeartbeats 4000000 in
theorem rset22_c (s : S) (ok : Ok s) (n v : Int) (hv : W64 v) (w : World) : Calls Tryd.prog 68 #[.agg (refV s), .int .i64 n, .int .u64 v] w fun e w' => e = .returned (.agg (refV (setS s n v))) ∧ Below w.heap.size w w' := by
  cases hkn : known n
  · rw [unk_set hkn]
    refine rs_0 s ok n v 0 0 ⟨#[]⟩ hv ?_ (by decide +kernel) w
    rw [of_unknown hkn]; rfl
  · obtain ⟨k, hk, hn, ho⟩ := of_known hkn
    have hOf : rAgg (ofN n) = rAgg (rowC k) := by rw [ho]
    clear ho hkn
    match k, hk with
    | 0, _ =>
      have hn : n = 256 := hn
      subst hn
      rw [set_sst]
      exact rs_10 s ok 256 v _ _ _ hv hOf (by decide +kernel) (by decide +kernel) (by decide +kernel) (by decide +kernel) (by decide +kernel) (by decide +kernel) (by decide +kernel) (by decide +kernel) (by decide +kernel) (by decide +kernel) (by decide +kernel) w
    | 1, _ =>
      have hn : n = 260 := hn
      subst hn
      rw [set_sie]
      exact rs_11 s ok 260 v _ _ _ hv hOf (by decide +kernel) (by decide +kernel) (by decide +kernel) (by decide +kernel) (by decide +kernel) (by decide +kernel) (by decide +kernel) (by decide +kernel) (by decide +kernel) (by decide +kernel) (by decide +kernel) (by decide +kernel) w
    | 2, _ =>
      have hn : n = 261 := hn
      subst hn
      rw [set_put v (by decide) (by decide) (by decide) (by decide) (by decide) (by decide)]
      exact rs_x s ok 261 v _ _ _ hv hOf (by decide +kernel) (by decide +kernel) (by decide +kernel) (by decide +kernel) (by decide +kernel) (by decide +kernel) (by decide +kernel) (by decide +kernel) (by decide +kernel) (by decide +kernel) (by decide +kernel) (by decide +kernel) (by decide +kernel) (by decide +kernel) (by decide +kernel) 2 (by decide) rfl (nc_row ⟨2, by decide⟩) w
    | 3, _ =>
      have hn : n = 262 := hn
      subst hn
      rw [set_put v (by decide) (by decide) (by decide) (by decide) (by decide) (by decide)]
      exact rs_x s ok 262 v _ _ _ hv hOf (by decide +kernel) (by decide +kernel) (by decide +kernel) (by decide +kernel) (by decide +kernel) (by decide +kernel) (by decide +kernel) (by decide +kernel) (by decide +kernel) (by decide +kernel) (by decide +kernel) (by decide +kernel) (by decide +kernel) (by decide +kernel) (by decide +kernel) 3 (by decide) rfl (nc_row ⟨3, by decide⟩) w
    | 4, _ =>
      have hn : n = 320 := hn
      subst hn
      rw [set_put v (by decide) (by decide) (by decide) (by decide) (by decide) (by decide)]
      exact rs_x s ok 320 v _ _ _ hv hOf (by decide +kernel) (by decide +kernel) (by decide +kernel) (by decide +kernel) (by decide +kernel) (by decide +kernel) (by decide +kernel) (by decide +kernel) (by decide +kernel) (by decide +kernel) (by decide +kernel) (by decide +kernel) (by decide +kernel) (by decide +kernel) (by decide +kernel) 4 (by decide) rfl (nc_row ⟨4, by decide⟩) w
    | 5, _ =>
      have hn : n = 321 := hn
      subst hn
      rw [set_put v (by decide) (by decide) (by decide) (by decide) (by decide) (by decide)]
      exact rs_x s ok 321 v _ _ _ hv hOf (by decide +kernel) (by decide +kernel) (by decide +kernel) (by decide +kernel) (by decide +kernel) (by decide +kernel) (by decide +kernel) (by decide +kernel) (by decide +kernel) (by decide +kernel) (by decide +kernel) (by decide +kernel) (by decide +kernel) (by decide +kernel) (by decide +kernel) 5 (by decide) rfl (nc_row ⟨5, by decide⟩) w
    | 6, _ =>
      have hn : n = 322 := hn
      subst hn
      rw [set_put v (by decide) (by decide) (by decide) (by decide) (by decide) (by decide)]
      exact rs_x s ok 322 v _ _ _ hv hOf (by decide +kernel) (by decide +kernel) (by decide +kernel) (by decide +kernel) (by decide +kernel) (by decide +kernel) (by decide +kernel) (by decide +kernel) (by decide +kernel) (by decide +kernel) (by decide +kernel) (by decide +kernel) (by decide +kernel) (by decide +kernel) (by decide +kernel) 6 (by decide) rfl (nc_row ⟨6, by decide⟩) w
    | 7, _ =>
      have hn : n = 323 := hn
      subst hn
      rw [set_put v (by decide) (by decide) (by decide) (by decide) (by decide) (by decide)]
      exact rs_x s ok 323 v _ _ _ hv hOf (by decide +kernel) (by decide +kernel) (by decide +kernel) (by decide +kernel) (by decide +kernel) (by decide +kernel) (by decide +kernel) (by decide +kernel) (by decide +kernel) (by decide +kernel) (by decide +kernel) (by decide +kernel) (by decide +kernel) (by decide +kernel) (by decide +kernel) 7 (by decide) rfl (nc_row ⟨7, by decide⟩) w
    | 8, _ =>
      have hn : n = 324 := hn
      subst hn
      rw [set_sip]
      exact rs_12 s ok 324 v _ _ _ hv hOf (by decide +kernel) (by decide +kernel) (by decide +kernel) (by decide +kernel) (by decide +kernel) (by decide +kernel) (by decide +kernel) (by decide +kernel) (by decide +kernel) (by decide +kernel) (by decide +kernel) (by decide +kernel) (by decide +kernel) w
    | 9, _ =>
      have hn : n = 384 := hn
      subst hn
      rw [set_put v (by decide) (by decide) (by decide) (by decide) (by decide) (by decide)]
      exact rs_x s ok 384 v _ _ _ hv hOf (by decide +kernel) (by decide +kernel) (by decide +kernel) (by decide +kernel) (by decide +kernel) (by decide +kernel) (by decide +kernel) (by decide +kernel) (by decide +kernel) (by decide +kernel) (by decide +kernel) (by decide +kernel) (by decide +kernel) (by decide +kernel) (by decide +kernel) 9 (by decide) rfl (nc_row ⟨9, by decide⟩) w
    | 10, _ =>
      have hn : n = 768 := hn
      subst hn
      rw [set_put v (by decide) (by decide) (by decide) (by decide) (by decide) (by decide)]
      exact rs_x s ok 768 v _ _ _ hv hOf (by decide +kernel) (by decide +kernel) (by decide +kernel) (by decide +kernel) (by decide +kernel) (by decide +kernel) (by decide +kernel) (by decide +kernel) (by decide +kernel) (by decide +kernel) (by decide +kernel) (by decide +kernel) (by decide +kernel) (by decide +kernel) (by decide +kernel) 10 (by decide) rfl (nc_row ⟨10, by decide⟩) w
    | 11, _ =>
      have hn : n = 769 := hn
      subst hn
      rw [set_same v (by decide) (by decide) (by decide) (by decide) (by decide) (by decide)]
      exact rs_2 s ok 769 v _ _ _ hv hOf (by decide +kernel) (by decide +kernel) (by decide +kernel) w
    | 12, _ =>
      have hn : n = 770 := hn
      subst hn
      rw [set_put v (by decide) (by decide) (by decide) (by decide) (by decide) (by decide)]
      exact rs_x s ok 770 v _ _ _ hv hOf (by decide +kernel) (by decide +kernel) (by decide +kernel) (by decide +kernel) (by decide +kernel) (by decide +kernel) (by decide +kernel) (by decide +kernel) (by decide +kernel) (by decide +kernel) (by decide +kernel) (by decide +kernel) (by decide +kernel) (by decide +kernel) (by decide +kernel) 12 (by decide) rfl (nc_row ⟨12, by decide⟩) w
    | 13, _ =>
      have hn : n = 771 := hn
      subst hn
      rw [set_put v (by decide) (by decide) (by decide) (by decide) (by decide) (by decide)]
      exact rs_x s ok 771 v _ _ _ hv hOf (by decide +kernel) (by decide +kernel) (by decide +kernel) (by decide +kernel) (by decide +kernel) (by decide +kernel) (by decide +kernel) (by decide +kernel) (by decide +kernel) (by decide +kernel) (by decide +kernel) (by decide +kernel) (by decide +kernel) (by decide +kernel) (by decide +kernel) 13 (by decide) rfl (nc_row ⟨13, by decide⟩) w
    | 14, _ =>
      have hn : n = 772 := hn
      subst hn
      rw [set_put v (by decide) (by decide) (by decide) (by decide) (by decide) (by decide)]
      exact rs_x s ok 772 v _ _ _ hv hOf (by decide +kernel) (by decide +kernel) (by decide +kernel) (by decide +kernel) (by decide +kernel) (by decide +kernel) (by decide +kernel) (by decide +kernel) (by decide +kernel) (by decide +kernel) (by decide +kernel) (by decide +kernel) (by decide +kernel) (by decide +kernel) (by decide +kernel) 14 (by decide) rfl (nc_row ⟨14, by decide⟩) w
    | 15, _ =>
      have hn : n = 773 := hn
      subst hn
      rw [set_put v (by decide) (by decide) (by decide) (by decide) (by decide) (by decide)]
      exact rs_x s ok 773 v _ _ _ hv hOf (by decide +kernel) (by decide +kernel) (by decide +kernel) (by decide +kernel) (by decide +kernel) (by decide +kernel) (by decide +kernel) (by decide +kernel) (by decide +kernel) (by decide +kernel) (by decide +kernel) (by decide +kernel) (by decide +kernel) (by decide +kernel) (by decide +kernel) 15 (by decide) rfl (nc_row ⟨15, by decide⟩) w
    | 16, _ =>
      have hn : n = 774 := hn
      subst hn
      rw [set_put v (by decide) (by decide) (by decide) (by decide) (by decide) (by decide)]
      exact rs_x s ok 774 v _ _ _ hv hOf (by decide +kernel) (by decide +kernel) (by decide +kernel) (by decide +kernel) (by decide +kernel) (by decide +kernel) (by decide +kernel) (by decide +kernel) (by decide +kernel) (by decide +kernel) (by decide +kernel) (by decide +kernel) (by decide +kernel) (by decide +kernel) (by decide +kernel) 16 (by decide) rfl (nc_row ⟨16, by decide⟩) w
    | 17, _ =>
      have hn : n = 832 := hn
      subst hn
      rw [set_put v (by decide) (by decide) (by decide) (by decide) (by decide) (by decide)]
      exact rs_x s ok 832 v _ _ _ hv hOf (by decide +kernel) (by decide +kernel) (by decide +kernel) (by decide +kernel) (by decide +kernel) (by decide +kernel) (by decide +kernel) (by decide +kernel) (by decide +kernel) (by decide +kernel) (by decide +kernel) (by decide +kernel) (by decide +kernel) (by decide +kernel) (by decide +kernel) 17 (by decide) rfl (nc_row ⟨17, by decide⟩) w
    | 18, _ =>
      have hn : n = 833 := hn
      subst hn
      rw [set_put v (by decide) (by decide) (by decide) (by decide) (by decide) (by decide)]
      exact rs_x s ok 833 v _ _ _ hv hOf (by decide +kernel) (by decide +kernel) (by decide +kernel) (by decide +kernel) (by decide +kernel) (by decide +kernel) (by decide +kernel) (by decide +kernel) (by decide +kernel) (by decide +kernel) (by decide +kernel) (by decide +kernel) (by decide +kernel) (by decide +kernel) (by decide +kernel) 18 (by decide) rfl (nc_row ⟨18, by decide⟩) w
    | 19, _ =>
      have hn : n = 834 := hn
      subst hn
      rw [set_put v (by decide) (by decide) (by decide) (by decide) (by decide) (by decide)]
      exact rs_x s ok 834 v _ _ _ hv hOf (by decide +kernel) (by decide +kernel) (by decide +kernel) (by decide +kernel) (by decide +kernel) (by decide +kernel) (by decide +kernel) (by decide +kernel) (by decide +kernel) (by decide +kernel) (by decide +kernel) (by decide +kernel) (by decide +kernel) (by decide +kernel) (by decide +kernel) 19 (by decide) rfl (nc_row ⟨19, by decide⟩) w
    | 20, _ =>
      have hn : n = 835 := hn
      subst hn
      rw [set_put v (by decide) (by decide) (by decide) (by decide) (by decide) (by decide)]
      exact rs_x s ok 835 v _ _ _ hv hOf (by decide +kernel) (by decide +kernel) (by decide +kernel) (by decide +kernel) (by decide +kernel) (by decide +kernel) (by decide +kernel) (by decide +kernel) (by decide +kernel) (by decide +kernel) (by decide +kernel) (by decide +kernel) (by decide +kernel) (by decide +kernel) (by decide +kernel) 20 (by decide) rfl (nc_row ⟨20, by decide⟩) w
    | 21, _ =>
      have hn : n = 836 := hn
      subst hn
      rw [set_put v (by decide) (by decide) (by decide) (by decide) (by decide) (by decide)]
      exact rs_x s ok 836 v _ _ _ hv hOf (by decide +kernel) (by decide +kernel) (by decide +kernel) (by decide +kernel) (by decide +kernel) (by decide +kernel) (by decide +kernel) (by decide +kernel) (by decide +kernel) (by decide +kernel) (by decide +kernel) (by decide +kernel) (by decide +kernel) (by decide +kernel) (by decide +kernel) 21 (by decide) rfl (nc_row ⟨21, by decide⟩) w
    | 22, _ =>
      have hn : n = 1472 := hn
      subst hn
      rw [set_put v (by decide) (by decide) (by decide) (by decide) (by decide) (by decide)]
      exact rs_x s ok 1472 v _ _ _ hv hOf (by decide +kernel) (by decide +kernel) (by decide +kernel) (by decide +kernel) (by decide +kernel) (by decide +kernel) (by decide +kernel) (by decide +kernel) (by decide +kernel) (by decide +kernel) (by decide +kernel) (by decide +kernel) (by decide +kernel) (by decide +kernel) (by decide +kernel) 22 (by decide) rfl (nc_row ⟨22, by decide⟩) w
    | 23, _ =>
      have hn : n = 1473 := hn
      subst hn
      rw [set_put v (by decide) (by decide) (by decide) (by decide) (by decide) (by decide)]
      exact rs_x s ok 1473 v _ _ _ hv hOf (by decide +kernel) (by decide +kernel) (by decide +kernel) (by decide +kernel) (by decide +kernel) (by decide +kernel) (by decide +kernel) (by decide +kernel) (by decide +kernel) (by decide +kernel) (by decide +kernel) (by decide +kernel) (by decide +kernel) (by decide +kernel) (by decide +kernel) 23 (by decide) rfl (nc_row ⟨23, by decide⟩) w
    | 24, _ =>
      have hn : n = 1474 := hn
      subst hn
      rw [set_same v (by decide) (by decide) (by decide) (by decide) (by decide) (by decide)]
      exact rs_1 s ok 1474 v _ _ _ hv hOf (by decide +kernel) (by decide +kernel) w
    | 25, _ =>
      have hn : n = 2816 := hn
      subst hn
      rw [set_mcy]
      exact rs_13 s ok 2816 v _ _ _ hv hOf (by decide +kernel) (by decide +kernel) (by decide +kernel) (by decide +kernel) (by decide +kernel) (by decide +kernel) (by decide +kernel) (by decide +kernel) (by decide +kernel) (by decide +kernel) (by decide +kernel) (by decide +kernel) (by decide +kernel) (by decide +kernel) 25 (by decide) rfl (nc_row ⟨25, by decide⟩) w
    | 26, _ =>
      have hn : n = 2818 := hn
      subst hn
      rw [set_min]
      exact rs_14 s ok 2818 v _ _ _ hv hOf (by decide +kernel) (by decide +kernel) (by decide +kernel) (by decide +kernel) (by decide +kernel) (by decide +kernel) (by decide +kernel) (by decide +kernel) (by decide +kernel) (by decide +kernel) (by decide +kernel) (by decide +kernel) (by decide +kernel) (by decide +kernel) (by decide +kernel) 26 (by decide) rfl (nc_row ⟨26, by decide⟩) w
    | 27, _ =>
      have hn : n = 3072 := hn
      subst hn
      rw [set_same v (by decide) (by decide) (by decide) (by decide) (by decide) (by decide)]
      exact rs_3 s ok 3072 v _ _ _ hv hOf (by decide +kernel) (by decide +kernel) (by decide +kernel) (by decide +kernel) w
    | 28, _ =>
      have hn : n = 3073 := hn
      subst hn
      rw [set_same v (by decide) (by decide) (by decide) (by decide) (by decide) (by decide)]
      exact rs_4 s ok 3073 v _ _ _ hv hOf (by decide +kernel) (by decide +kernel) (by decide +kernel) (by decide +kernel) (by decide +kernel) w
    | 29, _ =>
      have hn : n = 3074 := hn
      subst hn
      rw [set_same v (by decide) (by decide) (by decide) (by decide) (by decide) (by decide)]
      exact rs_5 s ok 3074 v _ _ _ hv hOf (by decide +kernel) (by decide +kernel) (by decide +kernel) (by decide +kernel) (by decide +kernel) (by decide +kernel) w
    | 30, _ =>
      have hn : n = 3857 := hn
      subst hn
      rw [set_same v (by decide) (by decide) (by decide) (by decide) (by decide) (by decide)]
      exact rs_6 s ok 3857 v _ _ _ hv hOf (by decide +kernel) (by decide +kernel) (by decide +kernel) (by decide +kernel) (by decide +kernel) (by decide +kernel) (by decide +kernel) w
    | 31, _ =>
      have hn : n = 3858 := hn
      subst hn
      rw [set_same v (by decide) (by decide) (by decide) (by decide) (by decide) (by decide)]
      exact rs_7 s ok 3858 v _ _ _ hv hOf (by decide +kernel) (by decide +kernel) (by decide +kernel) (by decide +kernel) (by decide +kernel) (by decide +kernel) (by decide +kernel) (by decide +kernel) w
    | 32, _ =>
      have hn : n = 3859 := hn
      subst hn
      rw [set_same v (by decide) (by decide) (by decide) (by decide) (by decide) (by decide)]
      exact rs_8 s ok 3859 v _ _ _ hv hOf (by decide +kernel) (by decide +kernel) (by decide +kernel) (by decide +kernel) (by decide +kernel) (by decide +kernel) (by decide +kernel) (by decide +kernel) (by decide +kernel) w
    | 33, _ =>
      have hn : n = 3860 := hn
      subst hn
      rw [set_same v (by decide) (by decide) (by decide) (by decide) (by decide) (by decide)]
      exact rs_9 s ok 3860 v _ _ _ hv hOf (by decide +kernel) (by decide +kernel) (by decide +kernel) (by decide +kernel) (by decide +kernel) (by decide +kernel) (by decide +kernel) (by decide +kernel) (by decide +kernel) (by decide +kernel) w
    | k + 34, h => exact absurd h (by omega)
end Go.Proofs.YtkbgmppbkllnmaaDoor
namespace Go.Proofs.YtkbgmppbkllnmaaDoor.Cau
open Go.RowKit Wd

/-- The first of a list that a test accepts, by places. -/
theorem gfst_hit {α : Type} (d : α) {p : α → Bool} : ∀ (L : List α) {k : Nat}, k < L.length → (∀ j, j < k → p (L.getD j d) = false) → p (L.getD k d) = true → L.find? p = some (L.getD k d)
  | [], k, hk, _, _ => absurd hk (by simp)
  | x :: xs, 0, _, _, h => by
    have h' : p x = true := h
    simp [h']
  | x :: xs, k + 1, hk, hb, h => by
    have h0 : p x = false := hb 0 (by omega)
    rw [List.find?_cons_of_neg (by simp [h0])]
    exact gfst_hit d xs (by simpa using hk) (fun j hj => hb (j + 1) (by omega)) h
theorem gfst_none {α : Type} (d : α) {p : α → Bool} (L : List α) (hb : ∀ j, j < L.length → p (L.getD j d) = false) : L.find? p = none := by
  rw [List.find?_eq_none]
  intro x hx
  obtain ⟨j, hj, rfl⟩ := List.mem_iff_getElem.1 hx
  have := hb j hj
  rw [List.getD_eq_getElem?_getD, List.getElem?_eq_getElem hj] at this
  simpa using this
theorem gfst_cases {α : Type} (d : α) (p : α → Bool) (L : List α) : L.find? p = none ∨ ∃ k, k < L.length ∧ L.find? p = some (L.getD k d) ∧ p (L.getD k d) = true := by
  cases h : L.find? p with
  | none => exact .inl rfl
  | some r =>
    have hm := List.mem_of_find?_eq_some h
    obtain ⟨j, hj, rfl⟩ := List.mem_iff_getElem.1 hm
    refine .inr ⟨j, hj, ?_, ?_⟩
    · rw [List.getD_eq_getElem?_getD, List.getElem?_eq_getElem hj]; rfl
    · rw [List.getD_eq_getElem?_getD, List.getElem?_eq_getElem hj]; exact List.find?_some h
abbrev RowK := Bool × Nat × List UInt8
/-- (interrupt, code, name) -/
def rowsK : List RowK := [(false, 0, [105, 110, 115, 110, 45, 97, 108, 105, 103, 110]), (false, 1, [105, 110, 115, 110, 45, 102, 97, 117, 108, 116]), (false, 2, [105, 108, 108, 101, 103, 97, 108]), (false, 3, [98, 114, 101, 97, 107]), (false, 4, [108, 111, 97, 100, 45, 97, 108, 105, 103, 110]), (false, 5, [108, 111, 97, 100, 45, 102, 97, 117, 108, 116]), (false, 6, [115, 116, 111, 114, 101, 45, 97, 108, 105, 103, 110]), (false, 7, [115, 116, 111, 114, 101, 45, 102, 97, 117, 108, 116]), (false, 8, [99, 97, 108, 108, 45, 117, 115, 101, 114]), (false, 9, [99, 97, 108, 108, 45, 115, 117, 112, 101, 114]), (false, 11, [99, 97, 108, 108, 45, 109, 97, 99, 104, 105, 110, 101]), (false, 12, [105, 110, 115, 110, 45, 112, 97, 103, 101]), (false, 13, [108, 111, 97, 100, 45, 112, 97, 103, 101]), (false, 15, [115, 116, 111, 114, 101, 45, 112, 97, 103, 101]), (true, 1, [115, 117, 112, 101, 114, 45, 115, 111, 102, 116]), (true, 3, [109, 97, 99, 104, 105, 110, 101, 45, 115, 111, 102, 116]), (true, 5, [115, 117, 112, 101, 114, 45, 116, 105, 109, 101]), (true, 7, [109, 97, 99, 104, 105, 110, 101, 45, 116, 105, 109, 101]), (true, 9, [115, 117, 112, 101, 114, 45, 111, 117, 116, 101, 114]), (true, 11, [109, 97, 99, 104, 105, 110, 101, 45, 111, 117, 116, 101, 114])]
def noK : RowK := (false, 0, [])
def rowK (k : Nat) : RowK := rowsK.getD k noK
def fstK (p : RowK → Bool) : Option RowK := rowsK.find? p
theorem kfst_hit {p : RowK → Bool} {k : Nat} (hk : k < 20) (hb : ∀ j, j < k → p (rowK j) = false) (h : p (rowK k) = true) : fstK p = some (rowK k) := gfst_hit noK rowsK hk hb h
theorem kfst_none {p : RowK → Bool} (hb : ∀ j, j < 20 → p (rowK j) = false) : fstK p = none := gfst_none noK rowsK hb
theorem kfst_cases (p : RowK → Bool) : fstK p = none ∨ ∃ k, k < 20 ∧ fstK p = some (rowK k) ∧ p (rowK k) = true := gfst_cases noK p rowsK
theorem rowK_get {k : Nat} (h : k < 20) : rowsK[k]? = some (rowK k) := by
  unfold rowK
  rw [List.getD_eq_getElem?_getD, List.getElem?_eq_getElem (show k < rowsK.length from h)]; rfl
def isC (b : Bool) (n : Int) (r : RowK) : Bool := (r.1 == b) && (((r.2.1 : Nat) : Int) == n)
def isNamK (s : ByteArray) (r : RowK) : Bool := r.2.2 == s.toList
def wordK (b : Bool) (n : Int) : Int := (if 0 ≤ n ∧ n ≤ 63 then n else 0) + (if b then 9223372036854775808 else 0)
def isWrd (w : Int) (r : RowK) : Bool := wordK r.1 (r.2.1 : Nat) == w
theorem wordK_range (b : Bool) (n : Int) : 0 ≤ wordK b n ∧ wordK b n < 18446744073709551616 := by
  unfold wordK
  split <;> split <;> omega
theorem nam_pos : ∀ k : Fin 20, (rowK k.val).2.2 ≠ [] := by decide +kernel
theorem known_named (p : RowK → Bool) : (fstK p).isSome = !(((fstK p).getD noK).2.2 == []) := by
  rcases kfst_cases p with e | ⟨k, hk, e, -⟩
  · rw [e]; rfl
  · rw [e]
    have := nam_pos ⟨k, hk⟩
    simp only at this
    simp [this]
/-! ### which interrupt comes first -/
def ordK : List Nat := [11, 3, 7, 9, 1, 5]
def fstI (w : Int) : Option Nat := ordK.find? fun k => tb w k
theorem ifst_hit {w : Int} {k : Nat} (hk : k < 6) (hb : ∀ j, j < k → tb w (ordK.getD j 0) = false) (h : tb w (ordK.getD k 0) = true) : fstI w = some (ordK.getD k 0) := gfst_hit 0 ordK hk hb h
theorem ifst_none {w : Int} (hb : ∀ j, j < 6 → tb w (ordK.getD j 0) = false) : fstI w = none := gfst_none 0 ordK hb
theorem ifst_cases (w : Int) : fstI w = none ∨ ∃ k, k < 6 ∧ fstI w = some (ordK.getD k 0) ∧ tb w (ordK.getD k 0) = true := gfst_cases 0 (fun k => tb w k) ordK
theorem ifst_bits (w : Int) : fstI w = if tb w 11 then some 11 else if tb w 3 then some 3 else if tb w 7 then some 7 else if tb w 9 then some 9 else if tb w 1 then some 1 else if tb w 5 then some 5 else none := by
  unfold fstI ordK
  simp only [List.find?]
  cases tb w 11 <;> cases tb w 3 <;> cases tb w 7 <;> cases tb w 9 <;> cases tb w 1 <;> cases tb w 5 <;> rfl
end Go.Proofs.YtkbgmppbkllnmaaDoor.Cau
set_option maxRecDepth 20000
namespace Go.Proofs.YtkbgmppbkllnmaaDoor
open Go.RowKit
namespace Eqf

/-- A cell's literal. -/
def litV : Value → Lit
  | .int k n => .int k n
  | .bool b => .bool b
  | _ => .bool false
/-- Is a cell of a kind (none: a bool)? -/
def okV : Option IntKind → Value → Bool
  | some q, .int q' n => decide (q' = q) && (Lit.int q n).wf
  | none, .bool _ => true
  | _, _ => false
def okL : List (Option IntKind) → List Value → Bool
  | [], [] => true
  | k :: ks, v :: vs => okV k v && okL ks vs
  | _, _ => false
theorem okL_len : ∀ {ks : List (Option IntKind)} {vs : List Value}, okL ks vs = true → vs.length = ks.length
  | [], [], _ => rfl
  | k :: ks, v :: vs, h => by
    simp only [okL, Bool.and_eq_true] at h
    simp [okL_len h.2]
  | [], _ :: _, h => by simp [okL] at h
  | _ :: _, [], h => by simp [okL] at h
theorem okL_app : ∀ {ks ls : List (Option IntKind)} {vs : List Value}, okL (ks ++ ls) vs = true → okL ks (vs.take ks.length) = true ∧ okL ls (vs.drop ks.length) = true
  | [], ls, vs, h => by simpa [okL] using h
  | k :: ks, ls, [], h => by simp [okL] at h
  | k :: ks, ls, v :: vs, h => by
    simp only [List.cons_append, okL, Bool.and_eq_true] at h
    have := okL_app h.2
    simp only [List.length_cons, List.take_succ_cons, List.drop_succ_cons, okL, Bool.and_eq_true]
    exact ⟨⟨h.1, this.1⟩, this.2⟩
theorem app_okL : ∀ {ks ls : List (Option IntKind)} {vs us : List Value}, okL ks vs = true → okL ls us = true → okL (ks ++ ls) (vs ++ us) = true
  | [], _, [], _, _, h => h
  | k :: ks, ls, v :: vs, us, h, g => by
    simp only [okL, Bool.and_eq_true] at h
    simp only [List.cons_append, okL, Bool.and_eq_true]
    exact ⟨h.1, app_okL h.2 g⟩
  | [], _, _ :: _, _, h, _ => by simp [okL] at h
  | _ :: _, _, [], _, h, _ => by simp [okL] at h
section
variable (P : Program)
/-- The kinds of a struct's fields, if these stand one behind the other. -/
def flatF (g : TypeId → Option (List (Option IntKind))) : List Field → Nat → Option (List (Option IntKind))
  | [], _ => some []
  | f :: fs, o => match g f.type with
    | none => none
    | some ks => if f.offset = o ∧ P.cellsOf f.type = ks.length then (flatF g fs (o + ks.length)).map (ks ++ ·) else none
/-- The kinds of a type's cells. -/
def flat : Nat → TypeId → Option (List (Option IntKind))
  | 0, _ => none
  | d + 1, t => match P.underlying t with
    | some .bool => some [none]
    | some (.int q) => some [some q]
    | some (.array n e) => match flat d e with
      | none => none
      | some ks => if P.cellsOf e = ks.length ∧ P.cellsOf t = n * ks.length then some ((List.replicate n ks).flatten) else none
    | some (.struct fs) => match flatF P (flat d) fs.toList 0 with
      | none => none
      | some ks => if P.cellsOf t = ks.length ∧ fs.all (·.name != "_") = true then some ks else none
    | _ => none
end
variable {P : Program}
theorem items (d : Nat) (e : TypeId) (ks : List (Option IntKind)) (he : P.cellsOf e = ks.length) (ih : ∀ cs, okL ks cs = true → P.keyLits d e cs = some (cs.map litV)) :
    ∀ (n : Nat) (o : Nat) (cs : List Value), okL (List.replicate n ks).flatten (cs.drop (o * ks.length)) = true →
      ((List.range' o n).mapM fun i => P.keyLits d e ((cs.drop (i * P.cellsOf e)).take (P.cellsOf e))) = some ((List.range' o n).map fun i => ((cs.drop (i * ks.length)).take ks.length).map litV) ∧
      ((List.range' o n).map fun i => ((cs.drop (i * ks.length)).take ks.length).map litV).flatten = (cs.drop (o * ks.length)).map litV
  | 0, o, cs, h => by
    have := okL_len h
    simp at this
    have e : cs.drop (o * ks.length) = [] := List.drop_eq_nil_of_le (by omega)
    simp [e]
  | n + 1, o, cs, h => by
    rw [List.replicate_succ, List.flatten_cons] at h
    obtain ⟨h1, h2⟩ := okL_app h
    rw [List.drop_drop, ← Nat.succ_mul] at h2
    obtain ⟨i1, i2⟩ := items d e ks he ih n (o + 1) cs h2
    rw [he] at i1 ⊢
    refine ⟨?_, ?_⟩
    · rw [List.range'_succ, List.mapM_cons, ih _ h1, i1]
      rfl
    · rw [List.range'_succ, List.map_cons, List.flatten_cons, i2, ← List.map_append, Nat.succ_mul, ← List.drop_drop, List.take_append_drop]
theorem fields (d : Nat) (ih : ∀ (t : TypeId) (ks : List (Option IntKind)) (cs : List Value), flat P d t = some ks → okL ks cs = true → P.keyLits d t cs = some (cs.map litV)) :
    ∀ (fs : List Field) (o : Nat) (ks : List (Option IntKind)) (cs : List Value), flatF P (flat P d) fs o = some ks → okL ks (cs.drop o) = true →
      ∃ ls, (fs.mapM fun f => P.keyLits d f.type ((cs.drop f.offset).take (P.cellsOf f.type))) = some ls ∧ ls.flatten = (cs.drop o).map litV
  | [], o, ks, cs, h, g => by
    simp only [flatF, Option.some.injEq] at h
    subst h
    have := okL_len g
    have e : cs.drop o = [] := List.length_eq_zero_iff.1 (by simpa using this)
    exact ⟨[], rfl, by rw [e]; rfl⟩
  | f :: fs, o, ks, cs, h, g => by
    simp only [flatF] at h
    cases hk : flat P d f.type with
    | none => rw [hk] at h; cases h
    | some ls =>
      rw [hk] at h
      simp only at h
      split at h
      · rename_i hc
        obtain ⟨ms, hm, rfl⟩ := Option.map_eq_some_iff.1 h
        obtain ⟨g1, g2⟩ := okL_app g
        rw [List.drop_drop] at g2
        obtain ⟨rs, r1, r2⟩ := fields d ih fs (o + ls.length) ms cs hm g2
        refine ⟨((cs.drop o).take ls.length).map litV :: rs, ?_, ?_⟩
        · rw [List.mapM_cons, hc.1, hc.2, ih f.type ls _ hk g1, r1]
          rfl
        · rw [List.flatten_cons, r2, ← List.map_append, ← List.drop_drop, List.take_append_drop]
      · cases h
theorem lits : ∀ (d : Nat) (t : TypeId) (ks : List (Option IntKind)) (cs : List Value), flat P d t = some ks → okL ks cs = true → P.keyLits d t cs = some (cs.map litV)
  | 0, _, _, _, h, _ => by simp [flat] at h
  | d + 1, t, ks, cs, h, g => by
    have hl := okL_len g
    unfold flat at h
    unfold Program.keyLits
    cases hu : P.underlying t with
    | none => rw [hu] at h; cases h
    | some kd =>
      rw [hu] at h
      cases kd
      case bool =>
        simp only [Option.some.injEq] at h
        subst h
        match cs, g with
        | [.bool b], _ => rfl
      case int q =>
        simp only [Option.some.injEq] at h
        subst h
        match cs, g with
        | [.int q' n], g =>
          simp only [okL, okV, Bool.and_eq_true, decide_eq_true_eq, and_true] at g
          obtain ⟨rfl, g2⟩ := g
          simp [g2, litV]
      case array n e =>
        simp only at h
        cases hf : flat P d e with
        | none => rw [hf] at h; cases h
        | some ls =>
          rw [hf] at h
          simp only at h
          split at h
          · rename_i hc
            simp only [Option.some.injEq] at h
            subst h
            have hlen : cs.length = P.cellsOf t := by rw [hc.2, hl]; simp
            obtain ⟨i1, i2⟩ := items d e ls hc.1 (fun cs hcs => lits d e ls cs hf hcs) n 0 cs (by simpa using g)
            rw [← List.range_eq_range'] at i1 i2
            simp only [if_pos hlen, i1, Option.map_some, i2]
            simp
          · cases h
      case struct fs =>
        simp only at h
        cases hf : flatF P (flat P d) fs.toList 0 with
        | none => rw [hf] at h; cases h
        | some ls =>
          rw [hf] at h
          simp only at h
          split at h
          · rename_i hc
            simp only [Option.some.injEq] at h
            subst h
            obtain ⟨rs, r1, r2⟩ := fields d (fun t ks cs => lits d t ks cs) fs.toList 0 ls cs hf (by simpa using g)
            simp only [if_pos (And.intro (hl.trans hc.1.symm) hc.2), r1, Option.map_some, r2]
            simp
          · cases h
      all_goals cases h
def eqv : Value → Value → Bool
  | .int _ n, .int _ m => n == m
  | .bool a, .bool b => a == b
  | _, _ => false
/-- Are two rows of cells equal? -/
def eqL : List Value → List Value → Bool
  | [], [] => true
  | v :: vs, u :: us => eqv v u && eqL vs us
  | _, _ => false
theorem eqv_lit {k : Option IntKind} {v u : Value} (hv : okV k v = true) (hu : okV k u = true) : litV v = litV u ↔ eqv v u = true := by
  cases k with
  | none =>
    cases v <;> simp [okV] at hv
    cases u <;> simp [okV] at hu
    simp [litV, eqv]
  | some q =>
    cases v <;> simp [okV] at hv
    cases u <;> simp [okV] at hu
    simp [litV, eqv, hv.1, hu.1]
theorem eqL_lit : ∀ {ks : List (Option IntKind)} {vs us : List Value}, okL ks vs = true → okL ks us = true → (vs.map litV = us.map litV ↔ eqL vs us = true)
  | [], [], [], _, _ => by simp [eqL]
  | k :: ks, v :: vs, u :: us, h, g => by
    simp only [okL, Bool.and_eq_true] at h g
    simp only [List.map_cons, List.cons.injEq, eqL, Bool.and_eq_true, eqv_lit h.1 g.1, eqL_lit h.2 g.2]
  | [], _ :: _, _, h, _ => by simp [okL] at h
  | [], [], _ :: _, _, g => by simp [okL] at g
  | _ :: _, [], _, h, _ => by simp [okL] at h
  | _ :: _, _ :: _, [], _, g => by simp [okL] at g
theorem eqL_self : ∀ {ks : List (Option IntKind)} {vs : List Value}, okL ks vs = true → eqL vs vs = true := fun h => (eqL_lit h h).1 rfl
/-- Compared. -/
theorem eql (w : World) (m : Nat) (hm : m ≤ 10000) (t : TypeId) (ks : List (Option IntKind)) (hk : P.keyTypeAt m t = true) (hf : flat P m t = some ks) (x y : Array Value) (fx : Value.formed P t (.agg x) = true) (fy : Value.formed P t (.agg y) = true)
    (hx : okL ks x.toList = true) (hy : okL ks y.toList = true) : (Op.equalIn 10000 t (.agg x) (.agg y)).run P w = .ok (eqL x.toList y.toList) w := by
  obtain ⟨r, hr, hiff⟩ := run_equalIn_deep (P := P) (10000 - m) m t hk w m m (.agg x) (.agg y) _ _ fx fy (lits m t ks _ hf hx) (lits m t ks _ hf hy)
  rw [show 10000 - m + m = 10000 by omega] at hr
  rw [hr]
  congr 1
  rw [Bool.eq_iff_iff, hiff]
  exact eqL_lit hx hy
theorem beql (w : World) (m : Nat) (hm : m ≤ 10000) (t : TypeId) (ks : List (Option IntKind)) (hk : P.keyTypeAt m t = true) (hf : flat P m t = some ks) (x y : Array Value) (fx : Value.formed P t (.agg x) = true) (fy : Value.formed P t (.agg y) = true)
    (hx : okL ks x.toList = true) (hy : okL ks y.toList = true) : (binOp .eql t (.agg x) (.agg y)).run P w = .ok (.bool (eqL x.toList y.toList)) w := by
  rw [run_eql_struct, eql w m hm t ks hk hf x y fx fy hx hy]
  rfl
theorem bneq (w : World) (m : Nat) (hm : m ≤ 10000) (t : TypeId) (ks : List (Option IntKind)) (hk : P.keyTypeAt m t = true) (hf : flat P m t = some ks) (x y : Array Value) (fx : Value.formed P t (.agg x) = true) (fy : Value.formed P t (.agg y) = true)
    (hx : okL ks x.toList = true) (hy : okL ks y.toList = true) : (binOp .neq t (.agg x) (.agg y)).run P w = .ok (.bool (!(eqL x.toList y.toList))) w := by
  rw [run_neq_struct, eql w m hm t ks hk hf x y fx fy hx hy]
  rfl
end Eqf
end Go.Proofs.YtkbgmppbkllnmaaDoor
