/-
  The reference of layer 17: contract of Write.
-/
import Derived.Test.YtihinimgenpijaaUrC
set_option maxRecDepth 20000
namespace Go.Proofs.Ytihinimgenpijaa
open Go.ChangeShapes Go.WideShapes Go.ChangeAt Go.RowKit

namespace Ut
theorem mod2 (x : Int) : (x % 2 == 1) = bt x 0 := by
  unfold bt
  rw [Bool.eq_iff_iff]
  simp
end Ut
theorem Chg.alloc {S : Nat → Prop} {w : World} (o : Obj) : Chg S w (w.alloc o) := Chg.of_below ((Below.refl _ _).alloc (Nat.le_refl _) _)

set_option maxHeartbeats 8000000 in
theorem rwrite_far (G : Nat → Prop) (s : Ut.S) (iv ov : Value) (off : Int) (x : Int) (hx : Ut.isB x) (w : World) (hG : ∀ k, G k → k < w.heap.size) (hi : VwG G w iv s.q) (ho : VwG G w ov s.out) (ok : Ut.Ok s) (hf : 8 ≤ off) :
    Calls Try.prog 39 #[.agg (xuV s iv ov), .int .u64 off, .int .i64 x] w fun e w' => ∃ iv' ov', e = .returned (.tuple #[.agg (xuV (Ut.writeS s off x) iv' ov'), .bool (Ut.is off)]) ∧ XuQ G w w' (Ut.writeS s off x) iv' ov' := by
  have HX := Lib.hid (XuAt.new w s iv ov)
  have hz := zero_x17
  have HI := Lib.hid hi
  have HO := Lib.hid ho
  have HG := Lib.hid hG
  have HOK := Lib.hid ok
  have HXB := Lib.hid hx
  have hx0 := hx.1
  have hx1 := hx.2
  have H7 := Lib.hid (rbit_c s.lcr 7 ok.lcr.1 (by have := ok.lcr.2; omega) (by omega))
  have e7 := Ut.bti_b s.lcr 7
  have hhi : Ut.bt s.lcr 7 = Ut.hi s := rfl
  rw [hhi] at e7
  clear hi ho hhi hx ok
  generalize Ut.bti s.lcr 7 = b7 at *
  rw [(Ut.write_far (s := s) (x := x) hf).1, (Ut.write_far (s := s) (x := x) hf).2]
  have g0 : (off == 0) = false := by simp; omega
  have g1 : (off == 1) = false := by simp; omega
  have g2 : (off == 2) = false := by simp; omega
  have g3 : (off == 3) = false := by simp; omega
  have g4 : (off == 4) = false := by simp; omega
  have g5 : (off == 5) = false := by simp; omega
  have g6 : (off == 6) = false := by simp; omega
  have g7 : (off == 7) = false := by simp; omega
  clear hf
  go_enter Try.func39, Try.ntmps39
  go_upto_region 1 with fail
  generalize (w.alloc (Obj.cells (xuV s iv ov) X17)).alloc (Obj.cells (xuV Ut.zero (.slice none 0 0) (.slice none 0 0)) X17) = w1 at *
  have c1 := HX.out.cells.2.1
  go_wp2_with fail
  refine (H7.out _).mono ?_
  rintro e w2 ⟨rfl, rfl⟩
  clear c1 H7
  have HX3 := Lib.hid (HX.out.res s iv ov)
  go_wp2_with (first | (refine wpList_load_row rfl X17 _ rfl w.heap.size rfl X17 _ (0, 0) _ HX.out.x Try.underlying32 rfl info_X17 ?_) | (refine wpList_store_row rfl X17 _ _ rfl (w.heap.size + 1) (xuV s iv ov) rfl rfl X17 _ HX.out.r info_X17 rfl (xuV_one _ HI.out.one HO.out.one) ?_))
  exact bodyPost_ret (results_cbU X17 Try.results39 _ _ (w.heap.size + 1) _ _ rfl rfl HX3.out.ret) rfl ⟨_, _, rfl, ⟨HI.out.low HX3.out.bel, HO.out.low HX3.out.bel, HX3.out.bel⟩⟩
set_option maxHeartbeats 8000000 in
theorem rwrite5 (G : Nat → Prop) (s : Ut.S) (iv ov : Value) (x : Int) (hx : Ut.isB x) (w : World) (hG : ∀ k, G k → k < w.heap.size) (hi : VwG G w iv s.q) (ho : VwG G w ov s.out) (ok : Ut.Ok s) :
    Calls Try.prog 39 #[.agg (xuV s iv ov), .int .u64 5, .int .i64 x] w fun e w' => ∃ iv' ov', e = .returned (.tuple #[.agg (xuV (Ut.writeS s 5 x) iv' ov'), .bool (Ut.is 5)]) ∧ XuQ G w w' (Ut.writeS s 5 x) iv' ov' := by
  have HX := Lib.hid (XuAt.new w s iv ov)
  have hz := zero_x17
  have HI := Lib.hid hi
  have HO := Lib.hid ho
  have HG := Lib.hid hG
  have HOK := Lib.hid ok
  have HXB := Lib.hid hx
  have hx0 := hx.1
  have hx1 := hx.2
  have H7 := Lib.hid (rbit_c s.lcr 7 ok.lcr.1 (by have := ok.lcr.2; omega) (by omega))
  have e7 := Ut.bti_b s.lcr 7
  have hhi : Ut.bt s.lcr 7 = Ut.hi s := rfl
  rw [hhi] at e7
  clear hi ho hhi hx ok
  generalize Ut.bti s.lcr 7 = b7 at *
  rw [Ut.write5, Ut.is_lt (by omega)]
  go_enter Try.func39, Try.ntmps39
  go_upto_region 1 with fail
  generalize (w.alloc (Obj.cells (xuV s iv ov) X17)).alloc (Obj.cells (xuV Ut.zero (.slice none 0 0) (.slice none 0 0)) X17) = w1 at *
  have c1 := HX.out.cells.2.1
  go_wp2_with fail
  refine (H7.out _).mono ?_
  rintro e w2 ⟨rfl, rfl⟩
  clear c1 H7
  have HX3 := Lib.hid (HX.out.res s iv ov)
  go_wp2_with (first | (refine wpList_load_row rfl X17 _ rfl w.heap.size rfl X17 _ (0, 0) _ HX.out.x Try.underlying32 rfl info_X17 ?_) | (refine wpList_store_row rfl X17 _ _ rfl (w.heap.size + 1) (xuV s iv ov) rfl rfl X17 _ HX.out.r info_X17 rfl (xuV_one _ HI.out.one HO.out.one) ?_))
  exact bodyPost_ret (results_cbU X17 Try.results39 _ _ (w.heap.size + 1) _ _ rfl rfl HX3.out.ret) rfl ⟨_, _, rfl, ⟨HI.out.low HX3.out.bel, HO.out.low HX3.out.bel, HX3.out.bel⟩⟩
set_option maxHeartbeats 8000000 in
theorem rwrite6 (G : Nat → Prop) (s : Ut.S) (iv ov : Value) (x : Int) (hx : Ut.isB x) (w : World) (hG : ∀ k, G k → k < w.heap.size) (hi : VwG G w iv s.q) (ho : VwG G w ov s.out) (ok : Ut.Ok s) :
    Calls Try.prog 39 #[.agg (xuV s iv ov), .int .u64 6, .int .i64 x] w fun e w' => ∃ iv' ov', e = .returned (.tuple #[.agg (xuV (Ut.writeS s 6 x) iv' ov'), .bool (Ut.is 6)]) ∧ XuQ G w w' (Ut.writeS s 6 x) iv' ov' := by
  have HX := Lib.hid (XuAt.new w s iv ov)
  have hz := zero_x17
  have HI := Lib.hid hi
  have HO := Lib.hid ho
  have HG := Lib.hid hG
  have HOK := Lib.hid ok
  have HXB := Lib.hid hx
  have hx0 := hx.1
  have hx1 := hx.2
  have H7 := Lib.hid (rbit_c s.lcr 7 ok.lcr.1 (by have := ok.lcr.2; omega) (by omega))
  have e7 := Ut.bti_b s.lcr 7
  have hhi : Ut.bt s.lcr 7 = Ut.hi s := rfl
  rw [hhi] at e7
  clear hi ho hhi hx ok
  generalize Ut.bti s.lcr 7 = b7 at *
  rw [Ut.write6, Ut.is_lt (by omega)]
  go_enter Try.func39, Try.ntmps39
  go_upto_region 1 with fail
  generalize (w.alloc (Obj.cells (xuV s iv ov) X17)).alloc (Obj.cells (xuV Ut.zero (.slice none 0 0) (.slice none 0 0)) X17) = w1 at *
  have c1 := HX.out.cells.2.1
  go_wp2_with fail
  refine (H7.out _).mono ?_
  rintro e w2 ⟨rfl, rfl⟩
  clear c1 H7
  have HX3 := Lib.hid (HX.out.res s iv ov)
  go_wp2_with (first | (refine wpList_load_row rfl X17 _ rfl w.heap.size rfl X17 _ (0, 0) _ HX.out.x Try.underlying32 rfl info_X17 ?_) | (refine wpList_store_row rfl X17 _ _ rfl (w.heap.size + 1) (xuV s iv ov) rfl rfl X17 _ HX.out.r info_X17 rfl (xuV_one _ HI.out.one HO.out.one) ?_))
  exact bodyPost_ret (results_cbU X17 Try.results39 _ _ (w.heap.size + 1) _ _ rfl rfl HX3.out.ret) rfl ⟨_, _, rfl, ⟨HI.out.low HX3.out.bel, HO.out.low HX3.out.bel, HX3.out.bel⟩⟩
set_option maxHeartbeats 8000000 in
theorem rwrite3 (G : Nat → Prop) (s : Ut.S) (iv ov : Value) (x : Int) (hx : Ut.isB x) (w : World) (hG : ∀ k, G k → k < w.heap.size) (hi : VwG G w iv s.q) (ho : VwG G w ov s.out) (ok : Ut.Ok s) :
    Calls Try.prog 39 #[.agg (xuV s iv ov), .int .u64 3, .int .i64 x] w fun e w' => ∃ iv' ov', e = .returned (.tuple #[.agg (xuV (Ut.writeS s 3 x) iv' ov'), .bool (Ut.is 3)]) ∧ XuQ G w w' (Ut.writeS s 3 x) iv' ov' := by
  have HX := Lib.hid (XuAt.new w s iv ov)
  have hz := zero_x17
  have HI := Lib.hid hi
  have HO := Lib.hid ho
  have HG := Lib.hid hG
  have HOK := Lib.hid ok
  have HXB := Lib.hid hx
  have hx0 := hx.1
  have hx1 := hx.2
  have H7 := Lib.hid (rbit_c s.lcr 7 ok.lcr.1 (by have := ok.lcr.2; omega) (by omega))
  have e7 := Ut.bti_b s.lcr 7
  have hhi : Ut.bt s.lcr 7 = Ut.hi s := rfl
  rw [hhi] at e7
  clear hi ho hhi hx ok
  generalize Ut.bti s.lcr 7 = b7 at *
  rw [Ut.write3, Ut.is_lt (by omega)]
  go_enter Try.func39, Try.ntmps39
  go_upto_region 1 with fail
  generalize (w.alloc (Obj.cells (xuV s iv ov) X17)).alloc (Obj.cells (xuV Ut.zero (.slice none 0 0) (.slice none 0 0)) X17) = w1 at *
  have c1 := HX.out.cells.2.1
  go_wp2_with fail
  refine (H7.out _).mono ?_
  rintro e w2 ⟨rfl, rfl⟩
  clear c1 H7
  have ck := HX.out.cells.2.1
  have fk := HX.out.x.frozen 1
  have HX4 := Lib.hid (HX.out.upd (i := 1) (v := .int .i64 (x)) (u := { s with lcr := x }) (kv := iv) (lv := ov) rfl)
  have HX3 := Lib.hid (HX4.out.res { s with lcr := x } iv ov)
  clear HX
  go_upto_region 33 with fail
  generalize w2.setCell ⟨w.heap.size, 1, none⟩ (.int .i64 (x)) = w4 at *
  clear ck fk
  go_wp2_with (first | (refine wpList_load_row rfl X17 _ rfl w.heap.size rfl X17 _ (0, 0) _ HX4.out.x Try.underlying32 rfl info_X17 ?_) | (refine wpList_store_row rfl X17 _ _ rfl (w.heap.size + 1) (xuV { s with lcr := x } iv ov) rfl rfl X17 _ HX4.out.r info_X17 rfl (xuV_one _ HI.out.one HO.out.one) ?_))
  exact bodyPost_ret (results_cbU X17 Try.results39 _ _ (w.heap.size + 1) _ _ rfl rfl HX3.out.ret) rfl ⟨_, _, rfl, ⟨HI.out.low HX3.out.bel, HO.out.low HX3.out.bel, HX3.out.bel⟩⟩
set_option maxHeartbeats 8000000 in
theorem rwrite4 (G : Nat → Prop) (s : Ut.S) (iv ov : Value) (x : Int) (hx : Ut.isB x) (w : World) (hG : ∀ k, G k → k < w.heap.size) (hi : VwG G w iv s.q) (ho : VwG G w ov s.out) (ok : Ut.Ok s) :
    Calls Try.prog 39 #[.agg (xuV s iv ov), .int .u64 4, .int .i64 x] w fun e w' => ∃ iv' ov', e = .returned (.tuple #[.agg (xuV (Ut.writeS s 4 x) iv' ov'), .bool (Ut.is 4)]) ∧ XuQ G w w' (Ut.writeS s 4 x) iv' ov' := by
  have HX := Lib.hid (XuAt.new w s iv ov)
  have hz := zero_x17
  have HI := Lib.hid hi
  have HO := Lib.hid ho
  have HG := Lib.hid hG
  have HOK := Lib.hid ok
  have HXB := Lib.hid hx
  have hx0 := hx.1
  have hx1 := hx.2
  have H7 := Lib.hid (rbit_c s.lcr 7 ok.lcr.1 (by have := ok.lcr.2; omega) (by omega))
  have e7 := Ut.bti_b s.lcr 7
  have hhi : Ut.bt s.lcr 7 = Ut.hi s := rfl
  rw [hhi] at e7
  clear hi ho hhi hx ok
  generalize Ut.bti s.lcr 7 = b7 at *
  rw [Ut.write4, Ut.is_lt (by omega)]
  go_enter Try.func39, Try.ntmps39
  go_upto_region 1 with fail
  generalize (w.alloc (Obj.cells (xuV s iv ov) X17)).alloc (Obj.cells (xuV Ut.zero (.slice none 0 0) (.slice none 0 0)) X17) = w1 at *
  have c1 := HX.out.cells.2.1
  go_wp2_with fail
  refine (H7.out _).mono ?_
  rintro e w2 ⟨rfl, rfl⟩
  clear c1 H7
  have ck := HX.out.cells.2.2.1
  have fk := HX.out.x.frozen 2
  have HX4 := Lib.hid (HX.out.upd (i := 2) (v := .int .i64 (x % 32)) (u := { s with mcr := x % 32 }) (kv := iv) (lv := ov) rfl)
  have HX3 := Lib.hid (HX4.out.res { s with mcr := x % 32 } iv ov)
  clear HX
  go_upto_region 33 with fail
  generalize w2.setCell ⟨w.heap.size, 2, none⟩ (.int .i64 (x % 32)) = w4 at *
  clear ck fk
  go_wp2_with (first | (refine wpList_load_row rfl X17 _ rfl w.heap.size rfl X17 _ (0, 0) _ HX4.out.x Try.underlying32 rfl info_X17 ?_) | (refine wpList_store_row rfl X17 _ _ rfl (w.heap.size + 1) (xuV { s with mcr := x % 32 } iv ov) rfl rfl X17 _ HX4.out.r info_X17 rfl (xuV_one _ HI.out.one HO.out.one) ?_))
  exact bodyPost_ret (results_cbU X17 Try.results39 _ _ (w.heap.size + 1) _ _ rfl rfl HX3.out.ret) rfl ⟨_, _, rfl, ⟨HI.out.low HX3.out.bel, HO.out.low HX3.out.bel, HX3.out.bel⟩⟩
set_option maxHeartbeats 8000000 in
theorem rwrite7 (G : Nat → Prop) (s : Ut.S) (iv ov : Value) (x : Int) (hx : Ut.isB x) (w : World) (hG : ∀ k, G k → k < w.heap.size) (hi : VwG G w iv s.q) (ho : VwG G w ov s.out) (ok : Ut.Ok s) :
    Calls Try.prog 39 #[.agg (xuV s iv ov), .int .u64 7, .int .i64 x] w fun e w' => ∃ iv' ov', e = .returned (.tuple #[.agg (xuV (Ut.writeS s 7 x) iv' ov'), .bool (Ut.is 7)]) ∧ XuQ G w w' (Ut.writeS s 7 x) iv' ov' := by
  have HX := Lib.hid (XuAt.new w s iv ov)
  have hz := zero_x17
  have HI := Lib.hid hi
  have HO := Lib.hid ho
  have HG := Lib.hid hG
  have HOK := Lib.hid ok
  have HXB := Lib.hid hx
  have hx0 := hx.1
  have hx1 := hx.2
  have H7 := Lib.hid (rbit_c s.lcr 7 ok.lcr.1 (by have := ok.lcr.2; omega) (by omega))
  have e7 := Ut.bti_b s.lcr 7
  have hhi : Ut.bt s.lcr 7 = Ut.hi s := rfl
  rw [hhi] at e7
  clear hi ho hhi hx ok
  generalize Ut.bti s.lcr 7 = b7 at *
  rw [Ut.write7, Ut.is_lt (by omega)]
  go_enter Try.func39, Try.ntmps39
  go_upto_region 1 with fail
  generalize (w.alloc (Obj.cells (xuV s iv ov) X17)).alloc (Obj.cells (xuV Ut.zero (.slice none 0 0) (.slice none 0 0)) X17) = w1 at *
  have c1 := HX.out.cells.2.1
  go_wp2_with fail
  refine (H7.out _).mono ?_
  rintro e w2 ⟨rfl, rfl⟩
  clear c1 H7
  have ck := HX.out.cells.2.2.2.1
  have fk := HX.out.x.frozen 3
  have HX4 := Lib.hid (HX.out.upd (i := 3) (v := .int .i64 (x)) (u := { s with scr := x }) (kv := iv) (lv := ov) rfl)
  have HX3 := Lib.hid (HX4.out.res { s with scr := x } iv ov)
  clear HX
  go_upto_region 33 with fail
  generalize w2.setCell ⟨w.heap.size, 3, none⟩ (.int .i64 (x)) = w4 at *
  clear ck fk
  go_wp2_with (first | (refine wpList_load_row rfl X17 _ rfl w.heap.size rfl X17 _ (0, 0) _ HX4.out.x Try.underlying32 rfl info_X17 ?_) | (refine wpList_store_row rfl X17 _ _ rfl (w.heap.size + 1) (xuV { s with scr := x } iv ov) rfl rfl X17 _ HX4.out.r info_X17 rfl (xuV_one _ HI.out.one HO.out.one) ?_))
  exact bodyPost_ret (results_cbU X17 Try.results39 _ _ (w.heap.size + 1) _ _ rfl rfl HX3.out.ret) rfl ⟨_, _, rfl, ⟨HI.out.low HX3.out.bel, HO.out.low HX3.out.bel, HX3.out.bel⟩⟩
set_option maxHeartbeats 8000000 in
theorem rwrite0h (G : Nat → Prop) (s : Ut.S) (iv ov : Value) (x : Int) (hx : Ut.isB x) (w : World) (hG : ∀ k, G k → k < w.heap.size) (hi : VwG G w iv s.q) (ho : VwG G w ov s.out) (ok : Ut.Ok s) (hl : Ut.hi s = true) :
    Calls Try.prog 39 #[.agg (xuV s iv ov), .int .u64 0, .int .i64 x] w fun e w' => ∃ iv' ov', e = .returned (.tuple #[.agg (xuV (Ut.writeS s 0 x) iv' ov'), .bool (Ut.is 0)]) ∧ XuQ G w w' (Ut.writeS s 0 x) iv' ov' := by
  have HX := Lib.hid (XuAt.new w s iv ov)
  have hz := zero_x17
  have HI := Lib.hid hi
  have HO := Lib.hid ho
  have HG := Lib.hid hG
  have HOK := Lib.hid ok
  have HXB := Lib.hid hx
  have hx0 := hx.1
  have hx1 := hx.2
  have H7 := Lib.hid (rbit_c s.lcr 7 ok.lcr.1 (by have := ok.lcr.2; omega) (by omega))
  have e7 := Ut.bti_b s.lcr 7
  have hhi : Ut.bt s.lcr 7 = Ut.hi s := rfl
  rw [hhi] at e7
  clear hi ho hhi hx ok
  generalize Ut.bti s.lcr 7 = b7 at *
  rw [Ut.write0, Ut.is_lt (by omega), if_pos hl]
  rw [hl] at e7
  clear hl
  go_enter Try.func39, Try.ntmps39
  go_upto_region 1 with fail
  generalize (w.alloc (Obj.cells (xuV s iv ov) X17)).alloc (Obj.cells (xuV Ut.zero (.slice none 0 0) (.slice none 0 0)) X17) = w1 at *
  have c1 := HX.out.cells.2.1
  go_wp2_with fail
  refine (H7.out _).mono ?_
  rintro e w2 ⟨rfl, rfl⟩
  clear c1 H7
  have ck := HX.out.cells.2.2.2.2.1
  have fk := HX.out.x.frozen 4
  have HX4 := Lib.hid (HX.out.upd (i := 4) (v := .int .i64 x) (u := { s with dll := x }) (kv := iv) (lv := ov) rfl)
  have HX3 := Lib.hid (HX4.out.res { s with dll := x } iv ov)
  clear HX
  go_upto_region 7 with fail
  generalize w2.setCell ⟨w.heap.size, 4, none⟩ (.int .i64 x) = w4 at *
  clear ck fk
  go_wp2_with (first | (refine wpList_load_row rfl X17 _ rfl w.heap.size rfl X17 _ (0, 0) _ HX4.out.x Try.underlying32 rfl info_X17 ?_) | (refine wpList_store_row rfl X17 _ _ rfl (w.heap.size + 1) (xuV { s with dll := x } iv ov) rfl rfl X17 _ HX4.out.r info_X17 rfl (xuV_one _ HI.out.one HO.out.one) ?_))
  exact bodyPost_ret (results_cbU X17 Try.results39 _ _ (w.heap.size + 1) _ _ rfl rfl HX3.out.ret) rfl ⟨_, _, rfl, ⟨HI.out.low HX3.out.bel, HO.out.low HX3.out.bel, HX3.out.bel⟩⟩
set_option maxHeartbeats 8000000 in
theorem rwrite1h (G : Nat → Prop) (s : Ut.S) (iv ov : Value) (x : Int) (hx : Ut.isB x) (w : World) (hG : ∀ k, G k → k < w.heap.size) (hi : VwG G w iv s.q) (ho : VwG G w ov s.out) (ok : Ut.Ok s) (hl : Ut.hi s = true) :
    Calls Try.prog 39 #[.agg (xuV s iv ov), .int .u64 1, .int .i64 x] w fun e w' => ∃ iv' ov', e = .returned (.tuple #[.agg (xuV (Ut.writeS s 1 x) iv' ov'), .bool (Ut.is 1)]) ∧ XuQ G w w' (Ut.writeS s 1 x) iv' ov' := by
  have HX := Lib.hid (XuAt.new w s iv ov)
  have hz := zero_x17
  have HI := Lib.hid hi
  have HO := Lib.hid ho
  have HG := Lib.hid hG
  have HOK := Lib.hid ok
  have HXB := Lib.hid hx
  have hx0 := hx.1
  have hx1 := hx.2
  have H7 := Lib.hid (rbit_c s.lcr 7 ok.lcr.1 (by have := ok.lcr.2; omega) (by omega))
  have e7 := Ut.bti_b s.lcr 7
  have hhi : Ut.bt s.lcr 7 = Ut.hi s := rfl
  rw [hhi] at e7
  clear hi ho hhi hx ok
  generalize Ut.bti s.lcr 7 = b7 at *
  rw [Ut.write1, Ut.is_lt (by omega), if_pos hl]
  rw [hl] at e7
  clear hl
  go_enter Try.func39, Try.ntmps39
  go_upto_region 1 with fail
  generalize (w.alloc (Obj.cells (xuV s iv ov) X17)).alloc (Obj.cells (xuV Ut.zero (.slice none 0 0) (.slice none 0 0)) X17) = w1 at *
  have c1 := HX.out.cells.2.1
  go_wp2_with fail
  refine (H7.out _).mono ?_
  rintro e w2 ⟨rfl, rfl⟩
  clear c1 H7
  have ck := HX.out.cells.2.2.2.2.2.1
  have fk := HX.out.x.frozen 5
  have HX4 := Lib.hid (HX.out.upd (i := 5) (v := .int .i64 x) (u := { s with dlm := x }) (kv := iv) (lv := ov) rfl)
  have HX3 := Lib.hid (HX4.out.res { s with dlm := x } iv ov)
  clear HX
  go_upto_region 16 with fail
  generalize w2.setCell ⟨w.heap.size, 5, none⟩ (.int .i64 x) = w4 at *
  clear ck fk
  go_wp2_with (first | (refine wpList_load_row rfl X17 _ rfl w.heap.size rfl X17 _ (0, 0) _ HX4.out.x Try.underlying32 rfl info_X17 ?_) | (refine wpList_store_row rfl X17 _ _ rfl (w.heap.size + 1) (xuV { s with dlm := x } iv ov) rfl rfl X17 _ HX4.out.r info_X17 rfl (xuV_one _ HI.out.one HO.out.one) ?_))
  exact bodyPost_ret (results_cbU X17 Try.results39 _ _ (w.heap.size + 1) _ _ rfl rfl HX3.out.ret) rfl ⟨_, _, rfl, ⟨HI.out.low HX3.out.bel, HO.out.low HX3.out.bel, HX3.out.bel⟩⟩
set_option maxHeartbeats 8000000 in
theorem rwrite1n (G : Nat → Prop) (s : Ut.S) (iv ov : Value) (x : Int) (hx : Ut.isB x) (w : World) (hG : ∀ k, G k → k < w.heap.size) (hi : VwG G w iv s.q) (ho : VwG G w ov s.out) (ok : Ut.Ok s) (hl : Ut.hi s = false) :
    Calls Try.prog 39 #[.agg (xuV s iv ov), .int .u64 1, .int .i64 x] w fun e w' => ∃ iv' ov', e = .returned (.tuple #[.agg (xuV (Ut.writeS s 1 x) iv' ov'), .bool (Ut.is 1)]) ∧ XuQ G w w' (Ut.writeS s 1 x) iv' ov' := by
  have HX := Lib.hid (XuAt.new w s iv ov)
  have hz := zero_x17
  have HI := Lib.hid hi
  have HO := Lib.hid ho
  have HG := Lib.hid hG
  have HOK := Lib.hid ok
  have HXB := Lib.hid hx
  have hx0 := hx.1
  have hx1 := hx.2
  have H7 := Lib.hid (rbit_c s.lcr 7 ok.lcr.1 (by have := ok.lcr.2; omega) (by omega))
  have e7 := Ut.bti_b s.lcr 7
  have hhi : Ut.bt s.lcr 7 = Ut.hi s := rfl
  rw [hhi] at e7
  clear hi ho hhi hx ok
  generalize Ut.bti s.lcr 7 = b7 at *
  rw [Ut.write1, Ut.is_lt (by omega), if_neg (by rw [hl]; simp)]
  rw [hl] at e7
  clear hl
  have B1 := Lib.hid (rbit_c x 1 hx0 (by omega) (by omega))
  have B2 := Lib.hid (rbit_c s.ier 1 HOK.out.ier.1 (by have := HOK.out.ier.2; omega) (by omega))
  have e1 := Ut.bti_b x 1
  have e2 := Ut.bti_z s.ier 1
  generalize Ut.bti x 1 = p1 at *
  generalize Ut.bti s.ier 1 = p2 at *
  have HE := Lib.hid (show s.empty = s.empty from rfl)
  obtain ⟨em, hem⟩ : ∃ em, s.empty = em := ⟨_, rfl⟩
  have HEM := Lib.hid hem
  rw [hem]
  clear hem HE
  generalize Ut.bt x 1 = q1 at *
  generalize Ut.bt s.ier 1 = q2 at *
  cases em with
  | true =>
    simp only [Bool.true_or]
    go_enter Try.func39, Try.ntmps39
    go_upto_region 1 with fail
    generalize (w.alloc (Obj.cells (xuV s iv ov) X17)).alloc (Obj.cells (xuV Ut.zero (.slice none 0 0) (.slice none 0 0)) X17) = w1 at *
    have c1 := HX.out.cells.2.1
    go_wp2_with fail
    refine (H7.out _).mono ?_
    rintro e w2 ⟨rfl, rfl⟩
    clear c1 H7
    have c8 := HX.out.cells.2.2.2.2.2.2.2.2.1
    rw [HEM.out] at c8
    have c0 := HX.out.cells.1
    have f0 := HX.out.x.frozen 0
    have f8 := HX.out.x.frozen 8
    have HX4 := Lib.hid (HX.out.upd (i := 8) (v := .bool true) (u := { s with empty := true }) (kv := iv) (lv := ov) rfl)
    go_upto_region 18 with fail
    generalize w2.setCell ⟨w.heap.size, 8, none⟩ (.bool true) = w4 at *
    clear c0 c8 f0 f8 HX
    have c0 := HX4.out.cells.1
    have f0 := HX4.out.x.frozen 0
    have HX5 := Lib.hid (HX4.out.upd (i := 0) (v := .int .i64 (x % 16)) (u := { s with empty := true, ier := x % 16 }) (kv := iv) (lv := ov) rfl)
    have HX3 := Lib.hid (HX5.out.res { s with empty := true, ier := x % 16 } iv ov)
    clear HX4
    go_upto_region 33 with fail
    generalize w4.setCell ⟨w.heap.size, 0, none⟩ (.int .i64 (x % 16)) = w5 at *
    clear c0 f0
    go_wp2_with (first | (refine wpList_load_row rfl X17 _ rfl w.heap.size rfl X17 _ (0, 0) _ HX5.out.x Try.underlying32 rfl info_X17 ?_) | (refine wpList_store_row rfl X17 _ _ rfl (w.heap.size + 1) (xuV { s with empty := true, ier := x % 16 } iv ov) rfl rfl X17 _ HX5.out.r info_X17 rfl (xuV_one _ HI.out.one HO.out.one) ?_))
    exact bodyPost_ret (results_cbU X17 Try.results39 _ _ (w.heap.size + 1) _ _ rfl rfl HX3.out.ret) rfl ⟨_, _, rfl, ⟨HI.out.low HX3.out.bel, HO.out.low HX3.out.bel, HX3.out.bel⟩⟩
  | false =>
    simp only [Bool.false_or]
    cases q1 with
    | false =>
      simp only [Bool.false_and]
      go_enter Try.func39, Try.ntmps39
      go_upto_region 1 with fail
      generalize (w.alloc (Obj.cells (xuV s iv ov) X17)).alloc (Obj.cells (xuV Ut.zero (.slice none 0 0) (.slice none 0 0)) X17) = w1 at *
      have c1 := HX.out.cells.2.1
      go_wp2_with fail
      refine (H7.out _).mono ?_
      rintro e w2 ⟨rfl, rfl⟩
      clear c1 H7
      have c8 := HX.out.cells.2.2.2.2.2.2.2.2.1
      rw [HEM.out] at c8
      have c0 := HX.out.cells.1
      have f0 := HX.out.x.frozen 0
      have f8 := HX.out.x.frozen 8
      have HX4 := Lib.hid (HX.out.upd (i := 8) (v := .bool false) (u := { s with empty := false }) (kv := iv) (lv := ov) rfl)
      go_wp2_with fail
      refine (B1.out _).mono ?_
      rintro e w3 ⟨rfl, rfl⟩
      go_upto_region 18 with fail
      generalize w3.setCell ⟨w.heap.size, 8, none⟩ (.bool false) = w4 at *
      clear c0 c8 f0 f8 HX
      have c0 := HX4.out.cells.1
      have f0 := HX4.out.x.frozen 0
      have HX5 := Lib.hid (HX4.out.upd (i := 0) (v := .int .i64 (x % 16)) (u := { s with empty := false, ier := x % 16 }) (kv := iv) (lv := ov) rfl)
      have HX3 := Lib.hid (HX5.out.res { s with empty := false, ier := x % 16 } iv ov)
      clear HX4
      go_upto_region 33 with fail
      generalize w4.setCell ⟨w.heap.size, 0, none⟩ (.int .i64 (x % 16)) = w5 at *
      clear c0 f0
      go_wp2_with (first | (refine wpList_load_row rfl X17 _ rfl w.heap.size rfl X17 _ (0, 0) _ HX5.out.x Try.underlying32 rfl info_X17 ?_) | (refine wpList_store_row rfl X17 _ _ rfl (w.heap.size + 1) (xuV { s with empty := false, ier := x % 16 } iv ov) rfl rfl X17 _ HX5.out.r info_X17 rfl (xuV_one _ HI.out.one HO.out.one) ?_))
      exact bodyPost_ret (results_cbU X17 Try.results39 _ _ (w.heap.size + 1) _ _ rfl rfl HX3.out.ret) rfl ⟨_, _, rfl, ⟨HI.out.low HX3.out.bel, HO.out.low HX3.out.bel, HX3.out.bel⟩⟩
    | true =>
      simp only [Bool.true_and]
      cases q2 with
      | false =>
        simp only [Bool.not_false] at e2 ⊢
        go_enter Try.func39, Try.ntmps39
        go_upto_region 1 with fail
        generalize (w.alloc (Obj.cells (xuV s iv ov) X17)).alloc (Obj.cells (xuV Ut.zero (.slice none 0 0) (.slice none 0 0)) X17) = w1 at *
        have c1 := HX.out.cells.2.1
        go_wp2_with fail
        refine (H7.out _).mono ?_
        rintro e w2 ⟨rfl, rfl⟩
        clear c1 H7
        have c8 := HX.out.cells.2.2.2.2.2.2.2.2.1
        rw [HEM.out] at c8
        have c0 := HX.out.cells.1
        have f0 := HX.out.x.frozen 0
        have f8 := HX.out.x.frozen 8
        have HX4 := Lib.hid (HX.out.upd (i := 8) (v := .bool true) (u := { s with empty := true }) (kv := iv) (lv := ov) rfl)
        go_wp2_with fail
        refine (B1.out _).mono ?_
        rintro e w3 ⟨rfl, rfl⟩
        go_wp2_with fail
        refine (B2.out _).mono ?_
        rintro e w3 ⟨rfl, rfl⟩
        go_upto_region 18 with fail
        generalize w3.setCell ⟨w.heap.size, 8, none⟩ (.bool true) = w4 at *
        clear c0 c8 f0 f8 HX
        have c0 := HX4.out.cells.1
        have f0 := HX4.out.x.frozen 0
        have HX5 := Lib.hid (HX4.out.upd (i := 0) (v := .int .i64 (x % 16)) (u := { s with empty := true, ier := x % 16 }) (kv := iv) (lv := ov) rfl)
        have HX3 := Lib.hid (HX5.out.res { s with empty := true, ier := x % 16 } iv ov)
        clear HX4
        go_upto_region 33 with fail
        generalize w4.setCell ⟨w.heap.size, 0, none⟩ (.int .i64 (x % 16)) = w5 at *
        clear c0 f0
        go_wp2_with (first | (refine wpList_load_row rfl X17 _ rfl w.heap.size rfl X17 _ (0, 0) _ HX5.out.x Try.underlying32 rfl info_X17 ?_) | (refine wpList_store_row rfl X17 _ _ rfl (w.heap.size + 1) (xuV { s with empty := true, ier := x % 16 } iv ov) rfl rfl X17 _ HX5.out.r info_X17 rfl (xuV_one _ HI.out.one HO.out.one) ?_))
        exact bodyPost_ret (results_cbU X17 Try.results39 _ _ (w.heap.size + 1) _ _ rfl rfl HX3.out.ret) rfl ⟨_, _, rfl, ⟨HI.out.low HX3.out.bel, HO.out.low HX3.out.bel, HX3.out.bel⟩⟩
      | true =>
        simp only [Bool.not_true] at e2 ⊢
        go_enter Try.func39, Try.ntmps39
        go_upto_region 1 with fail
        generalize (w.alloc (Obj.cells (xuV s iv ov) X17)).alloc (Obj.cells (xuV Ut.zero (.slice none 0 0) (.slice none 0 0)) X17) = w1 at *
        have c1 := HX.out.cells.2.1
        go_wp2_with fail
        refine (H7.out _).mono ?_
        rintro e w2 ⟨rfl, rfl⟩
        clear c1 H7
        have c8 := HX.out.cells.2.2.2.2.2.2.2.2.1
        rw [HEM.out] at c8
        have c0 := HX.out.cells.1
        have f0 := HX.out.x.frozen 0
        have f8 := HX.out.x.frozen 8
        have HX4 := Lib.hid (HX.out.upd (i := 8) (v := .bool false) (u := { s with empty := false }) (kv := iv) (lv := ov) rfl)
        go_wp2_with fail
        refine (B1.out _).mono ?_
        rintro e w3 ⟨rfl, rfl⟩
        go_wp2_with fail
        refine (B2.out _).mono ?_
        rintro e w3 ⟨rfl, rfl⟩
        go_upto_region 18 with fail
        generalize w3.setCell ⟨w.heap.size, 8, none⟩ (.bool false) = w4 at *
        clear c0 c8 f0 f8 HX
        have c0 := HX4.out.cells.1
        have f0 := HX4.out.x.frozen 0
        have HX5 := Lib.hid (HX4.out.upd (i := 0) (v := .int .i64 (x % 16)) (u := { s with empty := false, ier := x % 16 }) (kv := iv) (lv := ov) rfl)
        have HX3 := Lib.hid (HX5.out.res { s with empty := false, ier := x % 16 } iv ov)
        clear HX4
        go_upto_region 33 with fail
        generalize w4.setCell ⟨w.heap.size, 0, none⟩ (.int .i64 (x % 16)) = w5 at *
        clear c0 f0
        go_wp2_with (first | (refine wpList_load_row rfl X17 _ rfl w.heap.size rfl X17 _ (0, 0) _ HX5.out.x Try.underlying32 rfl info_X17 ?_) | (refine wpList_store_row rfl X17 _ _ rfl (w.heap.size + 1) (xuV { s with empty := false, ier := x % 16 } iv ov) rfl rfl X17 _ HX5.out.r info_X17 rfl (xuV_one _ HI.out.one HO.out.one) ?_))
        exact bodyPost_ret (results_cbU X17 Try.results39 _ _ (w.heap.size + 1) _ _ rfl rfl HX3.out.ret) rfl ⟨_, _, rfl, ⟨HI.out.low HX3.out.bel, HO.out.low HX3.out.bel, HX3.out.bel⟩⟩
set_option maxHeartbeats 8000000 in
theorem rwrite2 (G : Nat → Prop) (s : Ut.S) (iv ov : Value) (x : Int) (hx : Ut.isB x) (w : World) (hG : ∀ k, G k → k < w.heap.size) (hi : VwG G w iv s.q) (ho : VwG G w ov s.out) (ok : Ut.Ok s) :
    Calls Try.prog 39 #[.agg (xuV s iv ov), .int .u64 2, .int .i64 x] w fun e w' => ∃ iv' ov', e = .returned (.tuple #[.agg (xuV (Ut.writeS s 2 x) iv' ov'), .bool (Ut.is 2)]) ∧ XuQ G w w' (Ut.writeS s 2 x) iv' ov' := by
  have HX := Lib.hid (XuAt.new w s iv ov)
  have hz := zero_x17
  have HI := Lib.hid hi
  have HO := Lib.hid ho
  have HG := Lib.hid hG
  have HOK := Lib.hid ok
  have HXB := Lib.hid hx
  have hx0 := hx.1
  have hx1 := hx.2
  have H7 := Lib.hid (rbit_c s.lcr 7 ok.lcr.1 (by have := ok.lcr.2; omega) (by omega))
  have e7 := Ut.bti_b s.lcr 7
  have hhi : Ut.bt s.lcr 7 = Ut.hi s := rfl
  rw [hhi] at e7
  clear hi ho hhi hx ok
  generalize Ut.bti s.lcr 7 = b7 at *
  rw [Ut.write2, Ut.is_lt (by omega)]
  have B1 := Lib.hid (rbit_c x 1 hx0 (by omega) (by omega))
  have e1 := Ut.bti_b x 1
  have e0 := Ut.mod2 x
  generalize Ut.bti x 1 = p1 at *
  obtain ⟨ff, hff⟩ : ∃ ff, s.fifo = ff := ⟨_, rfl⟩
  have HFF := Lib.hid hff
  rw [hff]
  clear hff
  generalize Ut.bt x 1 = q1 at *
  generalize Ut.bt x 0 = q0 at *
  obtain ⟨p, cap, hiv, -⟩ := HI.out.form
  have HIV := Lib.hid hiv
  clear hiv
  cases q0 with
  | false =>
    cases ff with
    | false =>
      cases q1 with
      | false =>
        rw [if_neg (by simp)]
        go_enter Try.func39, Try.ntmps39
        go_upto_region 1 with fail
        generalize (w.alloc (Obj.cells (xuV s iv ov) X17)).alloc (Obj.cells (xuV Ut.zero (.slice none 0 0) (.slice none 0 0)) X17) = w1 at *
        have c1 := HX.out.cells.2.1
        go_wp2_with fail
        refine (H7.out _).mono ?_
        rintro e w2 ⟨rfl, rfl⟩
        clear c1 H7
        have c6 := HX.out.cells.2.2.2.2.2.2.1
        rw [HFF.out] at c6
        have f6 := HX.out.x.frozen 6
        go_wp2_with fail
        refine (B1.out _).mono ?_
        rintro e w3 ⟨rfl, rfl⟩
        have HX5 := Lib.hid (HX.out.upd (i := 6) (v := .bool false) (u := { s with fifo := false }) (kv := iv) (lv := ov) rfl)
        have HX3 := Lib.hid (HX5.out.res { s with fifo := false } iv ov)
        clear HX
        go_upto_region 33 with fail
        generalize w3.setCell ⟨w.heap.size, 6, none⟩ (.bool false) = w5 at *
        clear c6 f6
        go_wp2_with (first | (refine wpList_load_row rfl X17 _ rfl w.heap.size rfl X17 _ (0, 0) _ HX5.out.x Try.underlying32 rfl info_X17 ?_) | (refine wpList_store_row rfl X17 _ _ rfl (w.heap.size + 1) (xuV { s with fifo := false } iv ov) rfl rfl X17 _ HX5.out.r info_X17 rfl (xuV_one _ HI.out.one HO.out.one) ?_))
        exact bodyPost_ret (results_cbU X17 Try.results39 _ _ (w.heap.size + 1) _ _ rfl rfl HX3.out.ret) rfl ⟨_, _, rfl, ⟨HI.out.low HX3.out.bel, HO.out.low HX3.out.bel, HX3.out.bel⟩⟩
      | true =>
        rw [if_pos (by simp)]
        go_enter Try.func39, Try.ntmps39
        go_upto_region 1 with fail
        generalize (w.alloc (Obj.cells (xuV s iv ov) X17)).alloc (Obj.cells (xuV Ut.zero (.slice none 0 0) (.slice none 0 0)) X17) = w1 at *
        have c1 := HX.out.cells.2.1
        go_wp2_with fail
        refine (H7.out _).mono ?_
        rintro e w2 ⟨rfl, rfl⟩
        clear c1 H7
        have c6 := HX.out.cells.2.2.2.2.2.2.1
        rw [HFF.out] at c6
        have f6 := HX.out.x.frozen 6
        have c9 := HX.out.cells.2.2.2.2.2.2.2.2.2.1
        rw [HIV.out] at c9
        have f9 := HX.out.x.frozen 9
        have HX4 := Lib.hid (HX.out.upd (i := 9) (v := .slice none 0 0) (u := { s with q := [] }) (kv := .slice none 0 0) (lv := ov) rfl)
        go_wp2_with fail
        refine (B1.out _).mono ?_
        rintro e w3 ⟨rfl, rfl⟩
        go_upto_region 23 with fail
        generalize w3.setCell ⟨w.heap.size, 9, none⟩ (.slice none 0 0) = w4 at *
        clear c6 c9 f6 f9 HX
        have c6 := HX4.out.cells.2.2.2.2.2.2.1
        have f6 := HX4.out.x.frozen 6
        have HX5 := Lib.hid (HX4.out.upd (i := 6) (v := .bool false) (u := { s with q := [], fifo := false }) (kv := (.slice none 0 0)) (lv := ov) rfl)
        have HX3 := Lib.hid (HX5.out.res { s with q := [], fifo := false } (.slice none 0 0) ov)
        clear HX4
        go_upto_region 33 with fail
        generalize w4.setCell ⟨w.heap.size, 6, none⟩ (.bool false) = w5 at *
        clear c6 f6
        go_wp2_with (first | (refine wpList_load_row rfl X17 _ rfl w.heap.size rfl X17 _ (0, 0) _ HX5.out.x Try.underlying32 rfl info_X17 ?_) | (refine wpList_store_row rfl X17 _ _ rfl (w.heap.size + 1) (xuV { s with q := [], fifo := false } (.slice none 0 0) ov) rfl rfl X17 _ HX5.out.r info_X17 rfl (xuV_one _ rfl HO.out.one) ?_))
        exact bodyPost_ret (results_cbU X17 Try.results39 _ _ (w.heap.size + 1) _ _ rfl rfl HX3.out.ret) rfl ⟨_, _, rfl, ⟨VwG.nil _ _, HO.out.low HX3.out.bel, HX3.out.bel⟩⟩
    | true =>
      rw [if_pos (by simp)]
      go_enter Try.func39, Try.ntmps39
      go_upto_region 1 with fail
      generalize (w.alloc (Obj.cells (xuV s iv ov) X17)).alloc (Obj.cells (xuV Ut.zero (.slice none 0 0) (.slice none 0 0)) X17) = w1 at *
      have c1 := HX.out.cells.2.1
      go_wp2_with fail
      refine (H7.out _).mono ?_
      rintro e w2 ⟨rfl, rfl⟩
      clear c1 H7
      have c6 := HX.out.cells.2.2.2.2.2.2.1
      rw [HFF.out] at c6
      have f6 := HX.out.x.frozen 6
      have c9 := HX.out.cells.2.2.2.2.2.2.2.2.2.1
      rw [HIV.out] at c9
      have f9 := HX.out.x.frozen 9
      have HX4 := Lib.hid (HX.out.upd (i := 9) (v := .slice none 0 0) (u := { s with q := [] }) (kv := .slice none 0 0) (lv := ov) rfl)
      go_upto_region 23 with fail
      generalize w2.setCell ⟨w.heap.size, 9, none⟩ (.slice none 0 0) = w4 at *
      clear c6 c9 f6 f9 HX
      have c6 := HX4.out.cells.2.2.2.2.2.2.1
      have f6 := HX4.out.x.frozen 6
      have HX5 := Lib.hid (HX4.out.upd (i := 6) (v := .bool false) (u := { s with q := [], fifo := false }) (kv := (.slice none 0 0)) (lv := ov) rfl)
      have HX3 := Lib.hid (HX5.out.res { s with q := [], fifo := false } (.slice none 0 0) ov)
      clear HX4
      go_upto_region 33 with fail
      generalize w4.setCell ⟨w.heap.size, 6, none⟩ (.bool false) = w5 at *
      clear c6 f6
      go_wp2_with (first | (refine wpList_load_row rfl X17 _ rfl w.heap.size rfl X17 _ (0, 0) _ HX5.out.x Try.underlying32 rfl info_X17 ?_) | (refine wpList_store_row rfl X17 _ _ rfl (w.heap.size + 1) (xuV { s with q := [], fifo := false } (.slice none 0 0) ov) rfl rfl X17 _ HX5.out.r info_X17 rfl (xuV_one _ rfl HO.out.one) ?_))
      exact bodyPost_ret (results_cbU X17 Try.results39 _ _ (w.heap.size + 1) _ _ rfl rfl HX3.out.ret) rfl ⟨_, _, rfl, ⟨VwG.nil _ _, HO.out.low HX3.out.bel, HX3.out.bel⟩⟩
  | true =>
    cases ff with
    | false =>
      rw [if_pos (by simp)]
      go_enter Try.func39, Try.ntmps39
      go_upto_region 1 with fail
      generalize (w.alloc (Obj.cells (xuV s iv ov) X17)).alloc (Obj.cells (xuV Ut.zero (.slice none 0 0) (.slice none 0 0)) X17) = w1 at *
      have c1 := HX.out.cells.2.1
      go_wp2_with fail
      refine (H7.out _).mono ?_
      rintro e w2 ⟨rfl, rfl⟩
      clear c1 H7
      have c6 := HX.out.cells.2.2.2.2.2.2.1
      rw [HFF.out] at c6
      have f6 := HX.out.x.frozen 6
      have c9 := HX.out.cells.2.2.2.2.2.2.2.2.2.1
      rw [HIV.out] at c9
      have f9 := HX.out.x.frozen 9
      have HX4 := Lib.hid (HX.out.upd (i := 9) (v := .slice none 0 0) (u := { s with q := [] }) (kv := .slice none 0 0) (lv := ov) rfl)
      go_upto_region 23 with fail
      generalize w2.setCell ⟨w.heap.size, 9, none⟩ (.slice none 0 0) = w4 at *
      clear c6 c9 f6 f9 HX
      have c6 := HX4.out.cells.2.2.2.2.2.2.1
      have f6 := HX4.out.x.frozen 6
      have HX5 := Lib.hid (HX4.out.upd (i := 6) (v := .bool true) (u := { s with q := [], fifo := true }) (kv := (.slice none 0 0)) (lv := ov) rfl)
      have HX3 := Lib.hid (HX5.out.res { s with q := [], fifo := true } (.slice none 0 0) ov)
      clear HX4
      go_upto_region 33 with fail
      generalize w4.setCell ⟨w.heap.size, 6, none⟩ (.bool true) = w5 at *
      clear c6 f6
      go_wp2_with (first | (refine wpList_load_row rfl X17 _ rfl w.heap.size rfl X17 _ (0, 0) _ HX5.out.x Try.underlying32 rfl info_X17 ?_) | (refine wpList_store_row rfl X17 _ _ rfl (w.heap.size + 1) (xuV { s with q := [], fifo := true } (.slice none 0 0) ov) rfl rfl X17 _ HX5.out.r info_X17 rfl (xuV_one _ rfl HO.out.one) ?_))
      exact bodyPost_ret (results_cbU X17 Try.results39 _ _ (w.heap.size + 1) _ _ rfl rfl HX3.out.ret) rfl ⟨_, _, rfl, ⟨VwG.nil _ _, HO.out.low HX3.out.bel, HX3.out.bel⟩⟩
    | true =>
      cases q1 with
      | false =>
        rw [if_neg (by simp)]
        go_enter Try.func39, Try.ntmps39
        go_upto_region 1 with fail
        generalize (w.alloc (Obj.cells (xuV s iv ov) X17)).alloc (Obj.cells (xuV Ut.zero (.slice none 0 0) (.slice none 0 0)) X17) = w1 at *
        have c1 := HX.out.cells.2.1
        go_wp2_with fail
        refine (H7.out _).mono ?_
        rintro e w2 ⟨rfl, rfl⟩
        clear c1 H7
        have c6 := HX.out.cells.2.2.2.2.2.2.1
        rw [HFF.out] at c6
        have f6 := HX.out.x.frozen 6
        go_wp2_with fail
        refine (B1.out _).mono ?_
        rintro e w3 ⟨rfl, rfl⟩
        have HX5 := Lib.hid (HX.out.upd (i := 6) (v := .bool true) (u := { s with fifo := true }) (kv := iv) (lv := ov) rfl)
        have HX3 := Lib.hid (HX5.out.res { s with fifo := true } iv ov)
        clear HX
        go_upto_region 33 with fail
        generalize w3.setCell ⟨w.heap.size, 6, none⟩ (.bool true) = w5 at *
        clear c6 f6
        go_wp2_with (first | (refine wpList_load_row rfl X17 _ rfl w.heap.size rfl X17 _ (0, 0) _ HX5.out.x Try.underlying32 rfl info_X17 ?_) | (refine wpList_store_row rfl X17 _ _ rfl (w.heap.size + 1) (xuV { s with fifo := true } iv ov) rfl rfl X17 _ HX5.out.r info_X17 rfl (xuV_one _ HI.out.one HO.out.one) ?_))
        exact bodyPost_ret (results_cbU X17 Try.results39 _ _ (w.heap.size + 1) _ _ rfl rfl HX3.out.ret) rfl ⟨_, _, rfl, ⟨HI.out.low HX3.out.bel, HO.out.low HX3.out.bel, HX3.out.bel⟩⟩
      | true =>
        rw [if_pos (by simp)]
        go_enter Try.func39, Try.ntmps39
        go_upto_region 1 with fail
        generalize (w.alloc (Obj.cells (xuV s iv ov) X17)).alloc (Obj.cells (xuV Ut.zero (.slice none 0 0) (.slice none 0 0)) X17) = w1 at *
        have c1 := HX.out.cells.2.1
        go_wp2_with fail
        refine (H7.out _).mono ?_
        rintro e w2 ⟨rfl, rfl⟩
        clear c1 H7
        have c6 := HX.out.cells.2.2.2.2.2.2.1
        rw [HFF.out] at c6
        have f6 := HX.out.x.frozen 6
        have c9 := HX.out.cells.2.2.2.2.2.2.2.2.2.1
        rw [HIV.out] at c9
        have f9 := HX.out.x.frozen 9
        have HX4 := Lib.hid (HX.out.upd (i := 9) (v := .slice none 0 0) (u := { s with q := [] }) (kv := .slice none 0 0) (lv := ov) rfl)
        go_wp2_with fail
        refine (B1.out _).mono ?_
        rintro e w3 ⟨rfl, rfl⟩
        go_upto_region 23 with fail
        generalize w3.setCell ⟨w.heap.size, 9, none⟩ (.slice none 0 0) = w4 at *
        clear c6 c9 f6 f9 HX
        have c6 := HX4.out.cells.2.2.2.2.2.2.1
        have f6 := HX4.out.x.frozen 6
        have HX5 := Lib.hid (HX4.out.upd (i := 6) (v := .bool true) (u := { s with q := [], fifo := true }) (kv := (.slice none 0 0)) (lv := ov) rfl)
        have HX3 := Lib.hid (HX5.out.res { s with q := [], fifo := true } (.slice none 0 0) ov)
        clear HX4
        go_upto_region 33 with fail
        generalize w4.setCell ⟨w.heap.size, 6, none⟩ (.bool true) = w5 at *
        clear c6 f6
        go_wp2_with (first | (refine wpList_load_row rfl X17 _ rfl w.heap.size rfl X17 _ (0, 0) _ HX5.out.x Try.underlying32 rfl info_X17 ?_) | (refine wpList_store_row rfl X17 _ _ rfl (w.heap.size + 1) (xuV { s with q := [], fifo := true } (.slice none 0 0) ov) rfl rfl X17 _ HX5.out.r info_X17 rfl (xuV_one _ rfl HO.out.one) ?_))
        exact bodyPost_ret (results_cbU X17 Try.results39 _ _ (w.heap.size + 1) _ _ rfl rfl HX3.out.ret) rfl ⟨_, _, rfl, ⟨VwG.nil _ _, HO.out.low HX3.out.bel, HX3.out.bel⟩⟩
set_option maxHeartbeats 8000000 in
theorem rwrite0s (G : Nat → Prop) (s : Ut.S) (iv ov : Value) (x : Int) (hx : Ut.isB x) (w : World) (hG : ∀ k, G k → k < w.heap.size) (hi : VwG G w iv s.q) (ho : VwG G w ov s.out) (ok : Ut.Ok s) (hl : Ut.hi s = false) (hp : Ut.lp s = false) (hn : s.out.length < 900) :
    Calls Try.prog 39 #[.agg (xuV s iv ov), .int .u64 0, .int .i64 x] w fun e w' => ∃ iv' ov', e = .returned (.tuple #[.agg (xuV (Ut.writeS s 0 x) iv' ov'), .bool (Ut.is 0)]) ∧ XuQ G w w' (Ut.writeS s 0 x) iv' ov' := by
  have HX := Lib.hid (XuAt.new w s iv ov)
  have hz := zero_x17
  have HI := Lib.hid hi
  have HO := Lib.hid ho
  have HG := Lib.hid hG
  have HOK := Lib.hid ok
  have HXB := Lib.hid hx
  have hx0 := hx.1
  have hx1 := hx.2
  have H7 := Lib.hid (rbit_c s.lcr 7 ok.lcr.1 (by have := ok.lcr.2; omega) (by omega))
  have e7 := Ut.bti_b s.lcr 7
  have hhi : Ut.bt s.lcr 7 = Ut.hi s := rfl
  rw [hhi] at e7
  clear hi ho hhi hx ok
  generalize Ut.bti s.lcr 7 = b7 at *
  rw [Ut.write0, Ut.is_lt (by omega), if_neg (by rw [hl]; simp), if_neg (by rw [hp]; simp)]
  rw [hl] at e7
  have B4 := Lib.hid (rbit_c s.mcr 4 HOK.out.mcr.1 (by have := HOK.out.mcr.2; omega) (by omega))
  have e4 := Ut.bti_b s.mcr 4
  have hlp : Ut.bt s.mcr 4 = Ut.lp s := rfl
  rw [hlp, hp] at e4
  clear hl hp hlp
  generalize Ut.bti s.mcr 4 = b4 at *
  obtain ⟨p, cap, hov, hV, -⟩ := HO.out.form
  have HOV := Lib.hid hov
  have HV := Lib.hid hV
  have e8 := wrap_u8 HXB.out
  have HNO := Lib.hid hn
  clear hov hV hn
  go_enter Try.func39, Try.ntmps39
  go_upto_region 1 with fail
  generalize (w.alloc (Obj.cells (xuV s iv ov) X17)).alloc (Obj.cells (xuV Ut.zero (.slice none 0 0) (.slice none 0 0)) X17) = w1 at *
  have c1 := HX.out.cells.2.1
  go_wp2_with fail
  refine (H7.out _).mono ?_
  rintro e w2 ⟨rfl, rfl⟩
  clear c1 H7
  have c2 := HX.out.cells.2.2.1
  go_wp2_with fail
  refine (B4.out _).mono ?_
  rintro e w3 ⟨rfl, rfl⟩
  have hb1 := HX.out.bel
  have HB1 := Lib.hid hb1
  have c10 := HX.out.cells.2.2.2.2.2.2.2.2.2.2
  rw [HOV.out] at c10
  have hE : (w3.alloc (.cells #[] U8)).ownsRow w3.heap.size U8 1 (.slice (some ⟨w3.heap.size, 0, none⟩) 0 0) 0 [] := ⟨rfl, .inr ⟨w3.heap.size, 0, #[], rfl, Nat.le_refl _, CsAt.new w3 U8 #[], Nat.le_refl _, Nat.zero_le _, rfl, rfl⟩⟩
  have HE := Lib.hid hE
  have HB2 := Lib.hid ((Below.refl w3.heap.size w3).alloc (Nat.le_refl _) (.cells #[] U8))
  have HV2 := Lib.hid ((HV.out.low hb1).low HB2.out)
  have HLN := Lib.hid (show (u8V s.out).length = s.out.length * 1 by rw [u8V_len]; omega)
  have c10b := (HB2.out.cell (p := ⟨w.heap.size, 10, none⟩) HX.out.x.lt).trans c10
  clear hE hb1 c2
  go_wp2_with (at_builtin; refine wpList_cat rfl _ _ U8S rfl w3.heap.size U8 _ 1 1 Try.underlying30 info_u8 rfl (by omega) (by omega) _ 0 [] rfl HE.out _ s.out.length cap (u8V s.out) rfl HV2.out HLN.out (u8V_one s.out) (by have := HNO.out; omega) HB2.out.size ?_)
  intro v4 w4 ho4 hb4
  have HO4 := Lib.hid ho4
  have HB4 := Lib.hid (HB2.out.trans hb4)
  clear ho4 hb4 c10b
  go_wp2_with (at_builtin; refine wpList_push rfl _ _ U8S rfl w3.heap.size U8 _ 1 1 Try.underlying30 info_u8 rfl (by omega) (by omega) _ s.out.length _ rfl HO4.out #[.int .u8 x] rfl (one_u8 x) _ rfl rfl (by have := HNO.out; omega) HB4.out.size ?_)
  intro v5 w5 ho5 hb5
  have hbb := HB4.out.trans hb5
  have hX5 := HX.out.low hbb
  have ho6 : w5.ownsRow w3.heap.size U8 1 v5 (s.out ++ [x]).length (u8V (s.out ++ [x])) := by simpa [u8V] using ho5
  have j10 := hX5.x.cell 10
  have g10 := hX5.x.frozen 10
  simp only [xuV, List.getElem?_toArray, List.getElem?_cons_succ, List.getElem?_cons_zero] at j10
  rw [HOV.out] at j10
  have hX6 := hX5.upd (i := 10) (v := v5) (u := { s with out := s.out ++ [x] }) (kv := iv) (lv := v5) rfl
  have HX6 := Lib.hid hX6
  have hX7 := hX6.upd (i := 8) (v := .bool true) (u := { s with out := s.out ++ [x], empty := true }) (kv := iv) (lv := v5) rfl
  have HX7 := Lib.hid hX7
  have HX3 := Lib.hid (hX7.res { s with out := s.out ++ [x], empty := true } iv v5)
  have hne := (HX.out.r).lt
  obtain ⟨p3, cap3, hv3, -⟩ := own_form ho5
  subst hv3
  have hvg2 : VwG G (((w5.setCell ⟨w.heap.size, 10, none⟩ (.slice p3 (s.out.length + 1) cap3)).setCell ⟨w.heap.size, 8, none⟩ (.bool true)).setRow (w.heap.size + 1) (xuV { s with out := s.out ++ [x], empty := true } iv (.slice p3 (s.out.length + 1) cap3))) (.slice p3 (s.out.length + 1) cap3) (s.out ++ [x]) := by
    have hc : Chg (fun k => k = w.heap.size ∨ k = w.heap.size + 1) w5 (((w5.setCell ⟨w.heap.size, 10, none⟩ (.slice p3 (s.out.length + 1) cap3)).setCell ⟨w.heap.size, 8, none⟩ (.bool true)).setRow (w.heap.size + 1) (xuV { s with out := s.out ++ [x], empty := true } iv (.slice p3 (s.out.length + 1) cap3))) := ((Chg.of_cell (.inl rfl) 10 _).trans (Chg.of_cell (.inl rfl) 8 _)).trans (Chg.of_row (.inr rfl) _)
    exact own_vwG (hc.own ho6 (fun k hk => by have := (ho6.lt k hk).1; intro e; rcases e with e | e <;> omega)) (fun k hk => Nat.lt_of_lt_of_le (HG.out k hk) HB1.out.size)
  have HVF := Lib.hid hvg2
  have k8 := hX6.x.cell 8
  have f8 := hX6.x.frozen 8
  simp only [xuV, List.getElem?_toArray, List.getElem?_cons_succ, List.getElem?_cons_zero] at k8
  clear ho5 hb5 hbb hX5 ho6 hvg2 hne HB2 HE HV2 c10 HX hX6 hX7 HO4 HB4
  go_upto_region 12 with fail
  generalize w5.setCell ⟨w.heap.size, 10, none⟩ (.slice p3 (s.out.length + 1) cap3) = w6 at *
  clear j10 g10
  go_upto_region 33 with fail
  generalize w6.setCell ⟨w.heap.size, 8, none⟩ (.bool true) = w7 at *
  clear k8 f8
  go_wp2_with (first | (refine wpList_load_row rfl X17 _ rfl w.heap.size rfl X17 _ (0, 0) _ HX7.out.x Try.underlying32 rfl info_X17 ?_) | (refine wpList_store_row rfl X17 _ _ rfl (w.heap.size + 1) (xuV { s with out := s.out ++ [x], empty := true } iv (.slice p3 (s.out.length + 1) cap3)) rfl rfl X17 _ HX7.out.r info_X17 rfl (xuV_one _ HI.out.one rfl) ?_))
  exact bodyPost_ret (results_cbU X17 Try.results39 _ _ (w.heap.size + 1) _ _ rfl rfl HX3.out.ret) rfl ⟨_, _, rfl, ⟨HI.out.low HX3.out.bel, HVF.out, HX3.out.bel⟩⟩
set_option maxHeartbeats 8000000 in
theorem rwrite0l (G : Nat → Prop) (s : Ut.S) (iv ov : Value) (x : Int) (hx : Ut.isB x) (w : World) (hG : ∀ k, G k → k < w.heap.size) (hi : VwG G w iv s.q) (ho : VwG G w ov s.out) (ok : Ut.Ok s) (hl : Ut.hi s = false) (hp : Ut.lp s = true) :
    Calls Try.prog 39 #[.agg (xuV s iv ov), .int .u64 0, .int .i64 x] w fun e w' => ∃ iv' ov', e = .returned (.tuple #[.agg (xuV (Ut.writeS s 0 x) iv' ov'), .bool (Ut.is 0)]) ∧ XuQ G w w' (Ut.writeS s 0 x) iv' ov' := by
  have HX := Lib.hid (XuAt.new w s iv ov)
  have hz := zero_x17
  have HI := Lib.hid hi
  have HO := Lib.hid ho
  have HG := Lib.hid hG
  have HOK := Lib.hid ok
  have HXB := Lib.hid hx
  have hx0 := hx.1
  have hx1 := hx.2
  have H7 := Lib.hid (rbit_c s.lcr 7 ok.lcr.1 (by have := ok.lcr.2; omega) (by omega))
  have e7 := Ut.bti_b s.lcr 7
  have hhi : Ut.bt s.lcr 7 = Ut.hi s := rfl
  rw [hhi] at e7
  clear hi ho hhi hx ok
  generalize Ut.bti s.lcr 7 = b7 at *
  rw [Ut.write0, Ut.is_lt (by omega), if_neg (by rw [hl]; simp), if_pos hp]
  rw [hl] at e7
  have B4 := Lib.hid (rbit_c s.mcr 4 HOK.out.mcr.1 (by have := HOK.out.mcr.2; omega) (by omega))
  have e4 := Ut.bti_b s.mcr 4
  have hlp : Ut.bt s.mcr 4 = Ut.lp s := rfl
  rw [hlp, hp] at e4
  clear hl hp hlp
  generalize Ut.bti s.mcr 4 = b4 at *
  have HC := Lib.hid (fun W (hb : w.heap.size + 2 ≤ W.heap.size) (h1 : VwG (G2 G w) W iv s.q) (h2 : VwG (G2 G w) W ov s.out) => rcome_c (G2 G w) s iv ov x HXB.out W (lt2 HG.out hb) h1 h2 HOK.out)
  generalize Ut.comeS s x = t at *
  generalize Ut.comeB s = tb at *
  go_enter Try.func39, Try.ntmps39
  go_upto_region 1 with fail
  generalize (w.alloc (Obj.cells (xuV s iv ov) X17)).alloc (Obj.cells (xuV Ut.zero (.slice none 0 0) (.slice none 0 0)) X17) = w1 at *
  have c1 := HX.out.cells.2.1
  go_wp2_with fail
  refine (H7.out _).mono ?_
  rintro e w2 ⟨rfl, rfl⟩
  clear c1 H7
  have c2 := HX.out.cells.2.2.1
  go_wp2_with fail
  refine (B4.out _).mono ?_
  rintro e w3 ⟨rfl, rfl⟩
  clear c2
  go_wp2_with (refine wpList_load_row rfl X17 _ rfl w.heap.size rfl X17 _ (0, 0) _ HX.out.x Try.underlying32 rfl info_X17 ?_)
  refine (HC.out w3 HX.out.size2 (HI.out.g2 HX.out.bel) (HO.out.g2 HX.out.bel)).mono ?_
  rintro e w4 ⟨iv4, ov4, rfl, hq4⟩
  have hX4 := HX.out.low hq4.bel
  have hb5 : Below w4.heap.size w4 (w4.alloc (.cells (xuV t iv4 ov4) X17)) := (Below.refl _ _).alloc (Nat.le_refl _) _
  have hX5 := hX4.low hb5
  have HQB := Lib.hid (CsAt.new w4 X17 (xuV t iv4 ov4))
  have HX5 := Lib.hid hX5
  have HI4 := Lib.hid (hq4.i.low hb5)
  have HO4 := Lib.hid (hq4.o.low hb5)
  have HONE := Lib.hid (xuV_one t hq4.i.one hq4.o.one)
  have HON2 := Lib.hid (xuV_one { t with empty := true } hq4.i.one hq4.o.one)
  clear hX4 hX5 hb5 hq4 HX HC
  go_upto_region 10 with (refine wpList_storeNew (w0 := w4) rfl X17 _ _ rfl (xuV Ut.zero (.slice none 0 0) (.slice none 0 0)) (xuV t iv4 ov4) X17 rfl rfl info_X17 rfl HONE.out ?_)
  generalize w4.alloc (.cells (xuV t iv4 ov4) X17) = w5 at *
  have HX6 := Lib.hid (HX5.out.all t iv4 ov4)
  have k8 : (w5.setRow w.heap.size (xuV t iv4 ov4)).cell? ⟨w.heap.size, 8, none⟩ = some (.bool t.empty) := HX6.out.x.cell 8
  have f8 := HX6.out.x.frozen 8
  have HX7 := Lib.hid (HX6.out.upd (i := 8) (v := .bool true) (u := { t with empty := true }) (kv := iv4) (lv := ov4) rfl)
  have HX3 := Lib.hid (HX7.out.res { t with empty := true } iv4 ov4)
  have hc : Chg (fun k => k = w.heap.size ∨ k = w.heap.size + 1) w5 (((w5.setRow w.heap.size (xuV t iv4 ov4)).setCell ⟨w.heap.size, 8, none⟩ (.bool true)).setRow (w.heap.size + 1) (xuV { t with empty := true } iv4 ov4)) := ((Chg.of_row (.inl rfl) _).trans (Chg.of_cell (.inl rfl) 8 _)).trans (Chg.of_row (.inr rfl) _)
  have HVI := Lib.hid (HI4.out.of2 hc)
  have HVO := Lib.hid (HO4.out.of2 hc)
  clear hc
  go_upto_region 12 with (first | (refine wpList_load_row rfl X17 _ rfl w4.heap.size rfl X17 _ (0, 0) _ HQB.out Try.underlying32 rfl info_X17 ?_) | (refine wpList_store_row rfl X17 _ _ rfl w.heap.size (xuV t iv4 ov4) rfl rfl X17 _ HX5.out.x info_X17 rfl HONE.out ?_))
  generalize w5.setRow w.heap.size (xuV t iv4 ov4) = w6 at *
  go_upto_region 33 with fail
  generalize w6.setCell ⟨w.heap.size, 8, none⟩ (.bool true) = w7 at *
  clear k8 f8
  go_wp2_with (first | (refine wpList_load_row rfl X17 _ rfl w.heap.size rfl X17 _ (0, 0) _ HX7.out.x Try.underlying32 rfl info_X17 ?_) | (refine wpList_store_row rfl X17 _ _ rfl (w.heap.size + 1) (xuV { t with empty := true } iv4 ov4) rfl rfl X17 _ HX7.out.r info_X17 rfl HON2.out ?_))
  exact bodyPost_ret (results_cbU X17 Try.results39 _ _ (w.heap.size + 1) _ _ rfl rfl HX3.out.ret) rfl ⟨_, _, rfl, ⟨HVI.out, HVO.out, HX3.out.bel⟩⟩
theorem rwrite_c (G : Nat → Prop) (s : Ut.S) (iv ov : Value) (off x : Int) (o0 : 0 ≤ off) (hx : Ut.isB x) (w : World) (hG : ∀ k, G k → k < w.heap.size) (hi : VwG G w iv s.q) (ho : VwG G w ov s.out) (ok : Ut.Ok s) (hn : s.out.length < 900) :
    Calls Try.prog 39 #[.agg (xuV s iv ov), .int .u64 off, .int .i64 x] w fun e w' => ∃ iv' ov', e = .returned (.tuple #[.agg (xuV (Ut.writeS s off x) iv' ov'), .bool (Ut.is off)]) ∧ XuQ G w w' (Ut.writeS s off x) iv' ov' := by
  by_cases hf : 8 ≤ off
  · exact rwrite_far G s iv ov off x hx w hG hi ho ok hf
  · obtain rfl | rfl | rfl | rfl | rfl | rfl | rfl | rfl : off = 0 ∨ off = 1 ∨ off = 2 ∨ off = 3 ∨ off = 4 ∨ off = 5 ∨ off = 6 ∨ off = 7 := by omega
    · cases hl : Ut.hi s with
      | true => exact rwrite0h G s iv ov x hx w hG hi ho ok hl
      | false =>
        cases hp : Ut.lp s with
        | true => exact rwrite0l G s iv ov x hx w hG hi ho ok hl hp
        | false => exact rwrite0s G s iv ov x hx w hG hi ho ok hl hp hn
    · cases hl : Ut.hi s with
      | true => exact rwrite1h G s iv ov x hx w hG hi ho ok hl
      | false => exact rwrite1n G s iv ov x hx w hG hi ho ok hl
    · exact rwrite2 G s iv ov x hx w hG hi ho ok
    · exact rwrite3 G s iv ov x hx w hG hi ho ok
    · exact rwrite4 G s iv ov x hx w hG hi ho ok
    · exact rwrite5 G s iv ov x hx w hG hi ho ok
    · exact rwrite6 G s iv ov x hx w hG hi ho ok
    · exact rwrite7 G s iv ov x hx w hG hi ho ok
end Go.Proofs.Ytihinimgenpijaa
