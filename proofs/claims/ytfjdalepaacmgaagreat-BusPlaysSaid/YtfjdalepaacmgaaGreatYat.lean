/-
  The reference of layer 17: contract of Write. The reference of layer 17: Same (out of UsB). The reference of layer 18: its row in a block, its parts; Lines.
-/
import Derived.Test.YtfjdalepaacmgaaGreatYas
import Derived.Test.YtfjdalepaacmgaaGreatYaq
import Derived.Test.YtfjdalepaacmgaaGreatYar
import Derived.Test.YtfjdalepaacmgaaGreatYan
set_option maxRecDepth 20000
namespace Go.Proofs.YtfjdalepaacmgaaGreat
open Go.ChangeShapes Go.WideShapes Go.ChangeAt Go.RowKit

namespace Ut
theorem mod2 (x : Int) : (x % 2 == 1) = bt x 0 := by
  unfold bt
  rw [Bool.eq_iff_iff]
  simp
end Ut
theorem Chg.alloc {S : Nat → Prop} {w : World} (o : Obj) : Chg S w (w.alloc o) := Chg.of_below ((Below.refl _ _).alloc (Nat.le_refl _) _)

set_option maxHeartbeats 8000000 in
theorem rwrite_far (G : Nat → Prop) (s : Ut.S) (iv ov : Value) (off : Int) (x : Int) (hx : Ut.isB x) (w : World) (hG : ∀ k, G k → k < w.heap.size) (hi : VwG G w iv s.q) (ho : VwG G w ov s.out) (ok : Ut.Ok s) (hf : 8 ≤ off) :
    Calls Tryz.prog 37 #[.agg (xuV s iv ov), .int .u64 off, .int .i64 x] w fun e w' => ∃ iv' ov', e = .returned (.tuple #[.agg (xuV (Ut.writeS s off x) iv' ov'), .bool (Ut.is off)]) ∧ XuQ G w w' (Ut.writeS s off x) iv' ov' := by
  have HX := Lib.hid (XuAt.new w s iv ov)
  have hz := zero_x17
  have HI := Lib.hid hi
  have HO := Lib.hid ho
  have HG := Lib.hid hG
  have HOK := Lib.hid ok
  have HXB := Lib.hid hx
  have hx0 := hx.1
  have hx1 := hx.2
  have H7 := Lib.hid (rbit_c s.lcr 7 ok.lcr.1 (by have := ok.lcr.2; omega) (by omega))
  have e7 := Ut.bti_b s.lcr 7
  have hhi : Ut.bt s.lcr 7 = Ut.hi s := rfl
  rw [hhi] at e7
  clear hi ho hhi hx ok
  generalize Ut.bti s.lcr 7 = b7 at *
  rw [(Ut.write_far (s := s) (x := x) hf).1, (Ut.write_far (s := s) (x := x) hf).2]
  have g0 : (off == 0) = false := by simp; omega
  have g1 : (off == 1) = false := by simp; omega
  have g2 : (off == 2) = false := by simp; omega
  have g3 : (off == 3) = false := by simp; omega
  have g4 : (off == 4) = false := by simp; omega
  have g5 : (off == 5) = false := by simp; omega
  have g6 : (off == 6) = false := by simp; omega
  have g7 : (off == 7) = false := by simp; omega
  clear hf
  go_enter Tryz.func37, Tryz.ntmps37
  go_upto_region 1 with fail
  generalize (w.alloc (Obj.cells (xuV s iv ov) X17)).alloc (Obj.cells (xuV Ut.zero (.slice none 0 0) (.slice none 0 0)) X17) = w1 at *
  have c1 := HX.out.cells.2.1
  go_wp2_with fail
  refine (H7.out _).mono ?_
  rintro e w2 ⟨rfl, rfl⟩
  clear c1 H7
  have HX3 := Lib.hid (HX.out.res s iv ov)
  go_wp2_with (first | (refine wpList_load_row rfl X17 _ rfl w.heap.size rfl X17 _ (0, 0) _ HX.out.x Tryz.underlying51 rfl info_X17 ?_) | (refine wpList_store_row rfl X17 _ _ rfl (w.heap.size + 1) (xuV s iv ov) rfl rfl X17 _ HX.out.r info_X17 rfl (xuV_one _ HI.out.one HO.out.one) ?_))
  exact bodyPost_ret (results_cbU X17 Tryz.results37 _ _ (w.heap.size + 1) _ _ rfl rfl HX3.out.ret) rfl ⟨_, _, rfl, ⟨HI.out.low HX3.out.bel, HO.out.low HX3.out.bel, HX3.out.bel⟩⟩
set_option maxHeartbeats 8000000 in
theorem rwrite5 (G : Nat → Prop) (s : Ut.S) (iv ov : Value) (x : Int) (hx : Ut.isB x) (w : World) (hG : ∀ k, G k → k < w.heap.size) (hi : VwG G w iv s.q) (ho : VwG G w ov s.out) (ok : Ut.Ok s) :
    Calls Tryz.prog 37 #[.agg (xuV s iv ov), .int .u64 5, .int .i64 x] w fun e w' => ∃ iv' ov', e = .returned (.tuple #[.agg (xuV (Ut.writeS s 5 x) iv' ov'), .bool (Ut.is 5)]) ∧ XuQ G w w' (Ut.writeS s 5 x) iv' ov' := by
  have HX := Lib.hid (XuAt.new w s iv ov)
  have hz := zero_x17
  have HI := Lib.hid hi
  have HO := Lib.hid ho
  have HG := Lib.hid hG
  have HOK := Lib.hid ok
  have HXB := Lib.hid hx
  have hx0 := hx.1
  have hx1 := hx.2
  have H7 := Lib.hid (rbit_c s.lcr 7 ok.lcr.1 (by have := ok.lcr.2; omega) (by omega))
  have e7 := Ut.bti_b s.lcr 7
  have hhi : Ut.bt s.lcr 7 = Ut.hi s := rfl
  rw [hhi] at e7
  clear hi ho hhi hx ok
  generalize Ut.bti s.lcr 7 = b7 at *
  rw [Ut.write5, Ut.is_lt (by omega)]
  go_enter Tryz.func37, Tryz.ntmps37
  go_upto_region 1 with fail
  generalize (w.alloc (Obj.cells (xuV s iv ov) X17)).alloc (Obj.cells (xuV Ut.zero (.slice none 0 0) (.slice none 0 0)) X17) = w1 at *
  have c1 := HX.out.cells.2.1
  go_wp2_with fail
  refine (H7.out _).mono ?_
  rintro e w2 ⟨rfl, rfl⟩
  clear c1 H7
  have HX3 := Lib.hid (HX.out.res s iv ov)
  go_wp2_with (first | (refine wpList_load_row rfl X17 _ rfl w.heap.size rfl X17 _ (0, 0) _ HX.out.x Tryz.underlying51 rfl info_X17 ?_) | (refine wpList_store_row rfl X17 _ _ rfl (w.heap.size + 1) (xuV s iv ov) rfl rfl X17 _ HX.out.r info_X17 rfl (xuV_one _ HI.out.one HO.out.one) ?_))
  exact bodyPost_ret (results_cbU X17 Tryz.results37 _ _ (w.heap.size + 1) _ _ rfl rfl HX3.out.ret) rfl ⟨_, _, rfl, ⟨HI.out.low HX3.out.bel, HO.out.low HX3.out.bel, HX3.out.bel⟩⟩
set_option maxHeartbeats 8000000 in
theorem rwrite6 (G : Nat → Prop) (s : Ut.S) (iv ov : Value) (x : Int) (hx : Ut.isB x) (w : World) (hG : ∀ k, G k → k < w.heap.size) (hi : VwG G w iv s.q) (ho : VwG G w ov s.out) (ok : Ut.Ok s) :
    Calls Tryz.prog 37 #[.agg (xuV s iv ov), .int .u64 6, .int .i64 x] w fun e w' => ∃ iv' ov', e = .returned (.tuple #[.agg (xuV (Ut.writeS s 6 x) iv' ov'), .bool (Ut.is 6)]) ∧ XuQ G w w' (Ut.writeS s 6 x) iv' ov' := by
  have HX := Lib.hid (XuAt.new w s iv ov)
  have hz := zero_x17
  have HI := Lib.hid hi
  have HO := Lib.hid ho
  have HG := Lib.hid hG
  have HOK := Lib.hid ok
  have HXB := Lib.hid hx
  have hx0 := hx.1
  have hx1 := hx.2
  have H7 := Lib.hid (rbit_c s.lcr 7 ok.lcr.1 (by have := ok.lcr.2; omega) (by omega))
  have e7 := Ut.bti_b s.lcr 7
  have hhi : Ut.bt s.lcr 7 = Ut.hi s := rfl
  rw [hhi] at e7
  clear hi ho hhi hx ok
  generalize Ut.bti s.lcr 7 = b7 at *
  rw [Ut.write6, Ut.is_lt (by omega)]
  go_enter Tryz.func37, Tryz.ntmps37
  go_upto_region 1 with fail
  generalize (w.alloc (Obj.cells (xuV s iv ov) X17)).alloc (Obj.cells (xuV Ut.zero (.slice none 0 0) (.slice none 0 0)) X17) = w1 at *
  have c1 := HX.out.cells.2.1
  go_wp2_with fail
  refine (H7.out _).mono ?_
  rintro e w2 ⟨rfl, rfl⟩
  clear c1 H7
  have HX3 := Lib.hid (HX.out.res s iv ov)
  go_wp2_with (first | (refine wpList_load_row rfl X17 _ rfl w.heap.size rfl X17 _ (0, 0) _ HX.out.x Tryz.underlying51 rfl info_X17 ?_) | (refine wpList_store_row rfl X17 _ _ rfl (w.heap.size + 1) (xuV s iv ov) rfl rfl X17 _ HX.out.r info_X17 rfl (xuV_one _ HI.out.one HO.out.one) ?_))
  exact bodyPost_ret (results_cbU X17 Tryz.results37 _ _ (w.heap.size + 1) _ _ rfl rfl HX3.out.ret) rfl ⟨_, _, rfl, ⟨HI.out.low HX3.out.bel, HO.out.low HX3.out.bel, HX3.out.bel⟩⟩
set_option maxHeartbeats 8000000 in
theorem rwrite3 (G : Nat → Prop) (s : Ut.S) (iv ov : Value) (x : Int) (hx : Ut.isB x) (w : World) (hG : ∀ k, G k → k < w.heap.size) (hi : VwG G w iv s.q) (ho : VwG G w ov s.out) (ok : Ut.Ok s) :
    Calls Tryz.prog 37 #[.agg (xuV s iv ov), .int .u64 3, .int .i64 x] w fun e w' => ∃ iv' ov', e = .returned (.tuple #[.agg (xuV (Ut.writeS s 3 x) iv' ov'), .bool (Ut.is 3)]) ∧ XuQ G w w' (Ut.writeS s 3 x) iv' ov' := by
  have HX := Lib.hid (XuAt.new w s iv ov)
  have hz := zero_x17
  have HI := Lib.hid hi
  have HO := Lib.hid ho
  have HG := Lib.hid hG
  have HOK := Lib.hid ok
  have HXB := Lib.hid hx
  have hx0 := hx.1
  have hx1 := hx.2
  have H7 := Lib.hid (rbit_c s.lcr 7 ok.lcr.1 (by have := ok.lcr.2; omega) (by omega))
  have e7 := Ut.bti_b s.lcr 7
  have hhi : Ut.bt s.lcr 7 = Ut.hi s := rfl
  rw [hhi] at e7
  clear hi ho hhi hx ok
  generalize Ut.bti s.lcr 7 = b7 at *
  rw [Ut.write3, Ut.is_lt (by omega)]
  go_enter Tryz.func37, Tryz.ntmps37
  go_upto_region 1 with fail
  generalize (w.alloc (Obj.cells (xuV s iv ov) X17)).alloc (Obj.cells (xuV Ut.zero (.slice none 0 0) (.slice none 0 0)) X17) = w1 at *
  have c1 := HX.out.cells.2.1
  go_wp2_with fail
  refine (H7.out _).mono ?_
  rintro e w2 ⟨rfl, rfl⟩
  clear c1 H7
  have ck := HX.out.cells.2.1
  have fk := HX.out.x.frozen 1
  have HX4 := Lib.hid (HX.out.upd (i := 1) (v := .int .i64 (x)) (u := { s with lcr := x }) (kv := iv) (lv := ov) rfl)
  have HX3 := Lib.hid (HX4.out.res { s with lcr := x } iv ov)
  clear HX
  go_upto_region 33 with fail
  generalize w2.setCell ⟨w.heap.size, 1, none⟩ (.int .i64 (x)) = w4 at *
  clear ck fk
  go_wp2_with (first | (refine wpList_load_row rfl X17 _ rfl w.heap.size rfl X17 _ (0, 0) _ HX4.out.x Tryz.underlying51 rfl info_X17 ?_) | (refine wpList_store_row rfl X17 _ _ rfl (w.heap.size + 1) (xuV { s with lcr := x } iv ov) rfl rfl X17 _ HX4.out.r info_X17 rfl (xuV_one _ HI.out.one HO.out.one) ?_))
  exact bodyPost_ret (results_cbU X17 Tryz.results37 _ _ (w.heap.size + 1) _ _ rfl rfl HX3.out.ret) rfl ⟨_, _, rfl, ⟨HI.out.low HX3.out.bel, HO.out.low HX3.out.bel, HX3.out.bel⟩⟩
set_option maxHeartbeats 8000000 in
theorem rwrite4 (G : Nat → Prop) (s : Ut.S) (iv ov : Value) (x : Int) (hx : Ut.isB x) (w : World) (hG : ∀ k, G k → k < w.heap.size) (hi : VwG G w iv s.q) (ho : VwG G w ov s.out) (ok : Ut.Ok s) :
    Calls Tryz.prog 37 #[.agg (xuV s iv ov), .int .u64 4, .int .i64 x] w fun e w' => ∃ iv' ov', e = .returned (.tuple #[.agg (xuV (Ut.writeS s 4 x) iv' ov'), .bool (Ut.is 4)]) ∧ XuQ G w w' (Ut.writeS s 4 x) iv' ov' := by
  have HX := Lib.hid (XuAt.new w s iv ov)
  have hz := zero_x17
  have HI := Lib.hid hi
  have HO := Lib.hid ho
  have HG := Lib.hid hG
  have HOK := Lib.hid ok
  have HXB := Lib.hid hx
  have hx0 := hx.1
  have hx1 := hx.2
  have H7 := Lib.hid (rbit_c s.lcr 7 ok.lcr.1 (by have := ok.lcr.2; omega) (by omega))
  have e7 := Ut.bti_b s.lcr 7
  have hhi : Ut.bt s.lcr 7 = Ut.hi s := rfl
  rw [hhi] at e7
  clear hi ho hhi hx ok
  generalize Ut.bti s.lcr 7 = b7 at *
  rw [Ut.write4, Ut.is_lt (by omega)]
  go_enter Tryz.func37, Tryz.ntmps37
  go_upto_region 1 with fail
  generalize (w.alloc (Obj.cells (xuV s iv ov) X17)).alloc (Obj.cells (xuV Ut.zero (.slice none 0 0) (.slice none 0 0)) X17) = w1 at *
  have c1 := HX.out.cells.2.1
  go_wp2_with fail
  refine (H7.out _).mono ?_
  rintro e w2 ⟨rfl, rfl⟩
  clear c1 H7
  have ck := HX.out.cells.2.2.1
  have fk := HX.out.x.frozen 2
  have HX4 := Lib.hid (HX.out.upd (i := 2) (v := .int .i64 (x % 32)) (u := { s with mcr := x % 32 }) (kv := iv) (lv := ov) rfl)
  have HX3 := Lib.hid (HX4.out.res { s with mcr := x % 32 } iv ov)
  clear HX
  go_upto_region 33 with fail
  generalize w2.setCell ⟨w.heap.size, 2, none⟩ (.int .i64 (x % 32)) = w4 at *
  clear ck fk
  go_wp2_with (first | (refine wpList_load_row rfl X17 _ rfl w.heap.size rfl X17 _ (0, 0) _ HX4.out.x Tryz.underlying51 rfl info_X17 ?_) | (refine wpList_store_row rfl X17 _ _ rfl (w.heap.size + 1) (xuV { s with mcr := x % 32 } iv ov) rfl rfl X17 _ HX4.out.r info_X17 rfl (xuV_one _ HI.out.one HO.out.one) ?_))
  exact bodyPost_ret (results_cbU X17 Tryz.results37 _ _ (w.heap.size + 1) _ _ rfl rfl HX3.out.ret) rfl ⟨_, _, rfl, ⟨HI.out.low HX3.out.bel, HO.out.low HX3.out.bel, HX3.out.bel⟩⟩
set_option maxHeartbeats 8000000 in
theorem rwrite7 (G : Nat → Prop) (s : Ut.S) (iv ov : Value) (x : Int) (hx : Ut.isB x) (w : World) (hG : ∀ k, G k → k < w.heap.size) (hi : VwG G w iv s.q) (ho : VwG G w ov s.out) (ok : Ut.Ok s) :
    Calls Tryz.prog 37 #[.agg (xuV s iv ov), .int .u64 7, .int .i64 x] w fun e w' => ∃ iv' ov', e = .returned (.tuple #[.agg (xuV (Ut.writeS s 7 x) iv' ov'), .bool (Ut.is 7)]) ∧ XuQ G w w' (Ut.writeS s 7 x) iv' ov' := by
  have HX := Lib.hid (XuAt.new w s iv ov)
  have hz := zero_x17
  have HI := Lib.hid hi
  have HO := Lib.hid ho
  have HG := Lib.hid hG
  have HOK := Lib.hid ok
  have HXB := Lib.hid hx
  have hx0 := hx.1
  have hx1 := hx.2
  have H7 := Lib.hid (rbit_c s.lcr 7 ok.lcr.1 (by have := ok.lcr.2; omega) (by omega))
  have e7 := Ut.bti_b s.lcr 7
  have hhi : Ut.bt s.lcr 7 = Ut.hi s := rfl
  rw [hhi] at e7
  clear hi ho hhi hx ok
  generalize Ut.bti s.lcr 7 = b7 at *
  rw [Ut.write7, Ut.is_lt (by omega)]
  go_enter Tryz.func37, Tryz.ntmps37
  go_upto_region 1 with fail
  generalize (w.alloc (Obj.cells (xuV s iv ov) X17)).alloc (Obj.cells (xuV Ut.zero (.slice none 0 0) (.slice none 0 0)) X17) = w1 at *
  have c1 := HX.out.cells.2.1
  go_wp2_with fail
  refine (H7.out _).mono ?_
  rintro e w2 ⟨rfl, rfl⟩
  clear c1 H7
  have ck := HX.out.cells.2.2.2.1
  have fk := HX.out.x.frozen 3
  have HX4 := Lib.hid (HX.out.upd (i := 3) (v := .int .i64 (x)) (u := { s with scr := x }) (kv := iv) (lv := ov) rfl)
  have HX3 := Lib.hid (HX4.out.res { s with scr := x } iv ov)
  clear HX
  go_upto_region 33 with fail
  generalize w2.setCell ⟨w.heap.size, 3, none⟩ (.int .i64 (x)) = w4 at *
  clear ck fk
  go_wp2_with (first | (refine wpList_load_row rfl X17 _ rfl w.heap.size rfl X17 _ (0, 0) _ HX4.out.x Tryz.underlying51 rfl info_X17 ?_) | (refine wpList_store_row rfl X17 _ _ rfl (w.heap.size + 1) (xuV { s with scr := x } iv ov) rfl rfl X17 _ HX4.out.r info_X17 rfl (xuV_one _ HI.out.one HO.out.one) ?_))
  exact bodyPost_ret (results_cbU X17 Tryz.results37 _ _ (w.heap.size + 1) _ _ rfl rfl HX3.out.ret) rfl ⟨_, _, rfl, ⟨HI.out.low HX3.out.bel, HO.out.low HX3.out.bel, HX3.out.bel⟩⟩
set_option maxHeartbeats 8000000 in
theorem rwrite0h (G : Nat → Prop) (s : Ut.S) (iv ov : Value) (x : Int) (hx : Ut.isB x) (w : World) (hG : ∀ k, G k → k < w.heap.size) (hi : VwG G w iv s.q) (ho : VwG G w ov s.out) (ok : Ut.Ok s) (hl : Ut.hi s = true) :
    Calls Tryz.prog 37 #[.agg (xuV s iv ov), .int .u64 0, .int .i64 x] w fun e w' => ∃ iv' ov', e = .returned (.tuple #[.agg (xuV (Ut.writeS s 0 x) iv' ov'), .bool (Ut.is 0)]) ∧ XuQ G w w' (Ut.writeS s 0 x) iv' ov' := by
  have HX := Lib.hid (XuAt.new w s iv ov)
  have hz := zero_x17
  have HI := Lib.hid hi
  have HO := Lib.hid ho
  have HG := Lib.hid hG
  have HOK := Lib.hid ok
  have HXB := Lib.hid hx
  have hx0 := hx.1
  have hx1 := hx.2
  have H7 := Lib.hid (rbit_c s.lcr 7 ok.lcr.1 (by have := ok.lcr.2; omega) (by omega))
  have e7 := Ut.bti_b s.lcr 7
  have hhi : Ut.bt s.lcr 7 = Ut.hi s := rfl
  rw [hhi] at e7
  clear hi ho hhi hx ok
  generalize Ut.bti s.lcr 7 = b7 at *
  rw [Ut.write0, Ut.is_lt (by omega), if_pos hl]
  rw [hl] at e7
  clear hl
  go_enter Tryz.func37, Tryz.ntmps37
  go_upto_region 1 with fail
  generalize (w.alloc (Obj.cells (xuV s iv ov) X17)).alloc (Obj.cells (xuV Ut.zero (.slice none 0 0) (.slice none 0 0)) X17) = w1 at *
  have c1 := HX.out.cells.2.1
  go_wp2_with fail
  refine (H7.out _).mono ?_
  rintro e w2 ⟨rfl, rfl⟩
  clear c1 H7
  have ck := HX.out.cells.2.2.2.2.1
  have fk := HX.out.x.frozen 4
  have HX4 := Lib.hid (HX.out.upd (i := 4) (v := .int .i64 x) (u := { s with dll := x }) (kv := iv) (lv := ov) rfl)
  have HX3 := Lib.hid (HX4.out.res { s with dll := x } iv ov)
  clear HX
  go_upto_region 7 with fail
  generalize w2.setCell ⟨w.heap.size, 4, none⟩ (.int .i64 x) = w4 at *
  clear ck fk
  go_wp2_with (first | (refine wpList_load_row rfl X17 _ rfl w.heap.size rfl X17 _ (0, 0) _ HX4.out.x Tryz.underlying51 rfl info_X17 ?_) | (refine wpList_store_row rfl X17 _ _ rfl (w.heap.size + 1) (xuV { s with dll := x } iv ov) rfl rfl X17 _ HX4.out.r info_X17 rfl (xuV_one _ HI.out.one HO.out.one) ?_))
  exact bodyPost_ret (results_cbU X17 Tryz.results37 _ _ (w.heap.size + 1) _ _ rfl rfl HX3.out.ret) rfl ⟨_, _, rfl, ⟨HI.out.low HX3.out.bel, HO.out.low HX3.out.bel, HX3.out.bel⟩⟩
set_option maxHeartbeats 8000000 in
theorem rwrite1h (G : Nat → Prop) (s : Ut.S) (iv ov : Value) (x : Int) (hx : Ut.isB x) (w : World) (hG : ∀ k, G k → k < w.heap.size) (hi : VwG G w iv s.q) (ho : VwG G w ov s.out) (ok : Ut.Ok s) (hl : Ut.hi s = true) :
    Calls Tryz.prog 37 #[.agg (xuV s iv ov), .int .u64 1, .int .i64 x] w fun e w' => ∃ iv' ov', e = .returned (.tuple #[.agg (xuV (Ut.writeS s 1 x) iv' ov'), .bool (Ut.is 1)]) ∧ XuQ G w w' (Ut.writeS s 1 x) iv' ov' := by
  have HX := Lib.hid (XuAt.new w s iv ov)
  have hz := zero_x17
  have HI := Lib.hid hi
  have HO := Lib.hid ho
  have HG := Lib.hid hG
  have HOK := Lib.hid ok
  have HXB := Lib.hid hx
  have hx0 := hx.1
  have hx1 := hx.2
  have H7 := Lib.hid (rbit_c s.lcr 7 ok.lcr.1 (by have := ok.lcr.2; omega) (by omega))
  have e7 := Ut.bti_b s.lcr 7
  have hhi : Ut.bt s.lcr 7 = Ut.hi s := rfl
  rw [hhi] at e7
  clear hi ho hhi hx ok
  generalize Ut.bti s.lcr 7 = b7 at *
  rw [Ut.write1, Ut.is_lt (by omega), if_pos hl]
  rw [hl] at e7
  clear hl
  go_enter Tryz.func37, Tryz.ntmps37
  go_upto_region 1 with fail
  generalize (w.alloc (Obj.cells (xuV s iv ov) X17)).alloc (Obj.cells (xuV Ut.zero (.slice none 0 0) (.slice none 0 0)) X17) = w1 at *
  have c1 := HX.out.cells.2.1
  go_wp2_with fail
  refine (H7.out _).mono ?_
  rintro e w2 ⟨rfl, rfl⟩
  clear c1 H7
  have ck := HX.out.cells.2.2.2.2.2.1
  have fk := HX.out.x.frozen 5
  have HX4 := Lib.hid (HX.out.upd (i := 5) (v := .int .i64 x) (u := { s with dlm := x }) (kv := iv) (lv := ov) rfl)
  have HX3 := Lib.hid (HX4.out.res { s with dlm := x } iv ov)
  clear HX
  go_upto_region 16 with fail
  generalize w2.setCell ⟨w.heap.size, 5, none⟩ (.int .i64 x) = w4 at *
  clear ck fk
  go_wp2_with (first | (refine wpList_load_row rfl X17 _ rfl w.heap.size rfl X17 _ (0, 0) _ HX4.out.x Tryz.underlying51 rfl info_X17 ?_) | (refine wpList_store_row rfl X17 _ _ rfl (w.heap.size + 1) (xuV { s with dlm := x } iv ov) rfl rfl X17 _ HX4.out.r info_X17 rfl (xuV_one _ HI.out.one HO.out.one) ?_))
  exact bodyPost_ret (results_cbU X17 Tryz.results37 _ _ (w.heap.size + 1) _ _ rfl rfl HX3.out.ret) rfl ⟨_, _, rfl, ⟨HI.out.low HX3.out.bel, HO.out.low HX3.out.bel, HX3.out.bel⟩⟩
set_option maxHeartbeats 8000000 in
theorem rwrite1n (G : Nat → Prop) (s : Ut.S) (iv ov : Value) (x : Int) (hx : Ut.isB x) (w : World) (hG : ∀ k, G k → k < w.heap.size) (hi : VwG G w iv s.q) (ho : VwG G w ov s.out) (ok : Ut.Ok s) (hl : Ut.hi s = false) :
    Calls Tryz.prog 37 #[.agg (xuV s iv ov), .int .u64 1, .int .i64 x] w fun e w' => ∃ iv' ov', e = .returned (.tuple #[.agg (xuV (Ut.writeS s 1 x) iv' ov'), .bool (Ut.is 1)]) ∧ XuQ G w w' (Ut.writeS s 1 x) iv' ov' := by
  have HX := Lib.hid (XuAt.new w s iv ov)
  have hz := zero_x17
  have HI := Lib.hid hi
  have HO := Lib.hid ho
  have HG := Lib.hid hG
  have HOK := Lib.hid ok
  have HXB := Lib.hid hx
  have hx0 := hx.1
  have hx1 := hx.2
  have H7 := Lib.hid (rbit_c s.lcr 7 ok.lcr.1 (by have := ok.lcr.2; omega) (by omega))
  have e7 := Ut.bti_b s.lcr 7
  have hhi : Ut.bt s.lcr 7 = Ut.hi s := rfl
  rw [hhi] at e7
  clear hi ho hhi hx ok
  generalize Ut.bti s.lcr 7 = b7 at *
  rw [Ut.write1, Ut.is_lt (by omega), if_neg (by rw [hl]; simp)]
  rw [hl] at e7
  clear hl
  have B1 := Lib.hid (rbit_c x 1 hx0 (by omega) (by omega))
  have B2 := Lib.hid (rbit_c s.ier 1 HOK.out.ier.1 (by have := HOK.out.ier.2; omega) (by omega))
  have e1 := Ut.bti_b x 1
  have e2 := Ut.bti_z s.ier 1
  generalize Ut.bti x 1 = p1 at *
  generalize Ut.bti s.ier 1 = p2 at *
  have HE := Lib.hid (show s.empty = s.empty from rfl)
  obtain ⟨em, hem⟩ : ∃ em, s.empty = em := ⟨_, rfl⟩
  have HEM := Lib.hid hem
  rw [hem]
  clear hem HE
  generalize Ut.bt x 1 = q1 at *
  generalize Ut.bt s.ier 1 = q2 at *
  cases em with
  | true =>
    simp only [Bool.true_or]
    go_enter Tryz.func37, Tryz.ntmps37
    go_upto_region 1 with fail
    generalize (w.alloc (Obj.cells (xuV s iv ov) X17)).alloc (Obj.cells (xuV Ut.zero (.slice none 0 0) (.slice none 0 0)) X17) = w1 at *
    have c1 := HX.out.cells.2.1
    go_wp2_with fail
    refine (H7.out _).mono ?_
    rintro e w2 ⟨rfl, rfl⟩
    clear c1 H7
    have c8 := HX.out.cells.2.2.2.2.2.2.2.2.1
    rw [HEM.out] at c8
    have c0 := HX.out.cells.1
    have f0 := HX.out.x.frozen 0
    have f8 := HX.out.x.frozen 8
    have HX4 := Lib.hid (HX.out.upd (i := 8) (v := .bool true) (u := { s with empty := true }) (kv := iv) (lv := ov) rfl)
    go_upto_region 18 with fail
    generalize w2.setCell ⟨w.heap.size, 8, none⟩ (.bool true) = w4 at *
    clear c0 c8 f0 f8 HX
    have c0 := HX4.out.cells.1
    have f0 := HX4.out.x.frozen 0
    have HX5 := Lib.hid (HX4.out.upd (i := 0) (v := .int .i64 (x % 16)) (u := { s with empty := true, ier := x % 16 }) (kv := iv) (lv := ov) rfl)
    have HX3 := Lib.hid (HX5.out.res { s with empty := true, ier := x % 16 } iv ov)
    clear HX4
    go_upto_region 33 with fail
    generalize w4.setCell ⟨w.heap.size, 0, none⟩ (.int .i64 (x % 16)) = w5 at *
    clear c0 f0
    go_wp2_with (first | (refine wpList_load_row rfl X17 _ rfl w.heap.size rfl X17 _ (0, 0) _ HX5.out.x Tryz.underlying51 rfl info_X17 ?_) | (refine wpList_store_row rfl X17 _ _ rfl (w.heap.size + 1) (xuV { s with empty := true, ier := x % 16 } iv ov) rfl rfl X17 _ HX5.out.r info_X17 rfl (xuV_one _ HI.out.one HO.out.one) ?_))
    exact bodyPost_ret (results_cbU X17 Tryz.results37 _ _ (w.heap.size + 1) _ _ rfl rfl HX3.out.ret) rfl ⟨_, _, rfl, ⟨HI.out.low HX3.out.bel, HO.out.low HX3.out.bel, HX3.out.bel⟩⟩
  | false =>
    simp only [Bool.false_or]
    cases q1 with
    | false =>
      simp only [Bool.false_and]
      go_enter Tryz.func37, Tryz.ntmps37
      go_upto_region 1 with fail
      generalize (w.alloc (Obj.cells (xuV s iv ov) X17)).alloc (Obj.cells (xuV Ut.zero (.slice none 0 0) (.slice none 0 0)) X17) = w1 at *
      have c1 := HX.out.cells.2.1
      go_wp2_with fail
      refine (H7.out _).mono ?_
      rintro e w2 ⟨rfl, rfl⟩
      clear c1 H7
      have c8 := HX.out.cells.2.2.2.2.2.2.2.2.1
      rw [HEM.out] at c8
      have c0 := HX.out.cells.1
      have f0 := HX.out.x.frozen 0
      have f8 := HX.out.x.frozen 8
      have HX4 := Lib.hid (HX.out.upd (i := 8) (v := .bool false) (u := { s with empty := false }) (kv := iv) (lv := ov) rfl)
      go_wp2_with fail
      refine (B1.out _).mono ?_
      rintro e w3 ⟨rfl, rfl⟩
      go_upto_region 18 with fail
      generalize w3.setCell ⟨w.heap.size, 8, none⟩ (.bool false) = w4 at *
      clear c0 c8 f0 f8 HX
      have c0 := HX4.out.cells.1
      have f0 := HX4.out.x.frozen 0
      have HX5 := Lib.hid (HX4.out.upd (i := 0) (v := .int .i64 (x % 16)) (u := { s with empty := false, ier := x % 16 }) (kv := iv) (lv := ov) rfl)
      have HX3 := Lib.hid (HX5.out.res { s with empty := false, ier := x % 16 } iv ov)
      clear HX4
      go_upto_region 33 with fail
      generalize w4.setCell ⟨w.heap.size, 0, none⟩ (.int .i64 (x % 16)) = w5 at *
      clear c0 f0
      go_wp2_with (first | (refine wpList_load_row rfl X17 _ rfl w.heap.size rfl X17 _ (0, 0) _ HX5.out.x Tryz.underlying51 rfl info_X17 ?_) | (refine wpList_store_row rfl X17 _ _ rfl (w.heap.size + 1) (xuV { s with empty := false, ier := x % 16 } iv ov) rfl rfl X17 _ HX5.out.r info_X17 rfl (xuV_one _ HI.out.one HO.out.one) ?_))
      exact bodyPost_ret (results_cbU X17 Tryz.results37 _ _ (w.heap.size + 1) _ _ rfl rfl HX3.out.ret) rfl ⟨_, _, rfl, ⟨HI.out.low HX3.out.bel, HO.out.low HX3.out.bel, HX3.out.bel⟩⟩
    | true =>
      simp only [Bool.true_and]
      cases q2 with
      | false =>
        simp only [Bool.not_false] at e2 ⊢
        go_enter Tryz.func37, Tryz.ntmps37
        go_upto_region 1 with fail
        generalize (w.alloc (Obj.cells (xuV s iv ov) X17)).alloc (Obj.cells (xuV Ut.zero (.slice none 0 0) (.slice none 0 0)) X17) = w1 at *
        have c1 := HX.out.cells.2.1
        go_wp2_with fail
        refine (H7.out _).mono ?_
        rintro e w2 ⟨rfl, rfl⟩
        clear c1 H7
        have c8 := HX.out.cells.2.2.2.2.2.2.2.2.1
        rw [HEM.out] at c8
        have c0 := HX.out.cells.1
        have f0 := HX.out.x.frozen 0
        have f8 := HX.out.x.frozen 8
        have HX4 := Lib.hid (HX.out.upd (i := 8) (v := .bool true) (u := { s with empty := true }) (kv := iv) (lv := ov) rfl)
        go_wp2_with fail
        refine (B1.out _).mono ?_
        rintro e w3 ⟨rfl, rfl⟩
        go_wp2_with fail
        refine (B2.out _).mono ?_
        rintro e w3 ⟨rfl, rfl⟩
        go_upto_region 18 with fail
        generalize w3.setCell ⟨w.heap.size, 8, none⟩ (.bool true) = w4 at *
        clear c0 c8 f0 f8 HX
        have c0 := HX4.out.cells.1
        have f0 := HX4.out.x.frozen 0
        have HX5 := Lib.hid (HX4.out.upd (i := 0) (v := .int .i64 (x % 16)) (u := { s with empty := true, ier := x % 16 }) (kv := iv) (lv := ov) rfl)
        have HX3 := Lib.hid (HX5.out.res { s with empty := true, ier := x % 16 } iv ov)
        clear HX4
        go_upto_region 33 with fail
        generalize w4.setCell ⟨w.heap.size, 0, none⟩ (.int .i64 (x % 16)) = w5 at *
        clear c0 f0
        go_wp2_with (first | (refine wpList_load_row rfl X17 _ rfl w.heap.size rfl X17 _ (0, 0) _ HX5.out.x Tryz.underlying51 rfl info_X17 ?_) | (refine wpList_store_row rfl X17 _ _ rfl (w.heap.size + 1) (xuV { s with empty := true, ier := x % 16 } iv ov) rfl rfl X17 _ HX5.out.r info_X17 rfl (xuV_one _ HI.out.one HO.out.one) ?_))
        exact bodyPost_ret (results_cbU X17 Tryz.results37 _ _ (w.heap.size + 1) _ _ rfl rfl HX3.out.ret) rfl ⟨_, _, rfl, ⟨HI.out.low HX3.out.bel, HO.out.low HX3.out.bel, HX3.out.bel⟩⟩
      | true =>
        simp only [Bool.not_true] at e2 ⊢
        go_enter Tryz.func37, Tryz.ntmps37
        go_upto_region 1 with fail
        generalize (w.alloc (Obj.cells (xuV s iv ov) X17)).alloc (Obj.cells (xuV Ut.zero (.slice none 0 0) (.slice none 0 0)) X17) = w1 at *
        have c1 := HX.out.cells.2.1
        go_wp2_with fail
        refine (H7.out _).mono ?_
        rintro e w2 ⟨rfl, rfl⟩
        clear c1 H7
        have c8 := HX.out.cells.2.2.2.2.2.2.2.2.1
        rw [HEM.out] at c8
        have c0 := HX.out.cells.1
        have f0 := HX.out.x.frozen 0
        have f8 := HX.out.x.frozen 8
        have HX4 := Lib.hid (HX.out.upd (i := 8) (v := .bool false) (u := { s with empty := false }) (kv := iv) (lv := ov) rfl)
        go_wp2_with fail
        refine (B1.out _).mono ?_
        rintro e w3 ⟨rfl, rfl⟩
        go_wp2_with fail
        refine (B2.out _).mono ?_
        rintro e w3 ⟨rfl, rfl⟩
        go_upto_region 18 with fail
        generalize w3.setCell ⟨w.heap.size, 8, none⟩ (.bool false) = w4 at *
        clear c0 c8 f0 f8 HX
        have c0 := HX4.out.cells.1
        have f0 := HX4.out.x.frozen 0
        have HX5 := Lib.hid (HX4.out.upd (i := 0) (v := .int .i64 (x % 16)) (u := { s with empty := false, ier := x % 16 }) (kv := iv) (lv := ov) rfl)
        have HX3 := Lib.hid (HX5.out.res { s with empty := false, ier := x % 16 } iv ov)
        clear HX4
        go_upto_region 33 with fail
        generalize w4.setCell ⟨w.heap.size, 0, none⟩ (.int .i64 (x % 16)) = w5 at *
        clear c0 f0
        go_wp2_with (first | (refine wpList_load_row rfl X17 _ rfl w.heap.size rfl X17 _ (0, 0) _ HX5.out.x Tryz.underlying51 rfl info_X17 ?_) | (refine wpList_store_row rfl X17 _ _ rfl (w.heap.size + 1) (xuV { s with empty := false, ier := x % 16 } iv ov) rfl rfl X17 _ HX5.out.r info_X17 rfl (xuV_one _ HI.out.one HO.out.one) ?_))
        exact bodyPost_ret (results_cbU X17 Tryz.results37 _ _ (w.heap.size + 1) _ _ rfl rfl HX3.out.ret) rfl ⟨_, _, rfl, ⟨HI.out.low HX3.out.bel, HO.out.low HX3.out.bel, HX3.out.bel⟩⟩
set_option maxHeartbeats 8000000 in
theorem rwrite2 (G : Nat → Prop) (s : Ut.S) (iv ov : Value) (x : Int) (hx : Ut.isB x) (w : World) (hG : ∀ k, G k → k < w.heap.size) (hi : VwG G w iv s.q) (ho : VwG G w ov s.out) (ok : Ut.Ok s) :
    Calls Tryz.prog 37 #[.agg (xuV s iv ov), .int .u64 2, .int .i64 x] w fun e w' => ∃ iv' ov', e = .returned (.tuple #[.agg (xuV (Ut.writeS s 2 x) iv' ov'), .bool (Ut.is 2)]) ∧ XuQ G w w' (Ut.writeS s 2 x) iv' ov' := by
  have HX := Lib.hid (XuAt.new w s iv ov)
  have hz := zero_x17
  have HI := Lib.hid hi
  have HO := Lib.hid ho
  have HG := Lib.hid hG
  have HOK := Lib.hid ok
  have HXB := Lib.hid hx
  have hx0 := hx.1
  have hx1 := hx.2
  have H7 := Lib.hid (rbit_c s.lcr 7 ok.lcr.1 (by have := ok.lcr.2; omega) (by omega))
  have e7 := Ut.bti_b s.lcr 7
  have hhi : Ut.bt s.lcr 7 = Ut.hi s := rfl
  rw [hhi] at e7
  clear hi ho hhi hx ok
  generalize Ut.bti s.lcr 7 = b7 at *
  rw [Ut.write2, Ut.is_lt (by omega)]
  have B1 := Lib.hid (rbit_c x 1 hx0 (by omega) (by omega))
  have e1 := Ut.bti_b x 1
  have e0 := Ut.mod2 x
  generalize Ut.bti x 1 = p1 at *
  obtain ⟨ff, hff⟩ : ∃ ff, s.fifo = ff := ⟨_, rfl⟩
  have HFF := Lib.hid hff
  rw [hff]
  clear hff
  generalize Ut.bt x 1 = q1 at *
  generalize Ut.bt x 0 = q0 at *
  obtain ⟨p, cap, hiv, -⟩ := HI.out.form
  have HIV := Lib.hid hiv
  clear hiv
  cases q0 with
  | false =>
    cases ff with
    | false =>
      cases q1 with
      | false =>
        rw [if_neg (by simp)]
        go_enter Tryz.func37, Tryz.ntmps37
        go_upto_region 1 with fail
        generalize (w.alloc (Obj.cells (xuV s iv ov) X17)).alloc (Obj.cells (xuV Ut.zero (.slice none 0 0) (.slice none 0 0)) X17) = w1 at *
        have c1 := HX.out.cells.2.1
        go_wp2_with fail
        refine (H7.out _).mono ?_
        rintro e w2 ⟨rfl, rfl⟩
        clear c1 H7
        have c6 := HX.out.cells.2.2.2.2.2.2.1
        rw [HFF.out] at c6
        have f6 := HX.out.x.frozen 6
        go_wp2_with fail
        refine (B1.out _).mono ?_
        rintro e w3 ⟨rfl, rfl⟩
        have HX5 := Lib.hid (HX.out.upd (i := 6) (v := .bool false) (u := { s with fifo := false }) (kv := iv) (lv := ov) rfl)
        have HX3 := Lib.hid (HX5.out.res { s with fifo := false } iv ov)
        clear HX
        go_upto_region 33 with fail
        generalize w3.setCell ⟨w.heap.size, 6, none⟩ (.bool false) = w5 at *
        clear c6 f6
        go_wp2_with (first | (refine wpList_load_row rfl X17 _ rfl w.heap.size rfl X17 _ (0, 0) _ HX5.out.x Tryz.underlying51 rfl info_X17 ?_) | (refine wpList_store_row rfl X17 _ _ rfl (w.heap.size + 1) (xuV { s with fifo := false } iv ov) rfl rfl X17 _ HX5.out.r info_X17 rfl (xuV_one _ HI.out.one HO.out.one) ?_))
        exact bodyPost_ret (results_cbU X17 Tryz.results37 _ _ (w.heap.size + 1) _ _ rfl rfl HX3.out.ret) rfl ⟨_, _, rfl, ⟨HI.out.low HX3.out.bel, HO.out.low HX3.out.bel, HX3.out.bel⟩⟩
      | true =>
        rw [if_pos (by simp)]
        go_enter Tryz.func37, Tryz.ntmps37
        go_upto_region 1 with fail
        generalize (w.alloc (Obj.cells (xuV s iv ov) X17)).alloc (Obj.cells (xuV Ut.zero (.slice none 0 0) (.slice none 0 0)) X17) = w1 at *
        have c1 := HX.out.cells.2.1
        go_wp2_with fail
        refine (H7.out _).mono ?_
        rintro e w2 ⟨rfl, rfl⟩
        clear c1 H7
        have c6 := HX.out.cells.2.2.2.2.2.2.1
        rw [HFF.out] at c6
        have f6 := HX.out.x.frozen 6
        have c9 := HX.out.cells.2.2.2.2.2.2.2.2.2.1
        rw [HIV.out] at c9
        have f9 := HX.out.x.frozen 9
        have HX4 := Lib.hid (HX.out.upd (i := 9) (v := .slice none 0 0) (u := { s with q := [] }) (kv := .slice none 0 0) (lv := ov) rfl)
        go_wp2_with fail
        refine (B1.out _).mono ?_
        rintro e w3 ⟨rfl, rfl⟩
        go_upto_region 23 with fail
        generalize w3.setCell ⟨w.heap.size, 9, none⟩ (.slice none 0 0) = w4 at *
        clear c6 c9 f6 f9 HX
        have c6 := HX4.out.cells.2.2.2.2.2.2.1
        have f6 := HX4.out.x.frozen 6
        have HX5 := Lib.hid (HX4.out.upd (i := 6) (v := .bool false) (u := { s with q := [], fifo := false }) (kv := (.slice none 0 0)) (lv := ov) rfl)
        have HX3 := Lib.hid (HX5.out.res { s with q := [], fifo := false } (.slice none 0 0) ov)
        clear HX4
        go_upto_region 33 with fail
        generalize w4.setCell ⟨w.heap.size, 6, none⟩ (.bool false) = w5 at *
        clear c6 f6
        go_wp2_with (first | (refine wpList_load_row rfl X17 _ rfl w.heap.size rfl X17 _ (0, 0) _ HX5.out.x Tryz.underlying51 rfl info_X17 ?_) | (refine wpList_store_row rfl X17 _ _ rfl (w.heap.size + 1) (xuV { s with q := [], fifo := false } (.slice none 0 0) ov) rfl rfl X17 _ HX5.out.r info_X17 rfl (xuV_one _ rfl HO.out.one) ?_))
        exact bodyPost_ret (results_cbU X17 Tryz.results37 _ _ (w.heap.size + 1) _ _ rfl rfl HX3.out.ret) rfl ⟨_, _, rfl, ⟨VwG.nil _ _, HO.out.low HX3.out.bel, HX3.out.bel⟩⟩
    | true =>
      rw [if_pos (by simp)]
      go_enter Tryz.func37, Tryz.ntmps37
      go_upto_region 1 with fail
      generalize (w.alloc (Obj.cells (xuV s iv ov) X17)).alloc (Obj.cells (xuV Ut.zero (.slice none 0 0) (.slice none 0 0)) X17) = w1 at *
      have c1 := HX.out.cells.2.1
      go_wp2_with fail
      refine (H7.out _).mono ?_
      rintro e w2 ⟨rfl, rfl⟩
      clear c1 H7
      have c6 := HX.out.cells.2.2.2.2.2.2.1
      rw [HFF.out] at c6
      have f6 := HX.out.x.frozen 6
      have c9 := HX.out.cells.2.2.2.2.2.2.2.2.2.1
      rw [HIV.out] at c9
      have f9 := HX.out.x.frozen 9
      have HX4 := Lib.hid (HX.out.upd (i := 9) (v := .slice none 0 0) (u := { s with q := [] }) (kv := .slice none 0 0) (lv := ov) rfl)
      go_upto_region 23 with fail
      generalize w2.setCell ⟨w.heap.size, 9, none⟩ (.slice none 0 0) = w4 at *
      clear c6 c9 f6 f9 HX
      have c6 := HX4.out.cells.2.2.2.2.2.2.1
      have f6 := HX4.out.x.frozen 6
      have HX5 := Lib.hid (HX4.out.upd (i := 6) (v := .bool false) (u := { s with q := [], fifo := false }) (kv := (.slice none 0 0)) (lv := ov) rfl)
      have HX3 := Lib.hid (HX5.out.res { s with q := [], fifo := false } (.slice none 0 0) ov)
      clear HX4
      go_upto_region 33 with fail
      generalize w4.setCell ⟨w.heap.size, 6, none⟩ (.bool false) = w5 at *
      clear c6 f6
      go_wp2_with (first | (refine wpList_load_row rfl X17 _ rfl w.heap.size rfl X17 _ (0, 0) _ HX5.out.x Tryz.underlying51 rfl info_X17 ?_) | (refine wpList_store_row rfl X17 _ _ rfl (w.heap.size + 1) (xuV { s with q := [], fifo := false } (.slice none 0 0) ov) rfl rfl X17 _ HX5.out.r info_X17 rfl (xuV_one _ rfl HO.out.one) ?_))
      exact bodyPost_ret (results_cbU X17 Tryz.results37 _ _ (w.heap.size + 1) _ _ rfl rfl HX3.out.ret) rfl ⟨_, _, rfl, ⟨VwG.nil _ _, HO.out.low HX3.out.bel, HX3.out.bel⟩⟩
  | true =>
    cases ff with
    | false =>
      rw [if_pos (by simp)]
      go_enter Tryz.func37, Tryz.ntmps37
      go_upto_region 1 with fail
      generalize (w.alloc (Obj.cells (xuV s iv ov) X17)).alloc (Obj.cells (xuV Ut.zero (.slice none 0 0) (.slice none 0 0)) X17) = w1 at *
      have c1 := HX.out.cells.2.1
      go_wp2_with fail
      refine (H7.out _).mono ?_
      rintro e w2 ⟨rfl, rfl⟩
      clear c1 H7
      have c6 := HX.out.cells.2.2.2.2.2.2.1
      rw [HFF.out] at c6
      have f6 := HX.out.x.frozen 6
      have c9 := HX.out.cells.2.2.2.2.2.2.2.2.2.1
      rw [HIV.out] at c9
      have f9 := HX.out.x.frozen 9
      have HX4 := Lib.hid (HX.out.upd (i := 9) (v := .slice none 0 0) (u := { s with q := [] }) (kv := .slice none 0 0) (lv := ov) rfl)
      go_upto_region 23 with fail
      generalize w2.setCell ⟨w.heap.size, 9, none⟩ (.slice none 0 0) = w4 at *
      clear c6 c9 f6 f9 HX
      have c6 := HX4.out.cells.2.2.2.2.2.2.1
      have f6 := HX4.out.x.frozen 6
      have HX5 := Lib.hid (HX4.out.upd (i := 6) (v := .bool true) (u := { s with q := [], fifo := true }) (kv := (.slice none 0 0)) (lv := ov) rfl)
      have HX3 := Lib.hid (HX5.out.res { s with q := [], fifo := true } (.slice none 0 0) ov)
      clear HX4
      go_upto_region 33 with fail
      generalize w4.setCell ⟨w.heap.size, 6, none⟩ (.bool true) = w5 at *
      clear c6 f6
      go_wp2_with (first | (refine wpList_load_row rfl X17 _ rfl w.heap.size rfl X17 _ (0, 0) _ HX5.out.x Tryz.underlying51 rfl info_X17 ?_) | (refine wpList_store_row rfl X17 _ _ rfl (w.heap.size + 1) (xuV { s with q := [], fifo := true } (.slice none 0 0) ov) rfl rfl X17 _ HX5.out.r info_X17 rfl (xuV_one _ rfl HO.out.one) ?_))
      exact bodyPost_ret (results_cbU X17 Tryz.results37 _ _ (w.heap.size + 1) _ _ rfl rfl HX3.out.ret) rfl ⟨_, _, rfl, ⟨VwG.nil _ _, HO.out.low HX3.out.bel, HX3.out.bel⟩⟩
    | true =>
      cases q1 with
      | false =>
        rw [if_neg (by simp)]
        go_enter Tryz.func37, Tryz.ntmps37
        go_upto_region 1 with fail
        generalize (w.alloc (Obj.cells (xuV s iv ov) X17)).alloc (Obj.cells (xuV Ut.zero (.slice none 0 0) (.slice none 0 0)) X17) = w1 at *
        have c1 := HX.out.cells.2.1
        go_wp2_with fail
        refine (H7.out _).mono ?_
        rintro e w2 ⟨rfl, rfl⟩
        clear c1 H7
        have c6 := HX.out.cells.2.2.2.2.2.2.1
        rw [HFF.out] at c6
        have f6 := HX.out.x.frozen 6
        go_wp2_with fail
        refine (B1.out _).mono ?_
        rintro e w3 ⟨rfl, rfl⟩
        have HX5 := Lib.hid (HX.out.upd (i := 6) (v := .bool true) (u := { s with fifo := true }) (kv := iv) (lv := ov) rfl)
        have HX3 := Lib.hid (HX5.out.res { s with fifo := true } iv ov)
        clear HX
        go_upto_region 33 with fail
        generalize w3.setCell ⟨w.heap.size, 6, none⟩ (.bool true) = w5 at *
        clear c6 f6
        go_wp2_with (first | (refine wpList_load_row rfl X17 _ rfl w.heap.size rfl X17 _ (0, 0) _ HX5.out.x Tryz.underlying51 rfl info_X17 ?_) | (refine wpList_store_row rfl X17 _ _ rfl (w.heap.size + 1) (xuV { s with fifo := true } iv ov) rfl rfl X17 _ HX5.out.r info_X17 rfl (xuV_one _ HI.out.one HO.out.one) ?_))
        exact bodyPost_ret (results_cbU X17 Tryz.results37 _ _ (w.heap.size + 1) _ _ rfl rfl HX3.out.ret) rfl ⟨_, _, rfl, ⟨HI.out.low HX3.out.bel, HO.out.low HX3.out.bel, HX3.out.bel⟩⟩
      | true =>
        rw [if_pos (by simp)]
        go_enter Tryz.func37, Tryz.ntmps37
        go_upto_region 1 with fail
        generalize (w.alloc (Obj.cells (xuV s iv ov) X17)).alloc (Obj.cells (xuV Ut.zero (.slice none 0 0) (.slice none 0 0)) X17) = w1 at *
        have c1 := HX.out.cells.2.1
        go_wp2_with fail
        refine (H7.out _).mono ?_
        rintro e w2 ⟨rfl, rfl⟩
        clear c1 H7
        have c6 := HX.out.cells.2.2.2.2.2.2.1
        rw [HFF.out] at c6
        have f6 := HX.out.x.frozen 6
        have c9 := HX.out.cells.2.2.2.2.2.2.2.2.2.1
        rw [HIV.out] at c9
        have f9 := HX.out.x.frozen 9
        have HX4 := Lib.hid (HX.out.upd (i := 9) (v := .slice none 0 0) (u := { s with q := [] }) (kv := .slice none 0 0) (lv := ov) rfl)
        go_wp2_with fail
        refine (B1.out _).mono ?_
        rintro e w3 ⟨rfl, rfl⟩
        go_upto_region 23 with fail
        generalize w3.setCell ⟨w.heap.size, 9, none⟩ (.slice none 0 0) = w4 at *
        clear c6 c9 f6 f9 HX
        have c6 := HX4.out.cells.2.2.2.2.2.2.1
        have f6 := HX4.out.x.frozen 6
        have HX5 := Lib.hid (HX4.out.upd (i := 6) (v := .bool true) (u := { s with q := [], fifo := true }) (kv := (.slice none 0 0)) (lv := ov) rfl)
        have HX3 := Lib.hid (HX5.out.res { s with q := [], fifo := true } (.slice none 0 0) ov)
        clear HX4
        go_upto_region 33 with fail
        generalize w4.setCell ⟨w.heap.size, 6, none⟩ (.bool true) = w5 at *
        clear c6 f6
        go_wp2_with (first | (refine wpList_load_row rfl X17 _ rfl w.heap.size rfl X17 _ (0, 0) _ HX5.out.x Tryz.underlying51 rfl info_X17 ?_) | (refine wpList_store_row rfl X17 _ _ rfl (w.heap.size + 1) (xuV { s with q := [], fifo := true } (.slice none 0 0) ov) rfl rfl X17 _ HX5.out.r info_X17 rfl (xuV_one _ rfl HO.out.one) ?_))
        exact bodyPost_ret (results_cbU X17 Tryz.results37 _ _ (w.heap.size + 1) _ _ rfl rfl HX3.out.ret) rfl ⟨_, _, rfl, ⟨VwG.nil _ _, HO.out.low HX3.out.bel, HX3.out.bel⟩⟩
set_option maxHeartbeats 8000000 in
theorem rwrite0s (G : Nat → Prop) (s : Ut.S) (iv ov : Value) (x : Int) (hx : Ut.isB x) (w : World) (hG : ∀ k, G k → k < w.heap.size) (hi : VwG G w iv s.q) (ho : VwG G w ov s.out) (ok : Ut.Ok s) (hl : Ut.hi s = false) (hp : Ut.lp s = false) (hn : s.out.length < 900) :
    Calls Tryz.prog 37 #[.agg (xuV s iv ov), .int .u64 0, .int .i64 x] w fun e w' => ∃ iv' ov', e = .returned (.tuple #[.agg (xuV (Ut.writeS s 0 x) iv' ov'), .bool (Ut.is 0)]) ∧ XuQ G w w' (Ut.writeS s 0 x) iv' ov' := by
  have HX := Lib.hid (XuAt.new w s iv ov)
  have hz := zero_x17
  have HI := Lib.hid hi
  have HO := Lib.hid ho
  have HG := Lib.hid hG
  have HOK := Lib.hid ok
  have HXB := Lib.hid hx
  have hx0 := hx.1
  have hx1 := hx.2
  have H7 := Lib.hid (rbit_c s.lcr 7 ok.lcr.1 (by have := ok.lcr.2; omega) (by omega))
  have e7 := Ut.bti_b s.lcr 7
  have hhi : Ut.bt s.lcr 7 = Ut.hi s := rfl
  rw [hhi] at e7
  clear hi ho hhi hx ok
  generalize Ut.bti s.lcr 7 = b7 at *
  rw [Ut.write0, Ut.is_lt (by omega), if_neg (by rw [hl]; simp), if_neg (by rw [hp]; simp)]
  rw [hl] at e7
  have B4 := Lib.hid (rbit_c s.mcr 4 HOK.out.mcr.1 (by have := HOK.out.mcr.2; omega) (by omega))
  have e4 := Ut.bti_b s.mcr 4
  have hlp : Ut.bt s.mcr 4 = Ut.lp s := rfl
  rw [hlp, hp] at e4
  clear hl hp hlp
  generalize Ut.bti s.mcr 4 = b4 at *
  obtain ⟨p, cap, hov, hV, -⟩ := HO.out.form
  have HOV := Lib.hid hov
  have HV := Lib.hid hV
  have e8 := wrap_u8 HXB.out
  have HNO := Lib.hid hn
  clear hov hV hn
  go_enter Tryz.func37, Tryz.ntmps37
  go_upto_region 1 with fail
  generalize (w.alloc (Obj.cells (xuV s iv ov) X17)).alloc (Obj.cells (xuV Ut.zero (.slice none 0 0) (.slice none 0 0)) X17) = w1 at *
  have c1 := HX.out.cells.2.1
  go_wp2_with fail
  refine (H7.out _).mono ?_
  rintro e w2 ⟨rfl, rfl⟩
  clear c1 H7
  have c2 := HX.out.cells.2.2.1
  go_wp2_with fail
  refine (B4.out _).mono ?_
  rintro e w3 ⟨rfl, rfl⟩
  have hb1 := HX.out.bel
  have HB1 := Lib.hid hb1
  have c10 := HX.out.cells.2.2.2.2.2.2.2.2.2.2
  rw [HOV.out] at c10
  have hE : (w3.alloc (.cells #[] U8)).ownsRow w3.heap.size U8 1 (.slice (some ⟨w3.heap.size, 0, none⟩) 0 0) 0 [] := ⟨rfl, .inr ⟨w3.heap.size, 0, #[], rfl, Nat.le_refl _, CsAt.new w3 U8 #[], Nat.le_refl _, Nat.zero_le _, rfl, rfl⟩⟩
  have HE := Lib.hid hE
  have HB2 := Lib.hid ((Below.refl w3.heap.size w3).alloc (Nat.le_refl _) (.cells #[] U8))
  have HV2 := Lib.hid ((HV.out.low hb1).low HB2.out)
  have HLN := Lib.hid (show (u8V s.out).length = s.out.length * 1 by rw [u8V_len]; omega)
  have c10b := (HB2.out.cell (p := ⟨w.heap.size, 10, none⟩) HX.out.x.lt).trans c10
  clear hE hb1 c2
  go_wp2_with (at_builtin; refine wpList_cat rfl _ _ U8S rfl w3.heap.size U8 _ 1 1 Tryz.underlying49 info_u8 rfl (by omega) (by omega) _ 0 [] rfl HE.out _ s.out.length cap (u8V s.out) rfl HV2.out HLN.out (u8V_one s.out) (by have := HNO.out; omega) HB2.out.size ?_)
  intro v4 w4 ho4 hb4
  have HO4 := Lib.hid ho4
  have HB4 := Lib.hid (HB2.out.trans hb4)
  clear ho4 hb4 c10b
  go_wp2_with (at_builtin; refine wpList_push rfl _ _ U8S rfl w3.heap.size U8 _ 1 1 Tryz.underlying49 info_u8 rfl (by omega) (by omega) _ s.out.length _ rfl HO4.out #[.int .u8 x] rfl (one_u8 x) _ rfl rfl (by have := HNO.out; omega) HB4.out.size ?_)
  intro v5 w5 ho5 hb5
  have hbb := HB4.out.trans hb5
  have hX5 := HX.out.low hbb
  have ho6 : w5.ownsRow w3.heap.size U8 1 v5 (s.out ++ [x]).length (u8V (s.out ++ [x])) := by simpa [u8V] using ho5
  have j10 := hX5.x.cell 10
  have g10 := hX5.x.frozen 10
  simp only [xuV, List.getElem?_toArray, List.getElem?_cons_succ, List.getElem?_cons_zero] at j10
  rw [HOV.out] at j10
  have hX6 := hX5.upd (i := 10) (v := v5) (u := { s with out := s.out ++ [x] }) (kv := iv) (lv := v5) rfl
  have HX6 := Lib.hid hX6
  have hX7 := hX6.upd (i := 8) (v := .bool true) (u := { s with out := s.out ++ [x], empty := true }) (kv := iv) (lv := v5) rfl
  have HX7 := Lib.hid hX7
  have HX3 := Lib.hid (hX7.res { s with out := s.out ++ [x], empty := true } iv v5)
  have hne := (HX.out.r).lt
  obtain ⟨p3, cap3, hv3, -⟩ := own_form ho5
  subst hv3
  have hvg2 : VwG G (((w5.setCell ⟨w.heap.size, 10, none⟩ (.slice p3 (s.out.length + 1) cap3)).setCell ⟨w.heap.size, 8, none⟩ (.bool true)).setRow (w.heap.size + 1) (xuV { s with out := s.out ++ [x], empty := true } iv (.slice p3 (s.out.length + 1) cap3))) (.slice p3 (s.out.length + 1) cap3) (s.out ++ [x]) := by
    have hc : Chg (fun k => k = w.heap.size ∨ k = w.heap.size + 1) w5 (((w5.setCell ⟨w.heap.size, 10, none⟩ (.slice p3 (s.out.length + 1) cap3)).setCell ⟨w.heap.size, 8, none⟩ (.bool true)).setRow (w.heap.size + 1) (xuV { s with out := s.out ++ [x], empty := true } iv (.slice p3 (s.out.length + 1) cap3))) := ((Chg.of_cell (.inl rfl) 10 _).trans (Chg.of_cell (.inl rfl) 8 _)).trans (Chg.of_row (.inr rfl) _)
    exact own_vwG (hc.own ho6 (fun k hk => by have := (ho6.lt k hk).1; intro e; rcases e with e | e <;> omega)) (fun k hk => Nat.lt_of_lt_of_le (HG.out k hk) HB1.out.size)
  have HVF := Lib.hid hvg2
  have k8 := hX6.x.cell 8
  have f8 := hX6.x.frozen 8
  simp only [xuV, List.getElem?_toArray, List.getElem?_cons_succ, List.getElem?_cons_zero] at k8
  clear ho5 hb5 hbb hX5 ho6 hvg2 hne HB2 HE HV2 c10 HX hX6 hX7 HO4 HB4
  go_upto_region 12 with fail
  generalize w5.setCell ⟨w.heap.size, 10, none⟩ (.slice p3 (s.out.length + 1) cap3) = w6 at *
  clear j10 g10
  go_upto_region 33 with fail
  generalize w6.setCell ⟨w.heap.size, 8, none⟩ (.bool true) = w7 at *
  clear k8 f8
  go_wp2_with (first | (refine wpList_load_row rfl X17 _ rfl w.heap.size rfl X17 _ (0, 0) _ HX7.out.x Tryz.underlying51 rfl info_X17 ?_) | (refine wpList_store_row rfl X17 _ _ rfl (w.heap.size + 1) (xuV { s with out := s.out ++ [x], empty := true } iv (.slice p3 (s.out.length + 1) cap3)) rfl rfl X17 _ HX7.out.r info_X17 rfl (xuV_one _ HI.out.one rfl) ?_))
  exact bodyPost_ret (results_cbU X17 Tryz.results37 _ _ (w.heap.size + 1) _ _ rfl rfl HX3.out.ret) rfl ⟨_, _, rfl, ⟨HI.out.low HX3.out.bel, HVF.out, HX3.out.bel⟩⟩
set_option maxHeartbeats 8000000 in
theorem rwrite0l (G : Nat → Prop) (s : Ut.S) (iv ov : Value) (x : Int) (hx : Ut.isB x) (w : World) (hG : ∀ k, G k → k < w.heap.size) (hi : VwG G w iv s.q) (ho : VwG G w ov s.out) (ok : Ut.Ok s) (hl : Ut.hi s = false) (hp : Ut.lp s = true) :
    Calls Tryz.prog 37 #[.agg (xuV s iv ov), .int .u64 0, .int .i64 x] w fun e w' => ∃ iv' ov', e = .returned (.tuple #[.agg (xuV (Ut.writeS s 0 x) iv' ov'), .bool (Ut.is 0)]) ∧ XuQ G w w' (Ut.writeS s 0 x) iv' ov' := by
  have HX := Lib.hid (XuAt.new w s iv ov)
  have hz := zero_x17
  have HI := Lib.hid hi
  have HO := Lib.hid ho
  have HG := Lib.hid hG
  have HOK := Lib.hid ok
  have HXB := Lib.hid hx
  have hx0 := hx.1
  have hx1 := hx.2
  have H7 := Lib.hid (rbit_c s.lcr 7 ok.lcr.1 (by have := ok.lcr.2; omega) (by omega))
  have e7 := Ut.bti_b s.lcr 7
  have hhi : Ut.bt s.lcr 7 = Ut.hi s := rfl
  rw [hhi] at e7
  clear hi ho hhi hx ok
  generalize Ut.bti s.lcr 7 = b7 at *
  rw [Ut.write0, Ut.is_lt (by omega), if_neg (by rw [hl]; simp), if_pos hp]
  rw [hl] at e7
  have B4 := Lib.hid (rbit_c s.mcr 4 HOK.out.mcr.1 (by have := HOK.out.mcr.2; omega) (by omega))
  have e4 := Ut.bti_b s.mcr 4
  have hlp : Ut.bt s.mcr 4 = Ut.lp s := rfl
  rw [hlp, hp] at e4
  clear hl hp hlp
  generalize Ut.bti s.mcr 4 = b4 at *
  have HC := Lib.hid (fun W (hb : w.heap.size + 2 ≤ W.heap.size) (h1 : VwG (G2 G w) W iv s.q) (h2 : VwG (G2 G w) W ov s.out) => rcome_c (G2 G w) s iv ov x HXB.out W (lt2 HG.out hb) h1 h2 HOK.out)
  generalize Ut.comeS s x = t at *
  generalize Ut.comeB s = tb at *
  go_enter Tryz.func37, Tryz.ntmps37
  go_upto_region 1 with fail
  generalize (w.alloc (Obj.cells (xuV s iv ov) X17)).alloc (Obj.cells (xuV Ut.zero (.slice none 0 0) (.slice none 0 0)) X17) = w1 at *
  have c1 := HX.out.cells.2.1
  go_wp2_with fail
  refine (H7.out _).mono ?_
  rintro e w2 ⟨rfl, rfl⟩
  clear c1 H7
  have c2 := HX.out.cells.2.2.1
  go_wp2_with fail
  refine (B4.out _).mono ?_
  rintro e w3 ⟨rfl, rfl⟩
  clear c2
  go_wp2_with (refine wpList_load_row rfl X17 _ rfl w.heap.size rfl X17 _ (0, 0) _ HX.out.x Tryz.underlying51 rfl info_X17 ?_)
  refine (HC.out w3 HX.out.size2 (HI.out.g2 HX.out.bel) (HO.out.g2 HX.out.bel)).mono ?_
  rintro e w4 ⟨iv4, ov4, rfl, hq4⟩
  have hX4 := HX.out.low hq4.bel
  have hb5 : Below w4.heap.size w4 (w4.alloc (.cells (xuV t iv4 ov4) X17)) := (Below.refl _ _).alloc (Nat.le_refl _) _
  have hX5 := hX4.low hb5
  have HQB := Lib.hid (CsAt.new w4 X17 (xuV t iv4 ov4))
  have HX5 := Lib.hid hX5
  have HI4 := Lib.hid (hq4.i.low hb5)
  have HO4 := Lib.hid (hq4.o.low hb5)
  have HONE := Lib.hid (xuV_one t hq4.i.one hq4.o.one)
  have HON2 := Lib.hid (xuV_one { t with empty := true } hq4.i.one hq4.o.one)
  clear hX4 hX5 hb5 hq4 HX HC
  go_upto_region 10 with (refine wpList_storeNew (w0 := w4) rfl X17 _ _ rfl (xuV Ut.zero (.slice none 0 0) (.slice none 0 0)) (xuV t iv4 ov4) X17 rfl rfl info_X17 rfl HONE.out ?_)
  generalize w4.alloc (.cells (xuV t iv4 ov4) X17) = w5 at *
  have HX6 := Lib.hid (HX5.out.all t iv4 ov4)
  have k8 : (w5.setRow w.heap.size (xuV t iv4 ov4)).cell? ⟨w.heap.size, 8, none⟩ = some (.bool t.empty) := HX6.out.x.cell 8
  have f8 := HX6.out.x.frozen 8
  have HX7 := Lib.hid (HX6.out.upd (i := 8) (v := .bool true) (u := { t with empty := true }) (kv := iv4) (lv := ov4) rfl)
  have HX3 := Lib.hid (HX7.out.res { t with empty := true } iv4 ov4)
  have hc : Chg (fun k => k = w.heap.size ∨ k = w.heap.size + 1) w5 (((w5.setRow w.heap.size (xuV t iv4 ov4)).setCell ⟨w.heap.size, 8, none⟩ (.bool true)).setRow (w.heap.size + 1) (xuV { t with empty := true } iv4 ov4)) := ((Chg.of_row (.inl rfl) _).trans (Chg.of_cell (.inl rfl) 8 _)).trans (Chg.of_row (.inr rfl) _)
  have HVI := Lib.hid (HI4.out.of2 hc)
  have HVO := Lib.hid (HO4.out.of2 hc)
  clear hc
  go_upto_region 12 with (first | (refine wpList_load_row rfl X17 _ rfl w4.heap.size rfl X17 _ (0, 0) _ HQB.out Tryz.underlying51 rfl info_X17 ?_) | (refine wpList_store_row rfl X17 _ _ rfl w.heap.size (xuV t iv4 ov4) rfl rfl X17 _ HX5.out.x info_X17 rfl HONE.out ?_))
  generalize w5.setRow w.heap.size (xuV t iv4 ov4) = w6 at *
  go_upto_region 33 with fail
  generalize w6.setCell ⟨w.heap.size, 8, none⟩ (.bool true) = w7 at *
  clear k8 f8
  go_wp2_with (first | (refine wpList_load_row rfl X17 _ rfl w.heap.size rfl X17 _ (0, 0) _ HX7.out.x Tryz.underlying51 rfl info_X17 ?_) | (refine wpList_store_row rfl X17 _ _ rfl (w.heap.size + 1) (xuV { t with empty := true } iv4 ov4) rfl rfl X17 _ HX7.out.r info_X17 rfl HON2.out ?_))
  exact bodyPost_ret (results_cbU X17 Tryz.results37 _ _ (w.heap.size + 1) _ _ rfl rfl HX3.out.ret) rfl ⟨_, _, rfl, ⟨HVI.out, HVO.out, HX3.out.bel⟩⟩
theorem rwrite_c (G : Nat → Prop) (s : Ut.S) (iv ov : Value) (off x : Int) (o0 : 0 ≤ off) (hx : Ut.isB x) (w : World) (hG : ∀ k, G k → k < w.heap.size) (hi : VwG G w iv s.q) (ho : VwG G w ov s.out) (ok : Ut.Ok s) (hn : s.out.length < 900) :
    Calls Tryz.prog 37 #[.agg (xuV s iv ov), .int .u64 off, .int .i64 x] w fun e w' => ∃ iv' ov', e = .returned (.tuple #[.agg (xuV (Ut.writeS s off x) iv' ov'), .bool (Ut.is off)]) ∧ XuQ G w w' (Ut.writeS s off x) iv' ov' := by
  by_cases hf : 8 ≤ off
  · exact rwrite_far G s iv ov off x hx w hG hi ho ok hf
  · obtain rfl | rfl | rfl | rfl | rfl | rfl | rfl | rfl : off = 0 ∨ off = 1 ∨ off = 2 ∨ off = 3 ∨ off = 4 ∨ off = 5 ∨ off = 6 ∨ off = 7 := by omega
    · cases hl : Ut.hi s with
      | true => exact rwrite0h G s iv ov x hx w hG hi ho ok hl
      | false =>
        cases hp : Ut.lp s with
        | true => exact rwrite0l G s iv ov x hx w hG hi ho ok hl hp
        | false => exact rwrite0s G s iv ov x hx w hG hi ho ok hl hp hn
    · cases hl : Ut.hi s with
      | true => exact rwrite1h G s iv ov x hx w hG hi ho ok hl
      | false => exact rwrite1n G s iv ov x hx w hG hi ho ok hl
    · exact rwrite2 G s iv ov x hx w hG hi ho ok
    · exact rwrite3 G s iv ov x hx w hG hi ho ok
    · exact rwrite4 G s iv ov x hx w hG hi ho ok
    · exact rwrite5 G s iv ov x hx w hG hi ho ok
    · exact rwrite6 G s iv ov x hx w hG hi ho ok
    · exact rwrite7 G s iv ov x hx w hG hi ho ok
end Go.Proofs.YtfjdalepaacmgaaGreat
set_option maxRecDepth 20000
namespace Go.Proofs.YtfjdalepaacmgaaGreat
open Go.ChangeShapes Go.WideShapes Go.ChangeAt Go.RowKit

/-! The reference's Same. -/
theorem sameU_all (s t : Ut.S) : sameU s t = (!(s.ier != t.ier) && !(s.lcr != t.lcr) && !(s.mcr != t.mcr) && !(s.scr != t.scr) && !(s.dll != t.dll) && !(s.dlm != t.dlm) && (s.fifo == t.fifo) && (s.lost == t.lost) && (s.empty == t.empty) && eqB s.q t.q && eqB s.out t.out) := by
  simp only [sameU, stE, stV, Eqf.eqL, Eqf.eqv, bne, Bool.not_not, Bool.and_true, Bool.and_assoc]
set_option maxHeartbeats 16000000 in
theorem rsame_c (G H : Nat → Prop) (s t : Ut.S) (iv ov jv qv : Value) (w : World) (hi : VwG G w iv s.q) (ho : VwG G w ov s.out) (hj : VwG H w jv t.q) (hq : VwG H w qv t.out) (n1 : s.q.length ≤ 900) (n2 : s.out.length ≤ 900) :
    Calls Tryz.prog 49 #[.agg (xuV s iv ov), .agg (xuV t jv qv)] w fun e w' => e = .returned (.bool (sameU s t)) ∧ Below w.heap.size w w' := by
  have HU := Lib.hid (sameU_all s t)
  have hba : Below w.heap.size w ((w.alloc (.cells (xuV s iv ov) X17)).alloc (.cells (xuV t jv qv) X17)) := ((Below.refl _ _).alloc (Nat.le_refl _) _).alloc (by simp) _
  have HB := Lib.hid hba
  have hr1 : CsAt ((w.alloc (.cells (xuV s iv ov) X17)).alloc (.cells (xuV t jv qv) X17)) w.heap.size X17 (xuV s iv ov) := (CsAt.new w X17 _).alloc _
  have hr2 : CsAt ((w.alloc (.cells (xuV s iv ov) X17)).alloc (.cells (xuV t jv qv) X17)) (w.heap.size + 1) X17 (xuV t jv qv) := by
    have := CsAt.new (w.alloc (.cells (xuV s iv ov) X17)) X17 (xuV t jv qv)
    rwa [show (w.alloc (.cells (xuV s iv ov) X17)).heap.size = w.heap.size + 1 by simp] at this
  have HR1 := Lib.hid hr1
  have HR2 := Lib.hid hr2
  have HQ := Lib.hid (fun W (hb : Below w.heap.size w W) => rbytes_c iv jv s.q t.q W (hi.low hb).b (hj.low hb).b (by omega))
  have HO := Lib.hid (fun W (hb : Below w.heap.size w W) => rbytes_c ov qv s.out t.out W (ho.low hb).b (hq.low hb).b (by omega))
  obtain ⟨p1, c1, rfl, -⟩ := hi
  obtain ⟨p2, c2, rfl, -⟩ := ho
  obtain ⟨p3, c3, rfl, -⟩ := hj
  obtain ⟨p4, c4, rfl, -⟩ := hq
  clear hba hr1 hr2
  obtain ⟨res, hres⟩ : ∃ res, sameU s t = res := ⟨_, rfl⟩
  rw [hres] at HU ⊢
  clear hres
  generalize eqB s.q t.q = r1 at *
  generalize eqB s.out t.out = r2 at *
  go_enter Tryz.func49, Tryz.ntmps49
  go_upto_region 1 with fail
  generalize (w.alloc (.cells (xuV s (.slice p1 s.q.length c1) (.slice p2 s.out.length c2)) X17)).alloc (.cells (xuV t (.slice p3 t.q.length c3) (.slice p4 t.out.length c4)) X17) = w1 at *
  have a0 := HR1.out.cell 0
  have b0 := HR2.out.cell 0
  have a1 := HR1.out.cell 1
  have b1 := HR2.out.cell 1
  have a2 := HR1.out.cell 2
  have b2 := HR2.out.cell 2
  have a3 := HR1.out.cell 3
  have b3 := HR2.out.cell 3
  have a4 := HR1.out.cell 4
  have b4 := HR2.out.cell 4
  have a5 := HR1.out.cell 5
  have b5 := HR2.out.cell 5
  have a6 := HR1.out.cell 6
  have b6 := HR2.out.cell 6
  have a7 := HR1.out.cell 7
  have b7 := HR2.out.cell 7
  have a8 := HR1.out.cell 8
  have b8 := HR2.out.cell 8
  have a9 := HR1.out.cell 9
  have b9 := HR2.out.cell 9
  have a10 := HR1.out.cell 10
  have b10 := HR2.out.cell 10
  simp only [xuV, List.getElem?_toArray, List.getElem?_cons_succ, List.getElem?_cons_zero] at a0 b0 a1 b1 a2 b2 a3 b3 a4 b4 a5 b5 a6 b6 a7 b7 a8 b8 a9 b9 a10 b10
  obtain ⟨e0, he0⟩ : ∃ e, (s.ier != t.ier) = e := ⟨_, rfl⟩
  obtain ⟨e1, he1⟩ : ∃ e, (s.lcr != t.lcr) = e := ⟨_, rfl⟩
  obtain ⟨e2, he2⟩ : ∃ e, (s.mcr != t.mcr) = e := ⟨_, rfl⟩
  obtain ⟨e3, he3⟩ : ∃ e, (s.scr != t.scr) = e := ⟨_, rfl⟩
  obtain ⟨e4, he4⟩ : ∃ e, (s.dll != t.dll) = e := ⟨_, rfl⟩
  obtain ⟨e5, he5⟩ : ∃ e, (s.dlm != t.dlm) = e := ⟨_, rfl⟩
  obtain ⟨e6, he6⟩ : ∃ e, (s.fifo == t.fifo) = e := ⟨_, rfl⟩
  obtain ⟨e7, he7⟩ : ∃ e, (s.lost == t.lost) = e := ⟨_, rfl⟩
  obtain ⟨e8, he8⟩ : ∃ e, (s.empty == t.empty) = e := ⟨_, rfl⟩
  rw [he0, he1, he2, he3, he4, he5, he6, he7, he8] at HU
  clear HR1 HR2
  generalize s.ier = xier at *
  generalize t.ier = yier at *
  generalize s.lcr = xlcr at *
  generalize t.lcr = ylcr at *
  generalize s.mcr = xmcr at *
  generalize t.mcr = ymcr at *
  generalize s.scr = xscr at *
  generalize t.scr = yscr at *
  generalize s.dll = xdll at *
  generalize t.dll = ydll at *
  generalize s.dlm = xdlm at *
  generalize t.dlm = ydlm at *
  generalize s.fifo = xfifo at *
  generalize t.fifo = yfifo at *
  generalize s.lost = xlost at *
  generalize t.lost = ylost at *
  generalize s.empty = xempty at *
  generalize t.empty = yempty at *
  cases e0 with
  | true =>
    go_wp2_with fail
    go_ret
    exact ⟨by rw [HU.out]; rfl, HB.out⟩
  | false =>
    cases e1 with
    | true =>
      go_wp2_with fail
      go_ret
      exact ⟨by rw [HU.out]; rfl, HB.out⟩
    | false =>
      cases e2 with
      | true =>
        go_wp2_with fail
        go_ret
        exact ⟨by rw [HU.out]; rfl, HB.out⟩
      | false =>
        cases e3 with
        | true =>
          go_wp2_with fail
          go_ret
          exact ⟨by rw [HU.out]; rfl, HB.out⟩
        | false =>
          cases e4 with
          | true =>
            go_wp2_with fail
            go_ret
            exact ⟨by rw [HU.out]; rfl, HB.out⟩
          | false =>
            cases e5 with
            | true =>
              go_wp2_with fail
              go_ret
              exact ⟨by rw [HU.out]; rfl, HB.out⟩
            | false =>
              cases e6 with
              | false =>
                go_wp2_with fail
                go_ret
                exact ⟨by rw [HU.out]; rfl, HB.out⟩
              | true =>
                cases e7 with
                | false =>
                  go_wp2_with fail
                  go_ret
                  exact ⟨by rw [HU.out]; rfl, HB.out⟩
                | true =>
                  cases e8 with
                  | false =>
                    go_wp2_with fail
                    go_ret
                    exact ⟨by rw [HU.out]; rfl, HB.out⟩
                  | true =>
                    go_wp2_with fail
                    refine (HQ.out _ HB.out).mono ?_
                    rintro e w2 ⟨rfl, hb2⟩
                    have HB2 := Lib.hid (HB.out.trans (hb2.mono HB.out.size))
                    have k10 := (hb2.cell (p := ⟨w.heap.size, 10, none⟩) (World.block_lt_of_cell? _ _ a10)).trans a10
                    have l10 := (hb2.cell (p := ⟨w.heap.size + 1, 10, none⟩) (World.block_lt_of_cell? _ _ b10)).trans b10
                    clear hb2 HQ a0 b0 a1 b1 a2 b2 a3 b3 a4 b4 a5 b5 a6 b6 a7 b7 a8 b8 a9 b9 a10 b10
                    cases r1 with
                    | false =>
                      go_wp2_with fail
                      go_ret
                      exact ⟨by rw [HU.out]; rfl, HB2.out⟩
                    | true =>
                      go_wp2_with fail
                      refine (HO.out _ HB2.out).mono ?_
                      rintro e w3 ⟨rfl, hb3⟩
                      have HB3 := Lib.hid (HB2.out.trans (hb3.mono HB2.out.size))
                      clear hb3 HO
                      go_wp2_with fail
                      go_ret
                      exact ⟨by rw [HU.out]; rfl, HB3.out⟩
/-! The law's do. -/
end Go.Proofs.YtfjdalepaacmgaaGreat
set_option maxRecDepth 20000
namespace Go.Proofs.YtfjdalepaacmgaaGreat
open Go.ChangeShapes Go.WideShapes Go.ChangeAt Go.RowKit

/-- The reference's bus. -/
def xbX (X : Bs.B) (us : Array Value) : Array Value := xbV X.n (x15V X.n X.c) (x16V X.n X.p) us
theorem xbX_size {X : Bs.B} {us : Array Value} (hc : X.c.length = 17) (hu : us.size = 11) : (xbX X us).size = 687 := xbV_size _ (x15_size _ _ hc) (x16_size' _ _) hu
section
variable {W : World} {b n : Nat} {c p u : Array Value}
theorem xb_at0 (h : CsAt W b BxT (xbV n c p u)) : W.cell? ⟨b, 0, none⟩ = some (.int .i64 n) := by rw [h.cell]; exact xbV_0 n c p u
theorem xb_rc (h : CsAt W b BxT (xbV n c p u)) : W.rangeAt b 1 c.toList := fun j v hv => by
  have hj : j < c.size := by simpa using (List.getElem?_eq_some_iff.1 hv).1
  rw [h.cell]
  unfold xbV
  rw [Array.append_assoc, Array.append_assoc, Array.getElem?_append_right (by simp), show 1 + j - (#[Value.int .i64 n] : Array Value).size = j by simp, Array.getElem?_append_left hj]
  simpa using hv
theorem xb_rp (hc : c.size = 18) (h : CsAt W b BxT (xbV n c p u)) : W.rangeAt b 19 p.toList := fun j v hv => by
  have hj : j < p.size := by simpa using (List.getElem?_eq_some_iff.1 hv).1
  rw [h.cell]
  unfold xbV
  have e : (#[Value.int .i64 n] ++ c : Array Value).size = 19 := by simp [hc]
  have e' : (#[Value.int .i64 n] ++ c ++ p : Array Value).size = 19 + p.size := by simp [hc]; omega
  rw [Array.getElem?_append_left (by omega), Array.getElem?_append_right (by omega), e, show 19 + j - 19 = j by omega]
  simpa using hv
theorem xb_ru (hc : c.size = 18) (hp : p.size = 657) (h : CsAt W b BxT (xbV n c p u)) : W.rangeAt b 676 u.toList := fun j v hv => by
  rw [h.cell]
  unfold xbV
  have e : (#[Value.int .i64 n] ++ c ++ p : Array Value).size = 676 := by simp [hc, hp]
  rw [Array.getElem?_append_right (by omega), e, show 676 + j - 676 = j by omega]
  simpa using hv
/-- A row within a block, loaded. -/
theorem wpList_load_part {P : Program} {ops : Array Oper} {rest : List Oper} {op : Oper} {a : Act} {w : World} {Q : Exit → Act → World → Prop} (hgd : op.guard = none) (ty : TypeId) (x : Operand) (ho : op.op = .load ty x)
    (b o : Nat) (hx : a.eval x = .pointer (some ⟨b, o, none⟩)) (cs : Array Value) (d : TypeDesc) (hc : w.rangeAt b o cs.toList)
    (hu : P.underlying ty = some d) (hd : d.isRow = true) (hi : (P.info? ty).map (·.size) = some cs.size)
    (h : wpList P ops Q rest (a.put op.dst (.agg cs)) w) : wpList P ops Q (op :: rest) a w :=
  wpList_load_mid hgd ty x ho b o hx cs.toList d hc hu hd (by simpa using hi) (by simpa using h)
end
theorem iX15B (n : Nat) (ws : List Int) (h : ws.length = 17) : (Tryz.prog.info? X15).map (·.size) = some (x15V n ws).size := by rw [x15_size n ws h]; kernel_rfl
set_option maxHeartbeats 4000000 in
theorem rlinesB_c (X : Bs.B) (us : Array Value) (okc : Ct.Ok X.n X.c) (okp : Pc.Ok X.n X.p) (h : Int) (hh : -4611686018427387000 ≤ h ∧ h ≤ 4611686018427387000) (w : World) :
    Calls Tryz.prog 38 #[.agg (xbX X us), .int .i64 h] w fun e w' => e = .returned (.int .u64 (Bs.lineB X h)) ∧ Below w.heap.size w w' := by
  have hB0 : Below w.heap.size w (w.alloc (.cells (xbX X us) BxT)) := (Below.refl _ _).alloc (Nat.le_refl _) _
  have hR0 : CsAt (w.alloc (.cells (xbX X us) BxT)) w.heap.size BxT (xbX X us) := CsAt.new w BxT _
  have HB := Lib.hid hB0
  have HR := Lib.hid hR0
  clear hB0 hR0
  have hn8 := okc.n8
  have g15 := x15_size X.n X.c okc.len
  have i15 := Lib.hid (iX15B X.n X.c okc.len)
  have HC := Lib.hid (fun W => rlines15_c X.n X.c okc h W)
  have HP0 := Lib.hid (fun W => rline16_c X.n X.p okp (2 * h) W)
  have HP1 := Lib.hid (fun W => rline16_c X.n X.p okp (2 * h + 1) W)
  have hlv := Bs.lineC_of X.n X.c h
  have HL := Lib.hid (show Bs.lineB X h = if Bs.hasB X.n h = true then Ct.lineC X.n X.c h + (if Pc.lineP X.n X.p (2 * h) = true then 2048 else 0) + (if Pc.lineP X.n X.p (2 * h + 1) = true then 512 else 0) else 0 by unfold Bs.lineB Bs.acc Bs.lineP; simp)
  have HH := Lib.hid (show Bs.hasB X.n h = decide (0 ≤ h ∧ h < X.n) from rfl)
  by_cases h0 : h < 0
  · have e0 : decide (h < 0) = true := by simpa using h0
    have HI := Lib.hid (show Bs.lineB X h = 0 by rw [HL.out, HH.out, if_neg (by simp; omega)])
    clear h0 HL HH hlv hh
    go_enter Tryz.func38, Tryz.ntmps38
    go_upto_region 1 with fail
    generalize w.alloc (.cells (xbX X us) BxT) = w1 at *
    go_wp2_with fail
    go_ret
    exact ⟨by rw [HI.out]; rfl, HB.out⟩
  · have e0 : decide (h < 0) = false := by simpa using h0
    by_cases h1 : h < X.n
    · have e1 : decide (h ≥ (X.n : Int)) = false := by simp; omega
      have HI := Lib.hid (show Bs.lineB X h = Ct.lineC X.n X.c h + (if Pc.lineP X.n X.p (2 * h) = true then 2048 else 0) + (if Pc.lineP X.n X.p (2 * h + 1) = true then 512 else 0) by rw [HL.out, HH.out, if_pos (by simp; omega)])
      have m1 : IntKind.i64.wrap (2 * h) = 2 * h := IntWalk.i64_in _ (by omega)
      have m2 : IntKind.i64.wrap (2 * h + 1) = 2 * h + 1 := IntWalk.i64_in _ (by omega)
      have m3 : wrap64 (2 * h) = 2 * h := by unfold wrap64; omega
      have m4 : wrap64 (2 * h + 1) = 2 * h + 1 := by unfold wrap64; omega
      clear HL HH h0 h1 hh
      generalize Ct.lineC X.n X.c h = x at *
      generalize Pc.lineP X.n X.p (2 * h) = l0 at *
      generalize Pc.lineP X.n X.p (2 * h + 1) = l1 at *
      go_enter Tryz.func38, Tryz.ntmps38
      go_upto_region 1 with fail
      generalize w.alloc (.cells (xbX X us) BxT) = w1 at *
      have q0 := xb_at0 HR.out
      go_wp2_with (refine wpList_load_part rfl X15 _ rfl w.heap.size 1 rfl (x15V X.n X.c) _ (xb_rc HR.out) Tryz.underlying42 rfl i15.out ?_)
      refine (HC.out _).mono ?_
      rintro e w2 ⟨rfl, hb⟩
      replace HB := Lib.hid (HB.out.trans (hb.mono HB.out.size))
      replace HR := Lib.hid (HR.out.low hb)
      clear hb q0
      go_wp2_with (refine wpList_load_part rfl X16 _ rfl w.heap.size 19 rfl (x16V X.n X.p) _ (xb_rp g15 HR.out) Tryz.underlying48 rfl iX16 ?_)
      refine (HP0.out _).mono ?_
      rintro e w3 ⟨rfl, hb⟩
      replace HB := Lib.hid (HB.out.trans (hb.mono HB.out.size))
      replace HR := Lib.hid (HR.out.low hb)
      clear hb
      cases l0 <;> cases l1
      all_goals
        have w1' : IntKind.u64.wrap (x + 2048) = x + 2048 := by rw [IntKind.wrap_u64]; omega
        have w2' : IntKind.u64.wrap (x + 2048 + 512) = x + 2048 + 512 := by rw [IntKind.wrap_u64]; omega
        have w3' : IntKind.u64.wrap (x + 512) = x + 512 := by rw [IntKind.wrap_u64]; omega
        clear hlv
        go_wp2_with (refine wpList_load_part rfl X16 _ rfl w.heap.size 19 rfl (x16V X.n X.p) _ (xb_rp g15 HR.out) Tryz.underlying48 rfl iX16 ?_)
        refine (HP1.out _).mono ?_
        rintro e w4 ⟨rfl, hb⟩
        replace HB := Lib.hid (HB.out.trans (hb.mono HB.out.size))
        clear hb
        go_wp2_with fail
        go_ret
        exact ⟨by rw [HI.out]; simp, HB.out⟩
    · have e1 : decide (h ≥ (X.n : Int)) = true := by simp; omega
      have HI := Lib.hid (show Bs.lineB X h = 0 by rw [HL.out, HH.out, if_neg (by simp; omega)])
      clear HL HH h0 h1 hlv hh
      go_enter Tryz.func38, Tryz.ntmps38
      go_upto_region 1 with fail
      generalize w.alloc (.cells (xbX X us) BxT) = w1 at *
      have q0 := xb_at0 HR.out
      go_wp2_with fail
      go_ret
      exact ⟨by rw [HI.out]; rfl, HB.out⟩
end Go.Proofs.YtfjdalepaacmgaaGreat
