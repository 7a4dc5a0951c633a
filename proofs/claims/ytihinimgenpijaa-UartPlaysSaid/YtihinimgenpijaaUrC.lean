/-
  The reference of layer 17: contract of Read.
-/
import Derived.Test.YtihinimgenpijaaUrB
set_option maxRecDepth 20000
namespace Go.Proofs.Ytihinimgenpijaa
open Go.ChangeShapes Go.WideShapes Go.ChangeAt Go.RowKit

namespace Ut
theorem bti_2 (m : Int) (i : Nat) : b2i (bt m i) = bti m i := by
  unfold b2i
  cases h : bt m i with
  | true => rw [bti_0 h]; rfl
  | false => rw [bti_n h]; rfl
theorem bti_rng (m : Int) (i : Nat) : 0 ≤ bti m i ∧ bti m i ≤ 1 := by unfold bti; omega
theorem modem_yes (m : Int) (h : bt m 4 = true) : modem m = 16 * bti m 1 + 32 * bti m 0 + 64 * bti m 2 + 128 * bti m 3 := by
  unfold modem
  rw [if_pos h, bti_2, bti_2, bti_2, bti_2]
end Ut
theorem wrapI {x : Int} (h0 : -9223372036854775808 ≤ x) (h1 : x ≤ 9223372036854775807) : IntKind.i64.wrap x = x := by rw [IntKind.wrap_i64]; omega
/-- Behind the first byte. -/
theorem VwG.tail {G : Nat → Prop} {w : World} {b off cap : Nat} {x : Int} {xs : List Int} (h : VwG G w (.slice (some ⟨b, off, none⟩) (xs.length + 1) cap) (x :: xs)) :
    w.cell? ⟨b, off, none⟩ = some (.int .u8 x) ∧ Vw w (some ⟨b, off + 1, none⟩) (u8V xs) ∧ xs.length + 1 ≤ cap := by
  obtain ⟨p, cap', e, hc, h1, h2⟩ := h
  cases e
  have h3 := h2 b off rfl
  refine ⟨by have := h3 0 (by simp); simpa using this, ?_, by simpa using hc⟩
  have hlt : b < w.heap.size := World.block_lt_of_cell? w ⟨b, off + 0, none⟩ (h3 0 (by simp))
  refine .inr ⟨b, off + 1, rfl, hlt, fun j u hj => ?_⟩
  have hl : j < xs.length := by
    have := (List.getElem?_eq_some_iff.1 hj).1
    rwa [u8V_len] at this
  have := h3 (j + 1) (by simp; omega)
  rw [show off + 1 + j = off + (j + 1) by omega, this, ← hj, u8V_at xs j hl]
  rfl

set_option maxHeartbeats 8000000 in
theorem rread_far (G : Nat → Prop) (s : Ut.S) (iv ov : Value) (off : Int) (w : World) (hG : ∀ k, G k → k < w.heap.size) (hi : VwG G w iv s.q) (ho : VwG G w ov s.out) (ok : Ut.Ok s) (hf : 8 ≤ off) :
    Calls Try.prog 38 #[.agg (xuV s iv ov), .int .u64 off] w fun e w' => ∃ iv' ov', e = .returned (.tuple #[.agg (xuV (Ut.readS s off) iv' ov'), .int .i64 (Ut.readV s off), .bool (Ut.is off)]) ∧ XuQ G w w' (Ut.readS s off) iv' ov' := by
  have HX := Lib.hid (XuAt.new w s iv ov)
  have hz := zero_x17
  have HI := Lib.hid hi
  have HO := Lib.hid ho
  have HG := Lib.hid hG
  have HOK := Lib.hid ok
  have H7 := Lib.hid (rbit_c s.lcr 7 ok.lcr.1 (by have := ok.lcr.2; omega) (by omega))
  have e7 := Ut.bti_b s.lcr 7
  have hhi : Ut.bt s.lcr 7 = Ut.hi s := rfl
  rw [hhi] at e7
  clear hi ho hhi
  generalize Ut.bti s.lcr 7 = b7 at *
  rw [(Ut.read_far (s := s) hf).1, (Ut.read_far (s := s) hf).2.1, (Ut.read_far (s := s) hf).2.2]
  have g0 : (off == 0) = false := by simp; omega
  have g1 : (off == 1) = false := by simp; omega
  have g2 : (off == 2) = false := by simp; omega
  have g3 : (off == 3) = false := by simp; omega
  have g4 : (off == 4) = false := by simp; omega
  have g5 : (off == 5) = false := by simp; omega
  have g6 : (off == 6) = false := by simp; omega
  have g7 : (off == 7) = false := by simp; omega
  clear hf
  go_enter Try.func38, Try.ntmps38
  go_upto_region 1 with fail
  generalize (w.alloc (Obj.cells (xuV s iv ov) X17)).alloc (Obj.cells (xuV Ut.zero (.slice none 0 0) (.slice none 0 0)) X17) = w1 at *
  have c1 := HX.out.cells.2.1
  go_wp2_with fail
  refine (H7.out _).mono ?_
  rintro e w2 ⟨rfl, rfl⟩
  clear c1 H7
  have HX3 := Lib.hid (HX.out.res s iv ov)
  go_wp2_with (first | (refine wpList_load_row rfl X17 _ rfl w.heap.size rfl X17 _ (0, 0) _ HX.out.x Try.underlying32 rfl info_X17 ?_) | (refine wpList_store_row rfl X17 _ _ rfl (w.heap.size + 1) (xuV s iv ov) rfl rfl X17 _ HX.out.r info_X17 rfl (xuV_one _ HI.out.one HO.out.one) ?_))
  exact bodyPost_ret (results_cbbU X17 Try.results38 _ _ (w.heap.size + 1) _ _ _ rfl rfl rfl HX3.out.ret) rfl ⟨_, _, rfl, ⟨HI.out.low HX3.out.bel, HO.out.low HX3.out.bel, HX3.out.bel⟩⟩
set_option maxHeartbeats 8000000 in
theorem rread3 (G : Nat → Prop) (s : Ut.S) (iv ov : Value) (w : World) (hG : ∀ k, G k → k < w.heap.size) (hi : VwG G w iv s.q) (ho : VwG G w ov s.out) (ok : Ut.Ok s) :
    Calls Try.prog 38 #[.agg (xuV s iv ov), .int .u64 3] w fun e w' => ∃ iv' ov', e = .returned (.tuple #[.agg (xuV (Ut.readS s 3) iv' ov'), .int .i64 (Ut.readV s 3), .bool (Ut.is 3)]) ∧ XuQ G w w' (Ut.readS s 3) iv' ov' := by
  have HX := Lib.hid (XuAt.new w s iv ov)
  have hz := zero_x17
  have HI := Lib.hid hi
  have HO := Lib.hid ho
  have HG := Lib.hid hG
  have HOK := Lib.hid ok
  have H7 := Lib.hid (rbit_c s.lcr 7 ok.lcr.1 (by have := ok.lcr.2; omega) (by omega))
  have e7 := Ut.bti_b s.lcr 7
  have hhi : Ut.bt s.lcr 7 = Ut.hi s := rfl
  rw [hhi] at e7
  clear hi ho hhi
  generalize Ut.bti s.lcr 7 = b7 at *
  rw [Ut.read3_v, Ut.read3_s, Ut.is_lt (by omega)]
  go_enter Try.func38, Try.ntmps38
  go_upto_region 1 with fail
  generalize (w.alloc (Obj.cells (xuV s iv ov) X17)).alloc (Obj.cells (xuV Ut.zero (.slice none 0 0) (.slice none 0 0)) X17) = w1 at *
  have c1 := HX.out.cells.2.1
  go_wp2_with fail
  refine (H7.out _).mono ?_
  rintro e w2 ⟨rfl, rfl⟩
  clear c1 H7
  go_upto_region 23 with fail
  have hs0 : CsAt w2.drew w.heap.size X17 (xuV s iv ov) := HX.out.x.low (below_dU (Below.refl _ _) 1)
  have HXd := Lib.hid (show XuAt w w2.drew s Ut.zero iv ov (.slice none 0 0) (.slice none 0 0) from HX.out.low (below_dU (Below.refl _ _) 1))
  refine wp_region_noPanic ?_
  refine wp_region_held (S := fun W => CsAt W w.heap.size X17 (xuV s iv ov)) (by kernel_rfl) ?_
  refine takeH (fuel := 5) (i := 0) (.agg (xuV s iv ov)) ?_ rfl (by kernel_rfl) (by kernel_rfl) (by kernel_rfl) (fun _ _ _ h => h) (by kernel_rfl) (fun W hS => exec_load_row X17 _ rfl w.heap.size rfl X17 _ _ hS Try.underlying32 rfl info_X17) hs0 ?_ ?_
  rotate_left 1
  · go_simp
    exact rfl
  refine takeH (fuel := 4) (i := 1) (.pointer (some ⟨w.heap.size, 1, none⟩)) ?_ rfl (by kernel_rfl) (by kernel_rfl) (by kernel_rfl) (fun _ _ _ h => h) (by kernel_rfl) (fun W hS => by go_simp) hs0 ?_ ?_
  rotate_left 1
  · go_simp
    exact rfl
  refine takeH (fuel := 3) (i := 2) (.int .i64 s.lcr) ?_ rfl (by kernel_rfl) (by kernel_rfl) (by kernel_rfl) (fun _ _ _ h => h) (by kernel_rfl) (fun W hS => by (have q := hS.cell 1; simp only [xuV, List.getElem?_toArray, List.getElem?_cons_succ, List.getElem?_cons_zero] at q; go_simp)) hs0 ?_ ?_
  rotate_left 1
  · go_simp
    exact rfl
  refine wpAnyH_all (fuel := 2) (rs := [3]) (by kernel_rfl) (by decide) ?_
  intro i hi
  obtain rfl : i = 3 := by simpa using hi
  refine wpOp_unitB (w2.drew.setRow (w.heap.size + 1) (xuV s iv ov)) _ rfl (by kernel_rfl) (exec_store_row X17 _ _ rfl (w.heap.size + 1) (xuV s iv ov) rfl rfl X17 _ HXd.out.r info_X17 rfl (xuV_one _ HI.out.one HO.out.one)) rfl ?_
  have HX3 := Lib.hid (HXd.out.res s iv ov)
  have hs1 := HX3.out.x
  refine ⟨hs1, ?_⟩
  refine takeH (fuel := 1) (i := 4) (.int .i64 s.lcr) ?_ rfl (by kernel_rfl) (by kernel_rfl) (by kernel_rfl) (fun _ _ _ h => h) (by kernel_rfl) (fun W hS => by go_simp) hs1 ?_ ?_
  rotate_left 1
  · go_simp
    exact rfl
  refine takeH (fuel := 0) (i := 5) (.bool true) ?_ rfl (by kernel_rfl) (by kernel_rfl) (by kernel_rfl) (fun _ _ _ h => h) (by kernel_rfl) (fun W hS => by go_simp) hs1 ?_ ?_
  rotate_left 1
  · go_simp
    exact rfl
  refine wpAnyH_done (by kernel_rfl) ?_ _
  refine NoPanic.normal ?_
  clear hs0 hs1 HX
  generalize w2.drew.setRow (w.heap.size + 1) (xuV s iv ov) = w9 at *
  go_wp2_with fail
  exact bodyPost_ret (results_cbbU X17 Try.results38 _ _ (w.heap.size + 1) _ _ _ rfl rfl rfl HX3.out.ret) rfl ⟨_, _, rfl, ⟨HI.out.low HX3.out.bel, HO.out.low HX3.out.bel, HX3.out.bel⟩⟩
set_option maxHeartbeats 8000000 in
theorem rread4 (G : Nat → Prop) (s : Ut.S) (iv ov : Value) (w : World) (hG : ∀ k, G k → k < w.heap.size) (hi : VwG G w iv s.q) (ho : VwG G w ov s.out) (ok : Ut.Ok s) :
    Calls Try.prog 38 #[.agg (xuV s iv ov), .int .u64 4] w fun e w' => ∃ iv' ov', e = .returned (.tuple #[.agg (xuV (Ut.readS s 4) iv' ov'), .int .i64 (Ut.readV s 4), .bool (Ut.is 4)]) ∧ XuQ G w w' (Ut.readS s 4) iv' ov' := by
  have HX := Lib.hid (XuAt.new w s iv ov)
  have hz := zero_x17
  have HI := Lib.hid hi
  have HO := Lib.hid ho
  have HG := Lib.hid hG
  have HOK := Lib.hid ok
  have H7 := Lib.hid (rbit_c s.lcr 7 ok.lcr.1 (by have := ok.lcr.2; omega) (by omega))
  have e7 := Ut.bti_b s.lcr 7
  have hhi : Ut.bt s.lcr 7 = Ut.hi s := rfl
  rw [hhi] at e7
  clear hi ho hhi
  generalize Ut.bti s.lcr 7 = b7 at *
  rw [Ut.read4_v, Ut.read4_s, Ut.is_lt (by omega)]
  go_enter Try.func38, Try.ntmps38
  go_upto_region 1 with fail
  generalize (w.alloc (Obj.cells (xuV s iv ov) X17)).alloc (Obj.cells (xuV Ut.zero (.slice none 0 0) (.slice none 0 0)) X17) = w1 at *
  have c1 := HX.out.cells.2.1
  go_wp2_with fail
  refine (H7.out _).mono ?_
  rintro e w2 ⟨rfl, rfl⟩
  clear c1 H7
  go_upto_region 25 with fail
  have hs0 : CsAt w2.drew w.heap.size X17 (xuV s iv ov) := HX.out.x.low (below_dU (Below.refl _ _) 1)
  have HXd := Lib.hid (show XuAt w w2.drew s Ut.zero iv ov (.slice none 0 0) (.slice none 0 0) from HX.out.low (below_dU (Below.refl _ _) 1))
  refine wp_region_noPanic ?_
  refine wp_region_held (S := fun W => CsAt W w.heap.size X17 (xuV s iv ov)) (by kernel_rfl) ?_
  refine takeH (fuel := 5) (i := 0) (.agg (xuV s iv ov)) ?_ rfl (by kernel_rfl) (by kernel_rfl) (by kernel_rfl) (fun _ _ _ h => h) (by kernel_rfl) (fun W hS => exec_load_row X17 _ rfl w.heap.size rfl X17 _ _ hS Try.underlying32 rfl info_X17) hs0 ?_ ?_
  rotate_left 1
  · go_simp
    exact rfl
  refine takeH (fuel := 4) (i := 1) (.pointer (some ⟨w.heap.size, 2, none⟩)) ?_ rfl (by kernel_rfl) (by kernel_rfl) (by kernel_rfl) (fun _ _ _ h => h) (by kernel_rfl) (fun W hS => by go_simp) hs0 ?_ ?_
  rotate_left 1
  · go_simp
    exact rfl
  refine takeH (fuel := 3) (i := 2) (.int .i64 s.mcr) ?_ rfl (by kernel_rfl) (by kernel_rfl) (by kernel_rfl) (fun _ _ _ h => h) (by kernel_rfl) (fun W hS => by (have q := hS.cell 2; simp only [xuV, List.getElem?_toArray, List.getElem?_cons_succ, List.getElem?_cons_zero] at q; go_simp)) hs0 ?_ ?_
  rotate_left 1
  · go_simp
    exact rfl
  refine wpAnyH_all (fuel := 2) (rs := [3]) (by kernel_rfl) (by decide) ?_
  intro i hi
  obtain rfl : i = 3 := by simpa using hi
  refine wpOp_unitB (w2.drew.setRow (w.heap.size + 1) (xuV s iv ov)) _ rfl (by kernel_rfl) (exec_store_row X17 _ _ rfl (w.heap.size + 1) (xuV s iv ov) rfl rfl X17 _ HXd.out.r info_X17 rfl (xuV_one _ HI.out.one HO.out.one)) rfl ?_
  have HX3 := Lib.hid (HXd.out.res s iv ov)
  have hs1 := HX3.out.x
  refine ⟨hs1, ?_⟩
  refine takeH (fuel := 1) (i := 4) (.int .i64 s.mcr) ?_ rfl (by kernel_rfl) (by kernel_rfl) (by kernel_rfl) (fun _ _ _ h => h) (by kernel_rfl) (fun W hS => by go_simp) hs1 ?_ ?_
  rotate_left 1
  · go_simp
    exact rfl
  refine takeH (fuel := 0) (i := 5) (.bool true) ?_ rfl (by kernel_rfl) (by kernel_rfl) (by kernel_rfl) (fun _ _ _ h => h) (by kernel_rfl) (fun W hS => by go_simp) hs1 ?_ ?_
  rotate_left 1
  · go_simp
    exact rfl
  refine wpAnyH_done (by kernel_rfl) ?_ _
  refine NoPanic.normal ?_
  clear hs0 hs1 HX
  generalize w2.drew.setRow (w.heap.size + 1) (xuV s iv ov) = w9 at *
  go_wp2_with fail
  exact bodyPost_ret (results_cbbU X17 Try.results38 _ _ (w.heap.size + 1) _ _ _ rfl rfl rfl HX3.out.ret) rfl ⟨_, _, rfl, ⟨HI.out.low HX3.out.bel, HO.out.low HX3.out.bel, HX3.out.bel⟩⟩
set_option maxHeartbeats 8000000 in
theorem rread7 (G : Nat → Prop) (s : Ut.S) (iv ov : Value) (w : World) (hG : ∀ k, G k → k < w.heap.size) (hi : VwG G w iv s.q) (ho : VwG G w ov s.out) (ok : Ut.Ok s) :
    Calls Try.prog 38 #[.agg (xuV s iv ov), .int .u64 7] w fun e w' => ∃ iv' ov', e = .returned (.tuple #[.agg (xuV (Ut.readS s 7) iv' ov'), .int .i64 (Ut.readV s 7), .bool (Ut.is 7)]) ∧ XuQ G w w' (Ut.readS s 7) iv' ov' := by
  have HX := Lib.hid (XuAt.new w s iv ov)
  have hz := zero_x17
  have HI := Lib.hid hi
  have HO := Lib.hid ho
  have HG := Lib.hid hG
  have HOK := Lib.hid ok
  have H7 := Lib.hid (rbit_c s.lcr 7 ok.lcr.1 (by have := ok.lcr.2; omega) (by omega))
  have e7 := Ut.bti_b s.lcr 7
  have hhi : Ut.bt s.lcr 7 = Ut.hi s := rfl
  rw [hhi] at e7
  clear hi ho hhi
  generalize Ut.bti s.lcr 7 = b7 at *
  rw [Ut.read7_v, Ut.read7_s, Ut.is_lt (by omega)]
  go_enter Try.func38, Try.ntmps38
  go_upto_region 1 with fail
  generalize (w.alloc (Obj.cells (xuV s iv ov) X17)).alloc (Obj.cells (xuV Ut.zero (.slice none 0 0) (.slice none 0 0)) X17) = w1 at *
  have c1 := HX.out.cells.2.1
  go_wp2_with fail
  refine (H7.out _).mono ?_
  rintro e w2 ⟨rfl, rfl⟩
  clear c1 H7
  go_upto_region 39 with fail
  have hs0 : CsAt w2.drew w.heap.size X17 (xuV s iv ov) := HX.out.x.low (below_dU (Below.refl _ _) 1)
  have HXd := Lib.hid (show XuAt w w2.drew s Ut.zero iv ov (.slice none 0 0) (.slice none 0 0) from HX.out.low (below_dU (Below.refl _ _) 1))
  refine wp_region_noPanic ?_
  refine wp_region_held (S := fun W => CsAt W w.heap.size X17 (xuV s iv ov)) (by kernel_rfl) ?_
  refine takeH (fuel := 5) (i := 0) (.agg (xuV s iv ov)) ?_ rfl (by kernel_rfl) (by kernel_rfl) (by kernel_rfl) (fun _ _ _ h => h) (by kernel_rfl) (fun W hS => exec_load_row X17 _ rfl w.heap.size rfl X17 _ _ hS Try.underlying32 rfl info_X17) hs0 ?_ ?_
  rotate_left 1
  · go_simp
    exact rfl
  refine takeH (fuel := 4) (i := 1) (.pointer (some ⟨w.heap.size, 3, none⟩)) ?_ rfl (by kernel_rfl) (by kernel_rfl) (by kernel_rfl) (fun _ _ _ h => h) (by kernel_rfl) (fun W hS => by go_simp) hs0 ?_ ?_
  rotate_left 1
  · go_simp
    exact rfl
  refine takeH (fuel := 3) (i := 2) (.int .i64 s.scr) ?_ rfl (by kernel_rfl) (by kernel_rfl) (by kernel_rfl) (fun _ _ _ h => h) (by kernel_rfl) (fun W hS => by (have q := hS.cell 3; simp only [xuV, List.getElem?_toArray, List.getElem?_cons_succ, List.getElem?_cons_zero] at q; go_simp)) hs0 ?_ ?_
  rotate_left 1
  · go_simp
    exact rfl
  refine wpAnyH_all (fuel := 2) (rs := [3]) (by kernel_rfl) (by decide) ?_
  intro i hi
  obtain rfl : i = 3 := by simpa using hi
  refine wpOp_unitB (w2.drew.setRow (w.heap.size + 1) (xuV s iv ov)) _ rfl (by kernel_rfl) (exec_store_row X17 _ _ rfl (w.heap.size + 1) (xuV s iv ov) rfl rfl X17 _ HXd.out.r info_X17 rfl (xuV_one _ HI.out.one HO.out.one)) rfl ?_
  have HX3 := Lib.hid (HXd.out.res s iv ov)
  have hs1 := HX3.out.x
  refine ⟨hs1, ?_⟩
  refine takeH (fuel := 1) (i := 4) (.int .i64 s.scr) ?_ rfl (by kernel_rfl) (by kernel_rfl) (by kernel_rfl) (fun _ _ _ h => h) (by kernel_rfl) (fun W hS => by go_simp) hs1 ?_ ?_
  rotate_left 1
  · go_simp
    exact rfl
  refine takeH (fuel := 0) (i := 5) (.bool true) ?_ rfl (by kernel_rfl) (by kernel_rfl) (by kernel_rfl) (fun _ _ _ h => h) (by kernel_rfl) (fun W hS => by go_simp) hs1 ?_ ?_
  rotate_left 1
  · go_simp
    exact rfl
  refine wpAnyH_done (by kernel_rfl) ?_ _
  refine NoPanic.normal ?_
  clear hs0 hs1 HX
  generalize w2.drew.setRow (w.heap.size + 1) (xuV s iv ov) = w9 at *
  go_wp2_with fail
  exact bodyPost_ret (results_cbbU X17 Try.results38 _ _ (w.heap.size + 1) _ _ _ rfl rfl rfl HX3.out.ret) rfl ⟨_, _, rfl, ⟨HI.out.low HX3.out.bel, HO.out.low HX3.out.bel, HX3.out.bel⟩⟩
set_option maxHeartbeats 8000000 in
theorem rread1 (G : Nat → Prop) (s : Ut.S) (iv ov : Value) (w : World) (hG : ∀ k, G k → k < w.heap.size) (hi : VwG G w iv s.q) (ho : VwG G w ov s.out) (ok : Ut.Ok s) :
    Calls Try.prog 38 #[.agg (xuV s iv ov), .int .u64 1] w fun e w' => ∃ iv' ov', e = .returned (.tuple #[.agg (xuV (Ut.readS s 1) iv' ov'), .int .i64 (Ut.readV s 1), .bool (Ut.is 1)]) ∧ XuQ G w w' (Ut.readS s 1) iv' ov' := by
  have HX := Lib.hid (XuAt.new w s iv ov)
  have hz := zero_x17
  have HI := Lib.hid hi
  have HO := Lib.hid ho
  have HG := Lib.hid hG
  have HOK := Lib.hid ok
  have H7 := Lib.hid (rbit_c s.lcr 7 ok.lcr.1 (by have := ok.lcr.2; omega) (by omega))
  have e7 := Ut.bti_b s.lcr 7
  have hhi : Ut.bt s.lcr 7 = Ut.hi s := rfl
  rw [hhi] at e7
  clear hi ho hhi
  generalize Ut.bti s.lcr 7 = b7 at *
  rw [Ut.read1_v, Ut.read1_s, Ut.is_lt (by omega)]
  cases hl : Ut.hi s with
  | true =>
    rw [hl] at e7
    rw [if_pos rfl]
    go_enter Try.func38, Try.ntmps38
    go_upto_region 1 with fail
    generalize (w.alloc (Obj.cells (xuV s iv ov) X17)).alloc (Obj.cells (xuV Ut.zero (.slice none 0 0) (.slice none 0 0)) X17) = w1 at *
    have c1 := HX.out.cells.2.1
    go_wp2_with fail
    refine (H7.out _).mono ?_
    rintro e w2 ⟨rfl, rfl⟩
    clear c1 H7
    go_upto_region 13 with fail
    have hs0 : CsAt w2.drew w.heap.size X17 (xuV s iv ov) := HX.out.x.low (below_dU (Below.refl _ _) 1)
    have HXd := Lib.hid (show XuAt w w2.drew s Ut.zero iv ov (.slice none 0 0) (.slice none 0 0) from HX.out.low (below_dU (Below.refl _ _) 1))
    refine wp_region_noPanic ?_
    refine wp_region_held (S := fun W => CsAt W w.heap.size X17 (xuV s iv ov)) (by kernel_rfl) ?_
    refine takeH (fuel := 5) (i := 0) (.agg (xuV s iv ov)) ?_ rfl (by kernel_rfl) (by kernel_rfl) (by kernel_rfl) (fun _ _ _ h => h) (by kernel_rfl) (fun W hS => exec_load_row X17 _ rfl w.heap.size rfl X17 _ _ hS Try.underlying32 rfl info_X17) hs0 ?_ ?_
    rotate_left 1
    · go_simp
      exact rfl
    refine takeH (fuel := 4) (i := 1) (.pointer (some ⟨w.heap.size, 5, none⟩)) ?_ rfl (by kernel_rfl) (by kernel_rfl) (by kernel_rfl) (fun _ _ _ h => h) (by kernel_rfl) (fun W hS => by go_simp) hs0 ?_ ?_
    rotate_left 1
    · go_simp
      exact rfl
    refine takeH (fuel := 3) (i := 2) (.int .i64 s.dlm) ?_ rfl (by kernel_rfl) (by kernel_rfl) (by kernel_rfl) (fun _ _ _ h => h) (by kernel_rfl) (fun W hS => by (have q := hS.cell 5; simp only [xuV, List.getElem?_toArray, List.getElem?_cons_succ, List.getElem?_cons_zero] at q; go_simp)) hs0 ?_ ?_
    rotate_left 1
    · go_simp
      exact rfl
    refine wpAnyH_all (fuel := 2) (rs := [3]) (by kernel_rfl) (by decide) ?_
    intro i hi
    obtain rfl : i = 3 := by simpa using hi
    refine wpOp_unitB (w2.drew.setRow (w.heap.size + 1) (xuV s iv ov)) _ rfl (by kernel_rfl) (exec_store_row X17 _ _ rfl (w.heap.size + 1) (xuV s iv ov) rfl rfl X17 _ HXd.out.r info_X17 rfl (xuV_one _ HI.out.one HO.out.one)) rfl ?_
    have HX3 := Lib.hid (HXd.out.res s iv ov)
    have hs1 := HX3.out.x
    refine ⟨hs1, ?_⟩
    refine takeH (fuel := 1) (i := 4) (.int .i64 s.dlm) ?_ rfl (by kernel_rfl) (by kernel_rfl) (by kernel_rfl) (fun _ _ _ h => h) (by kernel_rfl) (fun W hS => by go_simp) hs1 ?_ ?_
    rotate_left 1
    · go_simp
      exact rfl
    refine takeH (fuel := 0) (i := 5) (.bool true) ?_ rfl (by kernel_rfl) (by kernel_rfl) (by kernel_rfl) (fun _ _ _ h => h) (by kernel_rfl) (fun W hS => by go_simp) hs1 ?_ ?_
    rotate_left 1
    · go_simp
      exact rfl
    refine wpAnyH_done (by kernel_rfl) ?_ _
    refine NoPanic.normal ?_
    clear hs0 hs1 HX
    generalize w2.drew.setRow (w.heap.size + 1) (xuV s iv ov) = w9 at *
    go_wp2_with fail
    exact bodyPost_ret (results_cbbU X17 Try.results38 _ _ (w.heap.size + 1) _ _ _ rfl rfl rfl HX3.out.ret) rfl ⟨_, _, rfl, ⟨HI.out.low HX3.out.bel, HO.out.low HX3.out.bel, HX3.out.bel⟩⟩
  | false =>
    rw [hl] at e7
    rw [if_neg (by simp)]
    go_enter Try.func38, Try.ntmps38
    go_upto_region 1 with fail
    generalize (w.alloc (Obj.cells (xuV s iv ov) X17)).alloc (Obj.cells (xuV Ut.zero (.slice none 0 0) (.slice none 0 0)) X17) = w1 at *
    have c1 := HX.out.cells.2.1
    go_wp2_with fail
    refine (H7.out _).mono ?_
    rintro e w2 ⟨rfl, rfl⟩
    clear c1 H7
    go_upto_region 14 with fail
    have hs0 : CsAt w2.drew w.heap.size X17 (xuV s iv ov) := HX.out.x.low (below_dU (Below.refl _ _) 1)
    have HXd := Lib.hid (show XuAt w w2.drew s Ut.zero iv ov (.slice none 0 0) (.slice none 0 0) from HX.out.low (below_dU (Below.refl _ _) 1))
    refine wp_region_noPanic ?_
    refine wp_region_held (S := fun W => CsAt W w.heap.size X17 (xuV s iv ov)) (by kernel_rfl) ?_
    refine takeH (fuel := 5) (i := 0) (.agg (xuV s iv ov)) ?_ rfl (by kernel_rfl) (by kernel_rfl) (by kernel_rfl) (fun _ _ _ h => h) (by kernel_rfl) (fun W hS => exec_load_row X17 _ rfl w.heap.size rfl X17 _ _ hS Try.underlying32 rfl info_X17) hs0 ?_ ?_
    rotate_left 1
    · go_simp
      exact rfl
    refine takeH (fuel := 4) (i := 1) (.pointer (some ⟨w.heap.size, 0, none⟩)) ?_ rfl (by kernel_rfl) (by kernel_rfl) (by kernel_rfl) (fun _ _ _ h => h) (by kernel_rfl) (fun W hS => by go_simp) hs0 ?_ ?_
    rotate_left 1
    · go_simp
      exact rfl
    refine takeH (fuel := 3) (i := 2) (.int .i64 s.ier) ?_ rfl (by kernel_rfl) (by kernel_rfl) (by kernel_rfl) (fun _ _ _ h => h) (by kernel_rfl) (fun W hS => by (have q := hS.cell 0; simp only [xuV, List.getElem?_toArray, List.getElem?_cons_zero] at q; go_simp)) hs0 ?_ ?_
    rotate_left 1
    · go_simp
      exact rfl
    refine wpAnyH_all (fuel := 2) (rs := [3]) (by kernel_rfl) (by decide) ?_
    intro i hi
    obtain rfl : i = 3 := by simpa using hi
    refine wpOp_unitB (w2.drew.setRow (w.heap.size + 1) (xuV s iv ov)) _ rfl (by kernel_rfl) (exec_store_row X17 _ _ rfl (w.heap.size + 1) (xuV s iv ov) rfl rfl X17 _ HXd.out.r info_X17 rfl (xuV_one _ HI.out.one HO.out.one)) rfl ?_
    have HX3 := Lib.hid (HXd.out.res s iv ov)
    have hs1 := HX3.out.x
    refine ⟨hs1, ?_⟩
    refine takeH (fuel := 1) (i := 4) (.int .i64 s.ier) ?_ rfl (by kernel_rfl) (by kernel_rfl) (by kernel_rfl) (fun _ _ _ h => h) (by kernel_rfl) (fun W hS => by go_simp) hs1 ?_ ?_
    rotate_left 1
    · go_simp
      exact rfl
    refine takeH (fuel := 0) (i := 5) (.bool true) ?_ rfl (by kernel_rfl) (by kernel_rfl) (by kernel_rfl) (fun _ _ _ h => h) (by kernel_rfl) (fun W hS => by go_simp) hs1 ?_ ?_
    rotate_left 1
    · go_simp
      exact rfl
    refine wpAnyH_done (by kernel_rfl) ?_ _
    refine NoPanic.normal ?_
    clear hs0 hs1 HX
    generalize w2.drew.setRow (w.heap.size + 1) (xuV s iv ov) = w9 at *
    go_wp2_with fail
    exact bodyPost_ret (results_cbbU X17 Try.results38 _ _ (w.heap.size + 1) _ _ _ rfl rfl rfl HX3.out.ret) rfl ⟨_, _, rfl, ⟨HI.out.low HX3.out.bel, HO.out.low HX3.out.bel, HX3.out.bel⟩⟩
set_option maxHeartbeats 8000000 in
theorem rread0h (G : Nat → Prop) (s : Ut.S) (iv ov : Value) (w : World) (hG : ∀ k, G k → k < w.heap.size) (hi : VwG G w iv s.q) (ho : VwG G w ov s.out) (ok : Ut.Ok s) (hl : Ut.hi s = true) :
    Calls Try.prog 38 #[.agg (xuV s iv ov), .int .u64 0] w fun e w' => ∃ iv' ov', e = .returned (.tuple #[.agg (xuV (Ut.readS s 0) iv' ov'), .int .i64 (Ut.readV s 0), .bool (Ut.is 0)]) ∧ XuQ G w w' (Ut.readS s 0) iv' ov' := by
  have HX := Lib.hid (XuAt.new w s iv ov)
  have hz := zero_x17
  have HI := Lib.hid hi
  have HO := Lib.hid ho
  have HG := Lib.hid hG
  have HOK := Lib.hid ok
  have H7 := Lib.hid (rbit_c s.lcr 7 ok.lcr.1 (by have := ok.lcr.2; omega) (by omega))
  have e7 := Ut.bti_b s.lcr 7
  have hhi : Ut.bt s.lcr 7 = Ut.hi s := rfl
  rw [hhi] at e7
  clear hi ho hhi
  generalize Ut.bti s.lcr 7 = b7 at *
  rw [Ut.read0_v, Ut.read0_s, Ut.is_lt (by omega), if_pos hl, if_pos hl]
  rw [hl] at e7
  go_enter Try.func38, Try.ntmps38
  go_upto_region 1 with fail
  generalize (w.alloc (Obj.cells (xuV s iv ov) X17)).alloc (Obj.cells (xuV Ut.zero (.slice none 0 0) (.slice none 0 0)) X17) = w1 at *
  have c1 := HX.out.cells.2.1
  go_wp2_with fail
  refine (H7.out _).mono ?_
  rintro e w2 ⟨rfl, rfl⟩
  clear c1 H7
  go_upto_region 5 with fail
  have hs0 : CsAt w2.drew w.heap.size X17 (xuV s iv ov) := HX.out.x.low (below_dU (Below.refl _ _) 1)
  have HXd := Lib.hid (show XuAt w w2.drew s Ut.zero iv ov (.slice none 0 0) (.slice none 0 0) from HX.out.low (below_dU (Below.refl _ _) 1))
  refine wp_region_noPanic ?_
  refine wp_region_held (S := fun W => CsAt W w.heap.size X17 (xuV s iv ov)) (by kernel_rfl) ?_
  refine takeH (fuel := 5) (i := 0) (.agg (xuV s iv ov)) ?_ rfl (by kernel_rfl) (by kernel_rfl) (by kernel_rfl) (fun _ _ _ h => h) (by kernel_rfl) (fun W hS => exec_load_row X17 _ rfl w.heap.size rfl X17 _ _ hS Try.underlying32 rfl info_X17) hs0 ?_ ?_
  rotate_left 1
  · go_simp
    exact rfl
  refine takeH (fuel := 4) (i := 1) (.pointer (some ⟨w.heap.size, 4, none⟩)) ?_ rfl (by kernel_rfl) (by kernel_rfl) (by kernel_rfl) (fun _ _ _ h => h) (by kernel_rfl) (fun W hS => by go_simp) hs0 ?_ ?_
  rotate_left 1
  · go_simp
    exact rfl
  refine takeH (fuel := 3) (i := 2) (.int .i64 s.dll) ?_ rfl (by kernel_rfl) (by kernel_rfl) (by kernel_rfl) (fun _ _ _ h => h) (by kernel_rfl) (fun W hS => by (have q := hS.cell 4; simp only [xuV, List.getElem?_toArray, List.getElem?_cons_succ, List.getElem?_cons_zero] at q; go_simp)) hs0 ?_ ?_
  rotate_left 1
  · go_simp
    exact rfl
  refine wpAnyH_all (fuel := 2) (rs := [3]) (by kernel_rfl) (by decide) ?_
  intro i hi
  obtain rfl : i = 3 := by simpa using hi
  refine wpOp_unitB (w2.drew.setRow (w.heap.size + 1) (xuV s iv ov)) _ rfl (by kernel_rfl) (exec_store_row X17 _ _ rfl (w.heap.size + 1) (xuV s iv ov) rfl rfl X17 _ HXd.out.r info_X17 rfl (xuV_one _ HI.out.one HO.out.one)) rfl ?_
  have HX3 := Lib.hid (HXd.out.res s iv ov)
  have hs1 := HX3.out.x
  refine ⟨hs1, ?_⟩
  refine takeH (fuel := 1) (i := 4) (.int .i64 s.dll) ?_ rfl (by kernel_rfl) (by kernel_rfl) (by kernel_rfl) (fun _ _ _ h => h) (by kernel_rfl) (fun W hS => by go_simp) hs1 ?_ ?_
  rotate_left 1
  · go_simp
    exact rfl
  refine takeH (fuel := 0) (i := 5) (.bool true) ?_ rfl (by kernel_rfl) (by kernel_rfl) (by kernel_rfl) (fun _ _ _ h => h) (by kernel_rfl) (fun W hS => by go_simp) hs1 ?_ ?_
  rotate_left 1
  · go_simp
    exact rfl
  refine wpAnyH_done (by kernel_rfl) ?_ _
  refine NoPanic.normal ?_
  clear hs0 hs1 HX
  generalize w2.drew.setRow (w.heap.size + 1) (xuV s iv ov) = w9 at *
  go_wp2_with fail
  exact bodyPost_ret (results_cbbU X17 Try.results38 _ _ (w.heap.size + 1) _ _ _ rfl rfl rfl HX3.out.ret) rfl ⟨_, _, rfl, ⟨HI.out.low HX3.out.bel, HO.out.low HX3.out.bel, HX3.out.bel⟩⟩
set_option maxHeartbeats 8000000 in
theorem rread0n (G : Nat → Prop) (s : Ut.S) (iv ov : Value) (w : World) (hG : ∀ k, G k → k < w.heap.size) (hi : VwG G w iv s.q) (ho : VwG G w ov s.out) (ok : Ut.Ok s) (hl : Ut.hi s = false) (hq : s.q = []) :
    Calls Try.prog 38 #[.agg (xuV s iv ov), .int .u64 0] w fun e w' => ∃ iv' ov', e = .returned (.tuple #[.agg (xuV (Ut.readS s 0) iv' ov'), .int .i64 (Ut.readV s 0), .bool (Ut.is 0)]) ∧ XuQ G w w' (Ut.readS s 0) iv' ov' := by
  have HX := Lib.hid (XuAt.new w s iv ov)
  have hz := zero_x17
  have HI := Lib.hid hi
  have HO := Lib.hid ho
  have HG := Lib.hid hG
  have HOK := Lib.hid ok
  have H7 := Lib.hid (rbit_c s.lcr 7 ok.lcr.1 (by have := ok.lcr.2; omega) (by omega))
  have e7 := Ut.bti_b s.lcr 7
  have hhi : Ut.bt s.lcr 7 = Ut.hi s := rfl
  rw [hhi] at e7
  clear hi ho hhi
  generalize Ut.bti s.lcr 7 = b7 at *
  rw [Ut.read0_v, Ut.read0_s, Ut.is_lt (by omega), if_neg (by rw [hl]; simp), if_neg (by rw [hl]; simp)]
  rw [hl] at e7
  rw [show ({ s with q := s.q.drop 1 } : Ut.S) = s by obtain ⟨⟩ := s; simp at hq ⊢; rw [hq]; rfl, show s.q.getD 0 0 = 0 by rw [hq]; rfl]
  obtain ⟨p, cap, hiv, hpv, -⟩ := HI.out.form
  rw [hq] at hiv
  have G9 := Lib.hid (show iv = .slice p 0 cap from hiv)
  clear hiv hpv hq
  go_enter Try.func38, Try.ntmps38
  go_upto_region 1 with fail
  generalize (w.alloc (Obj.cells (xuV s iv ov) X17)).alloc (Obj.cells (xuV Ut.zero (.slice none 0 0) (.slice none 0 0)) X17) = w1 at *
  have c1 := HX.out.cells.2.1
  go_wp2_with fail
  refine (H7.out _).mono ?_
  rintro e w2 ⟨rfl, rfl⟩
  clear c1 H7
  have c9 := HX.out.cells.2.2.2.2.2.2.2.2.2.1
  rw [G9.out] at c9
  have HX3 := Lib.hid (HX.out.res s iv ov)
  clear G9
  go_wp2_with (first | (refine wpList_load_row rfl X17 _ rfl w.heap.size rfl X17 _ (0, 0) _ HX.out.x Try.underlying32 rfl info_X17 ?_) | (refine wpList_store_row rfl X17 _ _ rfl (w.heap.size + 1) (xuV s iv ov) rfl rfl X17 _ HX.out.r info_X17 rfl (xuV_one _ HI.out.one HO.out.one) ?_))
  exact bodyPost_ret (results_cbbU X17 Try.results38 _ _ (w.heap.size + 1) _ _ _ rfl rfl rfl HX3.out.ret) rfl ⟨_, _, rfl, ⟨HI.out.low HX3.out.bel, HO.out.low HX3.out.bel, HX3.out.bel⟩⟩
set_option maxHeartbeats 8000000 in
theorem rread0c (G : Nat → Prop) (s : Ut.S) (iv ov : Value) (w : World) (hG : ∀ k, G k → k < w.heap.size) (hi : VwG G w iv s.q) (ho : VwG G w ov s.out) (ok : Ut.Ok s) (hl : Ut.hi s = false) (x : Int) (xs : List Int) (hq : s.q = x :: xs) :
    Calls Try.prog 38 #[.agg (xuV s iv ov), .int .u64 0] w fun e w' => ∃ iv' ov', e = .returned (.tuple #[.agg (xuV (Ut.readS s 0) iv' ov'), .int .i64 (Ut.readV s 0), .bool (Ut.is 0)]) ∧ XuQ G w w' (Ut.readS s 0) iv' ov' := by
  have HX := Lib.hid (XuAt.new w s iv ov)
  have hz := zero_x17
  have HI := Lib.hid hi
  have HO := Lib.hid ho
  have HG := Lib.hid hG
  have HOK := Lib.hid ok
  have H7 := Lib.hid (rbit_c s.lcr 7 ok.lcr.1 (by have := ok.lcr.2; omega) (by omega))
  have e7 := Ut.bti_b s.lcr 7
  have hhi : Ut.bt s.lcr 7 = Ut.hi s := rfl
  rw [hhi] at e7
  clear hi ho hhi
  generalize Ut.bti s.lcr 7 = b7 at *
  rw [Ut.read0_v, Ut.read0_s, Ut.is_lt (by omega), if_neg (by rw [hl]; simp), if_neg (by rw [hl]; simp)]
  rw [hl] at e7
  rw [show ({ s with q := s.q.drop 1 } : Ut.S) = { s with q := xs } by rw [hq]; rfl, show s.q.getD 0 0 = x by rw [hq]; rfl]
  have hxb : Ut.isB x := HOK.out.qs x (by rw [hq]; simp)
  have hqn := HOK.out.qn
  rw [hq] at hqn
  simp only [List.length_cons] at hqn
  have HI2 := HI.out
  rw [hq] at HI2
  obtain ⟨p, cap, hiv, -, hp2⟩ := HI2.form
  obtain ⟨b, off, rfl⟩ : ∃ b off, p = some ⟨b, off, none⟩ := by
    rcases hp2 with ⟨hp3, hcap0⟩ | hp3
    · obtain ⟨p', c', e', hc', -⟩ := HI2
      rw [hiv] at e'
      cases e'
      simp at hc'
      omega
    · exact hp3
  have hiv2 : iv = .slice (some ⟨b, off, none⟩) (xs.length + 1) cap := hiv
  clear hiv hp2
  have HI1 := Lib.hid HI
  subst hiv2
  obtain ⟨cx, htail, hcap⟩ := HI2.tail
  have HT := Lib.hid htail
  have HCX := Lib.hid cx
  have wx : IntKind.i64.wrap x = x := wrapI (by have := hxb.1; omega) (by have := hxb.2; omega)
  have HQ := Lib.hid hq
  have hbl : b < w.heap.size := World.block_lt_of_cell? _ _ cx
  have n1 : (1 : Int) ≤ ((xs.length + 1 : Nat) : Int) := by omega
  have n2 : (0 : Int) < ((xs.length + 1 : Nat) : Int) := by omega
  have n3 : ((xs.length + 1 : Nat) : Int) ≤ (cap : Int) := by omega
  have gl : ((xs.length + 1 : Nat) == 0) = false := by simp
  have gl2 : (((xs.length + 1 : Nat) : Int) == 0) = false := by simp; omega
  have HLN := Lib.hid (show (u8V xs).length = (xs.length + 1 - 1) * 1 by rw [u8V_len]; omega)
  have HM := Lib.hid (show xs.length + 1 - 1 = xs.length by omega)
  clear HI2 cx htail hq HI1
  generalize hm : xs.length + 1 = m at *
  go_enter Try.func38, Try.ntmps38
  go_upto_region 1 with fail
  generalize (w.alloc (Obj.cells (xuV s (.slice (some ⟨b, off, none⟩) m cap) ov) X17)).alloc (Obj.cells (xuV Ut.zero (.slice none 0 0) (.slice none 0 0)) X17) = w1 at *
  have c1 := HX.out.cells.2.1
  go_wp2_with fail
  refine (H7.out _).mono ?_
  rintro e w2 ⟨rfl, rfl⟩
  clear c1 H7
  have hb1 := HX.out.bel
  have c9 := HX.out.cells.2.2.2.2.2.2.2.2.2.1
  have cx := (hb1.cell (p := ⟨b, off, none⟩) hbl).trans HCX.out
  have HB1 := Lib.hid hb1
  clear hb1
  have hE : (w2.alloc (.cells #[] U8)).ownsRow w2.heap.size U8 1 (.slice (some ⟨w2.heap.size, 0, none⟩) 0 0) 0 [] := ⟨rfl, .inr ⟨w2.heap.size, 0, #[], rfl, Nat.le_refl _, CsAt.new w2 U8 #[], Nat.le_refl _, Nat.zero_le _, rfl, rfl⟩⟩
  have HE := Lib.hid hE
  have HB2 := Lib.hid ((Below.refl w2.heap.size w2).alloc (Nat.le_refl _) (.cells #[] U8))
  have HV2 := Lib.hid ((HT.out.low HB1.out).low HB2.out)
  have c9b := (HB2.out.cell (p := ⟨w.heap.size, 9, none⟩) HX.out.x.lt).trans c9
  clear hE
  by_cases hm1 : m = 1
  · skip
    have hx0 : xs = [] := List.length_eq_zero_iff.1 (by omega)
    subst hx0
    subst hm1
    have ho4 : (w2.alloc (.cells #[] U8)).ownsRow w2.heap.size U8 1 (.slice (some ⟨w2.heap.size, 0, none⟩) 0 0) 0 (u8V []) := HE.out
    have hX3 := HX.out.low HB2.out
    have j9 := hX3.x.cell 9
    have g9 := hX3.x.frozen 9
    simp only [xuV, List.getElem?_toArray, List.getElem?_cons_succ, List.getElem?_cons_zero] at j9
    have HX4 := Lib.hid (hX3.upd (i := 9) (v := .slice (some ⟨w2.heap.size, 0, none⟩) 0 0) (u := { s with q := [] }) (kv := .slice (some ⟨w2.heap.size, 0, none⟩) 0 0) (lv := ov) rfl)
    have HX5 := Lib.hid (HX4.out.res { s with q := [] } (.slice (some ⟨w2.heap.size, 0, none⟩) 0 0) ov)
    have hne := (HX.out.r).lt
    have hvg2 : VwG G (((w2.alloc (.cells #[] U8)).setCell ⟨w.heap.size, 9, none⟩ (.slice (some ⟨w2.heap.size, 0, none⟩) 0 0)).setRow (w.heap.size + 1) (xuV { s with q := [] } (.slice (some ⟨w2.heap.size, 0, none⟩) 0 0) ov)) (.slice (some ⟨w2.heap.size, 0, none⟩) 0 0) [] := by
      have hc : Chg (fun k => k = w.heap.size ∨ k = w.heap.size + 1) (w2.alloc (.cells #[] U8)) (((w2.alloc (.cells #[] U8)).setCell ⟨w.heap.size, 9, none⟩ (.slice (some ⟨w2.heap.size, 0, none⟩) 0 0)).setRow (w.heap.size + 1) (xuV { s with q := [] } (.slice (some ⟨w2.heap.size, 0, none⟩) 0 0) ov)) := (Chg.of_cell (.inl rfl) 9 _).trans (Chg.of_row (.inr rfl) _)
      exact own_vwG (hc.own ho4 (fun k hk => by have := (ho4.lt k hk).1; intro e; rcases e with e | e <;> omega)) (fun k hk => Nat.lt_of_lt_of_le (HG.out k hk) HB1.out.size)
    have HVF := Lib.hid hvg2
    clear hX3 ho4 hvg2 hne HV2 HX
    by_cases hc1 : cap = 1
    · skip
      subst hc1
      go_upto_region 10 with fail
      generalize (w2.alloc (.cells #[] U8)).setCell ⟨w.heap.size, 9, none⟩ (.slice (some ⟨w2.heap.size, 0, none⟩) 0 0) = w4 at *
      clear j9 g9 c9b
      go_wp2_with (first | (refine wpList_load_row rfl X17 _ rfl w.heap.size rfl X17 _ (0, 0) _ HX4.out.x Try.underlying32 rfl info_X17 ?_) | (refine wpList_store_row rfl X17 _ _ rfl (w.heap.size + 1) (xuV { s with q := [] } (.slice (some ⟨w2.heap.size, 0, none⟩) 0 0) ov) rfl rfl X17 _ HX4.out.r info_X17 rfl (xuV_one _ rfl HO.out.one) ?_))
      exact bodyPost_ret (results_cbbU X17 Try.results38 _ _ (w.heap.size + 1) _ _ _ rfl rfl rfl HX5.out.ret) rfl ⟨_, _, rfl, ⟨HVF.out, HO.out.low HX5.out.bel, HX5.out.bel⟩⟩
    · skip
      have n4 : (1 : Int) ≤ (cap : Int) := by omega
      go_upto_region 10 with fail
      generalize (w2.alloc (.cells #[] U8)).setCell ⟨w.heap.size, 9, none⟩ (.slice (some ⟨w2.heap.size, 0, none⟩) 0 0) = w4 at *
      clear j9 g9 c9b
      go_wp2_with (first | (refine wpList_load_row rfl X17 _ rfl w.heap.size rfl X17 _ (0, 0) _ HX4.out.x Try.underlying32 rfl info_X17 ?_) | (refine wpList_store_row rfl X17 _ _ rfl (w.heap.size + 1) (xuV { s with q := [] } (.slice (some ⟨w2.heap.size, 0, none⟩) 0 0) ov) rfl rfl X17 _ HX4.out.r info_X17 rfl (xuV_one _ rfl HO.out.one) ?_))
      exact bodyPost_ret (results_cbbU X17 Try.results38 _ _ (w.heap.size + 1) _ _ _ rfl rfl rfl HX5.out.ret) rfl ⟨_, _, rfl, ⟨HVF.out, HO.out.low HX5.out.bel, HX5.out.bel⟩⟩
  · skip
    have n4 : (1 : Int) < (cap : Int) := by omega
    have n5 : ¬ cap = 1 := by omega
    go_wp2_with (at_builtin; refine wpList_cat rfl _ _ U8S rfl w2.heap.size U8 _ 1 1 Try.underlying30 info_u8 rfl (by omega) (by omega) _ 0 [] rfl HE.out (some ⟨b, off + 1, none⟩) (m - 1) _ (u8V xs) rfl HV2.out HLN.out (u8V_one xs) (by omega) HB2.out.size ?_)
    intro v3 w3 ho3 hb3
    have hbb := HB2.out.trans hb3
    have hX3 := HX.out.low hbb
    have hm1 := HM.out
    have ho4 : w3.ownsRow w2.heap.size U8 1 v3 xs.length (u8V xs) := by
      have := ho3
      rw [hm1] at this
      simpa using this
    have j9 := hX3.x.cell 9
    have g9 := hX3.x.frozen 9
    simp only [xuV, List.getElem?_toArray, List.getElem?_cons_succ, List.getElem?_cons_zero] at j9
    have HX4 := Lib.hid (hX3.upd (i := 9) (v := v3) (u := { s with q := xs }) (kv := v3) (lv := ov) rfl)
    have HX5 := Lib.hid (HX4.out.res { s with q := xs } v3 ov)
    obtain ⟨p3, cap3, hv3, -⟩ := own_form ho4
    subst hv3
    have hne := (HX.out.r).lt
    have hvg2 : VwG G ((w3.setCell ⟨w.heap.size, 9, none⟩ (.slice p3 xs.length cap3)).setRow (w.heap.size + 1) (xuV { s with q := xs } (.slice p3 xs.length cap3) ov)) (.slice p3 xs.length cap3) xs := by
      have hc : Chg (fun k => k = w.heap.size ∨ k = w.heap.size + 1) w3 ((w3.setCell ⟨w.heap.size, 9, none⟩ (.slice p3 xs.length cap3)).setRow (w.heap.size + 1) (xuV { s with q := xs } (.slice p3 xs.length cap3) ov)) := (Chg.of_cell (.inl rfl) 9 _).trans (Chg.of_row (.inr rfl) _)
      exact own_vwG (hc.own ho4 (fun k hk => by have := (ho4.lt k hk).1; intro e; rcases e with e | e <;> omega)) (fun k hk => Nat.lt_of_lt_of_le (HG.out k hk) HB1.out.size)
    have HVF := Lib.hid hvg2
    clear ho3 hb3 hbb hX3 ho4 hvg2 hne HB2 HE HV2 c9 cx HX
    go_upto_region 10 with fail
    generalize w3.setCell ⟨w.heap.size, 9, none⟩ (.slice p3 xs.length cap3) = w4 at *
    go_wp2_with (first | (refine wpList_load_row rfl X17 _ rfl w.heap.size rfl X17 _ (0, 0) _ HX4.out.x Try.underlying32 rfl info_X17 ?_) | (refine wpList_store_row rfl X17 _ _ rfl (w.heap.size + 1) (xuV { s with q := xs } (.slice p3 xs.length cap3) ov) rfl rfl X17 _ HX4.out.r info_X17 rfl (xuV_one _ rfl HO.out.one) ?_))
    exact bodyPost_ret (results_cbbU X17 Try.results38 _ _ (w.heap.size + 1) _ _ _ rfl rfl rfl HX5.out.ret) rfl ⟨_, _, rfl, ⟨HVF.out, HO.out.low HX5.out.bel, HX5.out.bel⟩⟩
set_option maxHeartbeats 8000000 in
theorem rread2 (G : Nat → Prop) (s : Ut.S) (iv ov : Value) (w : World) (hG : ∀ k, G k → k < w.heap.size) (hi : VwG G w iv s.q) (ho : VwG G w ov s.out) (ok : Ut.Ok s) :
    Calls Try.prog 38 #[.agg (xuV s iv ov), .int .u64 2] w fun e w' => ∃ iv' ov', e = .returned (.tuple #[.agg (xuV (Ut.readS s 2) iv' ov'), .int .i64 (Ut.readV s 2), .bool (Ut.is 2)]) ∧ XuQ G w w' (Ut.readS s 2) iv' ov' := by
  have HX := Lib.hid (XuAt.new w s iv ov)
  have hz := zero_x17
  have HI := Lib.hid hi
  have HO := Lib.hid ho
  have HG := Lib.hid hG
  have HOK := Lib.hid ok
  have H7 := Lib.hid (rbit_c s.lcr 7 ok.lcr.1 (by have := ok.lcr.2; omega) (by omega))
  have e7 := Ut.bti_b s.lcr 7
  have hhi : Ut.bt s.lcr 7 = Ut.hi s := rfl
  rw [hhi] at e7
  clear hi ho hhi
  generalize Ut.bti s.lcr 7 = b7 at *
  rw [Ut.is_lt (by omega), Ut.read2_v, Ut.read2_s]
  have HC := Lib.hid (fun W (h : VwG G W iv s.q) => rcause_c G s iv ov HOK.out W h)
  have hc := Ut.cause_of s
  have hcf : s.fifo = false ∨ s.fifo = true := by cases s.fifo <;> simp
  generalize Ut.cause s = c at *
  have wc : IntKind.i64.wrap (c + 192) = c + 192 := wrapI (by omega) (by omega)
  by_cases h2 : c = 2
  · skip
    rw [if_pos h2]
    have g2 : (c == 2) = true := by simpa using h2
    clear hc h2
    rcases hcf with hf | hf
    · rw [if_neg (by rw [hf]; simp), Int.add_zero]
      have HF := Lib.hid hf
      clear hf
      go_enter Try.func38, Try.ntmps38
      go_upto_region 1 with fail
      generalize (w.alloc (Obj.cells (xuV s iv ov) X17)).alloc (Obj.cells (xuV Ut.zero (.slice none 0 0) (.slice none 0 0)) X17) = w1 at *
      have c1 := HX.out.cells.2.1
      go_wp2_with fail
      refine (H7.out _).mono ?_
      rintro e w2 ⟨rfl, rfl⟩
      clear c1 H7
      go_wp2_with (refine wpList_load_row rfl X17 _ rfl w.heap.size rfl X17 _ (0, 0) _ HX.out.x Try.underlying32 rfl info_X17 ?_)
      refine (HC.out _ (HI.out.low HX.out.bel)).mono ?_
      rintro e w3 ⟨rfl, hb3⟩
      have HX2 := Lib.hid (HX.out.low hb3)
      have c6 := HX2.out.cells.2.2.2.2.2.2.1
      rw [HF.out] at c6
      have c8 := HX2.out.cells.2.2.2.2.2.2.2.2.1
      have f8 := HX2.out.x.frozen 8
      clear hb3 HX HC
      have HX4 := Lib.hid (HX2.out.upd (i := 8) (v := .bool false) (u := { s with empty := false }) (kv := iv) (lv := ov) rfl)
      have HX3 := Lib.hid (HX4.out.res { s with empty := false } iv ov)
      have c6b := HX4.out.cells.2.2.2.2.2.2.1
      rw [show ({ s with empty := false } : Ut.S).fifo = s.fifo from rfl, HF.out] at c6b
      go_upto_region 19 with fail
      generalize w3.setCell ⟨w.heap.size, 8, none⟩ (.bool false) = w4 at *
      clear c6 c8 f8 HX2
      go_wp2_with (first | (refine wpList_load_row rfl X17 _ rfl w.heap.size rfl X17 _ (0, 0) _ HX4.out.x Try.underlying32 rfl info_X17 ?_) | (refine wpList_store_row rfl X17 _ _ rfl (w.heap.size + 1) (xuV { s with empty := false } iv ov) rfl rfl X17 _ HX4.out.r info_X17 rfl (xuV_one _ HI.out.one HO.out.one) ?_))
      exact bodyPost_ret (results_cbbU X17 Try.results38 _ _ (w.heap.size + 1) _ _ _ rfl rfl rfl HX3.out.ret) rfl ⟨_, _, rfl, ⟨HI.out.low HX3.out.bel, HO.out.low HX3.out.bel, HX3.out.bel⟩⟩
    · rw [if_pos hf]
      have HF := Lib.hid hf
      clear hf
      go_enter Try.func38, Try.ntmps38
      go_upto_region 1 with fail
      generalize (w.alloc (Obj.cells (xuV s iv ov) X17)).alloc (Obj.cells (xuV Ut.zero (.slice none 0 0) (.slice none 0 0)) X17) = w1 at *
      have c1 := HX.out.cells.2.1
      go_wp2_with fail
      refine (H7.out _).mono ?_
      rintro e w2 ⟨rfl, rfl⟩
      clear c1 H7
      go_wp2_with (refine wpList_load_row rfl X17 _ rfl w.heap.size rfl X17 _ (0, 0) _ HX.out.x Try.underlying32 rfl info_X17 ?_)
      refine (HC.out _ (HI.out.low HX.out.bel)).mono ?_
      rintro e w3 ⟨rfl, hb3⟩
      have HX2 := Lib.hid (HX.out.low hb3)
      have c6 := HX2.out.cells.2.2.2.2.2.2.1
      rw [HF.out] at c6
      have c8 := HX2.out.cells.2.2.2.2.2.2.2.2.1
      have f8 := HX2.out.x.frozen 8
      clear hb3 HX HC
      have HX4 := Lib.hid (HX2.out.upd (i := 8) (v := .bool false) (u := { s with empty := false }) (kv := iv) (lv := ov) rfl)
      have HX3 := Lib.hid (HX4.out.res { s with empty := false } iv ov)
      have c6b := HX4.out.cells.2.2.2.2.2.2.1
      rw [show ({ s with empty := false } : Ut.S).fifo = s.fifo from rfl, HF.out] at c6b
      go_upto_region 19 with fail
      generalize w3.setCell ⟨w.heap.size, 8, none⟩ (.bool false) = w4 at *
      clear c6 c8 f8 HX2
      go_wp2_with (first | (refine wpList_load_row rfl X17 _ rfl w.heap.size rfl X17 _ (0, 0) _ HX4.out.x Try.underlying32 rfl info_X17 ?_) | (refine wpList_store_row rfl X17 _ _ rfl (w.heap.size + 1) (xuV { s with empty := false } iv ov) rfl rfl X17 _ HX4.out.r info_X17 rfl (xuV_one _ HI.out.one HO.out.one) ?_))
      exact bodyPost_ret (results_cbbU X17 Try.results38 _ _ (w.heap.size + 1) _ _ _ rfl rfl rfl HX3.out.ret) rfl ⟨_, _, rfl, ⟨HI.out.low HX3.out.bel, HO.out.low HX3.out.bel, HX3.out.bel⟩⟩
  · skip
    rw [if_neg h2]
    have g2 : (c == 2) = false := by simpa using h2
    clear hc h2
    rcases hcf with hf | hf
    · rw [if_neg (by rw [hf]; simp), Int.add_zero]
      have HF := Lib.hid hf
      clear hf
      go_enter Try.func38, Try.ntmps38
      go_upto_region 1 with fail
      generalize (w.alloc (Obj.cells (xuV s iv ov) X17)).alloc (Obj.cells (xuV Ut.zero (.slice none 0 0) (.slice none 0 0)) X17) = w1 at *
      have c1 := HX.out.cells.2.1
      go_wp2_with fail
      refine (H7.out _).mono ?_
      rintro e w2 ⟨rfl, rfl⟩
      clear c1 H7
      go_wp2_with (refine wpList_load_row rfl X17 _ rfl w.heap.size rfl X17 _ (0, 0) _ HX.out.x Try.underlying32 rfl info_X17 ?_)
      refine (HC.out _ (HI.out.low HX.out.bel)).mono ?_
      rintro e w3 ⟨rfl, hb3⟩
      have HX2 := Lib.hid (HX.out.low hb3)
      have c6 := HX2.out.cells.2.2.2.2.2.2.1
      rw [HF.out] at c6
      have c8 := HX2.out.cells.2.2.2.2.2.2.2.2.1
      have f8 := HX2.out.x.frozen 8
      clear hb3 HX HC
      have HX3 := Lib.hid (HX2.out.res s iv ov)
      go_wp2_with (first | (refine wpList_load_row rfl X17 _ rfl w.heap.size rfl X17 _ (0, 0) _ HX2.out.x Try.underlying32 rfl info_X17 ?_) | (refine wpList_store_row rfl X17 _ _ rfl (w.heap.size + 1) (xuV s iv ov) rfl rfl X17 _ HX2.out.r info_X17 rfl (xuV_one _ HI.out.one HO.out.one) ?_))
      exact bodyPost_ret (results_cbbU X17 Try.results38 _ _ (w.heap.size + 1) _ _ _ rfl rfl rfl HX3.out.ret) rfl ⟨_, _, rfl, ⟨HI.out.low HX3.out.bel, HO.out.low HX3.out.bel, HX3.out.bel⟩⟩
    · rw [if_pos hf]
      have HF := Lib.hid hf
      clear hf
      go_enter Try.func38, Try.ntmps38
      go_upto_region 1 with fail
      generalize (w.alloc (Obj.cells (xuV s iv ov) X17)).alloc (Obj.cells (xuV Ut.zero (.slice none 0 0) (.slice none 0 0)) X17) = w1 at *
      have c1 := HX.out.cells.2.1
      go_wp2_with fail
      refine (H7.out _).mono ?_
      rintro e w2 ⟨rfl, rfl⟩
      clear c1 H7
      go_wp2_with (refine wpList_load_row rfl X17 _ rfl w.heap.size rfl X17 _ (0, 0) _ HX.out.x Try.underlying32 rfl info_X17 ?_)
      refine (HC.out _ (HI.out.low HX.out.bel)).mono ?_
      rintro e w3 ⟨rfl, hb3⟩
      have HX2 := Lib.hid (HX.out.low hb3)
      have c6 := HX2.out.cells.2.2.2.2.2.2.1
      rw [HF.out] at c6
      have c8 := HX2.out.cells.2.2.2.2.2.2.2.2.1
      have f8 := HX2.out.x.frozen 8
      clear hb3 HX HC
      have HX3 := Lib.hid (HX2.out.res s iv ov)
      go_wp2_with (first | (refine wpList_load_row rfl X17 _ rfl w.heap.size rfl X17 _ (0, 0) _ HX2.out.x Try.underlying32 rfl info_X17 ?_) | (refine wpList_store_row rfl X17 _ _ rfl (w.heap.size + 1) (xuV s iv ov) rfl rfl X17 _ HX2.out.r info_X17 rfl (xuV_one _ HI.out.one HO.out.one) ?_))
      exact bodyPost_ret (results_cbbU X17 Try.results38 _ _ (w.heap.size + 1) _ _ _ rfl rfl rfl HX3.out.ret) rfl ⟨_, _, rfl, ⟨HI.out.low HX3.out.bel, HO.out.low HX3.out.bel, HX3.out.bel⟩⟩
set_option maxHeartbeats 8000000 in
theorem rread5 (G : Nat → Prop) (s : Ut.S) (iv ov : Value) (w : World) (hG : ∀ k, G k → k < w.heap.size) (hi : VwG G w iv s.q) (ho : VwG G w ov s.out) (ok : Ut.Ok s) :
    Calls Try.prog 38 #[.agg (xuV s iv ov), .int .u64 5] w fun e w' => ∃ iv' ov', e = .returned (.tuple #[.agg (xuV (Ut.readS s 5) iv' ov'), .int .i64 (Ut.readV s 5), .bool (Ut.is 5)]) ∧ XuQ G w w' (Ut.readS s 5) iv' ov' := by
  have HX := Lib.hid (XuAt.new w s iv ov)
  have hz := zero_x17
  have HI := Lib.hid hi
  have HO := Lib.hid ho
  have HG := Lib.hid hG
  have HOK := Lib.hid ok
  have H7 := Lib.hid (rbit_c s.lcr 7 ok.lcr.1 (by have := ok.lcr.2; omega) (by omega))
  have e7 := Ut.bti_b s.lcr 7
  have hhi : Ut.bt s.lcr 7 = Ut.hi s := rfl
  rw [hhi] at e7
  clear hi ho hhi
  generalize Ut.bti s.lcr 7 = b7 at *
  rw [Ut.is_lt (by omega), Ut.read5_v, Ut.read5_s]
  have hlf : s.lost = false ∨ s.lost = true := by cases s.lost <;> simp
  obtain ⟨p, cap, hiv, -⟩ := HI.out.form
  have HIV := Lib.hid hiv
  clear hiv
  by_cases hq : s.q = []
  · skip
    rw [if_neg (by simpa using hq)]
    have e0 : decide (0 < s.q.length) = false := by rw [hq]; rfl
    clear hq
    rcases hlf with hf | hf
    · rw [if_neg (by rw [hf]; simp), Int.add_zero]
      have HF := Lib.hid hf
      clear hf
      go_enter Try.func38, Try.ntmps38
      go_upto_region 1 with fail
      generalize (w.alloc (Obj.cells (xuV s iv ov) X17)).alloc (Obj.cells (xuV Ut.zero (.slice none 0 0) (.slice none 0 0)) X17) = w1 at *
      have c1 := HX.out.cells.2.1
      go_wp2_with fail
      refine (H7.out _).mono ?_
      rintro e w2 ⟨rfl, rfl⟩
      clear c1 H7
      have c9 := HX.out.cells.2.2.2.2.2.2.2.2.2.1
      rw [HIV.out] at c9
      have c7 := HX.out.cells.2.2.2.2.2.2.2.1
      rw [HF.out] at c7
      have f7 := HX.out.x.frozen 7
      have HX4 := Lib.hid (HX.out.upd (i := 7) (v := .bool false) (u := { s with lost := false }) (kv := iv) (lv := ov) rfl)
      have HX3 := Lib.hid (HX4.out.res { s with lost := false } iv ov)
      clear HX HIV
      go_upto_region 33 with fail
      generalize w2.setCell ⟨w.heap.size, 7, none⟩ (.bool false) = w4 at *
      clear c7 c9 f7
      go_wp2_with (first | (refine wpList_load_row rfl X17 _ rfl w.heap.size rfl X17 _ (0, 0) _ HX4.out.x Try.underlying32 rfl info_X17 ?_) | (refine wpList_store_row rfl X17 _ _ rfl (w.heap.size + 1) (xuV { s with lost := false } iv ov) rfl rfl X17 _ HX4.out.r info_X17 rfl (xuV_one _ HI.out.one HO.out.one) ?_))
      exact bodyPost_ret (results_cbbU X17 Try.results38 _ _ (w.heap.size + 1) _ _ _ rfl rfl rfl HX3.out.ret) rfl ⟨_, _, rfl, ⟨HI.out.low HX3.out.bel, HO.out.low HX3.out.bel, HX3.out.bel⟩⟩
    · rw [if_pos hf]
      have HF := Lib.hid hf
      clear hf
      go_enter Try.func38, Try.ntmps38
      go_upto_region 1 with fail
      generalize (w.alloc (Obj.cells (xuV s iv ov) X17)).alloc (Obj.cells (xuV Ut.zero (.slice none 0 0) (.slice none 0 0)) X17) = w1 at *
      have c1 := HX.out.cells.2.1
      go_wp2_with fail
      refine (H7.out _).mono ?_
      rintro e w2 ⟨rfl, rfl⟩
      clear c1 H7
      have c9 := HX.out.cells.2.2.2.2.2.2.2.2.2.1
      rw [HIV.out] at c9
      have c7 := HX.out.cells.2.2.2.2.2.2.2.1
      rw [HF.out] at c7
      have f7 := HX.out.x.frozen 7
      have HX4 := Lib.hid (HX.out.upd (i := 7) (v := .bool false) (u := { s with lost := false }) (kv := iv) (lv := ov) rfl)
      have HX3 := Lib.hid (HX4.out.res { s with lost := false } iv ov)
      clear HX HIV
      go_upto_region 33 with fail
      generalize w2.setCell ⟨w.heap.size, 7, none⟩ (.bool false) = w4 at *
      clear c7 c9 f7
      go_wp2_with (first | (refine wpList_load_row rfl X17 _ rfl w.heap.size rfl X17 _ (0, 0) _ HX4.out.x Try.underlying32 rfl info_X17 ?_) | (refine wpList_store_row rfl X17 _ _ rfl (w.heap.size + 1) (xuV { s with lost := false } iv ov) rfl rfl X17 _ HX4.out.r info_X17 rfl (xuV_one _ HI.out.one HO.out.one) ?_))
      exact bodyPost_ret (results_cbbU X17 Try.results38 _ _ (w.heap.size + 1) _ _ _ rfl rfl rfl HX3.out.ret) rfl ⟨_, _, rfl, ⟨HI.out.low HX3.out.bel, HO.out.low HX3.out.bel, HX3.out.bel⟩⟩
  · skip
    rw [if_pos (by simpa using hq)]
    have e0 : decide (0 < s.q.length) = true := by have := mt List.length_eq_zero_iff.1 hq; simp only [decide_eq_true_eq]; omega
    clear hq
    rcases hlf with hf | hf
    · rw [if_neg (by rw [hf]; simp), Int.add_zero]
      have HF := Lib.hid hf
      clear hf
      go_enter Try.func38, Try.ntmps38
      go_upto_region 1 with fail
      generalize (w.alloc (Obj.cells (xuV s iv ov) X17)).alloc (Obj.cells (xuV Ut.zero (.slice none 0 0) (.slice none 0 0)) X17) = w1 at *
      have c1 := HX.out.cells.2.1
      go_wp2_with fail
      refine (H7.out _).mono ?_
      rintro e w2 ⟨rfl, rfl⟩
      clear c1 H7
      have c9 := HX.out.cells.2.2.2.2.2.2.2.2.2.1
      rw [HIV.out] at c9
      have c7 := HX.out.cells.2.2.2.2.2.2.2.1
      rw [HF.out] at c7
      have f7 := HX.out.x.frozen 7
      have HX4 := Lib.hid (HX.out.upd (i := 7) (v := .bool false) (u := { s with lost := false }) (kv := iv) (lv := ov) rfl)
      have HX3 := Lib.hid (HX4.out.res { s with lost := false } iv ov)
      clear HX HIV
      go_upto_region 33 with fail
      generalize w2.setCell ⟨w.heap.size, 7, none⟩ (.bool false) = w4 at *
      clear c7 c9 f7
      go_wp2_with (first | (refine wpList_load_row rfl X17 _ rfl w.heap.size rfl X17 _ (0, 0) _ HX4.out.x Try.underlying32 rfl info_X17 ?_) | (refine wpList_store_row rfl X17 _ _ rfl (w.heap.size + 1) (xuV { s with lost := false } iv ov) rfl rfl X17 _ HX4.out.r info_X17 rfl (xuV_one _ HI.out.one HO.out.one) ?_))
      exact bodyPost_ret (results_cbbU X17 Try.results38 _ _ (w.heap.size + 1) _ _ _ rfl rfl rfl HX3.out.ret) rfl ⟨_, _, rfl, ⟨HI.out.low HX3.out.bel, HO.out.low HX3.out.bel, HX3.out.bel⟩⟩
    · rw [if_pos hf]
      have HF := Lib.hid hf
      clear hf
      go_enter Try.func38, Try.ntmps38
      go_upto_region 1 with fail
      generalize (w.alloc (Obj.cells (xuV s iv ov) X17)).alloc (Obj.cells (xuV Ut.zero (.slice none 0 0) (.slice none 0 0)) X17) = w1 at *
      have c1 := HX.out.cells.2.1
      go_wp2_with fail
      refine (H7.out _).mono ?_
      rintro e w2 ⟨rfl, rfl⟩
      clear c1 H7
      have c9 := HX.out.cells.2.2.2.2.2.2.2.2.2.1
      rw [HIV.out] at c9
      have c7 := HX.out.cells.2.2.2.2.2.2.2.1
      rw [HF.out] at c7
      have f7 := HX.out.x.frozen 7
      have HX4 := Lib.hid (HX.out.upd (i := 7) (v := .bool false) (u := { s with lost := false }) (kv := iv) (lv := ov) rfl)
      have HX3 := Lib.hid (HX4.out.res { s with lost := false } iv ov)
      clear HX HIV
      go_upto_region 33 with fail
      generalize w2.setCell ⟨w.heap.size, 7, none⟩ (.bool false) = w4 at *
      clear c7 c9 f7
      go_wp2_with (first | (refine wpList_load_row rfl X17 _ rfl w.heap.size rfl X17 _ (0, 0) _ HX4.out.x Try.underlying32 rfl info_X17 ?_) | (refine wpList_store_row rfl X17 _ _ rfl (w.heap.size + 1) (xuV { s with lost := false } iv ov) rfl rfl X17 _ HX4.out.r info_X17 rfl (xuV_one _ HI.out.one HO.out.one) ?_))
      exact bodyPost_ret (results_cbbU X17 Try.results38 _ _ (w.heap.size + 1) _ _ _ rfl rfl rfl HX3.out.ret) rfl ⟨_, _, rfl, ⟨HI.out.low HX3.out.bel, HO.out.low HX3.out.bel, HX3.out.bel⟩⟩
set_option maxHeartbeats 8000000 in
theorem rread6 (G : Nat → Prop) (s : Ut.S) (iv ov : Value) (w : World) (hG : ∀ k, G k → k < w.heap.size) (hi : VwG G w iv s.q) (ho : VwG G w ov s.out) (ok : Ut.Ok s) :
    Calls Try.prog 38 #[.agg (xuV s iv ov), .int .u64 6] w fun e w' => ∃ iv' ov', e = .returned (.tuple #[.agg (xuV (Ut.readS s 6) iv' ov'), .int .i64 (Ut.readV s 6), .bool (Ut.is 6)]) ∧ XuQ G w w' (Ut.readS s 6) iv' ov' := by
  have HX := Lib.hid (XuAt.new w s iv ov)
  have hz := zero_x17
  have HI := Lib.hid hi
  have HO := Lib.hid ho
  have HG := Lib.hid hG
  have HOK := Lib.hid ok
  have H7 := Lib.hid (rbit_c s.lcr 7 ok.lcr.1 (by have := ok.lcr.2; omega) (by omega))
  have e7 := Ut.bti_b s.lcr 7
  have hhi : Ut.bt s.lcr 7 = Ut.hi s := rfl
  rw [hhi] at e7
  clear hi ho hhi
  generalize Ut.bti s.lcr 7 = b7 at *
  rw [Ut.is_lt (by omega), Ut.read6_v, Ut.read6_s]
  have hm := HOK.out.mcr
  have H4 := Lib.hid (rbit_c s.mcr 4 hm.1 (by omega) (by omega))
  have HB0 := Lib.hid (rbit_c s.mcr 0 hm.1 (by omega) (by omega))
  have HB1 := Lib.hid (rbit_c s.mcr 1 hm.1 (by omega) (by omega))
  have HB2 := Lib.hid (rbit_c s.mcr 2 hm.1 (by omega) (by omega))
  have HB3 := Lib.hid (rbit_c s.mcr 3 hm.1 (by omega) (by omega))
  have e4 := Ut.bti_z s.mcr 4
  have r0 := Ut.bti_rng s.mcr 0
  have r1 := Ut.bti_rng s.mcr 1
  have r2 := Ut.bti_rng s.mcr 2
  have r3 := Ut.bti_rng s.mcr 3
  generalize Ut.bti s.mcr 4 = b4 at *
  cases h4 : Ut.bt s.mcr 4 with
  | false =>
    rw [h4] at e4
    rw [Ut.modem_no _ h4]
    clear h4 HB0 HB1 HB2 HB3
    go_enter Try.func38, Try.ntmps38
    go_upto_region 1 with fail
    generalize (w.alloc (Obj.cells (xuV s iv ov) X17)).alloc (Obj.cells (xuV Ut.zero (.slice none 0 0) (.slice none 0 0)) X17) = w1 at *
    have c1 := HX.out.cells.2.1
    go_wp2_with fail
    refine (H7.out _).mono ?_
    rintro e w2 ⟨rfl, rfl⟩
    clear c1 H7
    have c2 := HX.out.cells.2.2.1
    go_wp2_with fail
    refine (H4.out _).mono ?_
    rintro e w3 ⟨rfl, rfl⟩
    have HX3 := Lib.hid (HX.out.res s iv ov)
    clear c2 H4
    go_wp2_with (first | (refine wpList_load_row rfl X17 _ rfl w.heap.size rfl X17 _ (0, 0) _ HX.out.x Try.underlying32 rfl info_X17 ?_) | (refine wpList_store_row rfl X17 _ _ rfl (w.heap.size + 1) (xuV s iv ov) rfl rfl X17 _ HX.out.r info_X17 rfl (xuV_one _ HI.out.one HO.out.one) ?_))
    exact bodyPost_ret (results_cbbU X17 Try.results38 _ _ (w.heap.size + 1) _ _ _ rfl rfl rfl HX3.out.ret) rfl ⟨_, _, rfl, ⟨HI.out.low HX3.out.bel, HO.out.low HX3.out.bel, HX3.out.bel⟩⟩
  | true =>
    rw [h4] at e4
    rw [Ut.modem_yes _ h4]
    clear h4
    generalize Ut.bti s.mcr 0 = b0 at *
    generalize Ut.bti s.mcr 1 = b1 at *
    generalize Ut.bti s.mcr 2 = b2 at *
    generalize Ut.bti s.mcr 3 = b3 at *
    have t1 : IntKind.i64.wrap (16 * b1) = 16 * b1 := wrapI (by omega) (by omega)
    have t2 : IntKind.i64.wrap (32 * b0) = 32 * b0 := wrapI (by omega) (by omega)
    have t3 : IntKind.i64.wrap (16 * b1 + 32 * b0) = 16 * b1 + 32 * b0 := wrapI (by omega) (by omega)
    have t4 : IntKind.i64.wrap (64 * b2) = 64 * b2 := wrapI (by omega) (by omega)
    have t5 : IntKind.i64.wrap (16 * b1 + 32 * b0 + 64 * b2) = 16 * b1 + 32 * b0 + 64 * b2 := wrapI (by omega) (by omega)
    have t6 : IntKind.i64.wrap (128 * b3) = 128 * b3 := wrapI (by omega) (by omega)
    have t7 : IntKind.i64.wrap (16 * b1 + 32 * b0 + 64 * b2 + 128 * b3) = 16 * b1 + 32 * b0 + 64 * b2 + 128 * b3 := wrapI (by omega) (by omega)
    clear r0 r1 r2 r3
    go_enter Try.func38, Try.ntmps38
    go_upto_region 1 with fail
    generalize (w.alloc (Obj.cells (xuV s iv ov) X17)).alloc (Obj.cells (xuV Ut.zero (.slice none 0 0) (.slice none 0 0)) X17) = w1 at *
    have c1 := HX.out.cells.2.1
    go_wp2_with fail
    refine (H7.out _).mono ?_
    rintro e w2 ⟨rfl, rfl⟩
    clear c1 H7
    have c2 := HX.out.cells.2.2.1
    go_wp2_with fail
    refine (H4.out _).mono ?_
    rintro e w3 ⟨rfl, rfl⟩
    clear c2 H4
    go_upto_region 37 with fail
    have hs0 : CsAt w3.drew w.heap.size X17 (xuV s iv ov) := HX.out.x.low (below_dU (Below.refl _ _) 1)
    have HXd := Lib.hid (show XuAt w w3.drew s Ut.zero iv ov (.slice none 0 0) (.slice none 0 0) from HX.out.low (below_dU (Below.refl _ _) 1))
    refine wp_region_noPanic ?_
    refine wp_region_held (S := fun W => CsAt W w.heap.size X17 (xuV s iv ov)) (by kernel_rfl) ?_
    refine takeH (fuel := 22) (i := 0) (.agg (xuV s iv ov)) ?_ rfl (by kernel_rfl) (by kernel_rfl) (by kernel_rfl) (fun _ _ _ h => h) (by kernel_rfl) (fun W hS => exec_load_row X17 _ rfl w.heap.size rfl X17 _ _ hS Try.underlying32 rfl info_X17) hs0 ?_ ?_
    rotate_left 1
    · go_simp
      exact rfl
    refine takeH (fuel := 21) (i := 1) (.pointer (some ⟨w.heap.size, 2, none⟩)) ?_ rfl (by kernel_rfl) (by kernel_rfl) (by kernel_rfl) (fun _ _ _ h => h) (by kernel_rfl) (fun W hS => by go_simp) hs0 ?_ ?_
    rotate_left 1
    · go_simp
      exact rfl
    refine takeH (fuel := 20) (i := 2) (.int .i64 s.mcr) ?_ rfl (by kernel_rfl) (by kernel_rfl) (by kernel_rfl) (fun _ _ _ h => h) (by kernel_rfl) (fun W hS => by (have q := hS.cell 2; simp only [xuV, List.getElem?_toArray, List.getElem?_cons_succ, List.getElem?_cons_zero] at q; go_simp)) hs0 ?_ ?_
    rotate_left 1
    · go_simp
      exact rfl
    refine takeH (fuel := 19) (i := 5) (.pointer (some ⟨w.heap.size, 2, none⟩)) ?_ rfl (by kernel_rfl) (by kernel_rfl) (by kernel_rfl) (fun _ _ _ h => h) (by kernel_rfl) (fun W hS => by go_simp) hs0 ?_ ?_
    rotate_left 1
    · go_simp
      exact rfl
    refine takeH (fuel := 18) (i := 6) (.int .i64 s.mcr) ?_ rfl (by kernel_rfl) (by kernel_rfl) (by kernel_rfl) (fun _ _ _ h => h) (by kernel_rfl) (fun W hS => by (have q := hS.cell 2; simp only [xuV, List.getElem?_toArray, List.getElem?_cons_succ, List.getElem?_cons_zero] at q; go_simp)) hs0 ?_ ?_
    rotate_left 1
    · go_simp
      exact rfl
    refine takeH (fuel := 17) (i := 10) (.pointer (some ⟨w.heap.size, 2, none⟩)) ?_ rfl (by kernel_rfl) (by kernel_rfl) (by kernel_rfl) (fun _ _ _ h => h) (by kernel_rfl) (fun W hS => by go_simp) hs0 ?_ ?_
    rotate_left 1
    · go_simp
      exact rfl
    refine takeH (fuel := 16) (i := 11) (.int .i64 s.mcr) ?_ rfl (by kernel_rfl) (by kernel_rfl) (by kernel_rfl) (fun _ _ _ h => h) (by kernel_rfl) (fun W hS => by (have q := hS.cell 2; simp only [xuV, List.getElem?_toArray, List.getElem?_cons_succ, List.getElem?_cons_zero] at q; go_simp)) hs0 ?_ ?_
    rotate_left 1
    · go_simp
      exact rfl
    refine takeH (fuel := 15) (i := 15) (.pointer (some ⟨w.heap.size, 2, none⟩)) ?_ rfl (by kernel_rfl) (by kernel_rfl) (by kernel_rfl) (fun _ _ _ h => h) (by kernel_rfl) (fun W hS => by go_simp) hs0 ?_ ?_
    rotate_left 1
    · go_simp
      exact rfl
    refine takeH (fuel := 14) (i := 16) (.int .i64 s.mcr) ?_ rfl (by kernel_rfl) (by kernel_rfl) (by kernel_rfl) (fun _ _ _ h => h) (by kernel_rfl) (fun W hS => by (have q := hS.cell 2; simp only [xuV, List.getElem?_toArray, List.getElem?_cons_succ, List.getElem?_cons_zero] at q; go_simp)) hs0 ?_ ?_
    rotate_left 1
    · go_simp
      exact rfl
    refine wpAnyH_all (fuel := 13) (rs := [3]) (by kernel_rfl) (by decide) ?_
    intro i hi
    obtain rfl : i = 3 := by simpa using hi
    refine wpOp_callX 68 #[.int .i64 s.mcr, .int .i64 1] rfl (by kernel_rfl) (by go_simp) ?_
    refine (HB1.out _).mono ?_
    rintro e w4 ⟨rfl, rfl⟩
    refine ⟨_, rfl, hs0, ?_⟩
    refine takeH (fuel := 12) (i := 4) (.int .i64 (16 * b1)) ?_ rfl (by kernel_rfl) (by kernel_rfl) (by kernel_rfl) (fun _ _ _ h => h) (by kernel_rfl) (fun W hS => by go_simp) hs0 ?_ ?_
    rotate_left 1
    · go_simp
      exact rfl
    refine wpAnyH_all (fuel := 11) (rs := [7]) (by kernel_rfl) (by decide) ?_
    intro i hi
    obtain rfl : i = 7 := by simpa using hi
    refine wpOp_callX 68 #[.int .i64 s.mcr, .int .i64 0] rfl (by kernel_rfl) (by go_simp) ?_
    refine (HB0.out _).mono ?_
    rintro e w4 ⟨rfl, rfl⟩
    refine ⟨_, rfl, hs0, ?_⟩
    refine takeH (fuel := 10) (i := 8) (.int .i64 (32 * b0)) ?_ rfl (by kernel_rfl) (by kernel_rfl) (by kernel_rfl) (fun _ _ _ h => h) (by kernel_rfl) (fun W hS => by go_simp) hs0 ?_ ?_
    rotate_left 1
    · go_simp
      exact rfl
    refine takeH (fuel := 9) (i := 9) (.int .i64 (16 * b1 + 32 * b0)) ?_ rfl (by kernel_rfl) (by kernel_rfl) (by kernel_rfl) (fun _ _ _ h => h) (by kernel_rfl) (fun W hS => by go_simp) hs0 ?_ ?_
    rotate_left 1
    · go_simp
      exact rfl
    refine wpAnyH_all (fuel := 8) (rs := [12]) (by kernel_rfl) (by decide) ?_
    intro i hi
    obtain rfl : i = 12 := by simpa using hi
    refine wpOp_callX 68 #[.int .i64 s.mcr, .int .i64 2] rfl (by kernel_rfl) (by go_simp) ?_
    refine (HB2.out _).mono ?_
    rintro e w4 ⟨rfl, rfl⟩
    refine ⟨_, rfl, hs0, ?_⟩
    refine takeH (fuel := 7) (i := 13) (.int .i64 (64 * b2)) ?_ rfl (by kernel_rfl) (by kernel_rfl) (by kernel_rfl) (fun _ _ _ h => h) (by kernel_rfl) (fun W hS => by go_simp) hs0 ?_ ?_
    rotate_left 1
    · go_simp
      exact rfl
    refine takeH (fuel := 6) (i := 14) (.int .i64 (16 * b1 + 32 * b0 + 64 * b2)) ?_ rfl (by kernel_rfl) (by kernel_rfl) (by kernel_rfl) (fun _ _ _ h => h) (by kernel_rfl) (fun W hS => by go_simp) hs0 ?_ ?_
    rotate_left 1
    · go_simp
      exact rfl
    refine wpAnyH_all (fuel := 5) (rs := [17]) (by kernel_rfl) (by decide) ?_
    intro i hi
    obtain rfl : i = 17 := by simpa using hi
    refine wpOp_callX 68 #[.int .i64 s.mcr, .int .i64 3] rfl (by kernel_rfl) (by go_simp) ?_
    refine (HB3.out _).mono ?_
    rintro e w4 ⟨rfl, rfl⟩
    refine ⟨_, rfl, hs0, ?_⟩
    refine takeH (fuel := 4) (i := 18) (.int .i64 (128 * b3)) ?_ rfl (by kernel_rfl) (by kernel_rfl) (by kernel_rfl) (fun _ _ _ h => h) (by kernel_rfl) (fun W hS => by go_simp) hs0 ?_ ?_
    rotate_left 1
    · go_simp
      exact rfl
    refine takeH (fuel := 3) (i := 19) (.int .i64 (16 * b1 + 32 * b0 + 64 * b2 + 128 * b3)) ?_ rfl (by kernel_rfl) (by kernel_rfl) (by kernel_rfl) (fun _ _ _ h => h) (by kernel_rfl) (fun W hS => by go_simp) hs0 ?_ ?_
    rotate_left 1
    · go_simp
      exact rfl
    refine wpAnyH_all (fuel := 2) (rs := [20]) (by kernel_rfl) (by decide) ?_
    intro i hi
    obtain rfl : i = 20 := by simpa using hi
    refine wpOp_unitB (w3.drew.setRow (w.heap.size + 1) (xuV s iv ov)) _ rfl (by kernel_rfl) (exec_store_row X17 _ _ rfl (w.heap.size + 1) (xuV s iv ov) rfl rfl X17 _ HXd.out.r info_X17 rfl (xuV_one _ HI.out.one HO.out.one)) rfl ?_
    have HX3 := Lib.hid (HXd.out.res s iv ov)
    have hs1 := HX3.out.x
    refine ⟨hs1, ?_⟩
    refine takeH (fuel := 1) (i := 21) (.int .i64 (16 * b1 + 32 * b0 + 64 * b2 + 128 * b3)) ?_ rfl (by kernel_rfl) (by kernel_rfl) (by kernel_rfl) (fun _ _ _ h => h) (by kernel_rfl) (fun W hS => by go_simp) hs1 ?_ ?_
    rotate_left 1
    · go_simp
      exact rfl
    refine takeH (fuel := 0) (i := 22) (.bool true) ?_ rfl (by kernel_rfl) (by kernel_rfl) (by kernel_rfl) (fun _ _ _ h => h) (by kernel_rfl) (fun W hS => by go_simp) hs1 ?_ ?_
    rotate_left 1
    · go_simp
      exact rfl
    refine wpAnyH_done (by kernel_rfl) ?_ _
    refine NoPanic.normal ?_
    clear hs0 hs1 HX
    generalize w3.drew.setRow (w.heap.size + 1) (xuV s iv ov) = w9 at *
    go_wp2_with fail
    exact bodyPost_ret (results_cbbU X17 Try.results38 _ _ (w.heap.size + 1) _ _ _ rfl rfl rfl HX3.out.ret) rfl ⟨_, _, rfl, ⟨HI.out.low HX3.out.bel, HO.out.low HX3.out.bel, HX3.out.bel⟩⟩
theorem rread_c (G : Nat → Prop) (s : Ut.S) (iv ov : Value) (off : Int) (o0 : 0 ≤ off) (w : World) (hG : ∀ k, G k → k < w.heap.size) (hi : VwG G w iv s.q) (ho : VwG G w ov s.out) (ok : Ut.Ok s) :
    Calls Try.prog 38 #[.agg (xuV s iv ov), .int .u64 off] w fun e w' => ∃ iv' ov', e = .returned (.tuple #[.agg (xuV (Ut.readS s off) iv' ov'), .int .i64 (Ut.readV s off), .bool (Ut.is off)]) ∧ XuQ G w w' (Ut.readS s off) iv' ov' := by
  by_cases hf : 8 ≤ off
  · exact rread_far G s iv ov off w hG hi ho ok hf
  · obtain rfl | rfl | rfl | rfl | rfl | rfl | rfl | rfl : off = 0 ∨ off = 1 ∨ off = 2 ∨ off = 3 ∨ off = 4 ∨ off = 5 ∨ off = 6 ∨ off = 7 := by omega
    · cases hl : Ut.hi s with
      | true => exact rread0h G s iv ov w hG hi ho ok hl
      | false =>
        cases hq : s.q with
        | nil => exact rread0n G s iv ov w hG hi ho ok hl hq
        | cons x xs => exact rread0c G s iv ov w hG hi ho ok hl x xs hq
    · exact rread1 G s iv ov w hG hi ho ok
    · exact rread2 G s iv ov w hG hi ho ok
    · exact rread3 G s iv ov w hG hi ho ok
    · exact rread4 G s iv ov w hG hi ho ok
    · exact rread5 G s iv ov w hG hi ho ok
    · exact rread6 G s iv ov w hG hi ho ok
    · exact rread7 G s iv ov w hG hi ho ok
end Go.Proofs.Ytihinimgenpijaa
