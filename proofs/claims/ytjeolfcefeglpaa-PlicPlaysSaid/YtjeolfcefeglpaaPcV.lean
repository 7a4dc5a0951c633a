/-
  The law of layer 16: what is done to both controllers.
-/
import Derived.Test.YtjeolfcefeglpaaPcW
import Derived.Test.YtjeolfcefeglpaaPcG
set_option maxRecDepth 20000
namespace Go.Proofs.Ytjeolfcefeglpaa
open Go.ChangeShapes Go.WideShapes Go.ChangeAt Go.RowKit

abbrev T69 : TypeId := 69
def dpV (kd off sz v : Int) : Array Value := #[.int .i64 kd, .int .u64 off, .int .i64 sz, .int .u64 v]
theorem info_dp : (Try.prog.info? T69).map (·.size) = some 4 := by kernel_rfl
namespace Pc
/-- What a deed leaves. -/
def doW (n : Nat) (ws : List Int) (kd off sz v : Int) : List Int := if kd = 0 then readW n ws off sz else if kd = 1 then writeW n ws off sz v else wireW n ws sz (v % 2 == 1)
theorem do_ok {n : Nat} {ws : List Int} (h : Ok n ws) (kd off sz : Int) {v : Int} (v0 : 0 ≤ v) (v1 : v < 18446744073709551616) : Ok n (doW n ws kd off sz v) := by
  unfold doW
  split
  · exact read_ok h _ _
  · split
    · exact write_ok h _ _ v0 v1
    · exact wireW_ok h _ _
end Pc
theorem CsAt.dp {w : World} {b : Nat} {kd off sz v : Int} (h : CsAt w b T69 (dpV kd off sz v)) : w.cell? ⟨b, 0, none⟩ = some (.int .i64 kd) ∧ w.cell? ⟨b, 1, none⟩ = some (.int .u64 off) ∧ w.cell? ⟨b, 2, none⟩ = some (.int .i64 sz) ∧ w.cell? ⟨b, 3, none⟩ = some (.int .u64 v) :=
  ⟨by rw [h.cell]; rfl, by rw [h.cell]; rfl, by rw [h.cell]; rfl, by rw [h.cell]; rfl⟩
theorem Och.row {b c : Nat} {w W : World} (h : Och (some b) w W) (hc : w.heap.size ≤ c) (cs : Array Value) : Och (some b) w (W.setRow c cs) :=
  ⟨h.os, h.tape, h.output, by simpa using h.size, fun k hk hne => (setRow_other W c k cs (by omega)).trans (h.block k hk hne)⟩
/-- Where do stands. -/
structure DpAt (w W : World) (b n : Nat) (ws vs : List Int) (kd off sz v : Int) : Prop where
  p : PcAt W b n vs
  x : XpAt W w.heap.size n ws
  d : CsAt W (w.heap.size + 1) T69 (dpV kd off sz v)
  z : CsAt W (w.heap.size + 2) X16 (x16V 0 Pc.zeros)
  och : Och (some b) w W
  lt : b < w.heap.size
section
variable {w W W' : World} {b n : Nat} {ws vs us : List Int} {kd off sz v : Int}
theorem DpAt.low (h : DpAt w W b n ws vs kd off sz v) (hb : Below W.heap.size W W') : DpAt w W' b n ws vs kd off sz v :=
  ⟨h.p.low hb, h.x.low hb, h.d.low hb, h.z.low hb, h.och.trans (Och.of_below hb), h.lt⟩
theorem DpAt.did (h : DpAt w W b n ws vs kd off sz v) (hz : PcP W' (some ⟨b, 0, none⟩) n us) (ho : Och (some b) W W') : DpAt w W' b n ws us kd off sz v :=
  ⟨hz.of, CsAt.och h.x ho (by have := h.lt; simp; omega), h.d.och ho (by have := h.lt; simp; omega), h.z.och ho (by have := h.lt; simp; omega), h.och.trans ho, h.lt⟩
theorem DpAt.new (h : PcAt w b n ws) (kd off sz v : Int) : DpAt w (((w.alloc (.cells (x16V n ws) X16)).alloc (.cells (dpV kd off sz v) T69)).alloc (.cells (x16V 0 Pc.zeros) X16)) b n ws ws kd off sz v := by
  have e1 : (w.alloc (.cells (x16V n ws) X16)).heap.size = w.heap.size + 1 := by simp
  have e2 : ((w.alloc (.cells (x16V n ws) X16)).alloc (.cells (dpV kd off sz v) T69)).heap.size = w.heap.size + 2 := by simp
  have hb : Below w.heap.size w (((w.alloc (.cells (x16V n ws) X16)).alloc (.cells (dpV kd off sz v) T69)).alloc (.cells (x16V 0 Pc.zeros) X16)) :=
    (((Below.refl w.heap.size w).alloc (Nat.le_refl _) _).alloc (by simp) _).alloc (by simp; omega) _
  refine ⟨h.low hb, ((CsAt.new w X16 (x16V n ws)).alloc _).alloc _, ?_, ?_, Och.of_below hb, h.lt⟩
  · have := (CsAt.new (w.alloc (.cells (x16V n ws) X16)) T69 (dpV kd off sz v)).alloc (.cells (x16V 0 Pc.zeros) X16)
    rwa [e1] at this
  · have := CsAt.new ((w.alloc (.cells (x16V n ws) X16)).alloc (.cells (dpV kd off sz v) T69)) X16 (x16V 0 Pc.zeros)
    rwa [e2] at this
end
set_option maxRecDepth 100000 in
set_option maxHeartbeats 1000000 in
theorem rdoa16_c (b n : Nat) (ws : List Int) (kd off sz v : Int) (o0 : 0 ≤ off) (o1 : off ≤ 18446744073709551615) (_s0 : -9223372036854775808 ≤ sz) (_s1 : sz ≤ 9223372036854775807) (_v0 : 0 ≤ v) (_v1 : v ≤ 18446744073709551615) (w : World) (hp : PcAt w b n ws) (hk : kd = 0) :
    Calls Try.prog 28 #[.pointer (some ⟨b, 0, none⟩), .agg (x16V n ws), .agg (dpV kd off sz v)] w fun e w' => e = .returned (.tuple #[.agg (x16V n (Pc.readW n ws off sz)), .bool true]) ∧ PcAt w' b n (Pc.readW n ws off sz) ∧ Och (some b) w w' := by
  have HD := Lib.hid (DpAt.new hp kd off sz v)
  have HK := Lib.hid hp.ok
  have hz := zero_x16
  have g0 : (kd == 0) = true := by simpa using hk
  clear hk hp
  have HRR := Lib.hid (rread16_c n ws HK.out off sz)
  have HPR := Lib.hid (fun W (h : PcP W (some ⟨b, 0, none⟩) n ws) => pread_c (some ⟨b, 0, none⟩) n ws off sz o0 o1 W h)
  generalize Pc.readW n ws off sz = us at *
  generalize Pc.readV n ws off sz = rv at *
  generalize Pc.is n off sz = q at *
  go_enter Try.func28, Try.ntmps28
  go_upto_region 1 with fail
  generalize ((w.alloc (.cells (x16V n ws) X16)).alloc (.cells (dpV kd off sz v) T69)).alloc (.cells (x16V 0 Pc.zeros) X16) = w1 at *
  obtain ⟨d0, d1, d2, d3⟩ := HD.out.d.dp
  go_wp2_with fail
  refine (HPR.out w1 HD.out.p.at_).mono ?_
  rintro e w2 ⟨rfl, hA2, ho2⟩
  have HD2 := Lib.hid (HD.out.did hA2 ho2)
  clear hA2 ho2 d0 d1 d2 d3 HD
  obtain ⟨d0, d1, d2, d3⟩ := HD2.out.d.dp
  go_wp2_with (refine wpList_load_row rfl X16 _ rfl w.heap.size rfl X16 _ (0, 0) _ HD2.out.x Try.underlying65 rfl iX16 ?_)
  refine (HRR.out _).mono ?_
  rintro e w3 ⟨rfl, hb3⟩
  have HD3 := Lib.hid (HD2.out.low hb3)
  clear hb3 HRR HD2 d0 d1 d2 d3
  go_upto_region 5 with (refine wpList_storeNew (w0 := w3) rfl X16 _ _ rfl (x16V 0 Pc.zeros) (x16V n us) X16 rfl rfl iX16 sz16 x16_one ?_)
  have hb4 : Below w3.heap.size w3 (w3.alloc (Obj.cells (x16V n us) X16)) := (Below.refl _ _).alloc (Nat.le_refl _) _
  have HD4 := Lib.hid (HD3.out.low hb4)
  have HC4 := Lib.hid (CsAt.new w3 X16 (x16V n us))
  clear hb4 HD3 hz
  generalize w3.alloc (Obj.cells (x16V n us) X16) = w4 at *
  go_wp2_with (first | (refine wpList_load_row rfl X16 _ rfl w3.heap.size rfl X16 _ (0, 0) _ HC4.out Try.underlying65 rfl iX16 ?_) | (refine wpList_store_row rfl X16 _ _ rfl (w.heap.size + 2) (x16V n us) rfl rfl X16 (x16V 0 Pc.zeros) HD4.out.z iX16 sz16 x16_one ?_))
  have hlt := HD4.out.lt
  exact bodyPost_ret (results_cb X16 Try.results28 _ _ (w.heap.size + 2) _ _ rfl rfl (run_loadVar_row _ _ X16 X16 _ (0, 0) _ (HD4.out.z.row _) Try.underlying65 rfl iX16)) rfl ⟨rfl, ⟨HD4.out.p.row.rowFar (by omega) _, HD4.out.p.ok⟩, HD4.out.och.row (by omega) _⟩
set_option maxRecDepth 100000 in
set_option maxHeartbeats 1000000 in
theorem rdob16_c (b n : Nat) (ws : List Int) (kd off sz v : Int) (o0 : 0 ≤ off) (o1 : off ≤ 18446744073709551615) (_s0 : -9223372036854775808 ≤ sz) (_s1 : sz ≤ 9223372036854775807) (v0 : 0 ≤ v) (_v1 : v ≤ 18446744073709551615) (w : World) (hp : PcAt w b n ws) (hk : kd = 1) :
    Calls Try.prog 28 #[.pointer (some ⟨b, 0, none⟩), .agg (x16V n ws), .agg (dpV kd off sz v)] w fun e w' => e = .returned (.tuple #[.agg (x16V n (Pc.writeW n ws off sz v)), .bool true]) ∧ PcAt w' b n (Pc.writeW n ws off sz v) ∧ Och (some b) w w' := by
  have HD := Lib.hid (DpAt.new hp kd off sz v)
  have HK := Lib.hid hp.ok
  have hz := zero_x16
  have g0 : (kd == 0) = false := by rw [hk]; rfl
  have g1 : (kd == 1) = true := by simpa using hk
  clear hk hp
  have HRR := Lib.hid (rwrite16_c n ws HK.out off sz v v0 (by omega))
  have HPC := Lib.hid (fun W (h : PcP W (some ⟨b, 0, none⟩) n ws) => pwrite_c _ n ws off sz o0 o1 v v0 (by omega) W h)
  generalize Pc.writeW n ws off sz v = us at *
  generalize Pc.is n off sz = q at *
  go_enter Try.func28, Try.ntmps28
  go_upto_region 1 with fail
  generalize ((w.alloc (.cells (x16V n ws) X16)).alloc (.cells (dpV kd off sz v) T69)).alloc (.cells (x16V 0 Pc.zeros) X16) = w1 at *
  obtain ⟨d0, d1, d2, d3⟩ := HD.out.d.dp
  go_wp2_with (refine wpList_load_row rfl X16 _ rfl w.heap.size rfl X16 _ (0, 0) _ HD.out.x Try.underlying65 rfl iX16 ?_)
  refine (HRR.out _).mono ?_
  rintro e w2 ⟨rfl, hb2⟩
  have HD2 := Lib.hid (HD.out.low hb2)
  clear hb2 HRR HD d0 d1 d2 d3
  go_upto_region 8 with (refine wpList_storeNew (w0 := w2) rfl X16 _ _ rfl (x16V 0 Pc.zeros) (x16V n us) X16 rfl rfl iX16 sz16 x16_one ?_)
  have hb3 : Below w2.heap.size w2 (w2.alloc (Obj.cells (x16V n us) X16)) := (Below.refl _ _).alloc (Nat.le_refl _) _
  have HD3 := Lib.hid (HD2.out.low hb3)
  have HC3 := Lib.hid (CsAt.new w2 X16 (x16V n us))
  have hlt2 := HD2.out.z.lt
  clear hb3 HD2 hz
  generalize w2.alloc (Obj.cells (x16V n us) X16) = w3 at *
  have hlt := HD3.out.lt
  have hD3d : DpAt w w3.drew b n ws ws kd off sz v := HD3.out.low (Below.refl _ _).drew
  have hS0 : CsAt w3.drew (w.heap.size + 1) T69 (dpV kd off sz v) ∧ CsAt w3.drew w2.heap.size X16 (x16V n us) := ⟨hD3d.d, HC3.out⟩
  refine wp_region_noPanic ?_
  refine wp_region_held (S := fun W => CsAt W (w.heap.size + 1) T69 (dpV kd off sz v) ∧ CsAt W w2.heap.size X16 (x16V n us)) (by kernel_rfl) ?_
  refine takeH (fuel := 12) (i := 0) (.agg (x16V n us)) ?_ rfl (by kernel_rfl) (by kernel_rfl) (by kernel_rfl) (fun _ _ _ h => h) (by kernel_rfl) (fun W hS => exec_load_row X16 _ rfl w2.heap.size rfl X16 _ _ hS.2 Try.underlying65 rfl iX16) hS0 ?_ ?_
  rotate_left 1
  · go_simp
    exact rfl
  refine takeH (fuel := 11) (i := 1) (.pointer (some ⟨b, 0, none⟩)) ?_ rfl (by kernel_rfl) (by kernel_rfl) (by kernel_rfl) (fun _ _ _ h => h) (by kernel_rfl) (fun W hS => by go_simp) hS0 ?_ ?_
  rotate_left 1
  · go_simp
    exact rfl
  refine takeH (fuel := 10) (i := 2) (.pointer (some ⟨w.heap.size + 1, 1, none⟩)) ?_ rfl (by kernel_rfl) (by kernel_rfl) (by kernel_rfl) (fun _ _ _ h => h) (by kernel_rfl) (fun W hS => by go_simp) hS0 ?_ ?_
  rotate_left 1
  · go_simp
    exact rfl
  refine takeH (fuel := 9) (i := 3) (.int .u64 off) ?_ rfl (by kernel_rfl) (by kernel_rfl) (by kernel_rfl) (fun _ _ _ h => h) (by kernel_rfl) (fun W hS => by obtain ⟨-, d1, d2, d3⟩ := hS.1.dp; go_simp) hS0 ?_ ?_
  rotate_left 1
  · go_simp
    exact rfl
  refine takeH (fuel := 8) (i := 4) (.pointer (some ⟨w.heap.size + 1, 2, none⟩)) ?_ rfl (by kernel_rfl) (by kernel_rfl) (by kernel_rfl) (fun _ _ _ h => h) (by kernel_rfl) (fun W hS => by go_simp) hS0 ?_ ?_
  rotate_left 1
  · go_simp
    exact rfl
  refine takeH (fuel := 7) (i := 5) (.int .i64 sz) ?_ rfl (by kernel_rfl) (by kernel_rfl) (by kernel_rfl) (fun _ _ _ h => h) (by kernel_rfl) (fun W hS => by obtain ⟨-, d1, d2, d3⟩ := hS.1.dp; go_simp) hS0 ?_ ?_
  rotate_left 1
  · go_simp
    exact rfl
  refine takeH (fuel := 6) (i := 6) (.pointer (some ⟨w.heap.size + 1, 3, none⟩)) ?_ rfl (by kernel_rfl) (by kernel_rfl) (by kernel_rfl) (fun _ _ _ h => h) (by kernel_rfl) (fun W hS => by go_simp) hS0 ?_ ?_
  rotate_left 1
  · go_simp
    exact rfl
  refine takeH (fuel := 5) (i := 7) (.int .u64 v) ?_ rfl (by kernel_rfl) (by kernel_rfl) (by kernel_rfl) (fun _ _ _ h => h) (by kernel_rfl) (fun W hS => by obtain ⟨-, d1, d2, d3⟩ := hS.1.dp; go_simp) hS0 ?_ ?_
  rotate_left 1
  · go_simp
    exact rfl
  refine takeH (fuel := 4) (i := 9) (.bool q) ?_ rfl (by kernel_rfl) (by kernel_rfl) (by kernel_rfl) (fun _ _ _ h => h) (by kernel_rfl) (fun W hS => by go_simp) hS0 ?_ ?_
  rotate_left 1
  · go_simp
    exact rfl
  refine wpAnyH_all (fuel := 3) (rs := [8]) (by kernel_rfl) (by decide) ?_
  intro i hi
  obtain rfl : i = 8 := by simpa using hi
  change Go.wpOp _ _ _ _ _ _ w3.drew
  refine wpOp_callX 35 #[.pointer (some ⟨b, 0, none⟩), .int .u64 off, .int .i64 sz, .int .u64 v] rfl (by kernel_rfl) (by go_simp) ?_
  refine (HPC.out w3.drew hD3d.p.at_).mono ?_
  rintro e w4 ⟨rfl, hT4, hM4⟩
  have hD4 := hD3d.did hT4 hM4
  have hC4 : CsAt w4 w2.heap.size X16 (x16V n us) := hS0.2.och hM4 (by simp [pb]; omega)
  have hS4 : CsAt w4 (w.heap.size + 1) T69 (dpV kd off sz v) ∧ CsAt w4 w2.heap.size X16 (x16V n us) := ⟨hD4.d, hC4⟩
  refine ⟨_, rfl, hS4, ?_⟩
  refine takeH (fuel := 2) (i := 10) (.bool true) ?_ rfl (by kernel_rfl) (by kernel_rfl) (by kernel_rfl) (fun _ _ _ h => h) (by kernel_rfl) (fun W hS => by go_simp) hS4 ?_ ?_
  rotate_left 1
  · go_simp
    exact rfl
  refine wpAnyH_all (fuel := 1) (rs := [11]) (by kernel_rfl) (by decide) ?_
  intro i hi
  obtain rfl : i = 11 := by simpa using hi
  refine wpOp_unitB (w4.setRow (w.heap.size + 2) (x16V n us)) _ rfl (by kernel_rfl) (exec_store_row X16 _ _ rfl (w.heap.size + 2) (x16V n us) rfl rfl X16 (x16V 0 Pc.zeros) hD4.z iX16 sz16 x16_one) rfl ?_
  have hS5 : CsAt (w4.setRow (w.heap.size + 2) (x16V n us)) (w.heap.size + 1) T69 (dpV kd off sz v) ∧ CsAt (w4.setRow (w.heap.size + 2) (x16V n us)) w2.heap.size X16 (x16V n us) := ⟨hS4.1.rowFar (by omega) _, hS4.2.rowFar (by omega) _⟩
  refine ⟨hS5, ?_⟩
  refine takeH (fuel := 0) (i := 12) (.bool true) ?_ rfl (by kernel_rfl) (by kernel_rfl) (by kernel_rfl) (fun _ _ _ h => h) (by kernel_rfl) (fun W hS => by go_simp) hS5 ?_ ?_
  rotate_left 1
  · go_simp
    exact rfl
  refine wpAnyH_done (by kernel_rfl) ?_ _
  refine NoPanic.normal ?_
  have HF := Lib.hid (show CsAt (w4.setRow (w.heap.size + 2) (x16V n us)) (w.heap.size + 2) X16 (x16V n us) ∧ PcAt (w4.setRow (w.heap.size + 2) (x16V n us)) b n us ∧ Och (some b) w (w4.setRow (w.heap.size + 2) (x16V n us)) from
    ⟨hD4.z.row _, ⟨hD4.p.row.rowFar (by omega) _, hD4.p.ok⟩, hD4.och.row (by omega) _⟩)
  clear hS4 hC4 hD4 hT4 hM4 hS0 hS5 hD3d
  generalize w4.setRow (w.heap.size + 2) (x16V n us) = w5 at *
  go_wp2_with fail
  exact bodyPost_ret (results_cb X16 Try.results28 _ _ (w.heap.size + 2) _ _ rfl rfl (run_loadVar_row _ _ X16 X16 _ (0, 0) _ HF.out.1 Try.underlying65 rfl iX16)) rfl ⟨rfl, HF.out.2.1, HF.out.2.2⟩
set_option maxRecDepth 100000 in
set_option maxHeartbeats 1000000 in
theorem rdoc16_c (b n : Nat) (ws : List Int) (kd off sz v : Int) (_o0 : 0 ≤ off) (_o1 : off ≤ 18446744073709551615) (s0 : -9223372036854775808 ≤ sz) (s1 : sz ≤ 9223372036854775807) (v0 : 0 ≤ v) (_v1 : v ≤ 18446744073709551615) (w : World) (hp : PcAt w b n ws) (on : Bool) (hon : (v % 2 == 1) = on) (hk : kd ≠ 0 ∧ kd ≠ 1) :
    Calls Try.prog 28 #[.pointer (some ⟨b, 0, none⟩), .agg (x16V n ws), .agg (dpV kd off sz v)] w fun e w' => e = .returned (.tuple #[.agg (x16V n (Pc.wireW n ws sz on)), .bool true]) ∧ PcAt w' b n (Pc.wireW n ws sz on) ∧ Och (some b) w w' := by
  have HD := Lib.hid (DpAt.new hp kd off sz v)
  have HK := Lib.hid hp.ok
  have hz := zero_x16
  have g0 : (kd == 0) = false := by simpa using hk.1
  have g1 : (kd == 1) = false := by simpa using hk.2
  clear hk hp
  have HRR := Lib.hid (rwire16_c n ws HK.out sz on)
  have HPC := Lib.hid (fun W (h : PcP W (some ⟨b, 0, none⟩) n ws) => pwire_c _ n ws sz s0 s1 on W h)
  generalize Pc.wireW n ws sz on = us at *
  generalize Pc.wires n sz = q at *
  go_enter Try.func28, Try.ntmps28
  go_upto_region 1 with fail
  generalize ((w.alloc (.cells (x16V n ws) X16)).alloc (.cells (dpV kd off sz v) T69)).alloc (.cells (x16V 0 Pc.zeros) X16) = w1 at *
  obtain ⟨d0, d1, d2, d3⟩ := HD.out.d.dp
  go_wp2_with (refine wpList_load_row rfl X16 _ rfl w.heap.size rfl X16 _ (0, 0) _ HD.out.x Try.underlying65 rfl iX16 ?_)
  refine (HRR.out _).mono ?_
  rintro e w2 ⟨rfl, hb2⟩
  have HD2 := Lib.hid (HD.out.low hb2)
  clear hb2 HRR HD d0 d1 d2 d3
  go_upto_region 10 with (refine wpList_storeNew (w0 := w2) rfl X16 _ _ rfl (x16V 0 Pc.zeros) (x16V n us) X16 rfl rfl iX16 sz16 x16_one ?_)
  have hb3 : Below w2.heap.size w2 (w2.alloc (Obj.cells (x16V n us) X16)) := (Below.refl _ _).alloc (Nat.le_refl _) _
  have HD3 := Lib.hid (HD2.out.low hb3)
  have HC3 := Lib.hid (CsAt.new w2 X16 (x16V n us))
  have hlt2 := HD2.out.z.lt
  clear hb3 HD2 hz
  generalize w2.alloc (Obj.cells (x16V n us) X16) = w3 at *
  have hlt := HD3.out.lt
  have hD3d : DpAt w w3.drew b n ws ws kd off sz v := HD3.out.low (Below.refl _ _).drew
  have hS0 : CsAt w3.drew (w.heap.size + 1) T69 (dpV kd off sz v) ∧ CsAt w3.drew w2.heap.size X16 (x16V n us) := ⟨hD3d.d, HC3.out⟩
  refine wp_region_noPanic ?_
  refine wp_region_held (S := fun W => CsAt W (w.heap.size + 1) T69 (dpV kd off sz v) ∧ CsAt W w2.heap.size X16 (x16V n us)) (by kernel_rfl) ?_
  refine takeH (fuel := 12) (i := 0) (.agg (x16V n us)) ?_ rfl (by kernel_rfl) (by kernel_rfl) (by kernel_rfl) (fun _ _ _ h => h) (by kernel_rfl) (fun W hS => exec_load_row X16 _ rfl w2.heap.size rfl X16 _ _ hS.2 Try.underlying65 rfl iX16) hS0 ?_ ?_
  rotate_left 1
  · go_simp
    exact rfl
  refine takeH (fuel := 11) (i := 1) (.pointer (some ⟨b, 0, none⟩)) ?_ rfl (by kernel_rfl) (by kernel_rfl) (by kernel_rfl) (fun _ _ _ h => h) (by kernel_rfl) (fun W hS => by go_simp) hS0 ?_ ?_
  rotate_left 1
  · go_simp
    exact rfl
  refine takeH (fuel := 10) (i := 2) (.pointer (some ⟨w.heap.size + 1, 2, none⟩)) ?_ rfl (by kernel_rfl) (by kernel_rfl) (by kernel_rfl) (fun _ _ _ h => h) (by kernel_rfl) (fun W hS => by go_simp) hS0 ?_ ?_
  rotate_left 1
  · go_simp
    exact rfl
  refine takeH (fuel := 9) (i := 3) (.int .i64 sz) ?_ rfl (by kernel_rfl) (by kernel_rfl) (by kernel_rfl) (fun _ _ _ h => h) (by kernel_rfl) (fun W hS => by obtain ⟨-, d1, d2, d3⟩ := hS.1.dp; go_simp) hS0 ?_ ?_
  rotate_left 1
  · go_simp
    exact rfl
  refine takeH (fuel := 8) (i := 4) (.pointer (some ⟨w.heap.size + 1, 3, none⟩)) ?_ rfl (by kernel_rfl) (by kernel_rfl) (by kernel_rfl) (fun _ _ _ h => h) (by kernel_rfl) (fun W hS => by go_simp) hS0 ?_ ?_
  rotate_left 1
  · go_simp
    exact rfl
  refine takeH (fuel := 7) (i := 5) (.int .u64 v) ?_ rfl (by kernel_rfl) (by kernel_rfl) (by kernel_rfl) (fun _ _ _ h => h) (by kernel_rfl) (fun W hS => by obtain ⟨-, d1, d2, d3⟩ := hS.1.dp; go_simp) hS0 ?_ ?_
  rotate_left 1
  · go_simp
    exact rfl
  refine takeH (fuel := 6) (i := 6) (.int .u64 (v % 2)) ?_ rfl (by kernel_rfl) (by kernel_rfl) (by kernel_rfl) (fun _ _ _ h => h) (by kernel_rfl) (fun W hS => by go_simp; exact Int.tmod_eq_emod_of_nonneg v0) hS0 ?_ ?_
  rotate_left 1
  · go_simp
    exact rfl
  refine takeH (fuel := 5) (i := 7) (.bool on) ?_ rfl (by kernel_rfl) (by kernel_rfl) (by kernel_rfl) (fun _ _ _ h => h) (by kernel_rfl) (fun W hS => by go_simp) hS0 ?_ ?_
  rotate_left 1
  · go_simp
    exact rfl
  refine takeH (fuel := 4) (i := 9) (.bool q) ?_ rfl (by kernel_rfl) (by kernel_rfl) (by kernel_rfl) (fun _ _ _ h => h) (by kernel_rfl) (fun W hS => by go_simp) hS0 ?_ ?_
  rotate_left 1
  · go_simp
    exact rfl
  refine wpAnyH_all (fuel := 3) (rs := [8]) (by kernel_rfl) (by decide) ?_
  intro i hi
  obtain rfl : i = 8 := by simpa using hi
  change Go.wpOp _ _ _ _ _ _ w3.drew
  refine wpOp_callX 36 #[.pointer (some ⟨b, 0, none⟩), .int .i64 sz, .bool on] rfl (by kernel_rfl) (by go_simp) ?_
  refine (HPC.out w3.drew hD3d.p.at_).mono ?_
  rintro e w4 ⟨rfl, hT4, hM4⟩
  have hD4 := hD3d.did hT4 hM4
  have hC4 : CsAt w4 w2.heap.size X16 (x16V n us) := hS0.2.och hM4 (by simp [pb]; omega)
  have hS4 : CsAt w4 (w.heap.size + 1) T69 (dpV kd off sz v) ∧ CsAt w4 w2.heap.size X16 (x16V n us) := ⟨hD4.d, hC4⟩
  refine ⟨_, rfl, hS4, ?_⟩
  refine takeH (fuel := 2) (i := 10) (.bool true) ?_ rfl (by kernel_rfl) (by kernel_rfl) (by kernel_rfl) (fun _ _ _ h => h) (by kernel_rfl) (fun W hS => by go_simp) hS4 ?_ ?_
  rotate_left 1
  · go_simp
    exact rfl
  refine wpAnyH_all (fuel := 1) (rs := [11]) (by kernel_rfl) (by decide) ?_
  intro i hi
  obtain rfl : i = 11 := by simpa using hi
  refine wpOp_unitB (w4.setRow (w.heap.size + 2) (x16V n us)) _ rfl (by kernel_rfl) (exec_store_row X16 _ _ rfl (w.heap.size + 2) (x16V n us) rfl rfl X16 (x16V 0 Pc.zeros) hD4.z iX16 sz16 x16_one) rfl ?_
  have hS5 : CsAt (w4.setRow (w.heap.size + 2) (x16V n us)) (w.heap.size + 1) T69 (dpV kd off sz v) ∧ CsAt (w4.setRow (w.heap.size + 2) (x16V n us)) w2.heap.size X16 (x16V n us) := ⟨hS4.1.rowFar (by omega) _, hS4.2.rowFar (by omega) _⟩
  refine ⟨hS5, ?_⟩
  refine takeH (fuel := 0) (i := 12) (.bool true) ?_ rfl (by kernel_rfl) (by kernel_rfl) (by kernel_rfl) (fun _ _ _ h => h) (by kernel_rfl) (fun W hS => by go_simp) hS5 ?_ ?_
  rotate_left 1
  · go_simp
    exact rfl
  refine wpAnyH_done (by kernel_rfl) ?_ _
  refine NoPanic.normal ?_
  have HF := Lib.hid (show CsAt (w4.setRow (w.heap.size + 2) (x16V n us)) (w.heap.size + 2) X16 (x16V n us) ∧ PcAt (w4.setRow (w.heap.size + 2) (x16V n us)) b n us ∧ Och (some b) w (w4.setRow (w.heap.size + 2) (x16V n us)) from
    ⟨hD4.z.row _, ⟨hD4.p.row.rowFar (by omega) _, hD4.p.ok⟩, hD4.och.row (by omega) _⟩)
  clear hS4 hC4 hD4 hT4 hM4 hS0 hS5 hD3d
  generalize w4.setRow (w.heap.size + 2) (x16V n us) = w5 at *
  go_wp2_with fail
  exact bodyPost_ret (results_cb X16 Try.results28 _ _ (w.heap.size + 2) _ _ rfl rfl (run_loadVar_row _ _ X16 X16 _ (0, 0) _ HF.out.1 Try.underlying65 rfl iX16)) rfl ⟨rfl, HF.out.2.1, HF.out.2.2⟩
theorem rdo16_c (b n : Nat) (ws : List Int) (kd off sz v : Int) (o0 : 0 ≤ off) (o1 : off ≤ 18446744073709551615) (s0 : -9223372036854775808 ≤ sz) (s1 : sz ≤ 9223372036854775807) (v0 : 0 ≤ v) (v1 : v ≤ 18446744073709551615) (w : World) (hp : PcAt w b n ws) :
    Calls Try.prog 28 #[.pointer (some ⟨b, 0, none⟩), .agg (x16V n ws), .agg (dpV kd off sz v)] w fun e w' => e = .returned (.tuple #[.agg (x16V n (Pc.doW n ws kd off sz v)), .bool true]) ∧ PcAt w' b n (Pc.doW n ws kd off sz v) ∧ Och (some b) w w' := by
  unfold Pc.doW
  by_cases k0 : kd = 0
  · rw [if_pos k0]
    exact rdoa16_c b n ws kd off sz v o0 o1 s0 s1 v0 v1 w hp k0
  · rw [if_neg k0]
    by_cases k1 : kd = 1
    · rw [if_pos k1]
      exact rdob16_c b n ws kd off sz v o0 o1 s0 s1 v0 v1 w hp k1
    · rw [if_neg k1]
      exact rdoc16_c b n ws kd off sz v o0 o1 s0 s1 v0 v1 w hp _ rfl ⟨k0, k1⟩
end Go.Proofs.Ytjeolfcefeglpaa
