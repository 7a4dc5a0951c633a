/-
  The law of layer 13: what is done to both tables.
-/
import Derived.Test.YtabackklpemhpaaRvN
namespace Go.Proofs.Ytabackklpemhpaa
open Go.ChangeShapes Go.WideShapes Go.ChangeAt Go.RowKit

namespace Rv
/-- What a deed leaves: 0 made, 1 taken away, else killed. -/
def dd (T : Tb) (kind hart line : Int) : Tb := if kind = 0 then set T hart line else if kind = 1 then clr T hart else kill T line hart
theorem dd_ok {T : Tb} (hT : Ok T) (kind hart : Int) {line : Int} (h0 : 0 ≤ line) (h1 : line ≤ 18446744073709551615) : Ok (dd T kind hart line) := by
  unfold dd
  split
  · exact set_ok hT _ _ h0 h1
  · split
    · exact clr_ok hT _
    · exact kill_ok hT _ _
end Rv
theorem TbAt.mid {w w' : World} {b o b2 o2 n : Nat} {T : Rv.Tb} (h : TbAt w b o T) (hm : Mid b2 o2 n w w') (hne : b ≠ b2) : TbAt w' b o T := h.on (hm.block b h.lt hne)
theorem CsAt.mid {w w' : World} {b b2 o2 n : Nat} {t : TypeId} {cs : Array Value} (h : CsAt w b t cs) (hm : Mid b2 o2 n w w') (hne : b ≠ b2) : CsAt w' b t cs := (hm.block b h.lt hne).trans h
theorem Mid.row {b o n c : Nat} {w w' : World} (h : Mid b o n w w') (hc : w.heap.size ≤ c) (hb : b < w.heap.size) (cs : Array Value) : Mid b o n w (w'.setRow c cs) :=
  ⟨h.os, h.tape, h.output, by simpa using h.size, fun k hk hne => (setRow_other w' c k cs (by omega)).trans (h.block k hk hne),
    fun j hj => (World.cell?_of_block (w := w') (a := ⟨b, j, none⟩) (setRow_other w' c b cs (by omega))).trans (h.cell j hj), fun j => (World.frozen?_of_block (w := w') (a := ⟨b, j, none⟩) (setRow_other w' c b cs (by omega))).trans (h.froz j)⟩
abbrev DT : TypeId := 45
def ddV (kind hart line : Int) : Array Value := #[.int .i64 kind, .int .i64 hart, .int .u64 line]
theorem info_dd : (Try.prog.info? DT).map (·.size) = some 3 := by kernel_rfl
theorem zero_T (w : World) : (zeroValue XT).run Try.prog w = .ok (.agg (rT Rv.none_)) w := by kernel_rfl
/-- Where do stands at first. -/
structure DoAt (w W : World) (b o : Nat) (T : Rv.Tb) (kind hart line : Int) : Prop where
  x : CsAt W w.heap.size XT (rT T)
  d : CsAt W (w.heap.size + 1) DT (ddV kind hart line)
  z : CsAt W (w.heap.size + 2) XT (rT Rv.none_)
  bel : Below w.heap.size w W
theorem doAt (w : World) (b o : Nat) (T : Rv.Tb) (kind hart line : Int) : DoAt w (((w.alloc (.cells (rT T) XT)).alloc (.cells (ddV kind hart line) DT)).alloc (.cells (rT Rv.none_) XT)) b o T kind hart line := by
  have e1 : (w.alloc (.cells (rT T) XT)).heap.size = w.heap.size + 1 := by simp
  have e2 : ((w.alloc (.cells (rT T) XT)).alloc (.cells (ddV kind hart line) DT)).heap.size = w.heap.size + 2 := by simp
  refine ⟨((CsAt.new w XT (rT T)).alloc _).alloc _, ?_, ?_, (((Below.refl w.heap.size w).alloc (Nat.le_refl _) _).alloc (by simp) _).alloc (by simp; omega) _⟩
  · have := (CsAt.new (w.alloc (.cells (rT T) XT)) DT (ddV kind hart line)).alloc (.cells (rT Rv.none_) XT)
    rwa [e1] at this
  · have := CsAt.new ((w.alloc (.cells (rT T) XT)).alloc (.cells (ddV kind hart line) DT)) XT (rT Rv.none_)
    rwa [e2] at this
theorem DoAt.low {w W W' : World} {b o : Nat} {T : Rv.Tb} {kind hart line : Int} (h : DoAt w W b o T kind hart line) (hb : Below W.heap.size W W') : DoAt w W' b o T kind hart line :=
  ⟨h.x.low hb, h.d.low hb, h.z.low hb, h.bel.trans (hb.mono h.bel.size)⟩
set_option maxRecDepth 100000 in
set_option maxHeartbeats 4000000 in
theorem rdo0_c (b o : Nat) (T : Rv.Tb) (kind hart line : Int) (w : World) (hT : TbAt w b o T) (h0 : 0 ≤ line) (h1 : line ≤ 18446744073709551615) (hk : kind = 0) :
    Calls Try.prog 13 #[.pointer (some ⟨b, o, none⟩), .agg (rT T), .agg (ddV kind hart line)] w fun e w' => e = .returned (.tuple #[.agg (rT (Rv.set T hart line)), .bool true]) ∧ TbAt w' b o (Rv.set T hart line) ∧ Mid b o 16 w w' := by
  have HD := Lib.hid (doAt w b o T kind hart line)
  have HT := Lib.hid hT
  have HK := Lib.hid hT.ok
  have hbl := hT.lt
  clear hT
  have g0 : (kind == 0) = true := by simpa using hk
  clear hk
  go_enter Try.func13, Try.ntmps13
  go_upto_region 1 with fail
  rw [show (#[Value.bool false, Value.bool false, Value.bool false, Value.bool false, Value.bool false, Value.bool false, Value.bool false, Value.bool false, Value.int .u64 0, Value.int .u64 0, Value.int .u64 0, Value.int .u64 0, Value.int .u64 0, Value.int .u64 0, Value.int .u64 0, Value.int .u64 0] : Array Value) = rT Rv.none_ from rfl]
  generalize ((w.alloc (.cells (rT T) XT)).alloc (.cells (ddV kind hart line) DT)).alloc (.cells (rT Rv.none_) XT) = w1 at *
  have d0 := HD.out.d.cell 0
  have d1 := HD.out.d.cell 1
  have d2 := HD.out.d.cell 2
  simp only [ddV, List.getElem?_toArray, List.getElem?_cons_zero, List.getElem?_cons_succ] at d0 d1 d2
  have HC := Lib.hid (xset_c T hart line w1)
  go_wp2_with (refine wpList_load_row rfl XT _ rfl w.heap.size rfl XT _ (0, 0) _ HD.out.x Try.underlying41 rfl (iT _ _) ?_)
  refine HC.out.mono ?_
  rintro e w2 ⟨rfl, hb2⟩
  have HD2 := Lib.hid (HD.out.low hb2)
  clear d0 d1 d2 hb2 HC HD
  go_upto_region 4 with (refine wpList_storeNew (w0 := w2) rfl XT _ _ rfl _ (rT (Rv.set T hart line)) _ rfl rfl (iT _ _) rfl (rC_one _ _) ?_)
  have hb3 : Below w2.heap.size w2 (w2.alloc (.cells (rT (Rv.set T hart line)) XT)) := (Below.refl _ _).alloc (Nat.le_refl _) _
  have HD3 := Lib.hid (HD2.out.low hb3)
  have HC3 := Lib.hid (CsAt.new w2 XT (rT (Rv.set T hart line)))
  have hlt2 := HD2.out.z.lt
  clear hb3 HD2
  generalize w2.alloc (.cells (rT (Rv.set T hart line)) XT) = w3 at *
  have HT0 := HT
  clear HT
  have hS0 : CsAt w3.drew (w.heap.size + 1) DT (ddV kind hart line) ∧ CsAt w3.drew w2.heap.size XT (rT (Rv.set T hart line)) := ⟨HD3.out.d, HC3.out⟩
  refine wp_region_noPanic ?_
  refine wp_region_held (S := fun W => CsAt W (w.heap.size + 1) DT (ddV kind hart line) ∧ CsAt W w2.heap.size XT (rT (Rv.set T hart line))) (by kernel_rfl) ?_
  refine takeH (fuel := 10) (i := 0) (.agg (rT (Rv.set T hart line))) ?_ rfl (by kernel_rfl) (by kernel_rfl) (by kernel_rfl) (fun _ _ _ h => h) (by kernel_rfl) (fun W hS => exec_load_row XT _ rfl w2.heap.size rfl XT _ _ hS.2 Try.underlying41 rfl (iT _ _)) hS0 ?_ ?_
  rotate_left 1
  · go_simp
    exact rfl
  refine takeH (fuel := 9) (i := 1) (.pointer (some ⟨b, o, none⟩)) ?_ rfl (by kernel_rfl) (by kernel_rfl) (by kernel_rfl) (fun _ _ _ h => h) (by kernel_rfl) (fun W hS => by go_simp) hS0 ?_ ?_
  rotate_left 1
  · go_simp
    exact rfl
  refine takeH (fuel := 8) (i := 2) (.pointer (some ⟨w.heap.size + 1, 1, none⟩)) ?_ rfl (by kernel_rfl) (by kernel_rfl) (by kernel_rfl) (fun _ _ _ h => h) (by kernel_rfl) (fun W hS => by go_simp) hS0 ?_ ?_
  rotate_left 1
  · go_simp
    exact rfl
  refine takeH (fuel := 7) (i := 3) (.int .i64 hart) ?_ rfl (by kernel_rfl) (by kernel_rfl) (by kernel_rfl) (fun _ _ _ h => h) (by kernel_rfl) (fun W hS => by have d := hS.1.cell 1; simp only [ddV, List.getElem?_toArray, List.getElem?_cons_zero, List.getElem?_cons_succ] at d; go_simp) hS0 ?_ ?_
  rotate_left 1
  · go_simp
    exact rfl
  refine takeH (fuel := 6) (i := 4) (.pointer (some ⟨w.heap.size + 1, 2, none⟩)) ?_ rfl (by kernel_rfl) (by kernel_rfl) (by kernel_rfl) (fun _ _ _ h => h) (by kernel_rfl) (fun W hS => by go_simp) hS0 ?_ ?_
  rotate_left 1
  · go_simp
    exact rfl
  refine takeH (fuel := 5) (i := 5) (.int .u64 line) ?_ rfl (by kernel_rfl) (by kernel_rfl) (by kernel_rfl) (fun _ _ _ h => h) (by kernel_rfl) (fun W hS => by have d := hS.1.cell 2; simp only [ddV, List.getElem?_toArray, List.getElem?_cons_zero, List.getElem?_cons_succ] at d; go_simp) hS0 ?_ ?_
  rotate_left 1
  · go_simp
    exact rfl
  refine takeH (fuel := 4) (i := 7) (.bool (Rv.inH hart)) ?_ rfl (by kernel_rfl) (by kernel_rfl) (by kernel_rfl) (fun _ _ _ h => h) (by kernel_rfl) (fun W hS => by go_simp) hS0 ?_ ?_
  rotate_left 1
  · go_simp
    exact rfl
  refine wpAnyH_all (fuel := 3) (rs := [6]) (by kernel_rfl) (by decide) ?_
  intro i hi
  obtain rfl : i = 6 := by simpa using hi
  change Go.wpOp _ _ _ _ _ _ w3.drew
  refine wpOp_callX 6 #[.pointer (some ⟨b, o, none⟩), .int .i64 hart, .int .u64 line] rfl (by kernel_rfl) (by go_simp) ?_
  have hb3 : Below w.heap.size w w3.drew := HD3.out.bel.drew
  refine (rset_c b o T hart line _ (HT0.out.on (hb3.block b hbl)) h0 h1).mono ?_
  rintro e w4 ⟨rfl, hT4, hM4⟩
  have hS4 : CsAt w4 (w.heap.size + 1) DT (ddV kind hart line) ∧ CsAt w4 w2.heap.size XT (rT (Rv.set T hart line)) := ⟨hS0.1.mid hM4 (by omega), hS0.2.mid hM4 (by omega)⟩
  have hz4 : CsAt w4 (w.heap.size + 2) XT (rT Rv.none_) := CsAt.mid (w := w3.drew) HD3.out.z hM4 (by omega)
  refine ⟨_, rfl, hS4, ?_⟩
  refine takeH (fuel := 2) (i := 8) (.bool true) ?_ rfl (by kernel_rfl) (by kernel_rfl) (by kernel_rfl) (fun _ _ _ h => h) (by kernel_rfl) (fun W hS => by go_simp) hS4 ?_ ?_
  rotate_left 1
  · go_simp
    exact rfl
  refine wpAnyH_all (fuel := 1) (rs := [9]) (by kernel_rfl) (by decide) ?_
  intro i hi
  obtain rfl : i = 9 := by simpa using hi
  refine wpOp_unitB (w4.setRow (w.heap.size + 2) (rT (Rv.set T hart line))) _ rfl (by kernel_rfl) (exec_store_row XT _ _ rfl (w.heap.size + 2) (rT (Rv.set T hart line)) rfl rfl XT (rT Rv.none_) hz4 (iT _ _) rfl (rC_one _ _)) rfl ?_
  have hS5 : CsAt (w4.setRow (w.heap.size + 2) (rT (Rv.set T hart line))) (w.heap.size + 1) DT (ddV kind hart line) ∧ CsAt (w4.setRow (w.heap.size + 2) (rT (Rv.set T hart line))) w2.heap.size XT (rT (Rv.set T hart line)) := ⟨hS4.1.rowFar (by omega) _, hS4.2.rowFar (by omega) _⟩
  refine ⟨hS5, ?_⟩
  refine takeH (fuel := 0) (i := 10) (.bool true) ?_ rfl (by kernel_rfl) (by kernel_rfl) (by kernel_rfl) (fun _ _ _ h => h) (by kernel_rfl) (fun W hS => by go_simp) hS5 ?_ ?_
  rotate_left 1
  · go_simp
    exact rfl
  refine wpAnyH_done (by kernel_rfl) ?_ _
  refine NoPanic.normal ?_
  have HF := Lib.hid (show CsAt (w4.setRow (w.heap.size + 2) (rT (Rv.set T hart line))) (w.heap.size + 2) XT (rT (Rv.set T hart line)) ∧ TbAt (w4.setRow (w.heap.size + 2) (rT (Rv.set T hart line))) b o (Rv.set T hart line) ∧ Mid b o 16 w (w4.setRow (w.heap.size + 2) (rT (Rv.set T hart line))) from
    ⟨hz4.row _, hT4.on (setRow_other w4 _ b _ (by omega)), ((Mid.of_below hb3 hbl).trans hM4).row (by omega) hbl _⟩)
  clear hS4 hz4 hT4 hM4 hS0 hb3 hS5
  generalize w4.setRow (w.heap.size + 2) (rT (Rv.set T hart line)) = w5 at *
  go_wp2_with fail
  exact bodyPost_ret (results_rset Try.results13 _ _ (w.heap.size + 2) _ _ _ rfl rfl HF.out.1) rfl ⟨rfl, HF.out.2.1, HF.out.2.2⟩
set_option maxRecDepth 100000 in
set_option maxHeartbeats 4000000 in
theorem rdo1_c (b o : Nat) (T : Rv.Tb) (kind hart line : Int) (w : World) (hT : TbAt w b o T) (hk : kind = 1) :
    Calls Try.prog 13 #[.pointer (some ⟨b, o, none⟩), .agg (rT T), .agg (ddV kind hart line)] w fun e w' => e = .returned (.tuple #[.agg (rT (Rv.clr T hart)), .bool true]) ∧ TbAt w' b o (Rv.clr T hart) ∧ Mid b o 16 w w' := by
  have HD := Lib.hid (doAt w b o T kind hart line)
  have HT := Lib.hid hT
  have HK := Lib.hid hT.ok
  have hbl := hT.lt
  clear hT
  have g0 : (kind == 0) = false := by rw [hk]; rfl
  have g1 : (kind == 1) = true := by simpa using hk
  clear hk
  go_enter Try.func13, Try.ntmps13
  go_upto_region 1 with fail
  rw [show (#[Value.bool false, Value.bool false, Value.bool false, Value.bool false, Value.bool false, Value.bool false, Value.bool false, Value.bool false, Value.int .u64 0, Value.int .u64 0, Value.int .u64 0, Value.int .u64 0, Value.int .u64 0, Value.int .u64 0, Value.int .u64 0, Value.int .u64 0] : Array Value) = rT Rv.none_ from rfl]
  generalize ((w.alloc (.cells (rT T) XT)).alloc (.cells (ddV kind hart line) DT)).alloc (.cells (rT Rv.none_) XT) = w1 at *
  have d0 := HD.out.d.cell 0
  have d1 := HD.out.d.cell 1
  have d2 := HD.out.d.cell 2
  simp only [ddV, List.getElem?_toArray, List.getElem?_cons_zero, List.getElem?_cons_succ] at d0 d1 d2
  have HC := Lib.hid (xclr_c T hart w1)
  go_wp2_with (refine wpList_load_row rfl XT _ rfl w.heap.size rfl XT _ (0, 0) _ HD.out.x Try.underlying41 rfl (iT _ _) ?_)
  refine HC.out.mono ?_
  rintro e w2 ⟨rfl, hb2⟩
  have HD2 := Lib.hid (HD.out.low hb2)
  clear d0 d1 d2 hb2 HC HD
  go_upto_region 7 with (refine wpList_storeNew (w0 := w2) rfl XT _ _ rfl _ (rT (Rv.clr T hart)) _ rfl rfl (iT _ _) rfl (rC_one _ _) ?_)
  have hb3 : Below w2.heap.size w2 (w2.alloc (.cells (rT (Rv.clr T hart)) XT)) := (Below.refl _ _).alloc (Nat.le_refl _) _
  have HD3 := Lib.hid (HD2.out.low hb3)
  have HC3 := Lib.hid (CsAt.new w2 XT (rT (Rv.clr T hart)))
  have hlt2 := HD2.out.z.lt
  clear hb3 HD2
  generalize w2.alloc (.cells (rT (Rv.clr T hart)) XT) = w3 at *
  have HT0 := HT
  clear HT
  have hS0 : CsAt w3.drew (w.heap.size + 1) DT (ddV kind hart line) ∧ CsAt w3.drew w2.heap.size XT (rT (Rv.clr T hart)) := ⟨HD3.out.d, HC3.out⟩
  refine wp_region_noPanic ?_
  refine wp_region_held (S := fun W => CsAt W (w.heap.size + 1) DT (ddV kind hart line) ∧ CsAt W w2.heap.size XT (rT (Rv.clr T hart))) (by kernel_rfl) ?_
  refine takeH (fuel := 8) (i := 0) (.agg (rT (Rv.clr T hart))) ?_ rfl (by kernel_rfl) (by kernel_rfl) (by kernel_rfl) (fun _ _ _ h => h) (by kernel_rfl) (fun W hS => exec_load_row XT _ rfl w2.heap.size rfl XT _ _ hS.2 Try.underlying41 rfl (iT _ _)) hS0 ?_ ?_
  rotate_left 1
  · go_simp
    exact rfl
  refine takeH (fuel := 7) (i := 1) (.pointer (some ⟨b, o, none⟩)) ?_ rfl (by kernel_rfl) (by kernel_rfl) (by kernel_rfl) (fun _ _ _ h => h) (by kernel_rfl) (fun W hS => by go_simp) hS0 ?_ ?_
  rotate_left 1
  · go_simp
    exact rfl
  refine takeH (fuel := 6) (i := 2) (.pointer (some ⟨w.heap.size + 1, 1, none⟩)) ?_ rfl (by kernel_rfl) (by kernel_rfl) (by kernel_rfl) (fun _ _ _ h => h) (by kernel_rfl) (fun W hS => by go_simp) hS0 ?_ ?_
  rotate_left 1
  · go_simp
    exact rfl
  refine takeH (fuel := 5) (i := 3) (.int .i64 hart) ?_ rfl (by kernel_rfl) (by kernel_rfl) (by kernel_rfl) (fun _ _ _ h => h) (by kernel_rfl) (fun W hS => by have d := hS.1.cell 1; simp only [ddV, List.getElem?_toArray, List.getElem?_cons_zero, List.getElem?_cons_succ] at d; go_simp) hS0 ?_ ?_
  rotate_left 1
  · go_simp
    exact rfl
  refine takeH (fuel := 4) (i := 5) (.bool (Rv.at_ T hart).isSome) ?_ rfl (by kernel_rfl) (by kernel_rfl) (by kernel_rfl) (fun _ _ _ h => h) (by kernel_rfl) (fun W hS => by go_simp) hS0 ?_ ?_
  rotate_left 1
  · go_simp
    exact rfl
  refine wpAnyH_all (fuel := 3) (rs := [4]) (by kernel_rfl) (by decide) ?_
  intro i hi
  obtain rfl : i = 4 := by simpa using hi
  change Go.wpOp _ _ _ _ _ _ w3.drew
  refine wpOp_callX 7 #[.pointer (some ⟨b, o, none⟩), .int .i64 hart] rfl (by kernel_rfl) (by go_simp) ?_
  have hb3 : Below w.heap.size w w3.drew := HD3.out.bel.drew
  refine (rclr_c b o T hart _ (HT0.out.on (hb3.block b hbl))).mono ?_
  rintro e w4 ⟨rfl, hT4, hM4⟩
  have hS4 : CsAt w4 (w.heap.size + 1) DT (ddV kind hart line) ∧ CsAt w4 w2.heap.size XT (rT (Rv.clr T hart)) := ⟨hS0.1.mid hM4 (by omega), hS0.2.mid hM4 (by omega)⟩
  have hz4 : CsAt w4 (w.heap.size + 2) XT (rT Rv.none_) := CsAt.mid (w := w3.drew) HD3.out.z hM4 (by omega)
  refine ⟨_, rfl, hS4, ?_⟩
  refine takeH (fuel := 2) (i := 6) (.bool true) ?_ rfl (by kernel_rfl) (by kernel_rfl) (by kernel_rfl) (fun _ _ _ h => h) (by kernel_rfl) (fun W hS => by go_simp) hS4 ?_ ?_
  rotate_left 1
  · go_simp
    exact rfl
  refine wpAnyH_all (fuel := 1) (rs := [7]) (by kernel_rfl) (by decide) ?_
  intro i hi
  obtain rfl : i = 7 := by simpa using hi
  refine wpOp_unitB (w4.setRow (w.heap.size + 2) (rT (Rv.clr T hart))) _ rfl (by kernel_rfl) (exec_store_row XT _ _ rfl (w.heap.size + 2) (rT (Rv.clr T hart)) rfl rfl XT (rT Rv.none_) hz4 (iT _ _) rfl (rC_one _ _)) rfl ?_
  have hS5 : CsAt (w4.setRow (w.heap.size + 2) (rT (Rv.clr T hart))) (w.heap.size + 1) DT (ddV kind hart line) ∧ CsAt (w4.setRow (w.heap.size + 2) (rT (Rv.clr T hart))) w2.heap.size XT (rT (Rv.clr T hart)) := ⟨hS4.1.rowFar (by omega) _, hS4.2.rowFar (by omega) _⟩
  refine ⟨hS5, ?_⟩
  refine takeH (fuel := 0) (i := 8) (.bool true) ?_ rfl (by kernel_rfl) (by kernel_rfl) (by kernel_rfl) (fun _ _ _ h => h) (by kernel_rfl) (fun W hS => by go_simp) hS5 ?_ ?_
  rotate_left 1
  · go_simp
    exact rfl
  refine wpAnyH_done (by kernel_rfl) ?_ _
  refine NoPanic.normal ?_
  have HF := Lib.hid (show CsAt (w4.setRow (w.heap.size + 2) (rT (Rv.clr T hart))) (w.heap.size + 2) XT (rT (Rv.clr T hart)) ∧ TbAt (w4.setRow (w.heap.size + 2) (rT (Rv.clr T hart))) b o (Rv.clr T hart) ∧ Mid b o 16 w (w4.setRow (w.heap.size + 2) (rT (Rv.clr T hart))) from
    ⟨hz4.row _, hT4.on (setRow_other w4 _ b _ (by omega)), ((Mid.of_below hb3 hbl).trans hM4).row (by omega) hbl _⟩)
  clear hS4 hz4 hT4 hM4 hS0 hb3 hS5
  generalize w4.setRow (w.heap.size + 2) (rT (Rv.clr T hart)) = w5 at *
  go_wp2_with fail
  exact bodyPost_ret (results_rset Try.results13 _ _ (w.heap.size + 2) _ _ _ rfl rfl HF.out.1) rfl ⟨rfl, HF.out.2.1, HF.out.2.2⟩
set_option maxRecDepth 100000 in
set_option maxHeartbeats 4000000 in
theorem rdo2_c (b o : Nat) (T : Rv.Tb) (kind hart line : Int) (w : World) (hT : TbAt w b o T) (hk : kind ≠ 0 ∧ kind ≠ 1) :
    Calls Try.prog 13 #[.pointer (some ⟨b, o, none⟩), .agg (rT T), .agg (ddV kind hart line)] w fun e w' => e = .returned (.tuple #[.agg (rT (Rv.kill T line hart)), .bool true]) ∧ TbAt w' b o (Rv.kill T line hart) ∧ Mid b o 16 w w' := by
  have HD := Lib.hid (doAt w b o T kind hart line)
  have HT := Lib.hid hT
  have HK := Lib.hid hT.ok
  have hbl := hT.lt
  clear hT
  have g0 : (kind == 0) = false := by simpa using hk.1
  have g1 : (kind == 1) = false := by simpa using hk.2
  clear hk
  go_enter Try.func13, Try.ntmps13
  go_upto_region 1 with fail
  rw [show (#[Value.bool false, Value.bool false, Value.bool false, Value.bool false, Value.bool false, Value.bool false, Value.bool false, Value.bool false, Value.int .u64 0, Value.int .u64 0, Value.int .u64 0, Value.int .u64 0, Value.int .u64 0, Value.int .u64 0, Value.int .u64 0, Value.int .u64 0] : Array Value) = rT Rv.none_ from rfl]
  generalize ((w.alloc (.cells (rT T) XT)).alloc (.cells (ddV kind hart line) DT)).alloc (.cells (rT Rv.none_) XT) = w1 at *
  have d0 := HD.out.d.cell 0
  have d1 := HD.out.d.cell 1
  have d2 := HD.out.d.cell 2
  simp only [ddV, List.getElem?_toArray, List.getElem?_cons_zero, List.getElem?_cons_succ] at d0 d1 d2
  have HC := Lib.hid (xkill_c T HK.out line hart w1)
  go_wp2_with (refine wpList_load_row rfl XT _ rfl w.heap.size rfl XT _ (0, 0) _ HD.out.x Try.underlying41 rfl (iT _ _) ?_)
  refine HC.out.mono ?_
  rintro e w2 ⟨rfl, hb2⟩
  have HD2 := Lib.hid (HD.out.low hb2)
  clear d0 d1 d2 hb2 HC HD
  go_upto_region 9 with (refine wpList_storeNew (w0 := w2) rfl XT _ _ rfl _ (rT (Rv.kill T line hart)) _ rfl rfl (iT _ _) rfl (rC_one _ _) ?_)
  have hb3 : Below w2.heap.size w2 (w2.alloc (.cells (rT (Rv.kill T line hart)) XT)) := (Below.refl _ _).alloc (Nat.le_refl _) _
  have HD3 := Lib.hid (HD2.out.low hb3)
  have HC3 := Lib.hid (CsAt.new w2 XT (rT (Rv.kill T line hart)))
  have hlt2 := HD2.out.z.lt
  clear hb3 HD2
  generalize w2.alloc (.cells (rT (Rv.kill T line hart)) XT) = w3 at *
  have HT0 := HT
  clear HT
  have hS0 : CsAt w3.drew (w.heap.size + 1) DT (ddV kind hart line) ∧ CsAt w3.drew w2.heap.size XT (rT (Rv.kill T line hart)) := ⟨HD3.out.d, HC3.out⟩
  refine wp_region_noPanic ?_
  refine wp_region_held (S := fun W => CsAt W (w.heap.size + 1) DT (ddV kind hart line) ∧ CsAt W w2.heap.size XT (rT (Rv.kill T line hart))) (by kernel_rfl) ?_
  refine takeH (fuel := 10) (i := 0) (.agg (rT (Rv.kill T line hart))) ?_ rfl (by kernel_rfl) (by kernel_rfl) (by kernel_rfl) (fun _ _ _ h => h) (by kernel_rfl) (fun W hS => exec_load_row XT _ rfl w2.heap.size rfl XT _ _ hS.2 Try.underlying41 rfl (iT _ _)) hS0 ?_ ?_
  rotate_left 1
  · go_simp
    exact rfl
  refine takeH (fuel := 9) (i := 1) (.pointer (some ⟨b, o, none⟩)) ?_ rfl (by kernel_rfl) (by kernel_rfl) (by kernel_rfl) (fun _ _ _ h => h) (by kernel_rfl) (fun W hS => by go_simp) hS0 ?_ ?_
  rotate_left 1
  · go_simp
    exact rfl
  refine takeH (fuel := 8) (i := 2) (.pointer (some ⟨w.heap.size + 1, 2, none⟩)) ?_ rfl (by kernel_rfl) (by kernel_rfl) (by kernel_rfl) (fun _ _ _ h => h) (by kernel_rfl) (fun W hS => by go_simp) hS0 ?_ ?_
  rotate_left 1
  · go_simp
    exact rfl
  refine takeH (fuel := 7) (i := 3) (.int .u64 line) ?_ rfl (by kernel_rfl) (by kernel_rfl) (by kernel_rfl) (fun _ _ _ h => h) (by kernel_rfl) (fun W hS => by have d := hS.1.cell 2; simp only [ddV, List.getElem?_toArray, List.getElem?_cons_zero, List.getElem?_cons_succ] at d; go_simp) hS0 ?_ ?_
  rotate_left 1
  · go_simp
    exact rfl
  refine takeH (fuel := 6) (i := 4) (.pointer (some ⟨w.heap.size + 1, 1, none⟩)) ?_ rfl (by kernel_rfl) (by kernel_rfl) (by kernel_rfl) (fun _ _ _ h => h) (by kernel_rfl) (fun W hS => by go_simp) hS0 ?_ ?_
  rotate_left 1
  · go_simp
    exact rfl
  refine takeH (fuel := 5) (i := 5) (.int .i64 hart) ?_ rfl (by kernel_rfl) (by kernel_rfl) (by kernel_rfl) (fun _ _ _ h => h) (by kernel_rfl) (fun W hS => by have d := hS.1.cell 1; simp only [ddV, List.getElem?_toArray, List.getElem?_cons_zero, List.getElem?_cons_succ] at d; go_simp) hS0 ?_ ?_
  rotate_left 1
  · go_simp
    exact rfl
  refine takeH (fuel := 4) (i := 7) (.int .i64 ((Rv.cnt T line hart 8 : Nat) : Int)) ?_ rfl (by kernel_rfl) (by kernel_rfl) (by kernel_rfl) (fun _ _ _ h => h) (by kernel_rfl) (fun W hS => by go_simp) hS0 ?_ ?_
  rotate_left 1
  · go_simp
    exact rfl
  refine wpAnyH_all (fuel := 3) (rs := [6]) (by kernel_rfl) (by decide) ?_
  intro i hi
  obtain rfl : i = 6 := by simpa using hi
  change Go.wpOp _ _ _ _ _ _ w3.drew
  refine wpOp_callX 9 #[.pointer (some ⟨b, o, none⟩), .int .u64 line, .int .i64 hart] rfl (by kernel_rfl) (by go_simp) ?_
  have hb3 : Below w.heap.size w w3.drew := HD3.out.bel.drew
  refine (rkill_c b o T line hart _ (HT0.out.on (hb3.block b hbl))).mono ?_
  rintro e w4 ⟨rfl, hT4, hM4⟩
  have hS4 : CsAt w4 (w.heap.size + 1) DT (ddV kind hart line) ∧ CsAt w4 w2.heap.size XT (rT (Rv.kill T line hart)) := ⟨hS0.1.mid hM4 (by omega), hS0.2.mid hM4 (by omega)⟩
  have hz4 : CsAt w4 (w.heap.size + 2) XT (rT Rv.none_) := CsAt.mid (w := w3.drew) HD3.out.z hM4 (by omega)
  refine ⟨_, rfl, hS4, ?_⟩
  refine takeH (fuel := 2) (i := 8) (.bool true) ?_ rfl (by kernel_rfl) (by kernel_rfl) (by kernel_rfl) (fun _ _ _ h => h) (by kernel_rfl) (fun W hS => by go_simp) hS4 ?_ ?_
  rotate_left 1
  · go_simp
    exact rfl
  refine wpAnyH_all (fuel := 1) (rs := [9]) (by kernel_rfl) (by decide) ?_
  intro i hi
  obtain rfl : i = 9 := by simpa using hi
  refine wpOp_unitB (w4.setRow (w.heap.size + 2) (rT (Rv.kill T line hart))) _ rfl (by kernel_rfl) (exec_store_row XT _ _ rfl (w.heap.size + 2) (rT (Rv.kill T line hart)) rfl rfl XT (rT Rv.none_) hz4 (iT _ _) rfl (rC_one _ _)) rfl ?_
  have hS5 : CsAt (w4.setRow (w.heap.size + 2) (rT (Rv.kill T line hart))) (w.heap.size + 1) DT (ddV kind hart line) ∧ CsAt (w4.setRow (w.heap.size + 2) (rT (Rv.kill T line hart))) w2.heap.size XT (rT (Rv.kill T line hart)) := ⟨hS4.1.rowFar (by omega) _, hS4.2.rowFar (by omega) _⟩
  refine ⟨hS5, ?_⟩
  refine takeH (fuel := 0) (i := 10) (.bool true) ?_ rfl (by kernel_rfl) (by kernel_rfl) (by kernel_rfl) (fun _ _ _ h => h) (by kernel_rfl) (fun W hS => by go_simp) hS5 ?_ ?_
  rotate_left 1
  · go_simp
    exact rfl
  refine wpAnyH_done (by kernel_rfl) ?_ _
  refine NoPanic.normal ?_
  have HF := Lib.hid (show CsAt (w4.setRow (w.heap.size + 2) (rT (Rv.kill T line hart))) (w.heap.size + 2) XT (rT (Rv.kill T line hart)) ∧ TbAt (w4.setRow (w.heap.size + 2) (rT (Rv.kill T line hart))) b o (Rv.kill T line hart) ∧ Mid b o 16 w (w4.setRow (w.heap.size + 2) (rT (Rv.kill T line hart))) from
    ⟨hz4.row _, hT4.on (setRow_other w4 _ b _ (by omega)), ((Mid.of_below hb3 hbl).trans hM4).row (by omega) hbl _⟩)
  clear hS4 hz4 hT4 hM4 hS0 hb3 hS5
  generalize w4.setRow (w.heap.size + 2) (rT (Rv.kill T line hart)) = w5 at *
  go_wp2_with fail
  exact bodyPost_ret (results_rset Try.results13 _ _ (w.heap.size + 2) _ _ _ rfl rfl HF.out.1) rfl ⟨rfl, HF.out.2.1, HF.out.2.2⟩
theorem rdo_c (b o : Nat) (T : Rv.Tb) (kind hart line : Int) (w : World) (hT : TbAt w b o T) (h0 : 0 ≤ line) (h1 : line ≤ 18446744073709551615) :
    Calls Try.prog 13 #[.pointer (some ⟨b, o, none⟩), .agg (rT T), .agg (ddV kind hart line)] w fun e w' => e = .returned (.tuple #[.agg (rT (Rv.dd T kind hart line)), .bool true]) ∧ TbAt w' b o (Rv.dd T kind hart line) ∧ Mid b o 16 w w' := by
  unfold Rv.dd
  by_cases k0 : kind = 0
  · rw [if_pos k0]
    exact rdo0_c b o T kind hart line w hT h0 h1 k0
  · rw [if_neg k0]
    by_cases k1 : kind = 1
    · rw [if_pos k1]
      exact rdo1_c b o T kind hart line w hT k1
    · rw [if_neg k1]
      exact rdo2_c b o T kind hart line w hT ⟨k0, k1⟩
end Go.Proofs.Ytabackklpemhpaa
