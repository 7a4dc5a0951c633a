/-
  ResvKills of layer 13, walked.
-/
import Derived.Test.YtabackklpemhpaaRvP
import Derived.Test.YtabackklpemhpaaOpenRv
namespace Go.Proofs.Ytabackklpemhpaa
open Go.ChangeShapes Go.WideShapes Go.ChangeAt Go.RowKit

theorem range_mid {w w' : World} {b o n c i : Nat} {cs : List Value} (h : w.rangeAt c i cs) (hm : Mid b o n w w') (hne : c ≠ b) : w'.rangeAt c i cs := fun j v hv => by
  have := h j v hv
  exact (World.cell?_of_block (w := w) (a := ⟨c, i + j, none⟩) (hm.block c (World.block_lt_of_cell? w _ this) hne)).trans this
theorem range_low {w w' : World} {c i : Nat} {cs : List Value} (h : w.rangeAt c i cs) (hb : Below w.heap.size w w') : w'.rangeAt c i cs := fun j v hv => by
  have := h j v hv
  exact (hb.cell (p := ⟨c, i + j, none⟩) (World.block_lt_of_cell? w _ this)).trans this
theorem range_row {w : World} {b c i : Nat} {cs : List Value} (h : w.rangeAt c i cs) (hne : c ≠ b) (ds : Array Value) : (w.setRow b ds).rangeAt c i cs := fun j v hv =>
  (World.cell?_of_block (w := w) (a := ⟨c, i + j, none⟩) (setRow_other w b c ds hne)).trans (h j v hv)
theorem exec_load_mid {P : Program} {o : Oper} {a : Act} {w : World} (ty : TypeId) (x : Operand) (ho : o.op = .load ty x) (b off : Nat) (hx : a.eval x = .pointer (some ⟨b, off, none⟩)) (cs : Array Value) (d : TypeDesc) (hg : w.rangeAt b off cs.toList)
    (hu : P.underlying ty = some d) (hd : d.isRow = true) (hi : (P.info? ty).map (·.size) = some cs.size) : (execOp a.eval o).run P w = .ok (.value (.agg cs)) w := by
  have e := run_loadVar_mid (P := P) w b off ty cs.toList d hg hu hd (by simpa using hi)
  unfold execOp
  simp only [ho, hx, Instr.loadAt, Instr.sureAddr, Sem.run_bind, Sem.run_pure, Result.andThen_ok, e, Array.toArray_toList]
namespace Rv
/-- The table behind the first k deeds. -/
def play (l : List Dv) : Nat → Tb
  | 0 => none_
  | k + 1 => dd (play l k) (l.getD k Dv.zero).kind (l.getD k Dv.zero).hart (l.getD k Dv.zero).line
theorem play_ok {l : List Dv} {n : Nat} (h : ∀ j, j < n → (l.getD j Dv.zero).In) : ∀ k, k ≤ n → Ok (play l k)
  | 0, _ => none_ok
  | k + 1, hk => dd_ok (play_ok h k (by omega)) _ _ (h k (by omega)).line.1 (h k (by omega)).line.2
end Rv
theorem Dvs.range {w : World} {ao : Option Addr} {n : Nat} {l : List Dv} (h : Dvs w ao n l) {b off : Nat} (ha : ao = some ⟨b, off, none⟩) {k : Nat} (hk : k < n) : w.rangeAt b (off + k * 3) (ddV (l.getD k Dv.zero).kind (l.getD k Dv.zero).hart (l.getD k Dv.zero).line).toList := fun j v hv => by
  obtain ⟨b', off', ha', -, hc⟩ := h.at_ (by omega)
  cases ha.symm.trans ha'
  have hj : j < 3 := (List.getElem?_eq_some_iff.1 hv).1
  rw [hc k hk j hj]
  rw [← hv]
  simp [ddV]
theorem run_eql_tab_self (w : World) (T : Rv.Tb) : (binOp .eql TT (.agg (tC T).toArray) (.agg (tC T).toArray)).run Try.prog w = .ok (.bool true) w := by rw [run_eql_tab, Rv.same_self]
theorem zero_ref : (#[Value.bool false, .bool false, .bool false, .bool false, .bool false, .bool false, .bool false, .bool false, .int .u64 0, .int .u64 0, .int .u64 0, .int .u64 0, .int .u64 0, .int .u64 0, .int .u64 0, .int .u64 0] : Array Value) = rT Rv.none_ := rfl
/-- What stands when both tables have been made. -/
structure Both (w W : World) : Prop where
  t : TbAt W w.heap.size 0 Rv.none_
  x : CsAt W (w.heap.size + 1) XT (rT Rv.none_)
  bel : Below w.heap.size w W
theorem both (w : World) : Both w ((w.alloc (.cells (tC Rv.none_).toArray TT)).alloc (.cells (rT Rv.none_) XT)) :=
  ⟨(tb_new w TT).low ((Below.refl _ _).alloc (Nat.le_refl _) _), by simpa using CsAt.new (w.alloc (.cells (tC Rv.none_).toArray TT)) XT (rT Rv.none_), ((Below.refl w.heap.size w).alloc (Nat.le_refl _) _).alloc (by simp) _⟩
set_option maxRecDepth 100000 in
set_option maxHeartbeats 16000000 in
theorem kills_walk (ao : Option Addr) (n cap : Nat) (l : List Dv) (line but : Int) (w : World) (h : Dvs w ao n l) :
    Calls Try.prog 4 #[.slice ao n cap, .int .u64 line, .int .i64 but] w fun e w' => e = .returned (.bool true) ∧ Below w.heap.size w w' := by
  have HDS := Lib.hid h
  clear h
  by_cases hn : n ≤ 60
  · have gn : decide ((n : Int) > 60) = false := by simp; omega
    have HBO := Lib.hid (both w)
    go_enter Try.func4, Try.ntmps4
    go_upto_region 4 with fail
    rw [zero_tab]
    go_upto_region 5 with fail
    rw [zero_ref]
    generalize (w.alloc (.cells (tC Rv.none_).toArray TT)).alloc (.cells (rT Rv.none_) XT) = w1 at *
    have HT1 := Lib.hid (show TbAt w1 w.heap.size 0 (Rv.play l 0) from HBO.out.t)
    have HX1 := Lib.hid (show CsAt w1 (w.heap.size + 1) XT (rT (Rv.play l 0)) from HBO.out.x)
    have HB1 := Lib.hid HBO.out.bel
    have hxt : (w.heap.size + 1) ≠ w.heap.size := by omega
    clear HBO
    go_wp2_with fail
    go_loopw [9] (fun i wr => ∃ k : Nat, k ≤ n ∧ i = .int .i64 k ∧ TbAt wr w.heap.size 0 (Rv.play l k) ∧ CsAt wr (w.heap.size + 1) XT (rT (Rv.play l k)) ∧ Below w.heap.size w wr) (fun i _ => n - (intOf i).toNat)
    case atStart => exact ⟨0, Nat.zero_le _, rfl, HT1.out, HX1.out, HB1.out⟩
    case round =>
      obtain ⟨k, hk, rfl, htr, hxr, hbr⟩ := hrel
      have HTB := Lib.hid htr
      have HXB := Lib.hid hxr
      have HBR := Lib.hid hbr
      clear htr hxr hbr HT1 HX1 HB1
      by_cases hlt : k < n
      · have hlt0 : k < n := hlt
        obtain ⟨db, off, rfl, hdl, -⟩ := HDS.out.at_ (by omega)
        have HDR := Lib.hid (range_low (HDS.out.range rfl hlt0) HBR.out)
        have hln := (HDS.out.each k hlt0).line
        have HPL := Lib.hid (show Rv.play l (k + 1) = Rv.dd (Rv.play l k) (l.getD k Dv.zero).kind (l.getD k Dv.zero).hart (l.getD k Dv.zero).line from rfl)
        generalize Rv.play l k = T at *
        generalize (l.getD k Dv.zero).kind = kd at *
        generalize (l.getD k Dv.zero).hart = hd at *
        generalize (l.getD k Dv.zero).line = ln at *
        have hdt : db ≠ w.heap.size := by omega
        have hdx : db ≠ (w.heap.size + 1) := by omega
        have gk : (k : Int) < (n : Int) := by omega
        go_upto_region 8 with fail
        have hS0 : CsAt wr.drew (w.heap.size + 1) XT (rT T) ∧ wr.drew.rangeAt db (off + k * 3) (ddV kd hd ln).toList := ⟨HXB.out, HDR.out⟩
        refine wp_region_noPanic ?_
        refine wp_region_held (S := fun W => CsAt W (w.heap.size + 1) XT (rT T) ∧ W.rangeAt db (off + k * 3) (ddV kd hd ln).toList) (by kernel_rfl) ?_
        refine takeH (fuel := 11) (i := 0) (.agg (rT T)) ?_ rfl (by kernel_rfl) (by kernel_rfl) (by kernel_rfl) (fun _ _ _ h => h) (by kernel_rfl) (fun W hS => exec_load_row XT _ rfl (w.heap.size + 1) rfl XT _ _ hS.1 Try.underlying41 rfl (iT _ _)) hS0 ?_ ?_
        rotate_left 1
        · go_simp
          exact rfl
        refine takeH (fuel := 10) (i := 1) (.slice (some ⟨db, off, none⟩) n cap) ?_ rfl (by kernel_rfl) (by kernel_rfl) (by kernel_rfl) (fun _ _ _ h => h) (by kernel_rfl) (fun W hS => by go_simp) hS0 ?_ ?_
        rotate_left 1
        · go_simp
          exact rfl
        refine takeH (fuel := 9) (i := 2) (.int .i64 (k : Int)) ?_ rfl (by kernel_rfl) (by kernel_rfl) (by kernel_rfl) (fun _ _ _ h => h) (by kernel_rfl) (fun W hS => by go_simp) hS0 ?_ ?_
        rotate_left 1
        · go_simp
          exact rfl
        refine takeH (fuel := 8) (i := 3) (.pointer (some ⟨db, off + k * 3, none⟩)) ?_ rfl (by kernel_rfl) (by kernel_rfl) (by kernel_rfl) (fun _ _ _ h => h) (by kernel_rfl) (fun W hS => by go_simp) hS0 ?_ ?_
        rotate_left 1
        · go_simp
          exact rfl
        refine takeH (fuel := 7) (i := 4) (.agg (ddV kd hd ln)) ?_ rfl (by kernel_rfl) (by kernel_rfl) (by kernel_rfl) (fun _ _ _ h => h) (by kernel_rfl) (fun W hS => exec_load_mid DT _ rfl db (off + k * 3) rfl _ _ hS.2 Try.underlying45 rfl info_dd) hS0 ?_ ?_
        rotate_left 1
        · go_simp
          exact rfl
        refine wpAnyH_all (fuel := 6) (rs := [5, 9]) (by kernel_rfl) (by decide) ?_
        intro i hi
        obtain rfl | rfl : i = 5 ∨ i = 9 := by simpa using hi
        · change Go.wpOp _ _ _ _ _ _ wr.drew
          refine wpOp_callX 13 #[.pointer (some ⟨w.heap.size, 0, none⟩), .agg (rT T), .agg (ddV kd hd ln)] rfl (by kernel_rfl) (by go_simp) ?_
          refine (rdo_c w.heap.size 0 T kd hd ln wr.drew (HTB.out.low (Below.refl _ _).drew) hln.1 hln.2).mono ?_
          rintro e w4 ⟨rfl, hT4, hM4⟩
          have hS4 : CsAt w4 (w.heap.size + 1) XT (rT T) ∧ w4.rangeAt db (off + k * 3) (ddV kd hd ln).toList := ⟨hS0.1.mid hM4 hxt, range_mid hS0.2 hM4 hdt⟩
          refine ⟨_, rfl, hS4, ?_⟩
          refine takeH (fuel := 5) (i := 6) (.tuple #[.agg (rT (Rv.dd T kd hd ln)), .bool true]) ?_ rfl (by kernel_rfl) (by kernel_rfl) (by kernel_rfl) (fun _ _ _ h => h) (by kernel_rfl) (fun W hS => by go_simp) hS4 ?_ ?_
          rotate_left 1
          · go_simp
            exact rfl
          refine takeH (fuel := 4) (i := 7) (.agg (rT (Rv.dd T kd hd ln))) ?_ rfl (by kernel_rfl) (by kernel_rfl) (by kernel_rfl) (fun _ _ _ h => h) (by kernel_rfl) (fun W hS => by go_simp) hS4 ?_ ?_
          rotate_left 1
          · go_simp
            exact rfl
          refine takeH (fuel := 3) (i := 8) (.bool true) ?_ rfl (by kernel_rfl) (by kernel_rfl) (by kernel_rfl) (fun _ _ _ h => h) (by kernel_rfl) (fun W hS => by go_simp) hS4 ?_ ?_
          rotate_left 1
          · go_simp
            exact rfl
          refine wpAnyH_all (fuel := 2) (rs := [9]) (by kernel_rfl) (by decide) ?_
          intro i hi
          obtain rfl : i = 9 := by simpa using hi
          refine wpOp_valB (.pointer (some ⟨w4.heap.size, 0, none⟩)) (w4.alloc (.cells (rT Rv.none_) XT)) _ rfl (by kernel_rfl) (exec_alloc XT rfl (.agg (rT Rv.none_)) (zero_T _)) rfl ?_
          have hA : Below w4.heap.size w4 (w4.alloc (.cells (rT Rv.none_) XT)) := (Below.refl _ _).alloc (Nat.le_refl _) _
          have hz := CsAt.new w4 XT (rT Rv.none_)
          have hxl := hS4.1.lt
          have hS5 : CsAt (w4.alloc (.cells (rT Rv.none_) XT)) (w.heap.size + 1) XT (rT T) ∧ (w4.alloc (.cells (rT Rv.none_) XT)).rangeAt db (off + k * 3) (ddV kd hd ln).toList := ⟨hS4.1.low hA, range_low hS4.2 hA⟩
          refine ⟨hS5, ?_⟩
          have hT5 := hT4.low hA
          have hM5 : Mid w.heap.size 0 16 wr (w4.alloc (.cells (rT Rv.none_) XT)) := (Mid.trans (v := wr.drew) (Mid.of_below (Below.refl _ _).drew HTB.out.lt) hM4).trans (Mid.of_below hA hT4.lt)
          have hnb : wr.heap.size ≤ w4.heap.size := hM4.size
          clear hT4 hM4 hS4 hA
          generalize w4.alloc (.cells (rT Rv.none_) XT) = w5 at *
          generalize w4.heap.size = nb at *
          refine wpAnyH_all (fuel := 1) (rs := [10]) (by kernel_rfl) (by decide) ?_
          intro i hi
          obtain rfl : i = 10 := by simpa using hi
          refine wpOp_unitB (w5.setRow nb (rT (Rv.dd T kd hd ln))) _ rfl (by kernel_rfl) (exec_store_row XT _ _ rfl nb (rT (Rv.dd T kd hd ln)) rfl rfl XT (rT Rv.none_) hz (iT _ _) rfl (rC_one _ _)) rfl ?_
          have hdb : db < w5.heap.size := World.block_lt_of_cell? _ _ (hS5.2 0 _ rfl)
          have hS6 : CsAt (w5.setRow nb (rT (Rv.dd T kd hd ln))) (w.heap.size + 1) XT (rT T) ∧ (w5.setRow nb (rT (Rv.dd T kd hd ln))).rangeAt db (off + k * 3) (ddV kd hd ln).toList := ⟨hS5.1.rowFar (by omega) _, range_row hS5.2 (by omega) _⟩
          refine ⟨hS6, ?_⟩
          refine takeH (fuel := 0) (i := 11) (.bool true) ?_ rfl (by kernel_rfl) (by kernel_rfl) (by kernel_rfl) (fun _ _ _ h => h) (by kernel_rfl) (fun W hS => by go_simp) hS6 ?_ ?_
          rotate_left 1
          · go_simp
            exact rfl
          refine wpAnyH_done (by kernel_rfl) ?_ _
          refine NoPanic.normal ?_
          have HF := Lib.hid (show CsAt (w5.setRow nb (rT (Rv.dd T kd hd ln))) nb XT (rT (Rv.dd T kd hd ln)) ∧ TbAt (w5.setRow nb (rT (Rv.dd T kd hd ln))) w.heap.size 0 (Rv.dd T kd hd ln) ∧ Mid w.heap.size 0 16 wr (w5.setRow nb (rT (Rv.dd T kd hd ln))) ∧ CsAt (w5.setRow nb (rT (Rv.dd T kd hd ln))) (w.heap.size + 1) XT (rT T) from
            ⟨hz.row _, hT5.on (setRow_other w5 _ w.heap.size _ (by have := HTB.out.lt; omega)), hM5.row hnb HTB.out.lt _, hS6.1⟩)
          clear hS5 hS6 hz hT5 hM5 hdb hS0
          generalize w5.setRow nb (rT (Rv.dd T kd hd ln)) = w6 at *
          go_wp2_with (first | (refine wpList_load_row rfl XT _ rfl nb rfl XT _ (0, 0) _ HF.out.1 Try.underlying41 rfl (iT _ _) ?_) | (refine wpList_store_row rfl XT _ _ rfl (w.heap.size + 1) (rT (Rv.dd T kd hd ln)) rfl rfl XT (rT T) HF.out.2.2.2 (iT _ _) rfl (rC_one _ _) ?_))
          have HF2 := Lib.hid (show CsAt (w6.setRow (w.heap.size + 1) (rT (Rv.dd T kd hd ln))) (w.heap.size + 1) XT (rT (Rv.dd T kd hd ln)) ∧ TbAt (w6.setRow (w.heap.size + 1) (rT (Rv.dd T kd hd ln))) w.heap.size 0 (Rv.dd T kd hd ln) ∧ Below w.heap.size w (w6.setRow (w.heap.size + 1) (rT (Rv.dd T kd hd ln))) from
            ⟨HF.out.2.2.2.row _, HF.out.2.1.on (setRow_other w6 _ w.heap.size _ (Ne.symm hxt)), below_row (HBR.out.trans (HF.out.2.2.1.below (by omega) HBR.out.size)) (by omega) _⟩)
          generalize w6.setRow (w.heap.size + 1) (rT (Rv.dd T kd hd ln)) = w7 at *
          go_wp2_with fail
          go_roundw
          case rel => exact ⟨k + 1, by omega, by go_num, by rw [HPL.out]; exact HF2.out.2.1, by rw [HPL.out]; exact HF2.out.1, HF2.out.2.2⟩
          case measure => simp [intOf]; omega
        · change Go.wpOp _ _ _ _ _ _ wr.drew
          refine wpOp_valB (.pointer (some ⟨wr.heap.size, 0, none⟩)) (wr.drew.alloc (.cells (rT Rv.none_) XT)) _ rfl (by kernel_rfl) (exec_alloc XT rfl (.agg (rT Rv.none_)) (zero_T _)) rfl ?_
          have hA : Below wr.heap.size wr (wr.drew.alloc (.cells (rT Rv.none_) XT)) := (Below.refl wr.heap.size wr).drew.alloc (Nat.le_refl _) _
          have hz0 : CsAt (wr.drew.alloc (.cells (rT Rv.none_) XT)) wr.heap.size XT (rT Rv.none_) := CsAt.new wr.drew XT (rT Rv.none_)
          have hxl := HXB.out.lt
          have htl := HTB.out.lt
          have hS4 : CsAt (wr.drew.alloc (.cells (rT Rv.none_) XT)) (w.heap.size + 1) XT (rT T) ∧ (wr.drew.alloc (.cells (rT Rv.none_) XT)).rangeAt db (off + k * 3) (ddV kd hd ln).toList := ⟨HXB.out.low hA, range_low (w := wr) HDR.out hA⟩
          refine ⟨hS4, ?_⟩
          have hT4 := HTB.out.low hA
          generalize wr.drew.alloc (.cells (rT Rv.none_) XT) = w4 at *
          refine wpAnyH_all (fuel := 5) (rs := [5]) (by kernel_rfl) (by decide) ?_
          intro i hi
          obtain rfl : i = 5 := by simpa using hi
          refine wpOp_callX 13 #[.pointer (some ⟨w.heap.size, 0, none⟩), .agg (rT T), .agg (ddV kd hd ln)] rfl (by kernel_rfl) (by go_simp) ?_
          refine (rdo_c w.heap.size 0 T kd hd ln w4 hT4 hln.1 hln.2).mono ?_
          rintro e w5 ⟨rfl, hT5, hM4⟩
          have hS5 : CsAt w5 (w.heap.size + 1) XT (rT T) ∧ w5.rangeAt db (off + k * 3) (ddV kd hd ln).toList := ⟨hS4.1.mid hM4 hxt, range_mid hS4.2 hM4 hdt⟩
          refine ⟨_, rfl, hS5, ?_⟩
          have hz := hz0.mid hM4 (by omega)
          have hM5 : Mid w.heap.size 0 16 wr w5 := (Mid.of_below hA htl).trans hM4
          have hnb : wr.heap.size ≤ wr.heap.size := Nat.le_refl _
          clear hz0 hS4 hT4 hM4 hA
          refine takeH (fuel := 4) (i := 6) (.tuple #[.agg (rT (Rv.dd T kd hd ln)), .bool true]) ?_ rfl (by kernel_rfl) (by kernel_rfl) (by kernel_rfl) (fun _ _ _ h => h) (by kernel_rfl) (fun W hS => by go_simp) hS5 ?_ ?_
          rotate_left 1
          · go_simp
            exact rfl
          refine takeH (fuel := 3) (i := 7) (.agg (rT (Rv.dd T kd hd ln))) ?_ rfl (by kernel_rfl) (by kernel_rfl) (by kernel_rfl) (fun _ _ _ h => h) (by kernel_rfl) (fun W hS => by go_simp) hS5 ?_ ?_
          rotate_left 1
          · go_simp
            exact rfl
          refine takeH (fuel := 2) (i := 8) (.bool true) ?_ rfl (by kernel_rfl) (by kernel_rfl) (by kernel_rfl) (fun _ _ _ h => h) (by kernel_rfl) (fun W hS => by go_simp) hS5 ?_ ?_
          rotate_left 1
          · go_simp
            exact rfl
          refine wpAnyH_all (fuel := 1) (rs := [10]) (by kernel_rfl) (by decide) ?_
          intro i hi
          obtain rfl : i = 10 := by simpa using hi
          refine wpOp_unitB (w5.setRow wr.heap.size (rT (Rv.dd T kd hd ln))) _ rfl (by kernel_rfl) (exec_store_row XT _ _ rfl wr.heap.size (rT (Rv.dd T kd hd ln)) rfl rfl XT (rT Rv.none_) hz (iT _ _) rfl (rC_one _ _)) rfl ?_
          have hdb : db < w5.heap.size := World.block_lt_of_cell? _ _ (hS5.2 0 _ rfl)
          have hS6 : CsAt (w5.setRow wr.heap.size (rT (Rv.dd T kd hd ln))) (w.heap.size + 1) XT (rT T) ∧ (w5.setRow wr.heap.size (rT (Rv.dd T kd hd ln))).rangeAt db (off + k * 3) (ddV kd hd ln).toList := ⟨hS5.1.rowFar (by omega) _, range_row hS5.2 (by omega) _⟩
          refine ⟨hS6, ?_⟩
          refine takeH (fuel := 0) (i := 11) (.bool true) ?_ rfl (by kernel_rfl) (by kernel_rfl) (by kernel_rfl) (fun _ _ _ h => h) (by kernel_rfl) (fun W hS => by go_simp) hS6 ?_ ?_
          rotate_left 1
          · go_simp
            exact rfl
          refine wpAnyH_done (by kernel_rfl) ?_ _
          refine NoPanic.normal ?_
          have HF := Lib.hid (show CsAt (w5.setRow wr.heap.size (rT (Rv.dd T kd hd ln))) wr.heap.size XT (rT (Rv.dd T kd hd ln)) ∧ TbAt (w5.setRow wr.heap.size (rT (Rv.dd T kd hd ln))) w.heap.size 0 (Rv.dd T kd hd ln) ∧ Mid w.heap.size 0 16 wr (w5.setRow wr.heap.size (rT (Rv.dd T kd hd ln))) ∧ CsAt (w5.setRow wr.heap.size (rT (Rv.dd T kd hd ln))) (w.heap.size + 1) XT (rT T) from
            ⟨hz.row _, hT5.on (setRow_other w5 _ w.heap.size _ (by have := HTB.out.lt; omega)), hM5.row hnb HTB.out.lt _, hS6.1⟩)
          clear hS5 hS6 hz hT5 hM5 hdb hS0
          generalize w5.setRow wr.heap.size (rT (Rv.dd T kd hd ln)) = w6 at *
          go_wp2_with (first | (refine wpList_load_row rfl XT _ rfl wr.heap.size rfl XT _ (0, 0) _ HF.out.1 Try.underlying41 rfl (iT _ _) ?_) | (refine wpList_store_row rfl XT _ _ rfl (w.heap.size + 1) (rT (Rv.dd T kd hd ln)) rfl rfl XT (rT T) HF.out.2.2.2 (iT _ _) rfl (rC_one _ _) ?_))
          have HF2 := Lib.hid (show CsAt (w6.setRow (w.heap.size + 1) (rT (Rv.dd T kd hd ln))) (w.heap.size + 1) XT (rT (Rv.dd T kd hd ln)) ∧ TbAt (w6.setRow (w.heap.size + 1) (rT (Rv.dd T kd hd ln))) w.heap.size 0 (Rv.dd T kd hd ln) ∧ Below w.heap.size w (w6.setRow (w.heap.size + 1) (rT (Rv.dd T kd hd ln))) from
            ⟨HF.out.2.2.2.row _, HF.out.2.1.on (setRow_other w6 _ w.heap.size _ (Ne.symm hxt)), below_row (HBR.out.trans (HF.out.2.2.1.below (by omega) HBR.out.size)) (by omega) _⟩)
          generalize w6.setRow (w.heap.size + 1) (rT (Rv.dd T kd hd ln)) = w7 at *
          go_wp2_with fail
          go_roundw
          case rel => exact ⟨k + 1, by omega, by go_num, by rw [HPL.out]; exact HF2.out.2.1, by rw [HPL.out]; exact HF2.out.1, HF2.out.2.2⟩
          case measure => simp [intOf]; omega
      · obtain rfl : k = n := by omega
        have HOK := Lib.hid (Rv.play_ok HDS.out.each k (Nat.le_refl _))
        clear hlt hk
        generalize Rv.play l k = T at *
        go_upto_region 11 with (first | (refine wpList_load_mid rfl TT _ rfl w.heap.size 0 rfl (tC T) _ HTB.out.all Try.underlying37 rfl info_TT ?_) | (refine wpList_storeNew (w0 := wr) rfl TT _ _ rfl _ (tC T).toArray _ rfl rfl info_TT rfl (tC_one _) ?_))
        have hA : Below wr.heap.size wr (wr.alloc (.cells (tC T).toArray TT)) := (Below.refl _ _).alloc (Nat.le_refl _) _
        have HT2 := Lib.hid (HTB.out.low hA)
        have HW2 := Lib.hid (TbAt.of_cs (CsAt.new wr TT (tC T).toArray) HOK.out)
        have HB2 := Lib.hid (HBR.out.trans (hA.mono HBR.out.size))
        have hwb : wr.heap.size ≠ w.heap.size := by have := HTB.out.lt; omega
        have htl := HTB.out.lt
        clear hA HTB HXB HBR
        generalize wr.alloc (.cells (tC T).toArray TT) = w2 at *
        obtain ⟨wb, hwbe⟩ : ∃ b, b = wr.heap.size := ⟨_, rfl⟩
        rw [← hwbe] at HW2 hwb htl ⊢
        have HKC := Lib.hid (rkill_c w.heap.size 0 T line but w2 HT2.out)
        clear hwbe
        go_wp2_with fail
        refine HKC.out.mono ?_
        rintro e w3 ⟨rfl, hT3, hM3⟩
        have HT3 := Lib.hid hT3
        have HW3 := Lib.hid (HW2.out.mid hM3 hwb)
        have HB3 := Lib.hid (HB2.out.trans (hM3.below (by omega) HB2.out.size))
        clear hT3 hM3 HT2 HW2 HB2 HKC
        have hcn := Rv.cnt_le T line but 8
        go_wp2_with fail
        go_loopw [15, 14] (fun i g ws => ∃ j : Nat, j ≤ 8 ∧ i = .int .i64 j ∧ g = .int .i64 ((Rv.cnt T line but j : Nat) : Int) ∧ Below w3.heap.size w3 ws) (fun i _ _ => 8 - (intOf i).toNat)
        case atStart => exact ⟨0, by omega, rfl, rfl, Below.refl _ _⟩
        case round =>
          obtain ⟨j, hj, rfl, rfl, hbs⟩ := hrel
          have HBS := Lib.hid hbs
          have HWS := Lib.hid (HW3.out.low hbs)
          have HTS := Lib.hid (HT3.out.low hbs)
          clear hbs
          by_cases hlj : j < 8
          · have gj : (j : Int) < 8 := by omega
            have hcj := Rv.cnt_le T line but j
            have HO1 := Lib.hid (rof_c wb 0 T (j : Int) _ HWS.out)
            have HAT := Lib.hid (And.intro (Rv.at_in (T := T) hlj) (Rv.at_in (T := Rv.kill T line but) hlj))
            rw [HAT.out.1] at HO1
            go_wp2_with fail
            refine HO1.out.mono ?_
            rintro e w4 ⟨rfl, hb4⟩
            have HO2 := Lib.hid (rof_c w.heap.size 0 (Rv.kill T line but) (j : Int) _ (HTS.out.low hb4))
            have HB4 := Lib.hid (HBS.out.trans (hb4.mono HBS.out.size))
            rw [HAT.out.2] at HO2
            clear hb4 HO1 HAT HWS HTS HBS
            have HCY := Lib.hid (show T j = some line ∧ (j : Int) ≠ but → Rv.cnt T line but (j + 1) = Rv.cnt T line but j + 1 ∧ Rv.kill T line but j = none from fun h => ⟨by rw [Rv.cnt, if_pos h], by unfold Rv.kill; rw [if_pos h]⟩)
            have HCN := Lib.hid (show ¬ (T j = some line ∧ (j : Int) ≠ but) → Rv.cnt T line but (j + 1) = Rv.cnt T line but j ∧ Rv.kill T line but j = T j from fun h => ⟨by rw [Rv.cnt, if_neg h]; rfl, by unfold Rv.kill; rw [if_neg h]⟩)
            generalize Rv.cnt T line but j = cj at *
            by_cases hh : T j = some line ∧ (j : Int) ≠ but
            · have HE := Lib.hid (HCY.out hh)
              rw [HE.out.2] at HO2
              have g1 : ((j : Int) != but) = true := by simpa using hh.2
              rw [hh.1]
              clear HCY HCN hh
              simp only [Option.getD_some, Option.isSome_some, Option.getD_none, Option.isSome_none] at HO2 ⊢
              go_wp2_with fail
              refine HO2.out.mono ?_
              rintro e w5 ⟨rfl, hb5⟩
              have HB5 := Lib.hid (HB4.out.trans (hb5.mono HB4.out.size))
              clear hb5 HO2 HB4
              go_wp2_with fail
              go_roundw
              case rel => exact ⟨j + 1, by omega, by go_num, by rw [HE.out.1]; go_num, HB5.out⟩
              case measure => simp [intOf]; omega
            · have HE := Lib.hid (HCN.out hh)
              rw [HE.out.2] at HO2
              cases ht : T j with
              | none =>
                rw [ht] at HO2
                clear HCY HCN hh ht
                simp only [Option.getD_none, Option.isSome_none] at HO2 ⊢
                go_wp2_with fail
                refine HO2.out.mono ?_
                rintro e w5 ⟨rfl, hb5⟩
                have HB5 := Lib.hid (HB4.out.trans (hb5.mono HB4.out.size))
                clear hb5 HO2 HB4
                go_wp2_with fail
                go_roundw
                case rel => exact ⟨j + 1, by omega, by go_num, by rw [HE.out.1], HB5.out⟩
                case measure => simp [intOf]; omega
              | some x =>
                rw [ht] at HO2 hh
                simp only [Option.getD_some, Option.isSome_some] at HO2 ⊢
                by_cases hx : x = line
                · have g1 : (x == line) = true := by simpa using hx
                  have g2 : ((j : Int) != but) = false := by
                    have : (j : Int) = but := Classical.not_not.1 fun hc => hh ⟨by rw [hx], hc⟩
                    simpa using this
                  clear HCY HCN hh ht hx
                  go_wp2_with fail
                  refine HO2.out.mono ?_
                  rintro e w5 ⟨rfl, hb5⟩
                  have HB5 := Lib.hid (HB4.out.trans (hb5.mono HB4.out.size))
                  clear hb5 HO2 HB4
                  go_wp2_with fail
                  go_roundw
                  case rel => exact ⟨j + 1, by omega, by go_num, by rw [HE.out.1], HB5.out⟩
                  case measure => simp [intOf]; omega
                · have g1 : (x == line) = false := by simpa using hx
                  clear HCY HCN hh ht hx
                  go_wp2_with fail
                  refine HO2.out.mono ?_
                  rintro e w5 ⟨rfl, hb5⟩
                  have HB5 := Lib.hid (HB4.out.trans (hb5.mono HB4.out.size))
                  clear hb5 HO2 HB4
                  go_wp2_with fail
                  go_roundw
                  case rel => exact ⟨j + 1, by omega, by go_num, by rw [HE.out.1], HB5.out⟩
                  case measure => simp [intOf]; omega
          · obtain rfl : j = 8 := by omega
            have HBE := Lib.hid (HB3.out.trans (HBS.out.mono HB3.out.size))
            have hok2 := Rv.kill_ok HOK.out line but
            have HEQ := Lib.hid (Rv.kill_eq HOK.out line but)
            have HKN := Lib.hid (Rv.kill_none HOK.out line but)
            have HKK := Lib.hid (Rv.kill_kill T line but)
            clear HBS HB3 hlj hj
            go_upto_region 25 with (first | (refine wpList_load_mid rfl TT _ rfl w.heap.size 0 rfl (tC (Rv.kill T line but)) _ HTS.out.all Try.underlying37 rfl info_TT ?_) | (refine wpList_storeNew (w0 := wr) rfl TT _ _ rfl _ (tC (Rv.kill T line but)).toArray _ rfl rfl info_TT rfl (tC_one _) ?_))
            have hA2 : Below wr.heap.size wr (wr.alloc (.cells (tC (Rv.kill T line but)).toArray TT)) := (Below.refl _ _).alloc (Nat.le_refl _) _
            have HT5 := Lib.hid (HTS.out.low hA2)
            have HO5 := Lib.hid (TbAt.of_cs (CsAt.new wr TT (tC (Rv.kill T line but)).toArray) hok2)
            have HW5 := Lib.hid (HWS.out.low hA2)
            have HB5 := Lib.hid (HBE.out.trans (hA2.mono HBE.out.size))
            have hob : wr.heap.size ≠ w.heap.size := by have := HTS.out.lt; omega
            clear hA2 HTS HWS HBE HW3 HT3 hok2
            generalize wr.alloc (.cells (tC (Rv.kill T line but)).toArray TT) = w5 at *
            generalize wr.heap.size = ob at *
            have HKC := Lib.hid (rkill_c w.heap.size 0 (Rv.kill T line but) line but w5 HT5.out)
            rw [HKN.out, HKK.out] at HKC
            have hEQ := HEQ.out
            generalize Rv.kill T line but = T2 at *
            generalize Rv.cnt T line but 8 = c8 at *
            go_wp2_with fail
            refine HKC.out.mono ?_
            rintro e w6 ⟨rfl, hT6, hM6⟩
            have HT6 := Lib.hid hT6
            have HO6 := Lib.hid (HO5.out.mid hM6 hob)
            have HW6 := Lib.hid (HW5.out.mid hM6 hwb)
            have HB6 := Lib.hid (HB5.out.trans (hM6.below (by omega) HB5.out.size))
            have HLV := Lib.hid (live13_c w6)
            clear hT6 hM6 HKC HT5 HO5 HW5 HB5
            go_wp2_with (first
              | (refine wpList_load_midR rfl TT _ rfl w.heap.size 0 rfl (tC T2) _ HT6.out.all Try.underlying37 rfl info_TT ?_)
              | (refine wpList_load_midR rfl TT _ rfl ob 0 rfl (tC T2) _ HO6.out.all Try.underlying37 rfl info_TT ?_)
              | (refine wpList_load_midR rfl TT _ rfl wb 0 rfl (tC T) _ HW6.out.all Try.underlying37 rfl info_TT ?_)
              | (refine wpList_cmpW rfl .eql TT _ _ _ rfl _ _ rfl rfl (by kernel_rfl) _ (run_eql_tab_self _ T2) ?_)
              | (refine wpList_cmpW rfl .eql TT _ _ _ rfl _ _ rfl rfl (by kernel_rfl) _ (run_eql_tab _ T2 T) ?_))
            refine HLV.out.mono ?_
            rintro e w7 ⟨rfl, hb7⟩
            have HB7 := Lib.hid (HB6.out.trans (hb7.mono HB6.out.size))
            clear hb7 HLV HB6
            go_wp2_with fail
            go_ret
            exact ⟨rfl, HB7.out⟩
  · have gn : decide ((n : Int) > 60) = true := by simp; omega
    have HLV := Lib.hid (live13_c w)
    go_enter Try.func4, Try.ntmps4
    go_wp2_with fail
    refine HLV.out.mono ?_
    rintro e w1 ⟨rfl, hb⟩
    have HB := Lib.hid hb
    clear hb HLV
    go_wp2_with fail
    go_ret
    exact ⟨rfl, HB.out⟩
end Go.Proofs.Ytabackklpemhpaa
