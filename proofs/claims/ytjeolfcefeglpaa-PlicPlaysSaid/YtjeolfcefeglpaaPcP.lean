/-
  The law of layer 16: any registers that are read and written, and wires that are set (PlicPlays walked).
-/
import Derived.Test.YtjeolfcefeglpaaPcV
import Derived.Test.YtjeolfcefeglpaaPcH
import Derived.Test.YtjeolfcefeglpaaOpenPc
set_option maxRecDepth 20000
namespace Go.Proofs.Ytjeolfcefeglpaa
open Go.ChangeShapes Go.WideShapes Go.ChangeAt Go.RowKit

theorem guard_ptP : Try.prog.eqGuardType Try.prog.depth PT = false := by kernel_rfl
theorem eq_pt_0 (w : World) : (binOp .eql PT (.agg (ctV 0 Pc.zeros)) (.agg (ctV 0 Pc.zeros))).run Try.prog w = .ok (.bool true) w := by kernel_rfl
theorem eq_pt_1 (w : World) : (binOp .eql PT (.agg (ctV 1 Pc.zeros)) (.agg (ctV 1 Pc.zeros))).run Try.prog w = .ok (.bool true) w := by kernel_rfl
theorem eq_pt_2 (w : World) : (binOp .eql PT (.agg (ctV 2 Pc.zeros)) (.agg (ctV 2 Pc.zeros))).run Try.prog w = .ok (.bool true) w := by kernel_rfl
theorem eq_pt_3 (w : World) : (binOp .eql PT (.agg (ctV 3 Pc.zeros)) (.agg (ctV 3 Pc.zeros))).run Try.prog w = .ok (.bool true) w := by kernel_rfl
theorem eq_pt_4 (w : World) : (binOp .eql PT (.agg (ctV 4 Pc.zeros)) (.agg (ctV 4 Pc.zeros))).run Try.prog w = .ok (.bool true) w := by kernel_rfl
theorem eq_pt_5 (w : World) : (binOp .eql PT (.agg (ctV 5 Pc.zeros)) (.agg (ctV 5 Pc.zeros))).run Try.prog w = .ok (.bool true) w := by kernel_rfl
theorem eq_pt_6 (w : World) : (binOp .eql PT (.agg (ctV 6 Pc.zeros)) (.agg (ctV 6 Pc.zeros))).run Try.prog w = .ok (.bool true) w := by kernel_rfl
theorem eq_pt_7 (w : World) : (binOp .eql PT (.agg (ctV 7 Pc.zeros)) (.agg (ctV 7 Pc.zeros))).run Try.prog w = .ok (.bool true) w := by kernel_rfl
theorem eq_pt_8 (w : World) : (binOp .eql PT (.agg (ctV 8 Pc.zeros)) (.agg (ctV 8 Pc.zeros))).run Try.prog w = .ok (.bool true) w := by kernel_rfl
theorem eq_ptn {n : Nat} (hn : n ≤ 8) (w : World) : (binOp .eql PT (.agg (ctV n Pc.zeros)) (.agg (ctV n Pc.zeros))).run Try.prog w = .ok (.bool true) w := by
  have : n = 0 ∨ n = 1 ∨ n = 2 ∨ n = 3 ∨ n = 4 ∨ n = 5 ∨ n = 6 ∨ n = 7 ∨ n = 8 := by omega
  rcases this with rfl | rfl | rfl | rfl | rfl | rfl | rfl | rfl | rfl
  · exact eq_pt_0 w
  · exact eq_pt_1 w
  · exact eq_pt_2 w
  · exact eq_pt_3 w
  · exact eq_pt_4 w
  · exact eq_pt_5 w
  · exact eq_pt_6 w
  · exact eq_pt_7 w
  · exact eq_pt_8 w
namespace Pc
theorem at_cnt (harts off size : Int) : at_ harts off size = at_ ((Ct.cnt harts : Nat) : Int) off size := by
  by_cases h : 1 ≤ harts ∧ harts ≤ 8
  · rw [show ((Ct.cnt harts : Nat) : Int) = harts by unfold Ct.cnt; rw [if_pos h]; omega]
  · rw [at_bad (by omega), at_bad (.inl (by unfold Ct.cnt; rw [if_neg h]; omega))]
end Pc
/-- What stands while PlicPlays goes on: the controller, the reference's value, the copy. -/
structure PpS (w W : World) (bc bx bw n : Nat) (ws vs : List Int) : Prop where
  c : PcAt W bc n ws
  x : XpAt W bx n vs
  was : CsAt W bw PT (ctV n Pc.zeros)
  lc : w.heap.size ≤ bc
  cx : bc < bx
  xw : bx < bw
  bel : Below w.heap.size w W
section
variable {w W W' : World} {bc bx bw n : Nat} {ws vs us : List Int}
theorem PpS.low (h : PpS w W bc bx bw n ws vs) (hb : Below W.heap.size W W') : PpS w W' bc bx bw n ws vs := ⟨h.c.low hb, h.x.low hb, h.was.low hb, h.lc, h.cx, h.xw, h.bel.trans (hb.mono h.bel.size)⟩
theorem PpS.och (h : PpS w W bc bx bw n ws vs) (hz : PcAt W' bc n us) (ho : Och (some bc) W W') : PpS w W' bc bx bw n us vs :=
  ⟨hz, CsAt.och h.x ho (by have := h.cx; simp; omega), h.was.och ho (by have := h.cx; have := h.xw; simp; omega), h.lc, h.cx, h.xw, h.bel.trans (ho.below (B := w.heap.size) (fun c hc => by cases hc; exact h.lc) h.bel.size)⟩
theorem PpS.setX (h : PpS w W bc bx bw n ws vs) : PpS w (W.setRow bx (x16V n us)) bc bx bw n ws us :=
  ⟨⟨h.c.row.rowFar (by have := h.cx; omega) _, h.c.ok⟩, CsAt.row h.x _, h.was.rowFar (by have := h.xw; omega) _, h.lc, h.cx, h.xw, below_setRow h.bel (by have := h.lc; have := h.cx; omega) _⟩
theorem PpS.far (h : PpS w W bc bx bw n ws vs) {c : Nat} (hc : bw < c) (cs : Array Value) : PpS w (W.setRow c cs) bc bx bw n ws vs :=
  ⟨⟨h.c.row.rowFar (by have := h.cx; have := h.xw; omega) _, h.c.ok⟩, CsAt.rowFar h.x (by have := h.xw; omega) _, h.was.rowFar (by omega) _, h.lc, h.cx, h.xw, below_setRow h.bel (by have := h.lc; have := h.cx; have := h.xw; omega) _⟩
end
/-- A deed of a slice, in any later world. -/
theorem deed_at {w W : World} {db off k : Nat} {kd of_ sz vv : Int} (hdl : db < w.heap.size) (h0 : w.cell? ⟨db, off + k * 4, none⟩ = some (.int .i64 kd)) (h1 : w.cell? ⟨db, off + k * 4 + 1, none⟩ = some (.int .u64 of_)) (h2 : w.cell? ⟨db, off + k * 4 + 2, none⟩ = some (.int .i64 sz)) (h3 : w.cell? ⟨db, off + k * 4 + 3, none⟩ = some (.int .u64 vv))
    (hb : Below w.heap.size w W) : W.rangeAt db (off + k * 4) (dpV kd of_ sz vv).toList := fun j v hv => by
  have hj : j < 4 := by
    have := (List.getElem?_eq_some_iff.1 hv).1
    simpa [dpV] using this
  refine (hb.cell (p := ⟨db, off + k * 4 + j, none⟩) hdl).trans ?_
  obtain rfl | rfl | rfl | rfl : j = 0 ∨ j = 1 ∨ j = 2 ∨ j = 3 := by omega
  · rw [Nat.add_zero, h0]; exact hv
  · rw [h1]; exact hv
  · rw [h2]; exact hv
  · rw [h3]; exact hv
set_option maxRecDepth 100000 in
set_option maxHeartbeats 16000000 in
theorem pplays_walk (w : World) (harts : Int) (ao : Option Addr) (n cap : Nat) (l : List Dp) (_hh : -9223372036854775808 ≤ harts ∧ harts ≤ 9223372036854775807) (hds : Dps w ao n l) :
    Calls Try.prog 6 #[.int .i64 harts, .slice ao n cap] w fun e w' => e = .returned (.bool true) ∧ Below w.heap.size w w' := by
  have HDS := Lib.hid hds
  have hmx := hds.max
  clear hds
  by_cases hlong : 100 < n
  · have g0 : decide ((n : Int) > 100) = true := by simp; omega
    have HLV := Lib.hid (live16_c w)
    go_enter Try.func6, Try.ntmps6
    go_wp2_with fail
    refine HLV.out.mono ?_
    rintro e w1 ⟨rfl, hb1⟩
    have HB := Lib.hid hb1
    clear hb1
    go_wp2_with fail
    go_ret
    exact ⟨rfl, HB.out⟩
  · have g0 : decide ((n : Int) > 100) = false := by simp; omega
    have HN := Lib.hid (pnew_c harts w)
    have HXN := Lib.hid (rnew16_c harts)
    have HFT := Lib.hid (fun off size (h0 : 0 ≤ off) (h1 : off ≤ 18446744073709551615) W => pfits_c harts off size h0 h1 W)
    have HN2 := Lib.hid (pnew_c harts)
    have HIS := Lib.hid (fun off size => show Pc.is harts off size = Pc.is ((Ct.cnt harts : Nat) : Int) off size by unfold Pc.is; rw [Pc.at_cnt])
    have hc8 := Ct.cnt_le harts
    generalize Ct.cnt harts = m at *
    have HZ0 := Lib.hid (zero_x16)
    have hok0 := Pc.zeros_ok hc8
    go_enter Try.func6, Try.ntmps6
    go_wp2_with fail
    refine HN.out.mono ?_
    rintro e w1 ⟨rfl, hb1⟩
    have hzp := zero_pt
    go_upto_region 4 with (refine wpList_storeNew (w0 := w1) rfl PT _ _ rfl (ctV 0 Pc.zeros) (ctV m Pc.zeros) PT rfl rfl iPTz (by rw [ctV_size, ctV_size]) ctV_one ?_)
    have hb2 := hb1.alloc hb1.size (Obj.cells (ctV m Pc.zeros) PT)
    have hA2 : PcAt (w1.alloc (Obj.cells (ctV m Pc.zeros) PT)) w1.heap.size m Pc.zeros := ⟨CsAt.new w1 PT _, hok0⟩
    have hle1 := hb1.size
    clear hb1 HN
    generalize w1.alloc (Obj.cells (ctV m Pc.zeros) PT) = w2 at *
    generalize w1.heap.size = bc at *
    have HA2 := Lib.hid hA2
    have HB2 := Lib.hid hb2
    clear hA2 hb2
    have hz := HZ0.out
    go_wp2_with fail
    refine (HXN.out w2).mono ?_
    rintro e w3 ⟨rfl, hb3⟩
    go_upto_region 5 with (refine wpList_storeNew (w0 := w3) rfl X16 _ _ rfl (x16V 0 Pc.zeros) (x16V m Pc.zeros) X16 rfl rfl iX16 sz16 x16_one ?_)
    have hb3' := HB2.out.trans (hb3.mono HB2.out.size)
    have hb4 := hb3'.alloc hb3'.size (Obj.cells (x16V m Pc.zeros) X16)
    have hA4 := HA2.out.low (hb3.trans ((Below.refl w2.heap.size w3).alloc hb3.size (Obj.cells (x16V m Pc.zeros) X16)))
    have hX4 : XpAt (w3.alloc (Obj.cells (x16V m Pc.zeros) X16)) w3.heap.size m Pc.zeros := XpAt.box w3 m Pc.zeros
    have hcx : bc < w3.heap.size := Nat.lt_of_lt_of_le HA2.out.lt hb3.size
    clear hb3 hb3' HA2 HB2 HXN hz
    generalize w3.alloc (Obj.cells (x16V m Pc.zeros) X16) = w4 at *
    generalize w3.heap.size = bx at *
    have hxw : bx < w4.heap.size := CsAt.lt hX4
    have HA4 := Lib.hid hA4
    have HX4 := Lib.hid hX4
    have HB4 := Lib.hid hb4
    clear hA4 hX4 hb4
    go_upto_region 6 with (first | (refine wpList_load_row rfl PT _ rfl bc rfl PT _ (0, 0) _ HA4.out.row Try.underlying58 rfl iPTz ?_) | (refine wpList_storeNew (w0 := w4) rfl PT _ _ rfl (ctV 0 Pc.zeros) (ctV m Pc.zeros) PT rfl rfl iPTz (by rw [ctV_size, ctV_size]) ctV_one ?_))
    have hs5 : PpS w (w4.alloc (Obj.cells (ctV m Pc.zeros) PT)) bc bx w4.heap.size m Pc.zeros Pc.zeros :=
      ⟨HA4.out.low ((Below.refl _ _).alloc (Nat.le_refl _) _), HX4.out.low ((Below.refl _ _).alloc (Nat.le_refl _) _), CsAt.new _ _ _, hle1, hcx, hxw, HB4.out.alloc HB4.out.size _⟩
    clear HA4 HX4 HB4 hle1 hzp
    generalize w4.alloc (Obj.cells (ctV m Pc.zeros) PT) = w5 at *
    generalize w4.heap.size = bw at *
    have HS := Lib.hid hs5
    clear hs5 hok0
    go_wp2_with fail
    go_loopw [8] (fun i wr => ∃ (k : Nat) (ws : List Int), k ≤ n ∧ i = .int .i64 k ∧ PpS w wr bc bx bw m ws ws) (fun i _ => n - (intOf i).toNat)
    case atStart => exact ⟨0, _, Nat.zero_le _, rfl, HS.out⟩
    case round =>
      obtain ⟨k, ws, hk, rfl, hs⟩ := hrel
      have HR := Lib.hid hs
      clear hs HS
      by_cases hlt : k < n
      · have e0 : decide ((k : Int) < (n : Int)) = true := by simp; omega
        obtain ⟨db, off, rfl, hdl, hcells⟩ := HDS.out.at_ (by omega)
        have c0 := hcells k hlt 0 (by omega)
        have c1 := hcells k hlt 1 (by omega)
        have c2 := hcells k hlt 2 (by omega)
        have c3 := hcells k hlt 3 (by omega)
        simp only [Dp.cells, Nat.add_zero, List.getElem?_toArray, List.getElem?_cons_zero, List.getElem?_cons_succ] at c0 c1 c2 c3
        have hin := HDS.out.each k hlt
        have hoff := hin.off
        have hsz := hin.size
        have hv := hin.v
        clear hcells hin
        generalize (l.getD k Dp.zero).kind = kd at *
        generalize (l.getD k Dp.zero).off = of_ at *
        generalize (l.getD k Dp.zero).size = sz at *
        generalize (l.getD k Dp.zero).v = vv at *
        have gk : (k : Int) < (n : Int) := by omega
        have HDD := Lib.hid (fun (W : World) (hb : Below w.heap.size w W) => deed_at (W := W) hdl c0 c1 c2 c3 hb)
        have HC1 := Lib.hid (fun (W : World) (hb : Below w.heap.size w W) => (hb.cell (p := ⟨db, off + k * 4 + 1, none⟩) hdl).trans c1)
        have HC2 := Lib.hid (fun (W : World) (hb : Below w.heap.size w W) => (hb.cell (p := ⟨db, off + k * 4 + 2, none⟩) hdl).trans c2)
        have hlc := HR.out.lc
        have hdb : db < w.heap.size := hdl
        clear c0 c1 c2 c3
        have HAT := Lib.hid (fun W => rat16_c (m : Int) of_ sz W)
        obtain ⟨t, ht⟩ : ∃ t, Pc.at_ (m : Int) of_ sz = t := ⟨_, rfl⟩
        have HI2 := Lib.hid (show Pc.is harts of_ sz = decide ((t.1 : Int) > 0) by rw [HIS.out]; unfold Pc.is; rw [ht]; apply decide_eq_decide.2; omega)
        obtain ⟨t1, t2⟩ := t
        rw [ht, atV] at HAT
        clear ht
        simp only at HAT HI2
        obtain ⟨q, hq⟩ : ∃ q, decide ((t1 : Int) > 0) = q := ⟨_, rfl⟩
        rw [hq] at HI2
        have hq2 : decide (0 < t1) = q := by rw [← hq]; apply decide_eq_decide.2; omega
        go_upto_region 9 with fail
        refine wp_region_steady (fun W => PpS w W bc bx bw m ws ws) (by kernel_rfl) (by kernel_rfl) (HR.out.low (below_dnC (Below.refl _ _) 1)) ?_
        refine steady_val ?_ ?_ (by kernel_rfl) (fun W hS => ?_) ?_ ?_
        rotate_left 2
        · go_simp
          exact rfl
        · go_simp
          exact rfl
        refine steady_val ?_ ?_ (by kernel_rfl) (fun W hS => ?_) ?_ ?_
        rotate_left 2
        · (have q0 := hS.x.n0); go_simp
          exact rfl
        · go_simp
          exact rfl
        iterate 4
          refine steady_val ?_ ?_ (by kernel_rfl) (fun W hS => ?_) ?_ ?_
          rotate_left 2
          · go_simp
            exact rfl
          · go_simp
            exact rfl
        refine steady_val ?_ ?_ (by kernel_rfl) (fun W hS => ?_) ?_ ?_
        rotate_left 2
        · (have q1 := HC1.out _ hS.bel); go_simp
          exact rfl
        · go_simp
          exact rfl
        iterate 4
          refine steady_val ?_ ?_ (by kernel_rfl) (fun W hS => ?_) ?_ ?_
          rotate_left 2
          · go_simp
            exact rfl
          · go_simp
            exact rfl
        refine steady_val ?_ ?_ (by kernel_rfl) (fun W hS => ?_) ?_ ?_
        rotate_left 2
        · (have q2 := HC2.out _ hS.bel); go_simp
          exact rfl
        · go_simp
          exact rfl
        refine steady_enter (.tuple #[.int .i64 (t1 : Int), .int .i64 (t2 : Int)]) 26 #[.int .i64 (m : Int), .int .u64 of_, .int .i64 sz] ?_ (by kernel_rfl) (fun W hS => ?_) (fun W hS => (HAT.out W).mono (by rintro e w' ⟨rfl, rfl⟩; exact ⟨rfl, hS⟩)) ?_ ?_
        rotate_left 1
        · go_simp
        · go_simp
          exact rfl
        iterate 5
          refine steady_val ?_ ?_ (by kernel_rfl) (fun W hS => ?_) ?_ ?_
          rotate_left 2
          · go_simp
            exact rfl
          · go_simp
            exact rfl
        refine steady_nil ?_
        intro W hS
        have HR1 := Lib.hid hS
        clear hS HR
        go_upto_region 10 with fail
        refine wp_region_steady (fun W => PpS w W bc bx bw m ws ws) (by kernel_rfl) (by kernel_rfl) (HR1.out.low (below_dnC (Below.refl _ _) 1)) ?_
        iterate 5
          refine steady_val ?_ ?_ (by kernel_rfl) (fun W hS => ?_) ?_ ?_
          rotate_left 2
          · go_simp
            exact rfl
          · go_simp
            exact rfl
        refine steady_val ?_ ?_ (by kernel_rfl) (fun W hS => ?_) ?_ ?_
        rotate_left 2
        · (have q1 := HC1.out _ hS.bel); go_simp
          exact rfl
        · go_simp
          exact rfl
        iterate 4
          refine steady_val ?_ ?_ (by kernel_rfl) (fun W hS => ?_) ?_ ?_
          rotate_left 2
          · go_simp
            exact rfl
          · go_simp
            exact rfl
        refine steady_val ?_ ?_ (by kernel_rfl) (fun W hS => ?_) ?_ ?_
        rotate_left 2
        · (have q2 := HC2.out _ hS.bel); go_simp
          exact rfl
        · go_simp
          exact rfl
        refine steady_enter (.bool q) 27 #[.int .i64 harts, .int .u64 of_, .int .i64 sz] ?_ (by kernel_rfl) (fun W hS => ?_) (fun W hS => (HFT.out of_ sz hoff.1 hoff.2 W).mono (by rintro e w' ⟨rfl, hb⟩; rw [HI2.out]; exact ⟨rfl, hS.low hb⟩)) ?_ ?_
        rotate_left 1
        · go_simp
        · go_simp
          exact rfl
        iterate 3
          refine steady_val ?_ ?_ (by kernel_rfl) (fun W hS => ?_) ?_ ?_
          rotate_left 2
          · go_simp
            exact rfl
          · go_simp
            exact rfl
        refine steady_nil ?_
        intro W hS
        have HR2 := Lib.hid hS
        clear hS HR1
        go_upto_region 12 with fail
        generalize hus : Pc.doW m ws kd of_ sz vv = us at *
        have HDO := Lib.hid (fun W (h : PcAt W bc m ws) => rdo16_c bc m ws kd of_ sz vv hoff.1 hoff.2 hsz.1 hsz.2 hv.1 hv.2 W h)
        rw [hus] at HDO
        have HOK := Lib.hid (show Pc.Ok m us by rw [← hus]; exact Pc.do_ok HR2.out.c.ok kd of_ sz hv.1 (by omega))
        clear hus
        go_cut [11, 12] (fun s11 s12 wx => ∃ nb, s11 = .pointer (some ⟨nb, 0, none⟩) ∧ s12 = .bool true ∧ bw < nb ∧ XpAt wx nb m us ∧ PpS w wx bc bx bw m us ws)
        case first =>
          have hS0 : XpAt W.drew bx m ws ∧ Below w.heap.size w W.drew := ⟨HR2.out.x.low (Below.refl _ _).drew, HR2.out.bel.drew⟩
          have hp0 : PpS w W.drew bc bx bw m ws ws := HR2.out.low (Below.refl _ _).drew
          have hz := zero_x16
          refine wp_region_noPanic ?_
          refine wp_region_held (S := fun V => XpAt V bx m ws ∧ Below w.heap.size w V) (by kernel_rfl) ?_
          refine takeH (fuel := 11) (i := 0) (.agg (x16V m ws)) ?_ rfl (by kernel_rfl) (by kernel_rfl) (by kernel_rfl) (fun _ _ _ h => h) (by kernel_rfl) (fun W hS => exec_load_row X16 _ rfl bx rfl X16 _ _ hS.1 Try.underlying65 rfl iX16) hS0 ?_ ?_
          rotate_left 1
          · go_simp
            exact rfl
          refine takeH (fuel := 10) (i := 1) (.slice (some ⟨db, off, none⟩) n cap) ?_ rfl (by kernel_rfl) (by kernel_rfl) (by kernel_rfl) (fun _ _ _ h => h) (by kernel_rfl) (fun W hS => by go_simp) hS0 ?_ ?_
          rotate_left 1
          · go_simp
            exact rfl
          refine takeH (fuel := 9) (i := 2) (.int .i64 (k : Int)) ?_ rfl (by kernel_rfl) (by kernel_rfl) (by kernel_rfl) (fun _ _ _ h => h) (by kernel_rfl) (fun W hS => by go_simp) hS0 ?_ ?_
          rotate_left 1
          · go_simp
            exact rfl
          refine takeH (fuel := 8) (i := 3) (.pointer (some ⟨db, off + k * 4, none⟩)) ?_ rfl (by kernel_rfl) (by kernel_rfl) (by kernel_rfl) (fun _ _ _ h => h) (by kernel_rfl) (fun W hS => by go_simp) hS0 ?_ ?_
          rotate_left 1
          · go_simp
            exact rfl
          refine takeH (fuel := 7) (i := 4) (.agg (dpV kd of_ sz vv)) ?_ rfl (by kernel_rfl) (by kernel_rfl) (by kernel_rfl) (fun _ _ _ h => h) (by kernel_rfl) (fun W hS => exec_load_mid T69 _ rfl db (off + k * 4) rfl _ _ (HDD.out _ hS.2) Try.underlying69 rfl info_dp) hS0 ?_ ?_
          rotate_left 1
          · go_simp
            exact rfl
          refine wpAnyH_all (fuel := 6) (rs := [5, 9]) (by kernel_rfl) (by decide) ?_
          intro i hi
          simp only [List.mem_cons, List.not_mem_nil, or_false] at hi
          rcases hi with rfl | rfl
          · refine wpOp_callX 28 #[.pointer (some ⟨bc, 0, none⟩), .agg (x16V m ws), .agg (dpV kd of_ sz vv)] rfl (by kernel_rfl) (by go_simp) ?_
            refine (HDO.out _ hp0.c).mono ?_
            rintro e w4 ⟨rfl, hT4, hM4⟩
            have hp4 : PpS w w4 bc bx bw m us ws := hp0.och hT4 hM4
            have hS4 : XpAt w4 bx m ws ∧ Below w.heap.size w w4 := ⟨hp4.x, hp4.bel⟩
            refine ⟨_, rfl, hS4, ?_⟩
            refine takeH (fuel := 5) (i := 6) (.tuple #[.agg (x16V m us), .bool true]) ?_ rfl (by kernel_rfl) (by kernel_rfl) (by kernel_rfl) (fun _ _ _ h => h) (by kernel_rfl) (fun W hS => by go_simp) hS4 ?_ ?_
            rotate_left 1
            · go_simp
              exact rfl
            refine takeH (fuel := 4) (i := 7) (.agg (x16V m us)) ?_ rfl (by kernel_rfl) (by kernel_rfl) (by kernel_rfl) (fun _ _ _ h => h) (by kernel_rfl) (fun W hS => by go_simp) hS4 ?_ ?_
            rotate_left 1
            · go_simp
              exact rfl
            refine takeH (fuel := 3) (i := 8) (.bool true) ?_ rfl (by kernel_rfl) (by kernel_rfl) (by kernel_rfl) (fun _ _ _ h => h) (by kernel_rfl) (fun W hS => by go_simp) hS4 ?_ ?_
            rotate_left 1
            · go_simp
              exact rfl
            refine wpAnyH_all (fuel := 2) (rs := [9]) (by kernel_rfl) (by decide) ?_
            intro i hi
            obtain rfl : i = 9 := by simpa using hi
            refine wpOp_valB (.pointer (some ⟨w4.heap.size, 0, none⟩)) (w4.alloc (.cells (x16V 0 Pc.zeros) X16)) ?_ rfl (by kernel_rfl) (exec_alloc X16 rfl (.agg (x16V 0 Pc.zeros)) (hz _)) ?_ ?_
            rotate_left 1
            · go_simp
              exact rfl
            have hA : Below w4.heap.size w4 (w4.alloc (.cells (x16V 0 Pc.zeros) X16)) := (Below.refl _ _).alloc (Nat.le_refl _) _
            have hz5 : CsAt (w4.alloc (.cells (x16V 0 Pc.zeros) X16)) w4.heap.size X16 (x16V 0 Pc.zeros) := CsAt.new w4 X16 (x16V 0 Pc.zeros)
            have hnb : bw < w4.heap.size := hp4.was.lt
            have hp5 : PpS w (w4.alloc (.cells (x16V 0 Pc.zeros) X16)) bc bx bw m us ws := hp4.low hA
            have hS5 : XpAt (w4.alloc (.cells (x16V 0 Pc.zeros) X16)) bx m ws ∧ Below w.heap.size w (w4.alloc (.cells (x16V 0 Pc.zeros) X16)) := ⟨hp5.x, hp5.bel⟩
            refine ⟨hS5, ?_⟩
            clear hT4 hM4 hS4 hA hp4
            generalize w4.alloc (.cells (x16V 0 Pc.zeros) X16) = w5 at *
            generalize w4.heap.size = nb at *
            refine wpAnyH_all (fuel := 1) (rs := [10]) (by kernel_rfl) (by decide) ?_
            intro i hi
            obtain rfl : i = 10 := by simpa using hi
            refine wpOp_unitB (w5.setRow nb (x16V m us)) ?_ rfl (by kernel_rfl) (exec_store_row X16 _ _ rfl nb (x16V m us) rfl rfl X16 (x16V 0 Pc.zeros) hz5 iX16 sz16 x16_one) ?_ ?_
            rotate_left 1
            · go_simp
              exact rfl
            have hp6 : PpS w (w5.setRow nb (x16V m us)) bc bx bw m us ws := hp5.far hnb _
            have hx6 : XpAt (w5.setRow nb (x16V m us)) nb m us := CsAt.row hz5 _
            have hS6 : XpAt (w5.setRow nb (x16V m us)) bx m ws ∧ Below w.heap.size w (w5.setRow nb (x16V m us)) := ⟨hp6.x, hp6.bel⟩
            refine ⟨hS6, ?_⟩
            refine takeH (fuel := 0) (i := 11) (.bool true) ?_ rfl (by kernel_rfl) (by kernel_rfl) (by kernel_rfl) (fun _ _ _ h => h) (by kernel_rfl) (fun W hS => by go_simp) hS6 ?_ ?_
            rotate_left 1
            · go_simp
              exact rfl
            refine wpAnyH_done (by kernel_rfl) ?_ _
            refine NoPanic.normal ?_
            have HF := Lib.hid (And.intro hnb (And.intro hx6 hp6))
            clear hp5 hS5 hS6 hz5 hp6 hx6 hS0 hp0 hz
            go_wp2_with fail
            go_meet
            exact ⟨nb, rfl, rfl, HF.out.1, HF.out.2.1, HF.out.2.2⟩
          · refine wpOp_valB (.pointer (some ⟨W.drew.heap.size, 0, none⟩)) (W.drew.alloc (.cells (x16V 0 Pc.zeros) X16)) ?_ rfl (by kernel_rfl) (exec_alloc X16 rfl (.agg (x16V 0 Pc.zeros)) (hz _)) ?_ ?_
            rotate_left 1
            · go_simp
              exact rfl
            have hA : Below W.drew.heap.size W.drew (W.drew.alloc (.cells (x16V 0 Pc.zeros) X16)) := (Below.refl _ _).alloc (Nat.le_refl _) _
            have hp4 : PpS w (W.drew.alloc (.cells (x16V 0 Pc.zeros) X16)) bc bx bw m ws ws := hp0.low hA
            obtain ⟨nb, hne⟩ : ∃ nb, W.heap.size = nb := ⟨_, rfl⟩
            have hz4 : CsAt (W.drew.alloc (.cells (x16V 0 Pc.zeros) X16)) nb X16 (x16V 0 Pc.zeros) := by rw [← hne]; exact CsAt.new W.drew X16 (x16V 0 Pc.zeros)
            have hnb : bw < nb := by rw [← hne]; exact hp0.was.lt
            have hS4 : XpAt (W.drew.alloc (.cells (x16V 0 Pc.zeros) X16)) bx m ws ∧ Below w.heap.size w (W.drew.alloc (.cells (x16V 0 Pc.zeros) X16)) := ⟨hp4.x, hp4.bel⟩
            refine ⟨hS4, ?_⟩
            rw [hne]
            clear hA hne
            generalize W.drew.alloc (.cells (x16V 0 Pc.zeros) X16) = w4 at *
            refine wpAnyH_all (fuel := 5) (rs := [5]) (by kernel_rfl) (by decide) ?_
            intro i hi
            obtain rfl : i = 5 := by simpa using hi
            refine wpOp_callX 28 #[.pointer (some ⟨bc, 0, none⟩), .agg (x16V m ws), .agg (dpV kd of_ sz vv)] rfl (by kernel_rfl) (by go_simp) ?_
            refine (HDO.out w4 hp4.c).mono ?_
            rintro e w5 ⟨rfl, hT5, hM5⟩
            have hp5 : PpS w w5 bc bx bw m us ws := hp4.och hT5 hM5
            have hz5 : CsAt w5 nb X16 (x16V 0 Pc.zeros) := hz4.och hM5 (by have := hp4.cx; have := hp4.xw; simp; omega)
            have hS5 : XpAt w5 bx m ws ∧ Below w.heap.size w w5 := ⟨hp5.x, hp5.bel⟩
            refine ⟨_, rfl, hS5, ?_⟩
            clear hT5 hM5 hS4 hp4 hz4
            refine takeH (fuel := 4) (i := 6) (.tuple #[.agg (x16V m us), .bool true]) ?_ rfl (by kernel_rfl) (by kernel_rfl) (by kernel_rfl) (fun _ _ _ h => h) (by kernel_rfl) (fun W hS => by go_simp) hS5 ?_ ?_
            rotate_left 1
            · go_simp
              exact rfl
            refine takeH (fuel := 3) (i := 7) (.agg (x16V m us)) ?_ rfl (by kernel_rfl) (by kernel_rfl) (by kernel_rfl) (fun _ _ _ h => h) (by kernel_rfl) (fun W hS => by go_simp) hS5 ?_ ?_
            rotate_left 1
            · go_simp
              exact rfl
            refine takeH (fuel := 2) (i := 8) (.bool true) ?_ rfl (by kernel_rfl) (by kernel_rfl) (by kernel_rfl) (fun _ _ _ h => h) (by kernel_rfl) (fun W hS => by go_simp) hS5 ?_ ?_
            rotate_left 1
            · go_simp
              exact rfl
            refine wpAnyH_all (fuel := 1) (rs := [10]) (by kernel_rfl) (by decide) ?_
            intro i hi
            obtain rfl : i = 10 := by simpa using hi
            refine wpOp_unitB (w5.setRow nb (x16V m us)) ?_ rfl (by kernel_rfl) (exec_store_row X16 _ _ rfl nb (x16V m us) rfl rfl X16 (x16V 0 Pc.zeros) hz5 iX16 sz16 x16_one) ?_ ?_
            rotate_left 1
            · go_simp
              exact rfl
            have hp6 : PpS w (w5.setRow nb (x16V m us)) bc bx bw m us ws := hp5.far hnb _
            have hx6 : XpAt (w5.setRow nb (x16V m us)) nb m us := CsAt.row hz5 _
            have hS6 : XpAt (w5.setRow nb (x16V m us)) bx m ws ∧ Below w.heap.size w (w5.setRow nb (x16V m us)) := ⟨hp6.x, hp6.bel⟩
            refine ⟨hS6, ?_⟩
            refine takeH (fuel := 0) (i := 11) (.bool true) ?_ rfl (by kernel_rfl) (by kernel_rfl) (by kernel_rfl) (fun _ _ _ h => h) (by kernel_rfl) (fun W hS => by go_simp) hS6 ?_ ?_
            rotate_left 1
            · go_simp
              exact rfl
            refine wpAnyH_done (by kernel_rfl) ?_ _
            refine NoPanic.normal ?_
            have HF := Lib.hid (And.intro hnb (And.intro hx6 hp6))
            clear hp5 hS5 hS6 hz5 hp6 hx6 hS0 hp0 hz
            go_wp2_with fail
            go_meet
            exact ⟨nb, rfl, rfl, HF.out.1, HF.out.2.1, HF.out.2.2⟩
        case rest =>
          obtain ⟨nb, rfl, rfl, hnb, hx2, hs2⟩ := hcut
          have HX2 := Lib.hid hx2
          have HS2 := Lib.hid hs2
          clear hx2 hs2 HR2
          go_upto_region 14 with (first | (refine wpList_load_row rfl X16 _ rfl nb rfl X16 _ (0, 0) _ HX2.out Try.underlying65 rfl iX16 ?_) | (refine wpList_store_row rfl X16 _ _ rfl bx (x16V m us) rfl rfl X16 (x16V m ws) HS2.out.x iX16 (by rw [x16_size, x16_size]) x16_one ?_))
          have HS3 := Lib.hid (show PpS w (wc.setRow bx (x16V m us)) bc bx bw m us us from HS2.out.setX)
          clear HX2 HS2
          generalize wc.setRow bx (x16V m us) = wd at *
          refine wp_region_steady (fun W => PpS w W bc bx bw m us us) (by kernel_rfl) (by kernel_rfl) (HS3.out.low (below_dnC (Below.refl _ _) 1)) ?_
          iterate 3
            refine steady_val ?_ ?_ (by kernel_rfl) (fun W hS => ?_) ?_ ?_
            rotate_left 2
            · go_simp
              exact rfl
            · go_simp
              exact rfl
          refine steady_enter (.int .u64 (us.getD 1 0)) 29 #[.pointer (some ⟨bc, 0, none⟩)] ?_ (by kernel_rfl) (fun W hS => ?_) (fun W hS => (pwaits_c (some ⟨bc, 0, none⟩) m us W hS.c.at_ (fun h => by cases h)).mono (by rintro e w' ⟨rfl, rfl⟩; exact ⟨rfl, hS⟩)) ?_ ?_
          rotate_left 1
          · go_simp
          · go_simp
            exact rfl
          refine steady_val ?_ ?_ (by kernel_rfl) (fun W hS => ?_) ?_ ?_
          rotate_left 2
          · go_simp
            exact rfl
          · go_simp
            exact rfl
          refine steady_val (.agg (bV (us.getD 1 0))) ?_ (by kernel_rfl) (fun W hS => exec_load_mid T61 _ rfl bx 65 rfl _ _ (load_wait hS.x) Try.underlying61 rfl i61) ?_ ?_
          rotate_left 1
          · go_simp
            exact rfl
          refine steady_enter (.int .u64 (us.getD 1 0)) 30 #[.agg (bV (us.getD 1 0))] ?_ (by kernel_rfl) (fun W hS => ?_) (fun W hS => (rword61_c (us.getD 1 0) HOK.out.wait W).mono (by rintro e w' ⟨rfl, hb⟩; exact ⟨rfl, hS.low hb⟩)) ?_ ?_
          rotate_left 1
          · go_simp
          · go_simp
            exact rfl
          iterate 3
            refine steady_val ?_ ?_ (by kernel_rfl) (fun W hS => ?_) ?_ ?_
            rotate_left 2
            · go_simp
              exact rfl
            · go_simp
              exact rfl
          refine steady_enter (.int .u64 (us.getD 2 0)) 31 #[.pointer (some ⟨bc, 0, none⟩)] ?_ (by kernel_rfl) (fun W hS => ?_) (fun W hS => (pserved_c (some ⟨bc, 0, none⟩) m us W hS.c.at_ (fun h => by cases h)).mono (by rintro e w' ⟨rfl, rfl⟩; exact ⟨rfl, hS⟩)) ?_ ?_
          rotate_left 1
          · go_simp
          · go_simp
            exact rfl
          refine steady_val ?_ ?_ (by kernel_rfl) (fun W hS => ?_) ?_ ?_
          rotate_left 2
          · go_simp
            exact rfl
          · go_simp
            exact rfl
          refine steady_val (.agg (bV (us.getD 2 0))) ?_ (by kernel_rfl) (fun W hS => exec_load_mid T61 _ rfl bx 97 rfl _ _ (load_serv hS.x) Try.underlying61 rfl i61) ?_ ?_
          rotate_left 1
          · go_simp
            exact rfl
          refine steady_enter (.int .u64 (us.getD 2 0)) 30 #[.agg (bV (us.getD 2 0))] ?_ (by kernel_rfl) (fun W hS => ?_) (fun W hS => (rword61_c (us.getD 2 0) HOK.out.serv W).mono (by rintro e w' ⟨rfl, hb⟩; exact ⟨rfl, hS.low hb⟩)) ?_ ?_
          rotate_left 1
          · go_simp
          · go_simp
            exact rfl
          iterate 2
            refine steady_val ?_ ?_ (by kernel_rfl) (fun W hS => ?_) ?_ ?_
            rotate_left 2
            · go_simp
              exact rfl
            · go_simp
              exact rfl
          refine steady_nil ?_
          intro W hS
          have HS4 := Lib.hid hS
          clear hS HS3
          go_wp2_with fail
          go_loopw [13] (fun i wr => ∃ h : Nat, h ≤ 18 ∧ i = .int .i64 ((h : Int) - 1) ∧ PpS w wr bc bx bw m us us) (fun i _ => 18 - (intOf i + 1).toNat)
          case atStart => exact ⟨0, by omega, rfl, HS4.out⟩
          case round =>
            obtain ⟨h, hh8, rfl, hs⟩ := hrel
            have HR5 := Lib.hid hs
            clear hs HS4
            by_cases h8 : h < 18
            · have e1 : decide ((h : Int) - 1 < 17) = true := by simp; omega
              obtain ⟨c, hc⟩ : ∃ c, (h : Int) - 1 = c := ⟨_, rfl⟩
              have HCC := Lib.hid hc
              rw [hc] at e1 ⊢
              have gc : -1 ≤ c ∧ c < 17 := by omega
              clear hc
              go_upto_region 19 with fail
              refine wp_region_steady (fun W => PpS w W bc bx bw m us us) (by kernel_rfl) (by kernel_rfl) (HR5.out.low (below_dnC (Below.refl _ _) 1)) ?_
              refine steady_val ?_ ?_ (by kernel_rfl) (fun W hS => ?_) ?_ ?_
              rotate_left 2
              · go_simp
                exact rfl
              · go_simp
                exact rfl
              refine steady_enter (.bool (Pc.lineP m us c)) 32 #[.pointer (some ⟨bc, 0, none⟩), .int .i64 c] ?_ (by kernel_rfl) (fun W hS => ?_) (fun W hS => (pline_c _ m us c (by omega) (by omega) W hS.c.at_).mono (by rintro e w' ⟨rfl, hb⟩; exact ⟨rfl, hS.low hb⟩)) ?_ ?_
              rotate_left 1
              · go_simp
              · go_simp
                exact rfl
              refine steady_val (.agg (x16V m us)) ?_ (by kernel_rfl) (fun W hS => exec_load_row _ _ rfl _ rfl _ _ _ hS.x Try.underlying65 rfl iX16) ?_ ?_
              rotate_left 1
              · go_simp
                exact rfl
              refine steady_val ?_ ?_ (by kernel_rfl) (fun W hS => ?_) ?_ ?_
              rotate_left 2
              · go_simp
                exact rfl
              · go_simp
                exact rfl
              refine steady_enter (.bool (Pc.lineP m us c)) 33 #[.agg (x16V m us), .int .i64 c] ?_ (by kernel_rfl) (fun W hS => ?_) (fun W hS => (rline16_c m us HOK.out c W).mono (by rintro e w' ⟨rfl, hb⟩; exact ⟨rfl, hS.low hb⟩)) ?_ ?_
              rotate_left 1
              · go_simp
              · go_simp
                exact rfl
              refine steady_val ?_ ?_ (by kernel_rfl) (fun W hS => ?_) ?_ ?_
              rotate_left 2
              · go_simp
                exact rfl
              · go_simp
                exact rfl
              refine steady_nil ?_
              intro W hS
              have HS6 := Lib.hid hS
              clear hS HR5
              go_wp2_with fail
              go_roundw
              case rel => exact ⟨h + 1, by omega, by rw [← HCC.out]; go_num, HS6.out⟩
              case measure => rw [← HCC.out]; simp [intOf]; omega
            · obtain rfl : h = 18 := by omega
              have e1 : decide (((18 : Nat) : Int) - 1 < 17) = false := by decide
              rw [show ((18 : Nat) : Int) - 1 = 17 from rfl] at e1 ⊢
              go_wp2_with fail
              go_roundw
              case rel => exact ⟨k + 1, _, by omega, by go_num, HR5.out⟩
              case measure => simp [intOf]; omega
      · obtain rfl : k = n := by omega
        have e0 : decide ((k : Int) < (k : Int)) = false := by simp
        go_upto_region 21 with fail
        refine wp_region_steady (fun W => PpS w W bc bx bw m ws ws) (by kernel_rfl) (by kernel_rfl) (HR.out.low (below_dnC (Below.refl _ _) 1)) ?_
        refine steady_val (.agg (ctV m Pc.zeros)) ?_ (by kernel_rfl) (fun W hS => exec_load_row _ _ rfl _ rfl _ _ _ hS.was Try.underlying58 rfl iPTz) ?_ ?_
        rotate_left 1
        · go_simp
          exact rfl
        refine steady_val ?_ ?_ (by kernel_rfl) (fun W hS => ?_) ?_ ?_
        rotate_left 2
        · go_simp
          exact rfl
        · go_simp
          exact rfl
        refine steady_enter (.agg (ctV m Pc.zeros)) 24 #[.int .i64 harts] ?_ (by kernel_rfl) (fun W hS => ?_) (fun W hS => (HN2.out W).mono (by rintro e w' ⟨rfl, hb⟩; exact ⟨rfl, hS.low hb⟩)) ?_ ?_
        rotate_left 1
        · go_simp
        · go_simp
          exact rfl
        refine steady_val (.bool true) ?_ (by kernel_rfl) (fun W hS => exec_cmp .eql 58 _ _ _ rfl (ctV m Pc.zeros) (ctV m Pc.zeros) rfl rfl guard_ptP _ (eq_ptn hc8 W)) ?_ ?_
        rotate_left 1
        · go_simp
          exact rfl
        refine steady_val ?_ ?_ (by kernel_rfl) (fun W hS => ?_) ?_ ?_
        rotate_left 2
        · go_simp
          exact rfl
        · go_simp
          exact rfl
        refine steady_enter (.bool true) 23 #[] ?_ (by kernel_rfl) (fun W hS => ?_) (fun W hS => (live16_c W).mono (by rintro e w' ⟨rfl, hb⟩; exact ⟨rfl, hS.low hb⟩)) ?_ ?_
        rotate_left 1
        · go_simp
        · go_simp
          exact rfl
        iterate 2
          refine steady_val ?_ ?_ (by kernel_rfl) (fun W hS => ?_) ?_ ?_
          rotate_left 2
          · go_simp
            exact rfl
          · go_simp
            exact rfl
        refine steady_nil ?_
        intro W hS
        have HB3 := Lib.hid hS.bel
        clear hS HR
        go_wp2_with fail
        go_ret
        exact ⟨rfl, HB3.out⟩
end Go.Proofs.Ytjeolfcefeglpaa
