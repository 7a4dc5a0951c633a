/-
  The law of layer 15: any registers that are read and written, and ticks (ClintPlays walked).
-/
import Derived.Test.YtjeolfcefeglpaaCtR3
import Derived.Test.YtjeolfcefeglpaaOpenCt
import Derived.Deep.CutBlock
set_option maxRecDepth 20000
namespace Go.Proofs.Ytjeolfcefeglpaa
open Go.ChangeShapes Go.WideShapes Go.ChangeAt Go.RowKit

abbrev T34 : TypeId := 34
theorem guard_ct : Try.prog.eqGuardType Try.prog.depth CT = false := by kernel_rfl
theorem eq_ct_0 (w : World) : (binOp .eql CT (.agg (ctV 0 (Ct.newW 0))) (.agg (ctV 0 (Ct.newW 0)))).run Try.prog w = .ok (.bool true) w := by kernel_rfl
theorem eq_ct_1 (w : World) : (binOp .eql CT (.agg (ctV 1 (Ct.newW 1))) (.agg (ctV 1 (Ct.newW 1)))).run Try.prog w = .ok (.bool true) w := by kernel_rfl
theorem eq_ct_2 (w : World) : (binOp .eql CT (.agg (ctV 2 (Ct.newW 2))) (.agg (ctV 2 (Ct.newW 2)))).run Try.prog w = .ok (.bool true) w := by kernel_rfl
theorem eq_ct_3 (w : World) : (binOp .eql CT (.agg (ctV 3 (Ct.newW 3))) (.agg (ctV 3 (Ct.newW 3)))).run Try.prog w = .ok (.bool true) w := by kernel_rfl
theorem eq_ct_4 (w : World) : (binOp .eql CT (.agg (ctV 4 (Ct.newW 4))) (.agg (ctV 4 (Ct.newW 4)))).run Try.prog w = .ok (.bool true) w := by kernel_rfl
theorem eq_ct_5 (w : World) : (binOp .eql CT (.agg (ctV 5 (Ct.newW 5))) (.agg (ctV 5 (Ct.newW 5)))).run Try.prog w = .ok (.bool true) w := by kernel_rfl
theorem eq_ct_6 (w : World) : (binOp .eql CT (.agg (ctV 6 (Ct.newW 6))) (.agg (ctV 6 (Ct.newW 6)))).run Try.prog w = .ok (.bool true) w := by kernel_rfl
theorem eq_ct_7 (w : World) : (binOp .eql CT (.agg (ctV 7 (Ct.newW 7))) (.agg (ctV 7 (Ct.newW 7)))).run Try.prog w = .ok (.bool true) w := by kernel_rfl
theorem eq_ct_8 (w : World) : (binOp .eql CT (.agg (ctV 8 (Ct.newW 8))) (.agg (ctV 8 (Ct.newW 8)))).run Try.prog w = .ok (.bool true) w := by kernel_rfl
theorem eq_ctn {n : Nat} (hn : n ≤ 8) (w : World) : (binOp .eql CT (.agg (ctV n (Ct.newW n))) (.agg (ctV n (Ct.newW n)))).run Try.prog w = .ok (.bool true) w := by
  have : n = 0 ∨ n = 1 ∨ n = 2 ∨ n = 3 ∨ n = 4 ∨ n = 5 ∨ n = 6 ∨ n = 7 ∨ n = 8 := by omega
  rcases this with rfl | rfl | rfl | rfl | rfl | rfl | rfl | rfl | rfl
  · exact eq_ct_0 w
  · exact eq_ct_1 w
  · exact eq_ct_2 w
  · exact eq_ct_3 w
  · exact eq_ct_4 w
  · exact eq_ct_5 w
  · exact eq_ct_6 w
  · exact eq_ct_7 w
  · exact eq_ct_8 w
theorem time_at_c (b n : Nat) (ws : List Int) (w : World) (h : CtAt w b n ws) :
    Calls Try.prog 20 #[.pointer (some ⟨b, 0, none⟩)] w fun e w' => e = .returned (.int .u64 (ws.getD 0 0)) ∧ w' = w := by
  have hc := h.cell (show 0 < 17 by omega)
  generalize ws.getD 0 0 = v at *
  clear h
  go_enter Try.func20, Try.ntmps20
  go_wp2_with fail
  go_ret
  exact ⟨rfl, rfl⟩
/-- What stands while ClintPlays goes on: the clint, the reference's value, the copy. -/
structure CpS (w W : World) (bc bx bw n : Nat) (ws vs : List Int) : Prop where
  c : CtAt W bc n ws
  x : XcAt W bx n vs
  was : CsAt W bw CT (ctV n (Ct.newW n))
  lc : w.heap.size ≤ bc
  cx : bc < bx
  xw : bx < bw
  bel : Below w.heap.size w W
section
variable {w W W' : World} {bc bx bw n : Nat} {ws vs us : List Int}
theorem CpS.low (h : CpS w W bc bx bw n ws vs) (hb : Below W.heap.size W W') : CpS w W' bc bx bw n ws vs := ⟨h.c.low hb, h.x.low hb, h.was.low hb, h.lc, h.cx, h.xw, h.bel.trans (hb.mono h.bel.size)⟩
theorem CpS.och (h : CpS w W bc bx bw n ws vs) (hz : CtP W' (some ⟨bc, 0, none⟩) n us) (ho : Och (some bc) W W') : CpS w W' bc bx bw n us vs :=
  ⟨hz.of, ⟨h.x.row.och ho (by have := h.cx; simp; omega), h.x.ok⟩, h.was.och ho (by have := h.cx; have := h.xw; simp; omega), h.lc, h.cx, h.xw, h.bel.trans (ho.below (B := w.heap.size) (fun c hc => by cases hc; exact h.lc) h.bel.size)⟩
theorem CpS.setX (h : CpS w W bc bx bw n ws vs) (hk : Ct.Ok n us) : CpS w (W.setRow bx (x15V n us)) bc bx bw n ws us :=
  ⟨⟨h.c.row.rowFar (by have := h.cx; omega) _, h.c.ok⟩, ⟨h.x.row.row _, hk⟩, h.was.rowFar (by have := h.xw; omega) _, h.lc, h.cx, h.xw, below_setRow h.bel (by have := h.lc; have := h.cx; omega) _⟩
end
set_option maxRecDepth 100000 in
set_option maxHeartbeats 16000000 in
theorem cplays_walk (w : World) (harts : Int) (ao : Option Addr) (n cap : Nat) (l : List Dc) (hart : Int) (_hh : -9223372036854775808 ≤ harts ∧ harts ≤ 9223372036854775807) (hds : Dcs w ao n l) (ha : -9223372036854775808 ≤ hart ∧ hart ≤ 9223372036854775807) :
    Calls Try.prog 3 #[.int .i64 harts, .slice ao n cap, .int .i64 hart] w fun e w' => e = .returned (.bool true) ∧ Below w.heap.size w w' := by
  have HDS := Lib.hid hds
  have hmx := hds.max
  clear hds
  by_cases hlong : 100 < n
  · have g0 : decide ((n : Int) > 100) = true := by simp; omega
    have HLV := Lib.hid (live15_c w)
    go_enter Try.func3, Try.ntmps3
    go_wp2_with fail
    refine HLV.out.mono ?_
    rintro e w1 ⟨rfl, hb1⟩
    have HB := Lib.hid hb1
    clear hb1
    go_wp2_with fail
    go_ret
    exact ⟨rfl, HB.out⟩
  · have g0 : decide ((n : Int) > 100) = false := by simp; omega
    have HN := Lib.hid (new15_c harts w)
    have HXN := Lib.hid (rnew15_c harts)
    have HFT := Lib.hid (fun off (h0 : 0 ≤ off) (h1 : off ≤ 18446744073709551615) size W => fits_c harts off h0 h1 size W)
    have HN2 := Lib.hid (new15_c harts)
    have hc8 := Ct.cnt_le harts
    generalize Ct.cnt harts = m at *
    have hm := Ct.newW_len hc8
    have hok0 := Ct.newW_ok m hc8 hc8
    go_enter Try.func3, Try.ntmps3
    go_wp2_with fail
    refine HN.out.mono ?_
    rintro e w1 ⟨rfl, hb1⟩
    go_upto_region 4 with (refine wpList_storeNew (w0 := w1) rfl CT _ _ rfl _ (ctV m (Ct.newW m)) _ rfl rfl (iCT hm) (by rw [ctV_size, hm]; rfl) ctV_one ?_)
    have hb2 := hb1.alloc hb1.size (Obj.cells (ctV m (Ct.newW m)) CT)
    have hA2 : CtAt (w1.alloc (Obj.cells (ctV m (Ct.newW m)) CT)) w1.heap.size m (Ct.newW m) := ⟨CsAt.new w1 CT _, hok0⟩
    have hle1 := hb1.size
    clear hb1 HN
    generalize w1.alloc (Obj.cells (ctV m (Ct.newW m)) CT) = w2 at *
    generalize w1.heap.size = bc at *
    have HA2 := Lib.hid hA2
    have HB2 := Lib.hid hb2
    clear hA2 hb2
    go_wp2_with fail
    refine (HXN.out w2).mono ?_
    rintro e w3 ⟨rfl, hb3⟩
    go_upto_region 5 with (refine wpList_storeNew (w0 := w3) rfl X15 _ _ rfl _ (x15V m (Ct.newW m)) _ rfl rfl (iX15 hm) (by rw [x15V_size hm]; rfl) x15V_one ?_)
    have hb3' := HB2.out.trans (hb3.mono HB2.out.size)
    have hb4 := hb3'.alloc hb3'.size (Obj.cells (x15V m (Ct.newW m)) X15)
    have hA4 := HA2.out.low (hb3.trans ((Below.refl w2.heap.size w3).alloc hb3.size (Obj.cells (x15V m (Ct.newW m)) X15)))
    have hX4 : XcAt (w3.alloc (Obj.cells (x15V m (Ct.newW m)) X15)) w3.heap.size m (Ct.newW m) := XcAt.box w3 hok0
    have hcx : bc < w3.heap.size := Nat.lt_of_lt_of_le HA2.out.lt hb3.size
    clear hb3 hb3' HA2 HB2 HXN
    generalize w3.alloc (Obj.cells (x15V m (Ct.newW m)) X15) = w4 at *
    generalize w3.heap.size = bx at *
    have hxw : bx < w4.heap.size := hX4.row.lt
    have HA4 := Lib.hid hA4
    have HX4 := Lib.hid hX4
    have HB4 := Lib.hid hb4
    clear hA4 hX4 hb4
    go_upto_region 6 with (first | (refine wpList_load_row rfl CT _ rfl bc rfl CT _ (0, 0) _ HA4.out.row Try.underlying27 rfl (iCT hm) ?_) | (refine wpList_storeNew (w0 := w4) rfl CT _ _ rfl _ (ctV m (Ct.newW m)) _ rfl rfl (iCT hm) (by rw [ctV_size, hm]; rfl) ctV_one ?_))
    have hs5 : CpS w (w4.alloc (Obj.cells (ctV m (Ct.newW m)) CT)) bc bx w4.heap.size m (Ct.newW m) (Ct.newW m) :=
      ⟨HA4.out.low ((Below.refl _ _).alloc (Nat.le_refl _) _), HX4.out.low ((Below.refl _ _).alloc (Nat.le_refl _) _), CsAt.new _ _ _, hle1, hcx, hxw, HB4.out.alloc HB4.out.size _⟩
    clear HA4 HX4 HB4 hle1
    generalize w4.alloc (Obj.cells (ctV m (Ct.newW m)) CT) = w5 at *
    generalize w4.heap.size = bw at *
    have HS := Lib.hid hs5
    clear hs5 hok0
    go_wp2_with fail
    go_loopw [10] (fun i wr => ∃ (k : Nat) (ws : List Int), k ≤ n ∧ i = .int .i64 k ∧ CpS w wr bc bx bw m ws ws) (fun i _ => n - (intOf i).toNat)
    case atStart => exact ⟨0, _, Nat.zero_le _, rfl, HS.out⟩
    case round =>
      obtain ⟨k, ws, hk, rfl, hs⟩ := hrel
      have HR := Lib.hid hs
      clear hs HS
      by_cases hlt : k < n
      · have e0 : decide ((k : Int) < (n : Int)) = true := by simp; omega
        obtain ⟨db, off, rfl, hdl, hcells⟩ := (HDS.out.low HR.out.bel).at_ (by omega)
        have c0 := hcells k hlt 0 (by omega)
        have c1 := hcells k hlt 1 (by omega)
        have c2 := hcells k hlt 2 (by omega)
        have c3 := hcells k hlt 3 (by omega)
        simp only [Dc.cells, Nat.add_zero, List.getElem?_toArray, List.getElem?_cons_zero, List.getElem?_cons_succ] at c0 c1 c2 c3
        have hin := HDS.out.each k hlt
        have hoff := hin.off
        have hsz := hin.size
        have hv := hin.v
        clear hcells hin
        generalize (l.getD k Dc.zero).kind = kd at *
        generalize (l.getD k Dc.zero).off = of_ at *
        generalize (l.getD k Dc.zero).size = sz at *
        generalize (l.getD k Dc.zero).v = vv at *
        have gk : (k : Int) < (n : Int) := by omega
        have hb4 : Below wr.heap.size wr (wr.alloc (Obj.cells #[.int .i64 kd, .int .u64 of_, .int .i64 sz, .int .u64 vv] T34)) := (Below.refl _ _).alloc (Nat.le_refl _) _
        have hr4 := CsAt.new wr T34 #[.int .i64 kd, .int .u64 of_, .int .i64 sz, .int .u64 vv]
        go_upto_region 10 with fail
        generalize wr.alloc (Obj.cells #[.int .i64 kd, .int .u64 of_, .int .i64 sz, .int .u64 vv] T34) = w4 at *
        have HR4 := Lib.hid hr4
        have HS4 := Lib.hid (HR.out.low hb4)
        have hbx0 : bc < wr.heap.size ∧ bx < wr.heap.size := ⟨HR.out.c.lt, HR.out.x.row.lt⟩
        clear hr4 hb4 HR c0 c1 c2 c3
        generalize wr.heap.size = xb at *
        have d0 : w4.cell? ⟨xb, 0, none⟩ = some (.int .i64 kd) := by rw [HR4.out.cell]; rfl
        have d1 : w4.cell? ⟨xb, 1, none⟩ = some (.int .u64 of_) := by rw [HR4.out.cell]; rfl
        have d2 : w4.cell? ⟨xb, 2, none⟩ = some (.int .i64 sz) := by rw [HR4.out.cell]; rfl
        have d3 : w4.cell? ⟨xb, 3, none⟩ = some (.int .u64 vv) := by rw [HR4.out.cell]; rfl
        have q0 := HS4.out.x.n0
        go_wp2_with fail
        refine (rat15_c m hc8 of_ sz hoff.1 w4).mono ?_
        rintro e w5 ⟨rfl, rfl⟩
        obtain ⟨t, ht⟩ : ∃ t, Ct.at_ m of_ sz = t := ⟨_, rfl⟩
        have HIS := Lib.hid (show Ct.is m of_ sz = decide ((t.1 : Int) > 0) by unfold Ct.is; rw [ht]; apply decide_eq_decide.2; omega)
        rw [ht, atT]
        clear ht
        go_wp2_with fail
        refine (HFT.out of_ hoff.1 hoff.2 sz w5).mono ?_
        rintro e w6 ⟨rfl, hb6⟩
        rw [HIS.out]
        have HS6 := Lib.hid (HS4.out.low hb6)
        have HR6 := Lib.hid (HR4.out.low hb6)
        clear hb6 HS4 HR4 d0 d1 d2 d3 q0 HIS
        have d0 : w6.cell? ⟨xb, 0, none⟩ = some (.int .i64 kd) := by rw [HR6.out.cell]; rfl
        go_upto_block 2 with fail
        go_cut [] (fun wx => ∃ us : List Int, CpS w wx bc bx bw m us us)
        case first =>
          have d1 : w6.cell? ⟨xb, 1, none⟩ = some (.int .u64 of_) := by rw [HR6.out.cell]; rfl
          have d2 : w6.cell? ⟨xb, 2, none⟩ = some (.int .i64 sz) := by rw [HR6.out.cell]; rfl
          have d3 : w6.cell? ⟨xb, 3, none⟩ = some (.int .u64 vv) := by rw [HR6.out.cell]; rfl
          have HD := Lib.hid (fun (W : World) (h : CsAt W xb T34 #[.int .i64 kd, .int .u64 of_, .int .i64 sz, .int .u64 vv]) => show W.cell? ⟨xb, 1, none⟩ = some (.int .u64 of_) ∧ W.cell? ⟨xb, 2, none⟩ = some (.int .i64 sz) ∧ W.cell? ⟨xb, 3, none⟩ = some (.int .u64 vv) from ⟨by rw [h.cell]; rfl, by rw [h.cell]; rfl, by rw [h.cell]; rfl⟩)
          by_cases k0 : kd = 0
          · have g1 : (kd == 0) = true := by simpa using k0
            clear k0 d3
            go_wp2_with fail
            refine (read_c (some ⟨bc, 0, none⟩) m ws of_ hoff.1 hoff.2 sz w6 HS6.out.c.p).mono ?_
            rintro e w7 ⟨rfl, hb7⟩
            have HS7 := Lib.hid (HS6.out.low hb7)
            have HR7 := Lib.hid (HR6.out.low hb7)
            clear hb7 HS6 HR6 d0 d1 d2
            obtain ⟨d1, d2, -⟩ := HD.out _ HR7.out
            have HRR := Lib.hid (rread15_c m ws HS7.out.x.ok of_ sz hoff.1 w7)
            generalize Ct.readC m ws of_ sz = rv at *
            generalize Ct.is m of_ sz = q at *
            go_wp2_with (refine wpList_load_row rfl X15 _ rfl bx rfl X15 _ (0, 0) _ HS7.out.x.row Try.underlying31 rfl (iXok HS7.out.x.ok) ?_)
            refine HRR.out.mono ?_
            rintro e w8 ⟨rfl, hb8⟩
            have HS8 := Lib.hid (HS7.out.low hb8)
            clear hb8 HRR HS7 HR7 d1 d2
            go_wp2_with fail
            go_meet
            exact ⟨_, HS8.out⟩
          · have g1 : (kd == 0) = false := by simpa using k0
            by_cases k1 : kd = 1
            · have g2 : (kd == 1) = true := by simpa using k1
              clear k0 k1
              have HRR := Lib.hid (rwrite15_c m ws HS6.out.x.ok of_ sz vv hoff.1 hv.1 hv.2 w6)
              have hok := Ct.write_ok HS6.out.c.ok hoff.1 sz hv
              have HWC := Lib.hid (fun W (h : CtP W (some ⟨bc, 0, none⟩) m ws) => write_c (some ⟨bc, 0, none⟩) m ws of_ hoff.1 hoff.2 sz vv hv.1 hv.2 W h)
              generalize Ct.writeC m ws of_ sz vv = us at *
              generalize Ct.is m of_ sz = q at *
              have HOK := Lib.hid hok
              clear hok
              go_wp2_with (refine wpList_load_row rfl X15 _ rfl bx rfl X15 _ (0, 0) _ HS6.out.x.row Try.underlying31 rfl (iXok HS6.out.x.ok) ?_)
              refine HRR.out.mono ?_
              rintro e w7 ⟨rfl, hb7⟩
              have hi := iXok HOK.out
              go_upto_region 23 with (refine wpList_storeNew (w0 := w7) rfl X15 _ _ rfl _ (x15V m us) _ rfl rfl hi (by rw [x15V_size HOK.out.len]; rfl) x15V_one ?_)
              have hb8 := hb7.trans ((Below.refl w6.heap.size w7).alloc hb7.size (Obj.cells (x15V m us) X15))
              have HS8 := Lib.hid (HS6.out.low hb8)
              have HR8 := Lib.hid (HR6.out.low hb8)
              have HT8 := Lib.hid (CsAt.new w7 X15 (x15V m us))
              clear hb7 hb8 HRR HS6 HR6 d0 d1 d2 d3
              generalize w7.alloc (Obj.cells (x15V m us) X15) = w8 at *
              generalize w7.heap.size = tb at *
              go_upto_region 24 with (first | (refine wpList_load_row rfl X15 _ rfl tb rfl X15 _ (0, 0) _ HT8.out Try.underlying31 rfl hi ?_) | (refine wpList_store_row rfl X15 _ _ rfl bx (x15V m us) rfl rfl X15 (x15V m ws) HS8.out.x.row hi (by rw [x15V_size HS8.out.x.ok.len, x15V_size HOK.out.len]) x15V_one ?_))
              have HS9 := Lib.hid (HS8.out.setX HOK.out)
              have HR9 := Lib.hid (HR8.out.rowFar (c := bx) (by omega) (x15V m us))
              clear HS8 HR8 HT8 hi
              generalize w8.setRow bx (x15V m us) = w9 at *
              obtain ⟨d1, d2, d3⟩ := HD.out _ HR9.out
              go_wp2_with fail
              refine (HWC.out w9 HS9.out.c.p).mono ?_
              rintro e w10 ⟨rfl, hA10, ho10⟩
              have HS10 := Lib.hid (HS9.out.och hA10 ho10)
              clear hA10 ho10 HS9 HR9 d1 d2 d3 HWC
              go_wp2_with fail
              go_meet
              exact ⟨_, HS10.out⟩
            · have g2 : (kd == 1) = false := by simpa using k1
              obtain ⟨tk, htk⟩ : ∃ tk, wrap64 vv = tk := ⟨_, rfl⟩
              have htr : -9223372036854775808 ≤ tk ∧ tk ≤ 9223372036854775807 := by rw [← htk]; unfold wrap64; omega
              clear k0 k1
              have HRR := Lib.hid (rtick15_c m ws HS6.out.x.ok tk htr.1 htr.2 w6)
              have hok := Ct.tick_ok HS6.out.c.ok tk
              have HWC := Lib.hid (fun W (h : CtP W (some ⟨bc, 0, none⟩) m ws) => tick_c (some ⟨bc, 0, none⟩) m ws tk htr.1 htr.2 W h)
              generalize Ct.tickC m ws tk = us at *
              have HOK := Lib.hid hok
              clear hok
              have hi := iXok HOK.out
              go_wp2_with (refine wpList_load_row rfl X15 _ rfl bx rfl X15 _ (0, 0) _ HS6.out.x.row Try.underlying31 rfl (iXok HS6.out.x.ok) ?_)
              refine HRR.out.mono ?_
              rintro e w7 ⟨rfl, hb7⟩
              have HS7 := Lib.hid (HS6.out.low hb7)
              have HR7 := Lib.hid (HR6.out.low hb7)
              clear hb7 HRR HS6 HR6 d0 d1 d2 d3
              go_upto_region 15 with (refine wpList_store_row rfl X15 _ _ rfl bx (x15V m us) rfl rfl X15 (x15V m ws) HS7.out.x.row hi (by rw [x15V_size HS7.out.x.ok.len, x15V_size HOK.out.len]) x15V_one ?_)
              have HS9 := Lib.hid (HS7.out.setX HOK.out)
              have HR9 := Lib.hid (HR7.out.rowFar (c := bx) (by omega) (x15V m us))
              clear HS7 HR7 hi
              generalize w7.setRow bx (x15V m us) = w9 at *
              obtain ⟨d1, d2, d3⟩ := HD.out _ HR9.out
              go_wp2_with fail
              refine (HWC.out w9 HS9.out.c.p).mono ?_
              rintro e w10 ⟨rfl, hA10, ho10⟩
              have HS10 := Lib.hid (HS9.out.och hA10 ho10)
              clear hA10 ho10 HS9 HR9 d1 d2 d3 HWC
              go_wp2_with fail
              go_meet
              exact ⟨_, HS10.out⟩
        case rest =>
          obtain ⟨us, hs2⟩ := hcut
          have HS2 := Lib.hid hs2
          clear hs2 HS6 HR6 d0
          go_upto_region 26 with fail
          refine wp_region_steady (fun W => CpS w W bc bx bw m us us) (by kernel_rfl) (by kernel_rfl) (HS2.out.low (below_dnC (Below.refl _ _) 1)) ?_
          refine steady_enter (.int .u64 (us.getD 0 0)) 20 #[.pointer (some ⟨bc, 0, none⟩)] ?_ (by kernel_rfl) (fun W hS => ?_) (fun W hS => (time_at_c bc m us W hS.c).mono (by rintro e w' ⟨rfl, rfl⟩; exact ⟨rfl, hS⟩)) ?_ ?_
          rotate_left 1
          · go_simp
          · go_simp
            exact rfl
          refine steady_val ?_ ?_ (by kernel_rfl) (fun W hS => ?_) ?_ ?_
          rotate_left 2
          · go_simp
            exact rfl
          · go_simp
            exact rfl
          refine steady_val ?_ ?_ (by kernel_rfl) (fun W hS => ?_) ?_ ?_
          rotate_left 2
          · (have q := hS.x.cw (i := 0) (by omega)); go_simp
            exact rfl
          · go_simp
            exact rfl
          iterate 3
            refine steady_val ?_ ?_ (by kernel_rfl) (fun W hS => ?_) ?_ ?_
            rotate_left 2
            · go_simp
              exact rfl
            · go_simp
              exact rfl
          refine steady_enter (.int .u64 (Ct.lineC m us hart)) 21 #[.pointer (some ⟨bc, 0, none⟩), .int .i64 hart] ?_ (by kernel_rfl) (fun W hS => ?_) (fun W hS => (lines_c _ m us hart ha.1 ha.2 W hS.c.p).mono (by rintro e w' ⟨rfl, hb⟩; exact ⟨rfl, hS.low hb⟩)) ?_ ?_
          rotate_left 1
          · go_simp
          · go_simp
            exact rfl
          refine steady_val (.agg (x15V m us)) ?_ (by kernel_rfl) (fun W hS => exec_load_row _ _ rfl _ rfl _ _ _ hS.x.row Try.underlying31 rfl (iXok hS.x.ok)) ?_ ?_
          rotate_left 1
          · go_simp
            exact rfl
          refine steady_val ?_ ?_ (by kernel_rfl) (fun W hS => ?_) ?_ ?_
          rotate_left 2
          · go_simp
            exact rfl
          · go_simp
            exact rfl
          refine steady_enter (.int .u64 (Ct.lineC m us hart)) 22 #[.agg (x15V m us), .int .i64 hart] ?_ (by kernel_rfl) (fun W hS => ?_) (fun W hS => (rlines15_c m us hS.x.ok hart W).mono (by rintro e w' ⟨rfl, hb⟩; exact ⟨rfl, hS.low hb⟩)) ?_ ?_
          rotate_left 1
          · go_simp
          · go_simp
            exact rfl
          iterate 2
            refine steady_val ?_ ?_ (by kernel_rfl) (fun W hS => ?_) ?_ ?_
            rotate_left 2
            · go_simp
              exact rfl
            · go_simp
              exact rfl
          refine steady_nil ?_
          intro W hS
          have HS3 := Lib.hid hS
          clear hS HS2
          go_wp2_with fail
          go_roundw
          case rel => exact ⟨k + 1, _, by omega, by go_num, HS3.out⟩
          case measure => simp [intOf]; omega
      · obtain rfl : k = n := by omega
        have e0 : decide ((k : Int) < (k : Int)) = false := by simp
        go_wp2_with fail
        go_loopw [21] (fun i wr => ∃ h : Nat, h ≤ 8 ∧ i = .int .i64 h ∧ CpS w wr bc bx bw m ws ws) (fun i _ => 8 - (intOf i).toNat)
        case atStart => exact ⟨0, by omega, rfl, HR.out⟩
        case round =>
          obtain ⟨h, hh8, rfl, hs⟩ := hrel
          have HR2 := Lib.hid hs
          clear hs HR
          by_cases h8 : h < 8
          · have e1 : decide ((h : Int) < 8) = true := by simp; omega
            go_upto_region 31 with fail
            refine wp_region_steady (fun W => CpS w W bc bx bw m ws ws) (by kernel_rfl) (by kernel_rfl) (HR2.out.low (below_dnC (Below.refl _ _) 1)) ?_
            refine steady_val ?_ ?_ (by kernel_rfl) (fun W hS => ?_) ?_ ?_
            rotate_left 2
            · go_simp
              exact rfl
            · go_simp
              exact rfl
            refine steady_enter (.int .u64 (Ct.lineC m ws (h : Int))) 21 #[.pointer (some ⟨bc, 0, none⟩), .int .i64 (h : Int)] ?_ (by kernel_rfl) (fun W hS => ?_) (fun W hS => (lines_c _ m ws h (by omega) (by omega) W hS.c.p).mono (by rintro e w' ⟨rfl, hb⟩; exact ⟨rfl, hS.low hb⟩)) ?_ ?_
            rotate_left 1
            · go_simp
            · go_simp
              exact rfl
            refine steady_val (.agg (x15V m ws)) ?_ (by kernel_rfl) (fun W hS => exec_load_row _ _ rfl _ rfl _ _ _ hS.x.row Try.underlying31 rfl (iXok hS.x.ok)) ?_ ?_
            rotate_left 1
            · go_simp
              exact rfl
            refine steady_val ?_ ?_ (by kernel_rfl) (fun W hS => ?_) ?_ ?_
            rotate_left 2
            · go_simp
              exact rfl
            · go_simp
              exact rfl
            refine steady_enter (.int .u64 (Ct.lineC m ws (h : Int))) 22 #[.agg (x15V m ws), .int .i64 (h : Int)] ?_ (by kernel_rfl) (fun W hS => ?_) (fun W hS => (rlines15_c m ws hS.x.ok h W).mono (by rintro e w' ⟨rfl, hb⟩; exact ⟨rfl, hS.low hb⟩)) ?_ ?_
            rotate_left 1
            · go_simp
            · go_simp
              exact rfl
            refine steady_val ?_ ?_ (by kernel_rfl) (fun W hS => ?_) ?_ ?_
            rotate_left 2
            · go_simp
              exact rfl
            · go_simp
              exact rfl
            refine steady_nil ?_
            intro W hS
            have HS3 := Lib.hid hS
            clear hS HR2
            go_wp2_with fail
            go_roundw
            case rel => exact ⟨h + 1, by omega, by go_num, HS3.out⟩
            case measure => simp [intOf]; omega
          · obtain rfl : h = 8 := by omega
            go_upto_region 33 with fail
            refine wp_region_steady (fun W => CpS w W bc bx bw m ws ws) (by kernel_rfl) (by kernel_rfl) (HR2.out.low (below_dnC (Below.refl _ _) 1)) ?_
            refine steady_val (.agg (ctV m (Ct.newW m))) ?_ (by kernel_rfl) (fun W hS => exec_load_row _ _ rfl _ rfl _ _ _ hS.was Try.underlying27 rfl (iCT hm)) ?_ ?_
            rotate_left 1
            · go_simp
              exact rfl
            refine steady_val ?_ ?_ (by kernel_rfl) (fun W hS => ?_) ?_ ?_
            rotate_left 2
            · go_simp
              exact rfl
            · go_simp
              exact rfl
            refine steady_enter (.agg (ctV m (Ct.newW m))) 10 #[.int .i64 harts] ?_ (by kernel_rfl) (fun W hS => ?_) (fun W hS => (HN2.out W).mono (by rintro e w' ⟨rfl, hb⟩; exact ⟨rfl, hS.low hb⟩)) ?_ ?_
            rotate_left 1
            · go_simp
            · go_simp
              exact rfl
            refine steady_val (.bool true) ?_ (by kernel_rfl) (fun W hS => exec_cmp .eql 27 _ _ _ rfl (ctV m (Ct.newW m)) (ctV m (Ct.newW m)) rfl rfl guard_ct _ (eq_ctn hc8 W)) ?_ ?_
            rotate_left 1
            · go_simp
              exact rfl
            refine steady_val ?_ ?_ (by kernel_rfl) (fun W hS => ?_) ?_ ?_
            rotate_left 2
            · go_simp
              exact rfl
            · go_simp
              exact rfl
            refine steady_enter (.bool true) 9 #[] ?_ (by kernel_rfl) (fun W hS => ?_) (fun W hS => (live15_c W).mono (by rintro e w' ⟨rfl, hb⟩; exact ⟨rfl, hS.low hb⟩)) ?_ ?_
            rotate_left 1
            · go_simp
            · go_simp
              exact rfl
            iterate 2
              refine steady_val ?_ ?_ (by kernel_rfl) (fun W hS => ?_) ?_ ?_
              rotate_left 2
              · go_simp
                exact rfl
              · go_simp
                exact rfl
            refine steady_nil ?_
            intro W hS
            have HB3 := Lib.hid hS.bel
            clear hS HR2
            go_wp2_with fail
            go_ret
            exact ⟨rfl, HB3.out⟩
end Go.Proofs.Ytjeolfcefeglpaa
