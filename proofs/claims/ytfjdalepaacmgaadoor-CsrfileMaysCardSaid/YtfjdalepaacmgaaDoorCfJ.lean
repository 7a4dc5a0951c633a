/-
  Layer 22's statements: what they ask of the chapter's example (live): true; what is done to both (Do).
-/
import Derived.Test.YtfjdalepaacmgaaDoorCfI
import Derived.Test.YtfjdalepaacmgaaDoorOpenCf
set_option maxRecDepth 20000
namespace Go.Proofs.YtfjdalepaacmgaaDoor
open Go.ChangeShapes Go.WideShapes Go.ChangeAt Go.RowKit Wd Csr Sta Cf

theorem FQ.tab {g : Nat} {s : S} {w w' : World} (h : FQ g s w w') (hg : g ≠ 3 ∧ g ≠ 2) (hN : RowsIn w) (hK : KeptIn w) : RowsIn w' ∧ KeptIn w' :=
  ⟨hN.chg h.chg (fun (e : 3 = g) => hg.1 e.symm), hK.chg h.chg (fun (e : 2 = g) => hg.2 e.symm)⟩
theorem new_far {w : World} (hN : RowsIn w) (hK : KeptIn w) {g : Nat} (h : w.heap.size ≤ g) : g ≠ 3 ∧ g ≠ 2 := by
  have h1 := hN.1
  have h2 := hK.1
  omega
def lvA : S := setS (setS (new 3) 771 2) 772 10
theorem lv_a : getS (new 3) 3860 0 = 3 := by decide +kernel
theorem lv_b : getS lvA 260 0 = 2 := by decide +kernel
theorem lv_c : getS lvA 324 8 = 0 := by decide +kernel
theorem zf_all (W : World) : (zeroValue FlT).run Tryd.prog W = .ok (.agg (fileV (zero 0))) W := zero_fl W
set_option maxHeartbeats 4000000 in
theorem live22_c (w : World) (hN : RowsIn w) (hK : KeptIn w) : Calls Tryd.prog 29 #[] w fun e w' => e = .returned (.bool true) ∧ Below w.heap.size w w' := by
  have HN := Lib.hid hN
  have HK := Lib.hid hK
  have HNW := Lib.hid (fnew_c 3 ⟨by omega, by omega⟩ w hK)
  clear hN hK
  go_enter Tryd.func29, Tryd.ntmps29
  go_wp2_with fail
  refine HNW.out.mono ?_
  rintro e w1 ⟨rfl, hb⟩
  have HF0 := Lib.hid (show FlAt (w1.alloc (.cells (fileV (new 3)) FlT)) w1.heap.size (new 3) from ⟨CsAt.new w1 FlT _, new_ok ⟨by omega, by omega⟩⟩)
  have hb2 := hb.alloc hb.size (.cells (fileV (new 3)) FlT)
  have HB2 := Lib.hid hb2
  have HFR := Lib.hid (new_far HN.out HK.out hb.size)
  have HGE := Lib.hid hb.size
  have HT0 := Lib.hid (And.intro (HN.out.low hb2) (HK.out.low hb2))
  clear hb hb2 HN HK HNW
  go_upto_region 2 with (first
    | (refine wpList_allocY rfl _ rfl FlT rfl (fileV (zero 0)) (zf_all _) ?_)
    | (refine wpList_storeNew (w0 := w1) rfl FlT _ _ rfl (fileV (zero 0)) (fileV (new 3)) FlT rfl rfl (iFl _) (by rw [fileV_size, fileV_size]) (flV_one _) ?_))
  generalize w1.alloc (.cells (fileV (new 3)) FlT) = w2 at *
  generalize w1.heap.size = g at *
  go_wp2_with fail
  refine (fcget_c g 3860 0 (new 3) _ HT0.out.2 HF0.out).mono ?_
  rintro e w3 ⟨rfl, hb⟩
  rw [lv_a]
  have HF1 := Lib.hid (HF0.out.low hb)
  have HT1 := Lib.hid (And.intro (HT0.out.1.low hb) (HT0.out.2.low hb))
  have HB3 := Lib.hid (HB2.out.trans (hb.mono HB2.out.size))
  clear hb
  go_wp2_with fail
  refine (fset_c g 771 2 (new 3) ⟨by omega, by omega⟩ _ HT1.out.1 HT1.out.2 HF1.out).mono ?_
  rintro e w4 ⟨rfl, hq⟩
  have HF2 := Lib.hid hq.fl
  have HT2 := Lib.hid (hq.tab HFR.out HT1.out.1 HT1.out.2)
  have HB4 := Lib.hid (HB3.out.trans (hq.chg.below HB3.out.size (fun k hk => by rw [show k = g from hk]; exact HGE.out)))
  clear hq
  go_wp2_with fail
  refine (fset_c g 772 10 _ ⟨by omega, by omega⟩ _ HT2.out.1 HT2.out.2 HF2.out).mono ?_
  rintro e w5 ⟨rfl, hq⟩
  have HF3 := Lib.hid (show FlAt w5 g lvA from hq.fl)
  have HT3 := Lib.hid (hq.tab HFR.out HT2.out.1 HT2.out.2)
  have HB5 := Lib.hid (HB4.out.trans (hq.chg.below HB4.out.size (fun k hk => by rw [show k = g from hk]; exact HGE.out)))
  clear hq
  go_wp2_with fail
  refine (fcget_c g 260 0 lvA _ HT3.out.2 HF3.out).mono ?_
  rintro e w6 ⟨rfl, hb⟩
  rw [lv_b]
  have HF4 := Lib.hid (HF3.out.low hb)
  have HT4 := Lib.hid (HT3.out.2.low hb)
  have HB6 := Lib.hid (HB5.out.trans (hb.mono HB5.out.size))
  clear hb
  go_wp2_with fail
  refine (fcget_c g 324 8 lvA _ HT4.out HF4.out).mono ?_
  rintro e w7 ⟨rfl, hb⟩
  rw [lv_c]
  have HB7 := Lib.hid (HB6.out.trans (hb.mono HB6.out.size))
  clear hb
  go_wp2_with fail
  go_ret
  exact ⟨rfl, HB7.out⟩
def nxtS (s : S) (d : Df) : S := if d.kind = 0 then setS s d.x.csr d.v else if d.kind = 1 then doS s d.x.op d.x.csr d.x.rs1 d.v else turnS s d.ret
def tolS (s : S) (d : Df) : Int := if d.kind = 0 then 0 else if d.kind = 1 then doV s d.x.op d.x.csr d.lines else 0
theorem lt64 {x : Int} (h : 0 ≤ x ∧ x ≤ 18446744073709551615) : W64 x := ⟨h.1, by have := h.2; omega⟩
theorem nxt_ok {s : S} (h : Ok s) (d : Df) (hd : d.In) : Ok (nxtS s d) := by
  unfold nxtS
  repeat' split
  · exact setS_ok h _ (lt64 hd.v)
  · exact doS_ok h _ _ _ (lt64 hd.v)
  · exact turn_ok h _
abbrev DfT : TypeId := 67
theorem results_cbbF {F : Func} {x y z : Tmp} (ty : TypeId) (hF : F.results = #[.cell x ty, .tmp y, .tmp z]) (tmps : Array Value) (w : World) (b : Nat) (cs : Array Value) (r u : Value) (h2 : tmps.getD x undef = .pointer (some ⟨b, 0, none⟩)) (h3 : tmps.getD y undef = r) (h4 : tmps.getD z undef = u)
    (hl : (loadVar ty ⟨b, 0, none⟩).run Tryd.prog w = .ok (.agg cs) w) :
    (results F tmps).run Tryd.prog w = .ok (.tuple #[.agg cs, r, u]) w := by
  have h2' : tmps[x]?.getD undef = .pointer (some ⟨b, 0, none⟩) := by simpa using h2
  have h3' : tmps[y]?.getD undef = r := by simpa using h3
  have h4' : tmps[z]?.getD undef = u := by simpa using h4
  simp [results, hF, h2', h3', h4', asAddr, hl]
/-- What stands while something is done to both: the file, the reference's file in its box, the deed, the result. -/
structure DlS (w W : World) (g : Nat) (s t : S) (d : Df) : Prop where
  fl : FlAt W g t
  r : CsAt W w.heap.size RfT (refV s)
  b : CsAt W (w.heap.size + 1) DfT d.cells
  z : CsAt W (w.heap.size + 2) RfT (refV (zero 0))
  n : RowsIn W
  k : KeptIn W
  chg : Chg (one g) w W
section
variable {w W W' : World} {g : Nat} {s t t' : S} {d : Df}
theorem DlS.low (h : DlS w W g s t d) (hb : Below W.heap.size W W') : DlS w W' g s t d := ⟨h.fl.low hb, h.r.low hb, h.b.low hb, h.z.low hb, h.n.low hb, h.k.low hb, h.chg.trans (Chg.of_below hb)⟩
theorem DlS.drew (h : DlS w W g s t d) : DlS w W.drew g s t d := ⟨h.fl.drew, h.r, h.b, h.z, h.n, h.k, h.chg.trans (Chg.of_below (Below.drew (Below.refl _ _)))⟩
theorem DlS.fq (h : DlS w W g s t d) (q : FQ g t' W W') (hl : g < w.heap.size) (hg : g ≠ 3 ∧ g ≠ 2) : DlS w W' g s t' d :=
  ⟨q.fl, q.chg.cs h.r (fun (e : w.heap.size = g) => by omega), q.chg.cs h.b (fun (e : w.heap.size + 1 = g) => by omega), q.chg.cs h.z (fun (e : w.heap.size + 2 = g) => by omega), (q.tab hg h.n h.k).1, (q.tab hg h.n h.k).2, h.chg.trans q.chg⟩
end
theorem DlS.new {w : World} {g : Nat} {s : S} (h : FlAt w g s) (hN : RowsIn w) (hK : KeptIn w) (d : Df) : DlS w (((w.alloc (.cells (refV s) RfT)).alloc (.cells d.cells DfT)).alloc (.cells (refV (zero 0)) RfT)) g s s d := by
  have hb : Below w.heap.size w (((w.alloc (.cells (refV s) RfT)).alloc (.cells d.cells DfT)).alloc (.cells (refV (zero 0)) RfT)) := (((Below.refl _ _).alloc (Nat.le_refl _) _).alloc (by simp) _).alloc (by simp; omega) _
  refine ⟨h.low hb, ((CsAt.new w RfT _).alloc _).alloc _, ?_, ?_, hN.low hb, hK.low hb, Chg.of_below hb⟩
  · have := (CsAt.new (w.alloc (.cells (refV s) RfT)) DfT d.cells).alloc (.cells (refV (zero 0)) RfT)
    simpa using this
  · have := CsAt.new ((w.alloc (.cells (refV s) RfT)).alloc (.cells d.cells DfT)) RfT (refV (zero 0))
    simpa using this
theorem DlS.res {w W : World} {g : Nat} {s t : S} {d : Df} (h : DlS w W g s t d) (hl : g < w.heap.size) (u : S) : FQ g t w (W.setRow (w.heap.size + 2) (refV u)) :=
  ⟨⟨h.fl.r.rowFar (by omega) _, h.fl.ok⟩, h.chg.transN (Chg.of_row (S := one (w.heap.size + 2)) rfl _) (fun i (hi : i = w.heap.size + 2) => .inr (by omega))⟩
set_option maxHeartbeats 8000000 in
theorem do22_c (g : Nat) (s : S) (d : Df) (hd : d.In) (w : World) (hN : RowsIn w) (hK : KeptIn w) (hg : g ≠ 3 ∧ g ≠ 2) (h : FlAt w g s) :
    Calls Tryd.prog 32 #[.pointer (some ⟨g, 0, none⟩), .agg (refV s), .agg d.cells] w fun e w' => e = .returned (.tuple #[.agg (refV (nxtS s d)), .int .u64 (tolS s d), .int .u64 (tolS s d)]) ∧ FQ g (nxtS s d) w w' := by
  have HS1 := Lib.hid (DlS.new h hN hK d)
  have HL := Lib.hid h.r.lt
  have HG := Lib.hid hg
  have ok := h.ok
  have hv := lt64 hd.v
  have hl := lt64 hd.lines
  obtain ⟨kd, ⟨op, rd, rs1, rs2, imm, csr, aq, rl⟩, v, l, r⟩ := d
  dsimp only [Df.cells, Ix.cells] at HS1 ⊢ hv hl
  have q0 : (((w.alloc (.cells (refV s) RfT)).alloc (.cells #[.int .i64 kd, .int .i64 op, .int .i64 rd, .int .i64 rs1, .int .i64 rs2, .int .i64 imm, .int .i64 csr, .bool aq, .bool rl, .int .u64 v, .int .u64 l, .bool r] DfT)).alloc (.cells (refV (zero 0)) RfT)).cell? ⟨w.heap.size + 1, 0, none⟩ = some (.int .i64 kd) := HS1.out.b.cell 0
  clear h hN hK hg hd
  by_cases h0 : kd = 0
  · skip
    subst h0
    have HU := Lib.hid (show nxtS s ⟨0, ⟨op, rd, rs1, rs2, imm, csr, aq, rl⟩, v, l, r⟩ = setS s csr v from rfl)
    have HV := Lib.hid (show tolS s ⟨0, ⟨op, rd, rs1, rs2, imm, csr, aq, rl⟩, v, l, r⟩ = 0 from rfl)
    go_enter Tryd.func32, Tryd.ntmps32
    go_upto_region 1 with (refine wpList_allocY rfl _ rfl RfT rfl (refV (zero 0)) (zero_rf _) ?_)
    generalize hw1 : (((w.alloc (.cells (refV s) RfT)).alloc (.cells #[.int .i64 0, .int .i64 op, .int .i64 rd, .int .i64 rs1, .int .i64 rs2, .int .i64 imm, .int .i64 csr, .bool aq, .bool rl, .int .u64 v, .int .u64 l, .bool r] DfT)).alloc (.cells (refV (zero 0)) RfT)) = w1 at *
    clear hw1
    have b6 : w1.cell? ⟨w.heap.size + 1, 6, none⟩ = some (.int .i64 csr) := HS1.out.b.cell 6
    have b9 : w1.cell? ⟨w.heap.size + 1, 9, none⟩ = some (.int .u64 v) := HS1.out.b.cell 9
    go_wp2_with fail
    refine (fset_c g csr v s hv _ HS1.out.n HS1.out.k HS1.out.fl).mono ?_
    rintro e w2 ⟨rfl, hq⟩
    have HS2 := Lib.hid (HS1.out.fq hq HL.out HG.out)
    clear hq b6 b9 q0
    have b6 : w2.cell? ⟨w.heap.size + 1, 6, none⟩ = some (.int .i64 csr) := HS2.out.b.cell 6
    have b9 : w2.cell? ⟨w.heap.size + 1, 9, none⟩ = some (.int .u64 v) := HS2.out.b.cell 9
    go_wp2_with (refine wpList_load_row rfl RfT _ rfl w.heap.size rfl RfT _ (0, 0) _ HS2.out.r Tryd.underlying58 rfl (iRf _) ?_)
    refine (rset22_c s ok csr v hv _).mono ?_
    rintro e w3 ⟨rfl, hb⟩
    have HS3 := Lib.hid (HS2.out.low hb)
    clear hb b6 b9
    go_wp2_with (refine wpList_store_row rfl RfT _ _ rfl (w.heap.size + 2) (refV (setS s csr v)) rfl rfl RfT _ HS3.out.z (iRf _) (by rw [refV_size, refV_size]) (rfV_one _) ?_)
    exact bodyPost_ret (results_cbbF RfT Tryd.results32 _ _ (w.heap.size + 2) (refV (setS s csr v)) (.int .u64 (0)) (.int .u64 (0)) rfl rfl rfl (run_loadVar_row _ _ RfT RfT _ (0, 0) _ (HS3.out.z.row _) Tryd.underlying58 rfl (iRf _))) rfl ⟨by rw [HU.out, HV.out], by rw [HU.out]; exact HS3.out.res HL.out _⟩
  · have e0 : (kd == 0) = false := by simpa using h0
    by_cases h1 : kd = 1
    · skip
      subst h1
      clear h0
      have HU := Lib.hid (show nxtS s ⟨1, ⟨op, rd, rs1, rs2, imm, csr, aq, rl⟩, v, l, r⟩ = doS s op csr rs1 v from rfl)
      have HV := Lib.hid (show tolS s ⟨1, ⟨op, rd, rs1, rs2, imm, csr, aq, rl⟩, v, l, r⟩ = doV s op csr l from rfl)
      go_enter Tryd.func32, Tryd.ntmps32
      go_upto_region 1 with (refine wpList_allocY rfl _ rfl RfT rfl (refV (zero 0)) (zero_rf _) ?_)
      generalize hw1 : (((w.alloc (.cells (refV s) RfT)).alloc (.cells #[.int .i64 1, .int .i64 op, .int .i64 rd, .int .i64 rs1, .int .i64 rs2, .int .i64 imm, .int .i64 csr, .bool aq, .bool rl, .int .u64 v, .int .u64 l, .bool r] DfT)).alloc (.cells (refV (zero 0)) RfT)) = w1 at *
      clear hw1
      have b1 : w1.cell? ⟨w.heap.size + 1, 1, none⟩ = some (.int .i64 op) := HS1.out.b.cell 1
      have b3 : w1.cell? ⟨w.heap.size + 1, 3, none⟩ = some (.int .i64 rs1) := HS1.out.b.cell 3
      have b6 : w1.cell? ⟨w.heap.size + 1, 6, none⟩ = some (.int .i64 csr) := HS1.out.b.cell 6
      have b9 : w1.cell? ⟨w.heap.size + 1, 9, none⟩ = some (.int .u64 v) := HS1.out.b.cell 9
      have b10 : w1.cell? ⟨w.heap.size + 1, 10, none⟩ = some (.int .u64 l) := HS1.out.b.cell 10
      go_wp2_with (refine wpList_load_row rfl RfT _ rfl w.heap.size rfl RfT _ (0, 0) _ HS1.out.r Tryd.underlying58 rfl (iRf _) ?_)
      refine (rdo22_c s ok op csr rs1 v l hv hl _).mono ?_
      rintro e w2 ⟨rfl, hb⟩
      have HS2 := Lib.hid (HS1.out.low hb)
      clear hb b1 b3 b6 b9 b10 q0
      go_upto_region 7 with (first
        | (refine wpList_allocY rfl _ rfl RfT rfl (refV (zero 0)) (zero_rf _) ?_)
        | (refine wpList_storeNew (w0 := w2) rfl RfT _ _ rfl (refV (zero 0)) (refV (doS s op csr rs1 v)) RfT rfl rfl (iRf _) (by rw [refV_size, refV_size]) (rfV_one _) ?_))
      have h9 := CsAt.new w2 RfT (refV (doS s op csr rs1 v))
      have HS3 := Lib.hid (HS2.out.low ((Below.refl w2.heap.size w2).alloc (Nat.le_refl _) (.cells (refV (doS s op csr rs1 v)) RfT)))
      have hgl : w.heap.size + 2 < w2.heap.size := HS2.out.z.lt
      generalize w2.alloc (.cells (refV (doS s op csr rs1 v)) RfT) = w3 at *
      have hs0 := HS3.out.drew
      have h9 : CsAt w3.drew w2.heap.size RfT (refV (doS s op csr rs1 v)) := h9
      refine wp_region_noPanic ?_
      refine wp_region_held (S := fun V => CsAt V w2.heap.size RfT (refV (doS s op csr rs1 v)) ∧ CsAt V (w.heap.size + 1) DfT #[.int .i64 1, .int .i64 op, .int .i64 rd, .int .i64 rs1, .int .i64 rs2, .int .i64 imm, .int .i64 csr, .bool aq, .bool rl, .int .u64 v, .int .u64 l, .bool r]) (by kernel_rfl) ?_
      refine takeH (fuel := 12) (i := 0) (.agg (refV (doS s op csr rs1 v))) ?_ rfl (by kernel_rfl) (by kernel_rfl) (by kernel_rfl) (fun _ _ _ h => h) (by kernel_rfl) (fun W hS => exec_load_row RfT _ rfl w2.heap.size rfl RfT _ _ hS.1 Tryd.underlying58 rfl (iRf _)) ⟨h9, hs0.b⟩ ?_ ?_
      rotate_left 1
      · go_simp
        exact rfl
      refine takeH (fuel := 11) (i := 1) (.pointer (some ⟨g, 0, none⟩)) ?_ rfl (by kernel_rfl) (by kernel_rfl) (by kernel_rfl) (fun _ _ _ h => h) (by kernel_rfl) (fun W hS => by go_simp) ⟨h9, hs0.b⟩ ?_ ?_
      rotate_left 1
      · go_simp
        exact rfl
      refine takeH (fuel := 10) (i := 2) (.pointer (some ⟨w.heap.size + 1, 1, none⟩)) ?_ rfl (by kernel_rfl) (by kernel_rfl) (by kernel_rfl) (fun _ _ _ h => h) (by kernel_rfl) (fun W hS => by go_simp) ⟨h9, hs0.b⟩ ?_ ?_
      rotate_left 1
      · go_simp
        exact rfl
      refine takeH (fuel := 9) (i := 3) (.agg #[.int .i64 op, .int .i64 rd, .int .i64 rs1, .int .i64 rs2, .int .i64 imm, .int .i64 csr, .bool aq, .bool rl]) ?_ rfl (by kernel_rfl) (by kernel_rfl) (by kernel_rfl) (fun _ _ _ h => h) (by kernel_rfl) (fun W hS => by (have q1 : W.cell? ⟨w.heap.size + 1, 1, none⟩ = some (.int .i64 op) := hS.2.cell 1; have q2 : W.cell? ⟨w.heap.size + 1, 2, none⟩ = some (.int .i64 rd) := hS.2.cell 2; have q3 : W.cell? ⟨w.heap.size + 1, 3, none⟩ = some (.int .i64 rs1) := hS.2.cell 3; have q4 : W.cell? ⟨w.heap.size + 1, 4, none⟩ = some (.int .i64 rs2) := hS.2.cell 4; have q5 : W.cell? ⟨w.heap.size + 1, 5, none⟩ = some (.int .i64 imm) := hS.2.cell 5; have q6 : W.cell? ⟨w.heap.size + 1, 6, none⟩ = some (.int .i64 csr) := hS.2.cell 6; have q7 : W.cell? ⟨w.heap.size + 1, 7, none⟩ = some (.bool aq) := hS.2.cell 7; have q8 : W.cell? ⟨w.heap.size + 1, 8, none⟩ = some (.bool rl) := hS.2.cell 8; go_simp)) ⟨h9, hs0.b⟩ ?_ ?_
      rotate_left 1
      · go_simp
        exact rfl
      refine takeH (fuel := 8) (i := 4) (.pointer (some ⟨w.heap.size + 1, 9, none⟩)) ?_ rfl (by kernel_rfl) (by kernel_rfl) (by kernel_rfl) (fun _ _ _ h => h) (by kernel_rfl) (fun W hS => by go_simp) ⟨h9, hs0.b⟩ ?_ ?_
      rotate_left 1
      · go_simp
        exact rfl
      refine takeH (fuel := 7) (i := 5) (.int .u64 v) ?_ rfl (by kernel_rfl) (by kernel_rfl) (by kernel_rfl) (fun _ _ _ h => h) (by kernel_rfl) (fun W hS => by (have q9 : W.cell? ⟨w.heap.size + 1, 9, none⟩ = some (.int .u64 v) := hS.2.cell 9; go_simp)) ⟨h9, hs0.b⟩ ?_ ?_
      rotate_left 1
      · go_simp
        exact rfl
      refine takeH (fuel := 6) (i := 6) (.pointer (some ⟨w.heap.size + 1, 10, none⟩)) ?_ rfl (by kernel_rfl) (by kernel_rfl) (by kernel_rfl) (fun _ _ _ h => h) (by kernel_rfl) (fun W hS => by go_simp) ⟨h9, hs0.b⟩ ?_ ?_
      rotate_left 1
      · go_simp
        exact rfl
      refine takeH (fuel := 5) (i := 7) (.int .u64 l) ?_ rfl (by kernel_rfl) (by kernel_rfl) (by kernel_rfl) (fun _ _ _ h => h) (by kernel_rfl) (fun W hS => by (have q10 : W.cell? ⟨w.heap.size + 1, 10, none⟩ = some (.int .u64 l) := hS.2.cell 10; go_simp)) ⟨h9, hs0.b⟩ ?_ ?_
      rotate_left 1
      · go_simp
        exact rfl
      refine takeH (fuel := 4) (i := 9) (.int .u64 (doV s op csr l)) ?_ rfl (by kernel_rfl) (by kernel_rfl) (by kernel_rfl) (fun _ _ _ h => h) (by kernel_rfl) (fun W hS => by go_simp) ⟨h9, hs0.b⟩ ?_ ?_
      rotate_left 1
      · go_simp
        exact rfl
      refine wpAnyH_all (fuel := 3) (rs := [8]) (by kernel_rfl) (by decide) ?_
      intro i hi
      obtain rfl : i = 8 := by simpa using hi
      refine wpOp_callX 41 #[.pointer (some ⟨g, 0, none⟩), .agg #[.int .i64 op, .int .i64 rd, .int .i64 rs1, .int .i64 rs2, .int .i64 imm, .int .i64 csr, .bool aq, .bool rl], .int .u64 v, .int .u64 l] rfl (by kernel_rfl) (by go_simp) ?_
      refine (fdo_c g op rd rs1 rs2 imm csr v l aq rl s hv _ hs0.n hs0.k hs0.fl).mono ?_
      rintro e w4 ⟨rfl, hq⟩
      have h9b := hq.chg.cs h9 (fun (e : w2.heap.size = g) => by have := HL.out; omega)
      have hs1 := hs0.fq hq HL.out HG.out
      clear hq
      refine ⟨_, rfl, ⟨h9b, hs1.b⟩, ?_⟩
      refine wpAnyH_all (fuel := 2) (rs := [10]) (by kernel_rfl) (by decide) ?_
      intro i hi
      obtain rfl : i = 10 := by simpa using hi
      refine wpOp_unitB (w4.setRow (w.heap.size + 2) (refV (doS s op csr rs1 v))) _ rfl (by kernel_rfl) (exec_store_row RfT _ _ rfl (w.heap.size + 2) (refV (doS s op csr rs1 v)) rfl rfl RfT _ hs1.z (iRf _) (by rw [refV_size, refV_size]) (rfV_one _)) rfl ?_
      have h9c : CsAt (w4.setRow (w.heap.size + 2) (refV (doS s op csr rs1 v))) w2.heap.size RfT (refV (doS s op csr rs1 v)) := h9b.rowFar (by omega) _
      have h9d : CsAt (w4.setRow (w.heap.size + 2) (refV (doS s op csr rs1 v))) (w.heap.size + 1) DfT #[.int .i64 1, .int .i64 op, .int .i64 rd, .int .i64 rs1, .int .i64 rs2, .int .i64 imm, .int .i64 csr, .bool aq, .bool rl, .int .u64 v, .int .u64 l, .bool r] := hs1.b.rowFar (by omega) _
      refine ⟨⟨h9c, h9d⟩, ?_⟩
      refine takeH (fuel := 1) (i := 11) (.int .u64 (doV s op csr l)) ?_ rfl (by kernel_rfl) (by kernel_rfl) (by kernel_rfl) (fun _ _ _ h => h) (by kernel_rfl) (fun W hS => by go_simp) ⟨h9c, h9d⟩ ?_ ?_
      rotate_left 1
      · go_simp
        exact rfl
      refine takeH (fuel := 0) (i := 12) (.int .u64 (doV s op csr l)) ?_ rfl (by kernel_rfl) (by kernel_rfl) (by kernel_rfl) (fun _ _ _ h => h) (by kernel_rfl) (fun W hS => by go_simp) ⟨h9c, h9d⟩ ?_ ?_
      rotate_left 1
      · go_simp
        exact rfl
      refine wpAnyH_done (by kernel_rfl) ?_ _
      refine NoPanic.normal ?_
      have HSZ := Lib.hid hs1
      clear hs0 hs1 h9 h9b h9c h9d
      go_wp2_with fail
      exact bodyPost_ret (results_cbbF RfT Tryd.results32 _ _ (w.heap.size + 2) (refV (doS s op csr rs1 v)) (.int .u64 (doV s op csr l)) (.int .u64 (doV s op csr l)) rfl rfl rfl (run_loadVar_row _ _ RfT RfT _ (0, 0) _ (HSZ.out.z.row _) Tryd.underlying58 rfl (iRf _))) rfl ⟨by rw [HU.out, HV.out], by rw [HU.out]; exact HSZ.out.res HL.out _⟩
    · skip
      have e1 : (kd == 1) = false := by simpa using h1
      have HU := Lib.hid (show nxtS s ⟨kd, ⟨op, rd, rs1, rs2, imm, csr, aq, rl⟩, v, l, r⟩ = turnS s r by unfold nxtS; rw [if_neg h0, if_neg h1])
      have HV := Lib.hid (show tolS s ⟨kd, ⟨op, rd, rs1, rs2, imm, csr, aq, rl⟩, v, l, r⟩ = 0 by unfold tolS; rw [if_neg h0, if_neg h1])
      clear h0 h1
      go_enter Tryd.func32, Tryd.ntmps32
      go_upto_region 1 with (refine wpList_allocY rfl _ rfl RfT rfl (refV (zero 0)) (zero_rf _) ?_)
      generalize hw1 : (((w.alloc (.cells (refV s) RfT)).alloc (.cells #[.int .i64 kd, .int .i64 op, .int .i64 rd, .int .i64 rs1, .int .i64 rs2, .int .i64 imm, .int .i64 csr, .bool aq, .bool rl, .int .u64 v, .int .u64 l, .bool r] DfT)).alloc (.cells (refV (zero 0)) RfT)) = w1 at *
      clear hw1
      have b11 : w1.cell? ⟨w.heap.size + 1, 11, none⟩ = some (.bool r) := HS1.out.b.cell 11
      go_wp2_with fail
      refine (fturn_c g r s _ HS1.out.k HG.out.2 HS1.out.fl).mono ?_
      rintro e w2 ⟨rfl, hq⟩
      have HS2 := Lib.hid (HS1.out.fq hq HL.out HG.out)
      clear hq b11 q0
      have b11 : w2.cell? ⟨w.heap.size + 1, 11, none⟩ = some (.bool r) := HS2.out.b.cell 11
      go_wp2_with (refine wpList_load_row rfl RfT _ rfl w.heap.size rfl RfT _ (0, 0) _ HS2.out.r Tryd.underlying58 rfl (iRf _) ?_)
      refine (rturn22_c s r _).mono ?_
      rintro e w3 ⟨rfl, hb⟩
      have HS3 := Lib.hid (HS2.out.low hb)
      clear hb b11
      go_wp2_with (refine wpList_store_row rfl RfT _ _ rfl (w.heap.size + 2) (refV (turnS s r)) rfl rfl RfT _ HS3.out.z (iRf _) (by rw [refV_size, refV_size]) (rfV_one _) ?_)
      exact bodyPost_ret (results_cbbF RfT Tryd.results32 _ _ (w.heap.size + 2) (refV (turnS s r)) (.int .u64 (0)) (.int .u64 (0)) rfl rfl rfl (run_loadVar_row _ _ RfT RfT _ (0, 0) _ (HS3.out.z.row _) Tryd.underlying58 rfl (iRf _))) rfl ⟨by rw [HU.out, HV.out], by rw [HU.out]; exact HS3.out.res HL.out _⟩
end Go.Proofs.YtfjdalepaacmgaaDoor
