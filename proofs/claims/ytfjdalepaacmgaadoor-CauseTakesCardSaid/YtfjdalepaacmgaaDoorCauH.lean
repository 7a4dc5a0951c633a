/-
  CauseTakes walked.
-/
import Derived.Test.YtfjdalepaacmgaaDoorCauF
set_option maxRecDepth 20000
namespace Go.Proofs.YtfjdalepaacmgaaDoor
open Go.ChangeShapes Go.WideShapes Go.ChangeAt Go.RowKit Wd Cau

abbrev N2T : TypeId := 39
abbrev V2T : TypeId := 40
/-- What stands while CauseTakes compares. -/
structure TkS (w W : World) (b : Bool) (n a p d i : Int) : Prop where
  c : CsAt W w.heap.size CaT #[.bool b, .int .i64 n]
  m : CsAt W (w.heap.size + 1) N2T #[.int .i64 a, .int .i64 p]
  v : CsAt W (w.heap.size + 2) V2T #[.int .u64 d, .int .u64 i]
  x : CsAt W (w.heap.size + 3) RcT #[.bool b, .int .i64 n]
  o : OrderIn W
  bel : Below w.heap.size w W
section
variable {w W W' : World} {b : Bool} {n a p d i : Int}
theorem TkS.low (h : TkS w W b n a p d i) (hb : Below W.heap.size W W') : TkS w W' b n a p d i := ⟨h.c.low hb, h.m.low hb, h.v.low hb, h.x.low hb, h.o.low hb, h.bel.trans (hb.mono h.bel.size)⟩
theorem TkS.drew (h : TkS w W b n a p d i) : TkS w W.drew b n a p d i := ⟨h.c, h.m, h.v, h.x, h.o, h.bel.drew⟩
theorem TkS.c0 (h : TkS w W b n a p d i) : W.cell? ⟨w.heap.size, 0, none⟩ = some (.bool b) := h.c.cell 0
theorem TkS.c1 (h : TkS w W b n a p d i) : W.cell? ⟨w.heap.size, 1, none⟩ = some (.int .i64 n) := h.c.cell 1
theorem TkS.m0 (h : TkS w W b n a p d i) : W.cell? ⟨w.heap.size + 1, 0, none⟩ = some (.int .i64 a) := h.m.cell 0
theorem TkS.m1 (h : TkS w W b n a p d i) : W.cell? ⟨w.heap.size + 1, 1, none⟩ = some (.int .i64 p) := h.m.cell 1
theorem TkS.v0 (h : TkS w W b n a p d i) : W.cell? ⟨w.heap.size + 2, 0, none⟩ = some (.int .u64 d) := h.v.cell 0
theorem TkS.v1 (h : TkS w W b n a p d i) : W.cell? ⟨w.heap.size + 2, 1, none⟩ = some (.int .u64 i) := h.v.cell 1
theorem TkS.x0 (h : TkS w W b n a p d i) : W.cell? ⟨w.heap.size + 3, 0, none⟩ = some (.bool b) := h.x.cell 0
theorem TkS.x1 (h : TkS w W b n a p d i) : W.cell? ⟨w.heap.size + 3, 1, none⟩ = some (.int .i64 n) := h.x.cell 1
end
theorem TkS.new (w : World) (hO : OrderIn w) (b : Bool) (n a p d i : Int) :
    TkS w ((((w.alloc (.cells #[.bool b, .int .i64 n] CaT)).alloc (.cells #[.int .i64 a, .int .i64 p] N2T)).alloc (.cells #[.int .u64 d, .int .u64 i] V2T)).alloc (.cells #[.bool b, .int .i64 n] RcT)) b n a p d i := by
  have hB : Below w.heap.size w ((((w.alloc (.cells #[.bool b, .int .i64 n] CaT)).alloc (.cells #[.int .i64 a, .int .i64 p] N2T)).alloc (.cells #[.int .u64 d, .int .u64 i] V2T)).alloc (.cells #[.bool b, .int .i64 n] RcT)) :=
    ((((Below.refl _ _).alloc (Nat.le_refl _) _).alloc (by simp) _).alloc (by simp; omega) _).alloc (by simp; omega) _
  refine ⟨(((CsAt.new w CaT _).alloc _).alloc _).alloc _, ?_, ?_, ?_, hO.low hB, hB⟩
  · have := ((CsAt.new (w.alloc (.cells #[.bool b, .int .i64 n] CaT)) N2T #[.int .i64 a, .int .i64 p]).alloc (.cells #[.int .u64 d, .int .u64 i] V2T)).alloc (.cells #[.bool b, .int .i64 n] RcT)
    simpa using this
  · have := (CsAt.new ((w.alloc (.cells #[.bool b, .int .i64 n] CaT)).alloc (.cells #[.int .i64 a, .int .i64 p] N2T)) V2T #[.int .u64 d, .int .u64 i]).alloc (.cells #[.bool b, .int .i64 n] RcT)
    simpa using this
  · have := CsAt.new (((w.alloc (.cells #[.bool b, .int .i64 n] CaT)).alloc (.cells #[.int .i64 a, .int .i64 p] N2T)).alloc (.cells #[.int .u64 d, .int .u64 i] V2T)) RcT #[.bool b, .int .i64 n]
    simpa using this
theorem exc_i64 {a i l s : Int} (hi : 0 ≤ i ∧ i < 16) (hl : 0 ≤ l ∧ l < 16) (hs : 0 ≤ s ∧ s < 16) : I64 (excK a i l s) := by
  unfold excK I64
  split
  · omega
  · split <;> omega
theorem ne_same (v : Int) (hv : I64 v) (W : World) : (binOp .neq RcT (.agg #[.bool false, .int .i64 v]) (.agg #[.bool false, .int .i64 v])).run Tryd.prog W = .ok (.bool false) W := by
  rw [neq_rc false false hv hv W]; simp
theorem call_i64 (p : Int) : I64 (callK p) := by
  unfold callK I64
  split
  · omega
  · split <;> omega
set_option maxHeartbeats 8000000 in
theorem takes_walk (b : Bool) (n a p d i : Int) (_hn : I64 n) (hd : 0 ≤ d ∧ d < 18446744073709551616) (hi : 0 ≤ i ∧ i < 18446744073709551616) (w : World) (hN : OrderIn w) :
    Calls Tryd.prog 4 #[.agg #[.bool b, .int .i64 n], .agg #[.int .i64 a, .int .i64 p], .agg #[.int .u64 d, .int .u64 i]] w fun e w' => e = .returned (.bool true) ∧ Below w.heap.size w w' := by
  have HS := Lib.hid (TkS.new w hN b n a p d i)
  have HL := Lib.hid (fun W h => live21_c W h)
  have HA := Lib.hid (fun W => kalign_c a W)
  have HRA := Lib.hid (fun W => kracc_align a W)
  have HF := Lib.hid (fun W => kfault_c a W)
  have HRF := Lib.hid (fun W => kracc_fault a W)
  have HP := Lib.hid (fun W => kpage_c a W)
  have HRP := Lib.hid (fun W => kracc_page a W)
  have HC := Lib.hid (fun W => kcall_c p W)
  have HRC := Lib.hid (fun W => krcall_c p W)
  have HT := Lib.hid (fun W => kto_c b n p d i W hd hi)
  have HRT := Lib.hid (fun W => krto_c b n p d i W hd hi)
  have HT3 := Lib.hid (fun W => kto_c b n 3 d i W hd hi)
  rw [show toK b n 3 d i = 3 from if_neg (fun h => h.1 rfl)] at HT3
  have HNE := Lib.hid (fun v (hv : I64 v) W => ne_same v hv W)
  have Hv1 := Lib.hid (exc_i64 (a := a) (i := 0) (l := 4) (s := 6) (by omega) (by omega) (by omega))
  have Hv2 := Lib.hid (exc_i64 (a := a) (i := 1) (l := 5) (s := 7) (by omega) (by omega) (by omega))
  have Hv3 := Lib.hid (exc_i64 (a := a) (i := 12) (l := 13) (s := 15) (by omega) (by omega) (by omega))
  have Hv4 := Lib.hid (call_i64 p)
  clear hN hd hi _hn
  generalize excK a 0 4 6 = v1 at *
  generalize excK a 1 5 7 = v2 at *
  generalize excK a 12 13 15 = v3 at *
  generalize callK p = v4 at *
  generalize toK b n p d i = t at *
  go_enter Tryd.func4, Tryd.ntmps4
  go_upto_region 2 with fail
  generalize ((((w.alloc (.cells #[.bool b, .int .i64 n] CaT)).alloc (.cells #[.int .i64 a, .int .i64 p] N2T)).alloc (.cells #[.int .u64 d, .int .u64 i] V2T)).alloc (.cells #[.bool b, .int .i64 n] RcT)) = w1 at *
  refine wp_region_steady (fun W => TkS w W b n a p d i) (by kernel_rfl) (by kernel_rfl) HS.out.drew ?_
  refine steady_val ?_ ?_ (by kernel_rfl) (fun W hS => ?_) ?_ ?_
  rotate_left 2
  · go_simp
    exact rfl
  · go_simp
    exact rfl
  refine steady_val ?_ ?_ (by kernel_rfl) (fun W hS => ?_) ?_ ?_
  rotate_left 2
  · have q := hS.m0; go_simp
    exact rfl
  · go_simp
    exact rfl
  refine steady_enter (kE v1) 19 #[.int .i64 a] ?_ (by kernel_rfl) (fun W hS => ?_) (fun W hS => (HA.out W).mono (by rintro e w' ⟨rfl, hb⟩; exact ⟨rfl, hS.low hb⟩)) ?_ ?_
  rotate_left 1
  · go_simp
  · go_simp
    exact rfl
  refine steady_val ?_ ?_ (by kernel_rfl) (fun W hS => ?_) ?_ ?_
  rotate_left 2
  · go_simp
    exact rfl
  · go_simp
    exact rfl
  refine steady_val ?_ ?_ (by kernel_rfl) (fun W hS => ?_) ?_ ?_
  rotate_left 2
  · have q := hS.m0; go_simp
    exact rfl
  · go_simp
    exact rfl
  refine steady_enter (kE v1) 20 #[.int .i64 a, .string ⟨#[97, 108, 105, 103, 110]⟩] ?_ (by kernel_rfl) (fun W hS => ?_) (fun W hS => (HRA.out W).mono (by rintro e w' ⟨rfl, hb⟩; exact ⟨rfl, hS.low hb⟩)) ?_ ?_
  rotate_left 1
  · go_simp
  · go_simp
    exact rfl
  refine steady_val (.bool false) ?_ (by kernel_rfl) (fun W hS => exec_cmp .neq 26 _ _ _ rfl #[.bool false, .int .i64 v1] #[.bool false, .int .i64 v1] rfl rfl guard_rc _ ((HNE.out v1 Hv1.out W))) ?_ ?_
  rotate_left 1
  · go_simp
    exact rfl
  refine steady_val ?_ ?_ (by kernel_rfl) (fun W hS => ?_) ?_ ?_
  rotate_left 2
  · go_simp
    exact rfl
  · go_simp
    exact rfl
  refine steady_val ?_ ?_ (by kernel_rfl) (fun W hS => ?_) ?_ ?_
  rotate_left 2
  · go_simp
    exact rfl
  · go_simp
    exact rfl
  refine steady_val ?_ ?_ (by kernel_rfl) (fun W hS => ?_) ?_ ?_
  rotate_left 2
  · have q := hS.m0; go_simp
    exact rfl
  · go_simp
    exact rfl
  refine steady_enter (kE v2) 21 #[.int .i64 a] ?_ (by kernel_rfl) (fun W hS => ?_) (fun W hS => (HF.out W).mono (by rintro e w' ⟨rfl, hb⟩; exact ⟨rfl, hS.low hb⟩)) ?_ ?_
  rotate_left 1
  · go_simp
  · go_simp
    exact rfl
  refine steady_val ?_ ?_ (by kernel_rfl) (fun W hS => ?_) ?_ ?_
  rotate_left 2
  · go_simp
    exact rfl
  · go_simp
    exact rfl
  refine steady_val ?_ ?_ (by kernel_rfl) (fun W hS => ?_) ?_ ?_
  rotate_left 2
  · have q := hS.m0; go_simp
    exact rfl
  · go_simp
    exact rfl
  refine steady_enter (kE v2) 20 #[.int .i64 a, .string ⟨#[102, 97, 117, 108, 116]⟩] ?_ (by kernel_rfl) (fun W hS => ?_) (fun W hS => (HRF.out W).mono (by rintro e w' ⟨rfl, hb⟩; exact ⟨rfl, hS.low hb⟩)) ?_ ?_
  rotate_left 1
  · go_simp
  · go_simp
    exact rfl
  refine steady_val (.bool false) ?_ (by kernel_rfl) (fun W hS => exec_cmp .neq 26 _ _ _ rfl #[.bool false, .int .i64 v2] #[.bool false, .int .i64 v2] rfl rfl guard_rc _ ((HNE.out v2 Hv2.out W))) ?_ ?_
  rotate_left 1
  · go_simp
    exact rfl
  iterate 2
    refine steady_val ?_ ?_ (by kernel_rfl) (fun W hS => ?_) ?_ ?_
    rotate_left 2
    · go_simp
      exact rfl
    · go_simp
      exact rfl
  refine steady_val ?_ ?_ (by kernel_rfl) (fun W hS => ?_) ?_ ?_
  rotate_left 2
  · go_simp
    exact rfl
  · go_simp
    exact rfl
  refine steady_val ?_ ?_ (by kernel_rfl) (fun W hS => ?_) ?_ ?_
  rotate_left 2
  · have q := hS.m0; go_simp
    exact rfl
  · go_simp
    exact rfl
  refine steady_enter (kE v3) 22 #[.int .i64 a] ?_ (by kernel_rfl) (fun W hS => ?_) (fun W hS => (HP.out W).mono (by rintro e w' ⟨rfl, hb⟩; exact ⟨rfl, hS.low hb⟩)) ?_ ?_
  rotate_left 1
  · go_simp
  · go_simp
    exact rfl
  refine steady_val ?_ ?_ (by kernel_rfl) (fun W hS => ?_) ?_ ?_
  rotate_left 2
  · go_simp
    exact rfl
  · go_simp
    exact rfl
  refine steady_val ?_ ?_ (by kernel_rfl) (fun W hS => ?_) ?_ ?_
  rotate_left 2
  · have q := hS.m0; go_simp
    exact rfl
  · go_simp
    exact rfl
  refine steady_enter (kE v3) 20 #[.int .i64 a, .string ⟨#[112, 97, 103, 101]⟩] ?_ (by kernel_rfl) (fun W hS => ?_) (fun W hS => (HRP.out W).mono (by rintro e w' ⟨rfl, hb⟩; exact ⟨rfl, hS.low hb⟩)) ?_ ?_
  rotate_left 1
  · go_simp
  · go_simp
    exact rfl
  refine steady_val (.bool false) ?_ (by kernel_rfl) (fun W hS => exec_cmp .neq 26 _ _ _ rfl #[.bool false, .int .i64 v3] #[.bool false, .int .i64 v3] rfl rfl guard_rc _ ((HNE.out v3 Hv3.out W))) ?_ ?_
  rotate_left 1
  · go_simp
    exact rfl
  refine steady_val ?_ ?_ (by kernel_rfl) (fun W hS => ?_) ?_ ?_
  rotate_left 2
  · go_simp
    exact rfl
  · go_simp
    exact rfl
  refine steady_nil ?_
  intro W hS
  have HS := Lib.hid hS
  clear hS
  go_upto_region 4 with fail
  refine wp_region_steady (fun W => TkS w W b n a p d i) (by kernel_rfl) (by kernel_rfl) HS.out.drew ?_
  refine steady_val ?_ ?_ (by kernel_rfl) (fun W hS => ?_) ?_ ?_
  rotate_left 2
  · go_simp
    exact rfl
  · go_simp
    exact rfl
  refine steady_val ?_ ?_ (by kernel_rfl) (fun W hS => ?_) ?_ ?_
  rotate_left 2
  · have q := hS.m1; go_simp
    exact rfl
  · go_simp
    exact rfl
  refine steady_enter (kE v4) 23 #[.int .i64 p] ?_ (by kernel_rfl) (fun W hS => ?_) (fun W hS => (HC.out W).mono (by rintro e w' ⟨rfl, hb⟩; exact ⟨rfl, hS.low hb⟩)) ?_ ?_
  rotate_left 1
  · go_simp
  · go_simp
    exact rfl
  refine steady_val ?_ ?_ (by kernel_rfl) (fun W hS => ?_) ?_ ?_
  rotate_left 2
  · go_simp
    exact rfl
  · go_simp
    exact rfl
  refine steady_val ?_ ?_ (by kernel_rfl) (fun W hS => ?_) ?_ ?_
  rotate_left 2
  · have q := hS.m1; go_simp
    exact rfl
  · go_simp
    exact rfl
  refine steady_enter (kE v4) 24 #[.int .i64 p] ?_ (by kernel_rfl) (fun W hS => ?_) (fun W hS => (HRC.out W).mono (by rintro e w' ⟨rfl, hb⟩; exact ⟨rfl, hS.low hb⟩)) ?_ ?_
  rotate_left 1
  · go_simp
  · go_simp
    exact rfl
  refine steady_val (.bool false) ?_ (by kernel_rfl) (fun W hS => exec_cmp .neq 26 _ _ _ rfl #[.bool false, .int .i64 v4] #[.bool false, .int .i64 v4] rfl rfl guard_rc _ ((HNE.out v4 Hv4.out W))) ?_ ?_
  rotate_left 1
  · go_simp
    exact rfl
  refine steady_val ?_ ?_ (by kernel_rfl) (fun W hS => ?_) ?_ ?_
  rotate_left 2
  · go_simp
    exact rfl
  · go_simp
    exact rfl
  refine steady_val ?_ ?_ (by kernel_rfl) (fun W hS => ?_) ?_ ?_
  rotate_left 2
  · have q0 := hS.c0; have q1 := hS.c1; go_simp
    exact rfl
  · go_simp
    exact rfl
  refine steady_val ?_ ?_ (by kernel_rfl) (fun W hS => ?_) ?_ ?_
  rotate_left 2
  · go_simp
    exact rfl
  · go_simp
    exact rfl
  refine steady_val ?_ ?_ (by kernel_rfl) (fun W hS => ?_) ?_ ?_
  rotate_left 2
  · have q := hS.v0; go_simp
    exact rfl
  · go_simp
    exact rfl
  refine steady_val ?_ ?_ (by kernel_rfl) (fun W hS => ?_) ?_ ?_
  rotate_left 2
  · go_simp
    exact rfl
  · go_simp
    exact rfl
  refine steady_val ?_ ?_ (by kernel_rfl) (fun W hS => ?_) ?_ ?_
  rotate_left 2
  · have q := hS.v1; go_simp
    exact rfl
  · go_simp
    exact rfl
  refine steady_enter (.int .i64 3) 25 #[.agg #[.bool b, .int .i64 n], .int .i64 3, .int .u64 d, .int .u64 i] ?_ (by kernel_rfl) (fun W hS => ?_) (fun W hS => (HT3.out W).mono (by rintro e w' ⟨rfl, hb⟩; exact ⟨rfl, hS.low hb⟩)) ?_ ?_
  rotate_left 1
  · go_simp
  · go_simp
    exact rfl
  iterate 2
    refine steady_val ?_ ?_ (by kernel_rfl) (fun W hS => ?_) ?_ ?_
    rotate_left 2
    · go_simp
      exact rfl
    · go_simp
      exact rfl
  refine steady_nil ?_
  intro W hS
  have HS := Lib.hid hS
  clear hS
  go_upto_region 6 with fail
  refine wp_region_steady (fun W => TkS w W b n a p d i) (by kernel_rfl) (by kernel_rfl) HS.out.drew ?_
  refine steady_val ?_ ?_ (by kernel_rfl) (fun W hS => ?_) ?_ ?_
  rotate_left 2
  · have q0 := hS.c0; have q1 := hS.c1; go_simp
    exact rfl
  · go_simp
    exact rfl
  refine steady_val ?_ ?_ (by kernel_rfl) (fun W hS => ?_) ?_ ?_
  rotate_left 2
  · go_simp
    exact rfl
  · go_simp
    exact rfl
  refine steady_val ?_ ?_ (by kernel_rfl) (fun W hS => ?_) ?_ ?_
  rotate_left 2
  · have q := hS.m1; go_simp
    exact rfl
  · go_simp
    exact rfl
  refine steady_val ?_ ?_ (by kernel_rfl) (fun W hS => ?_) ?_ ?_
  rotate_left 2
  · go_simp
    exact rfl
  · go_simp
    exact rfl
  refine steady_val ?_ ?_ (by kernel_rfl) (fun W hS => ?_) ?_ ?_
  rotate_left 2
  · have q := hS.v0; go_simp
    exact rfl
  · go_simp
    exact rfl
  refine steady_val ?_ ?_ (by kernel_rfl) (fun W hS => ?_) ?_ ?_
  rotate_left 2
  · go_simp
    exact rfl
  · go_simp
    exact rfl
  refine steady_val ?_ ?_ (by kernel_rfl) (fun W hS => ?_) ?_ ?_
  rotate_left 2
  · have q := hS.v1; go_simp
    exact rfl
  · go_simp
    exact rfl
  refine steady_enter (.int .i64 t) 25 #[.agg #[.bool b, .int .i64 n], .int .i64 p, .int .u64 d, .int .u64 i] ?_ (by kernel_rfl) (fun W hS => ?_) (fun W hS => (HT.out W).mono (by rintro e w' ⟨rfl, hb⟩; exact ⟨rfl, hS.low hb⟩)) ?_ ?_
  rotate_left 1
  · go_simp
  · go_simp
    exact rfl
  refine steady_val ?_ ?_ (by kernel_rfl) (fun W hS => ?_) ?_ ?_
  rotate_left 2
  · have q0 := hS.x0; have q1 := hS.x1; go_simp
    exact rfl
  · go_simp
    exact rfl
  refine steady_val ?_ ?_ (by kernel_rfl) (fun W hS => ?_) ?_ ?_
  rotate_left 2
  · go_simp
    exact rfl
  · go_simp
    exact rfl
  refine steady_val ?_ ?_ (by kernel_rfl) (fun W hS => ?_) ?_ ?_
  rotate_left 2
  · have q := hS.m1; go_simp
    exact rfl
  · go_simp
    exact rfl
  refine steady_val ?_ ?_ (by kernel_rfl) (fun W hS => ?_) ?_ ?_
  rotate_left 2
  · go_simp
    exact rfl
  · go_simp
    exact rfl
  refine steady_val ?_ ?_ (by kernel_rfl) (fun W hS => ?_) ?_ ?_
  rotate_left 2
  · have q := hS.v0; go_simp
    exact rfl
  · go_simp
    exact rfl
  refine steady_val ?_ ?_ (by kernel_rfl) (fun W hS => ?_) ?_ ?_
  rotate_left 2
  · go_simp
    exact rfl
  · go_simp
    exact rfl
  refine steady_val ?_ ?_ (by kernel_rfl) (fun W hS => ?_) ?_ ?_
  rotate_left 2
  · have q := hS.v1; go_simp
    exact rfl
  · go_simp
    exact rfl
  refine steady_enter (.int .i64 t) 26 #[.agg #[.bool b, .int .i64 n], .int .i64 p, .int .u64 d, .int .u64 i] ?_ (by kernel_rfl) (fun W hS => ?_) (fun W hS => (HRT.out W).mono (by rintro e w' ⟨rfl, hb⟩; exact ⟨rfl, hS.low hb⟩)) ?_ ?_
  rotate_left 1
  · go_simp
  · go_simp
    exact rfl
  refine steady_val ?_ ?_ (by kernel_rfl) (fun W hS => ?_) ?_ ?_
  rotate_left 2
  · have q : (t == t) = true := by simp
    go_simp
    exact rfl
  · go_simp
    exact rfl
  refine steady_val ?_ ?_ (by kernel_rfl) (fun W hS => ?_) ?_ ?_
  rotate_left 2
  · go_simp
    exact rfl
  · go_simp
    exact rfl
  refine steady_enter (.bool true) 9 #[] ?_ (by kernel_rfl) (fun W hS => ?_) (fun W hS => (HL.out W hS.o).mono (by rintro e w' ⟨rfl, hb⟩; exact ⟨rfl, hS.low hb⟩)) ?_ ?_
  rotate_left 1
  · go_simp
  · go_simp
    exact rfl
  iterate 2
    refine steady_val ?_ ?_ (by kernel_rfl) (fun W hS => ?_) ?_ ?_
    rotate_left 2
    · go_simp
      exact rfl
    · go_simp
      exact rfl
  refine steady_nil ?_
  intro W hS
  have HS := Lib.hid hS
  clear hS
  go_wp2_with fail
  go_ret
  exact ⟨rfl, HS.out.bel⟩
theorem ctakes_walk (b : Bool) (n a p d i : Int) (hn : -9223372036854775808 ≤ n ∧ n ≤ 9223372036854775807) (_ha : -9223372036854775808 ≤ a ∧ a ≤ 9223372036854775807) (_hp : -9223372036854775808 ≤ p ∧ p ≤ 9223372036854775807) (hd : 0 ≤ d ∧ d ≤ 18446744073709551615) (hi : 0 ≤ i ∧ i ≤ 18446744073709551615) (w : World) (hN : OrderIn w) :
    Calls Tryd.prog 4 #[.agg #[.bool b, .int .i64 n], .agg #[.int .i64 a, .int .i64 p], .agg #[.int .u64 d, .int .u64 i]] w fun e w' => e = .returned (.bool true) ∧ Below w.heap.size w w' :=
  takes_walk b n a p d i hn ⟨hd.1, by omega⟩ ⟨hi.1, by omega⟩ w hN
end Go.Proofs.YtfjdalepaacmgaaDoor
