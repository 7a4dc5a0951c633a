/-
  The law of layer 18: Holds. What came in, opened: deeds of layer 18. The law of layer 18: answers compared; what a deed leaves; the two beside each other.
-/
import Derived.Test.YtfjdalepaacmgaaGreatYao
import Derived.Test.YtfjdalepaacmgaaGreatYaz
import Derived.Test.YtfjdalepaacmgaaGreatYab
import Derived.Test.YtfjdalepaacmgaaGreatYal
import Derived.Deep.Slices
import Derived.OpenShut
set_option maxRecDepth 20000
namespace Go.Proofs.YtfjdalepaacmgaaGreat
open Go.ChangeShapes Go.WideShapes Go.ChangeAt Go.RowKit

/-- What stands while Holds asks: the reference's row in its block, the bus. -/
structure BhS (F G : Nat → Prop) (w W : World) (b : Nat) (X : Bs.B) (iv ov : Value) : Prop where
  r : CsAt W w.heap.size BxT (xbX X (xuV X.u iv ov))
  b : Bu F W b X
  i : VwG G W iv X.u.q
  o : VwG G W ov X.u.out
  bel : Below w.heap.size w W
theorem BhS.low {F G : Nat → Prop} {w W W' : World} {b : Nat} {X : Bs.B} {iv ov : Value} (h : BhS F G w W b X iv ov) (hb : Below W.heap.size W W') : BhS F G w W' b X iv ov := ⟨h.r.low hb, h.b.low hb, h.i.low hb, h.o.low hb, h.bel.trans (hb.mono h.bel.size)⟩
section
variable {W : World} {b : Nat} {X : Bs.B} {iv ov : Value}
theorem xb_time (hc : X.c.length = 17) (h : CsAt W b BxT (xbX X (xuV X.u iv ov))) : W.cell? ⟨b, 2, none⟩ = some (.int .u64 (X.c.getD 0 0)) := by
  refine xb_rc h 1 _ ?_
  obtain ⟨x, l, hl⟩ : ∃ x l, X.c = x :: l := by cases hx : X.c with
    | nil => rw [hx] at hc; cases hc
    | cons x l => exact ⟨x, l, rfl⟩
  simp [x15_list, hl]
theorem xb_q (hc : X.c.length = 17) (h : CsAt W b BxT (xbX X (xuV X.u iv ov))) : W.cell? ⟨b, 685, none⟩ = some iv := xb_ru (x15_size X.n X.c hc) (x16_size' X.n X.p) h 9 _ rfl
theorem xb_s (hc : X.c.length = 17) (h : CsAt W b BxT (xbX X (xuV X.u iv ov))) : W.cell? ⟨b, 686, none⟩ = some ov := xb_ru (x15_size X.n X.c hc) (x16_size' X.n X.p) h 10 _ rfl
end
theorem eqB_sf (xs : List Int) : eqB xs xs = true := by unfold eqB; simp
set_option maxRecDepth 100000 in
set_option maxHeartbeats 16000000 in
theorem bholds_c (F G : Nat → Prop) (b : Nat) (X : Bs.B) (iv ov : Value) (w : World) (hb : Bu F w b X) (oku : Ut.Ok X.u) (h1 : 1 ≤ X.n) (hi : VwG G w iv X.u.q) (ho : VwG G w ov X.u.out) (hn : X.u.out.length ≤ 900) :
    Calls Tryz.prog 9 #[.pointer (some ⟨b, 0, none⟩), .agg (xbX X (xuV X.u iv ov))] w fun e w' => e = .returned (.bool true) ∧ Below w.heap.size w w' := by
  have hb0 : Below w.heap.size w (w.alloc (.cells (xbX X (xuV X.u iv ov)) BxT)) := (Below.refl _ _).alloc (Nat.le_refl _) _
  have HS := Lib.hid (show BhS F G w (w.alloc (.cells (xbX X (xuV X.u iv ov)) BxT)) b X iv ov from ⟨CsAt.new w BxT _, hb.low hb0, hi.low hb0, ho.low hb0, hb0⟩)
  have hqn := oku.qn
  have OC := Lib.hid hb.okc
  have OP := Lib.hid hb.okp
  have IX := Lib.hid (iBx X.n (x15_size X.n X.c hb.okc.len) (x16_size' X.n X.p) (show (xuV X.u iv ov).size = 11 from rfl))
  have H1 := Lib.hid h1
  clear hb hi ho hb0 oku h1
  go_enter Tryz.func9, Tryz.ntmps9
  go_upto_region 1 with fail
  generalize w.alloc (.cells (xbX X (xuV X.u iv ov)) BxT) = w1 at *
  go_wp2_with fail
  go_loopw [5] (fun i wr => ∃ j : Nat, j ≤ 10 ∧ i = .int .i64 ((j : Int) - 1) ∧ BhS F G w wr b X iv ov) (fun i _ => 10 - (intOf i + 1).toNat)
  case atStart => exact ⟨0, by omega, rfl, HS.out⟩
  case round =>
    obtain ⟨j, hj, rfl, hs⟩ := hrel
    have HR := Lib.hid hs
    clear hs HS
    by_cases hlt : j < 10
    · have e0 : decide ((j : Int) - 1 < 9) = true := by simp; omega
      have HL := Lib.hid (fun (W : World) (hS : Below wr.heap.size wr W) => blines_c F b X ((j : Int) - 1) W (HR.out.low hS).b)
      have HRL := Lib.hid (fun (W : World) => rlinesB_c X (xuV X.u iv ov) OC.out OP.out ((j : Int) - 1) (by omega) W)
      have HQ := Lib.hid (fun (W : World) (hS : Below wr.heap.size wr W) => HR.out.low hS)
      generalize Bs.lineB X ((j : Int) - 1) = lv at *
      go_upto_region 4 with fail
      refine wp_region_steady (fun W => Below wr.heap.size wr W) (by kernel_rfl) (by kernel_rfl) (below_dU (Below.refl _ _) 1) ?_
      iterate 2
        refine steady_val ?_ ?_ (by kernel_rfl) (fun W hS => ?_) ?_ ?_
        rotate_left 2
        · go_simp
          exact rfl
        · go_simp
          exact rfl
      refine steady_enter (.int .u64 lv) 18 #[.pointer (some ⟨b, 0, none⟩), .int .i64 ((j : Int) - 1)] ?_ (by kernel_rfl) (fun W hS => ?_) (fun W hS => (HL.out W hS).mono (by rintro e w' ⟨rfl, hb⟩; exact ⟨rfl, hS.trans (hb.mono hS.size)⟩)) ?_ ?_
      rotate_left 1
      · go_simp
      · go_simp
        exact rfl
      refine steady_val (.agg (xbX X (xuV X.u iv ov))) ?_ (by kernel_rfl) (fun W hS => exec_load_row BxT _ rfl w.heap.size rfl BxT _ _ (HQ.out W hS).r Tryz.underlying53 rfl IX.out) ?_ ?_
      rotate_left 1
      · go_simp
        exact rfl
      refine steady_val ?_ ?_ (by kernel_rfl) (fun W hS => ?_) ?_ ?_
      rotate_left 2
      · go_simp
        exact rfl
      · go_simp
        exact rfl
      refine steady_enter (.int .u64 lv) 38 #[.agg (xbX X (xuV X.u iv ov)), .int .i64 ((j : Int) - 1)] ?_ (by kernel_rfl) (fun W hS => ?_) (fun W hS => (HRL.out W).mono (by rintro e w' ⟨rfl, hb⟩; exact ⟨rfl, hS.trans (hb.mono hS.size)⟩)) ?_ ?_
      rotate_left 1
      · go_simp
      · go_simp
        exact rfl
      refine steady_val ?_ ?_ (by kernel_rfl) (fun W hS => ?_) ?_ ?_
      rotate_left 2
      · go_simp
        exact rfl
      · go_simp
        exact rfl
      refine steady_nil ?_
      intro W hS
      have HF := Lib.hid (HR.out.low hS)
      clear hS HL HRL HQ HR
      go_wp2_with fail
      go_roundw
      case rel => exact ⟨j + 1, by omega, by go_num, HF.out⟩
      case measure => simp [intOf]; omega
    · have e0 : decide ((j : Int) - 1 < 9) = false := by simp; omega
      obtain rfl : j = 10 := by omega
      go_upto_region 6 with fail
      have hs0 : BhS F G w wr.drew b X iv ov := HR.out.low (below_dU (Below.refl _ _) 1)
      clear HR
      refine wp_region_noPanic ?_
      refine wp_region_held (S := fun W => BhS F G w W b X iv ov) (by kernel_rfl) ?_
      refine takeH (fuel := 22) (i := 0) (.pointer (some ⟨b, 0, none⟩)) ?_ rfl (by kernel_rfl) (by kernel_rfl) (by kernel_rfl) (fun _ _ _ h => h) (by kernel_rfl) (fun W hS => by go_simp) hs0 ?_ ?_
      rotate_left 1
      · go_simp
        exact rfl
      refine takeH (fuel := 21) (i := 2) (.pointer (some ⟨w.heap.size, 1, none⟩)) ?_ rfl (by kernel_rfl) (by kernel_rfl) (by kernel_rfl) (fun _ _ _ h => h) (by kernel_rfl) (fun W hS => by go_simp) hs0 ?_ ?_
      rotate_left 1
      · go_simp
        exact rfl
      refine takeH (fuel := 20) (i := 3) (.pointer (some ⟨w.heap.size, 2, none⟩)) ?_ rfl (by kernel_rfl) (by kernel_rfl) (by kernel_rfl) (fun _ _ _ h => h) (by kernel_rfl) (fun W hS => by go_simp) hs0 ?_ ?_
      rotate_left 1
      · go_simp
        exact rfl
      refine takeH (fuel := 19) (i := 4) (.int .u64 (X.c.getD 0 0)) ?_ rfl (by kernel_rfl) (by kernel_rfl) (by kernel_rfl) (fun _ _ _ h => h) (by kernel_rfl) (fun W hS => by (have q := xb_time OC.out.len hS.r; go_simp)) hs0 ?_ ?_
      rotate_left 1
      · go_simp
        exact rfl
      refine wpAnyH_all (fuel := 18) (rs := [1]) (by kernel_rfl) (by decide) ?_
      intro i hi
      obtain rfl : i = 1 := by simpa using hi
      refine wpOp_callX 43 #[.pointer (some ⟨b, 0, none⟩)] rfl (by kernel_rfl) (by go_simp) ?_
      refine (btime_c F b X H1.out _ hs0.b).mono ?_
      rintro e w2 ⟨rfl, rfl⟩
      refine ⟨_, rfl, hs0, ?_⟩
      have gq : ∀ x : Int, (x == x) = true := fun x => by simp
      refine takeH (fuel := 17) (i := 5) (.bool true) ?_ rfl (by kernel_rfl) (by kernel_rfl) (by kernel_rfl) (fun _ _ _ h => h) (by kernel_rfl) (fun W hS => by go_simp) hs0 ?_ ?_
      rotate_left 1
      · go_simp
        exact rfl
      refine takeH (fuel := 16) (i := 6) (.bool true) ?_ rfl (by kernel_rfl) (by kernel_rfl) (by kernel_rfl) (fun _ _ _ h => h) (by kernel_rfl) (fun W hS => by go_simp) hs0 ?_ ?_
      rotate_left 1
      · go_simp
        exact rfl
      refine takeH (fuel := 15) (i := 7) (.pointer (some ⟨b, 0, none⟩)) ?_ rfl (by kernel_rfl) (by kernel_rfl) (by kernel_rfl) (fun _ _ _ h => h) (by kernel_rfl) (fun W hS => by go_simp) hs0 ?_ ?_
      rotate_left 1
      · go_simp
        exact rfl
      refine takeH (fuel := 14) (i := 9) (.pointer (some ⟨w.heap.size, 676, none⟩)) ?_ rfl (by kernel_rfl) (by kernel_rfl) (by kernel_rfl) (fun _ _ _ h => h) (by kernel_rfl) (fun W hS => by go_simp) hs0 ?_ ?_
      rotate_left 1
      · go_simp
        exact rfl
      refine takeH (fuel := 13) (i := 10) (.pointer (some ⟨w.heap.size, 686, none⟩)) ?_ rfl (by kernel_rfl) (by kernel_rfl) (by kernel_rfl) (fun _ _ _ h => h) (by kernel_rfl) (fun W hS => by go_simp) hs0 ?_ ?_
      rotate_left 1
      · go_simp
        exact rfl
      refine takeH (fuel := 12) (i := 11) (ov) ?_ rfl (by kernel_rfl) (by kernel_rfl) (by kernel_rfl) (fun _ _ _ h => h) (by kernel_rfl) (fun W hS => by (have q := xb_s OC.out.len hS.r; go_simp)) hs0 ?_ ?_
      rotate_left 1
      · go_simp
        exact rfl
      refine wpAnyH_all (fuel := 11) (rs := [8]) (by kernel_rfl) (by decide) ?_
      intro i hi
      obtain rfl : i = 8 := by simpa using hi
      refine wpOp_callX 45 #[.pointer (some ⟨b, 0, none⟩)] rfl (by kernel_rfl) (by go_simp) ?_
      refine (bout_c F b X hn _ hs0.b).mono ?_
      rintro e w2 ⟨v2, rfl, hv2, hb2⟩
      have hs2 := hs0.low hb2
      have hvb2 := own_vwB hv2
      refine ⟨_, rfl, hs2, ?_⟩
      refine wpAnyH_all (fuel := 10) (rs := [12]) (by kernel_rfl) (by decide) ?_
      intro i hi
      obtain rfl : i = 12 := by simpa using hi
      refine wpOp_callX 44 #[v2, ov] rfl (by kernel_rfl) (by go_simp) ?_
      refine (rbytes_c v2 ov X.u.out X.u.out _ hvb2 hs2.o.b (by omega)).mono ?_
      rintro e w3 ⟨rfl, hb3⟩
      rw [eqB_sf]
      have hs3 := hs2.low hb3
      refine ⟨_, rfl, hs3, ?_⟩
      refine takeH (fuel := 9) (i := 13) (.bool true) ?_ rfl (by kernel_rfl) (by kernel_rfl) (by kernel_rfl) (fun _ _ _ h => h) (by kernel_rfl) (fun W hS => by go_simp) hs3 ?_ ?_
      rotate_left 1
      · go_simp
        exact rfl
      refine takeH (fuel := 8) (i := 14) (.bool true) ?_ rfl (by kernel_rfl) (by kernel_rfl) (by kernel_rfl) (fun _ _ _ h => h) (by kernel_rfl) (fun W hS => by go_simp) hs3 ?_ ?_
      rotate_left 1
      · go_simp
        exact rfl
      refine takeH (fuel := 7) (i := 15) (.pointer (some ⟨b, 0, none⟩)) ?_ rfl (by kernel_rfl) (by kernel_rfl) (by kernel_rfl) (fun _ _ _ h => h) (by kernel_rfl) (fun W hS => by go_simp) hs3 ?_ ?_
      rotate_left 1
      · go_simp
        exact rfl
      refine takeH (fuel := 6) (i := 17) (.pointer (some ⟨w.heap.size, 676, none⟩)) ?_ rfl (by kernel_rfl) (by kernel_rfl) (by kernel_rfl) (fun _ _ _ h => h) (by kernel_rfl) (fun W hS => by go_simp) hs3 ?_ ?_
      rotate_left 1
      · go_simp
        exact rfl
      refine takeH (fuel := 5) (i := 18) (.pointer (some ⟨w.heap.size, 685, none⟩)) ?_ rfl (by kernel_rfl) (by kernel_rfl) (by kernel_rfl) (fun _ _ _ h => h) (by kernel_rfl) (fun W hS => by go_simp) hs3 ?_ ?_
      rotate_left 1
      · go_simp
        exact rfl
      refine takeH (fuel := 4) (i := 19) (iv) ?_ rfl (by kernel_rfl) (by kernel_rfl) (by kernel_rfl) (fun _ _ _ h => h) (by kernel_rfl) (fun W hS => by (have q := xb_q OC.out.len hS.r; go_simp)) hs3 ?_ ?_
      rotate_left 1
      · go_simp
        exact rfl
      refine wpAnyH_all (fuel := 3) (rs := [16]) (by kernel_rfl) (by decide) ?_
      intro i hi
      obtain rfl : i = 16 := by simpa using hi
      refine wpOp_callX 46 #[.pointer (some ⟨b, 0, none⟩)] rfl (by kernel_rfl) (by go_simp) ?_
      refine (bwait_c F b X _ hs3.b).mono ?_
      rintro e w4 ⟨v4, rfl, hv4, hb4⟩
      have hs4 := hs3.low hb4
      have hvb4 := own_vwB hv4
      refine ⟨_, rfl, hs4, ?_⟩
      refine wpAnyH_all (fuel := 2) (rs := [20]) (by kernel_rfl) (by decide) ?_
      intro i hi
      obtain rfl : i = 20 := by simpa using hi
      refine wpOp_callX 44 #[v4, iv] rfl (by kernel_rfl) (by go_simp) ?_
      refine (rbytes_c v4 iv X.u.q X.u.q _ hvb4 hs4.i.b (by omega)).mono ?_
      rintro e w5 ⟨rfl, hb5⟩
      rw [eqB_sf]
      have hs5 := hs4.low hb5
      refine ⟨_, rfl, hs5, ?_⟩
      refine takeH (fuel := 1) (i := 21) (.bool true) ?_ rfl (by kernel_rfl) (by kernel_rfl) (by kernel_rfl) (fun _ _ _ h => h) (by kernel_rfl) (fun W hS => by go_simp) hs5 ?_ ?_
      rotate_left 1
      · go_simp
        exact rfl
      refine takeH (fuel := 0) (i := 22) (.bool true) ?_ rfl (by kernel_rfl) (by kernel_rfl) (by kernel_rfl) (fun _ _ _ h => h) (by kernel_rfl) (fun W hS => by go_simp) hs5 ?_ ?_
      rotate_left 1
      · go_simp
        exact rfl
      refine wpAnyH_done (by kernel_rfl) ?_ _
      refine NoPanic.normal ?_
      have HE := Lib.hid hs5.bel
      clear hs0 hs2 hs3 hs4 hs5 hb2 hb3 hb4 hb5 hv2 hv4 hvb2 hvb4 gq
      go_wp2_with fail
      go_ret
      exact ⟨rfl, HE.out⟩
end Go.Proofs.YtfjdalepaacmgaaGreat
set_option maxRecDepth 20000
namespace Go.Proofs.YtfjdalepaacmgaaGreat
open Go.ChangeShapes Go.WideShapes Go.ChangeAt Go.RowKit

/-- roebucklaw18.Deed. -/
structure Db where
  hart : Int
  ask : Ak
abbrev Db.cells (d : Db) : Array Value := #[.int .i64 d.hart, .int .i64 d.ask.kind, .int .u64 d.ask.addr, .int .u64 d.ask.next, .int .i64 d.ask.cut, .int .i64 d.ask.size, .int .i64 d.ask.op, .int .u64 d.ask.data, .int .u64 d.ask.old, .bool d.ask.live, .int .i64 d.ask.hart, .bool d.ask.req.set, .bool d.ask.req.byVa, .bool d.ask.req.byAsid, .int .u64 d.ask.req.va, .int .i64 d.ask.req.asid, .int .i64 d.ask.entry.asid, .int .u64 d.ask.entry.page, .int .i64 d.ask.entry.level, .int .u64 d.ask.entry.pte]
def Db.zero : Db := ⟨0, ⟨0, 0, 0, 0, 0, 0, 0, 0, false, 0, ⟨false, false, false, 0, 0⟩, ⟨0, 0, 0, 0⟩⟩⟩
structure Db.In (d : Db) : Prop where
  hart : -9223372036854775808 ≤ d.hart ∧ d.hart ≤ 9223372036854775807
  ask : d.ask.In
/-- A slice of such that came in. -/
structure Dbs (w : World) (ao : Option Addr) (n : Nat) (l : List Db) : Prop where
  len : l.length = n
  max : n ≤ 9223372036854775807
  each : ∀ j, j < n → (l.getD j Db.zero).In
  at_ : 0 < n → ∃ b off, ao = some ⟨b, off, none⟩ ∧ b < w.heap.size ∧ ∀ j, j < n → ∀ f, f < 20 → w.cell? ⟨b, off + j * 20 + f, none⟩ = (l.getD j Db.zero).cells[f]?
theorem Dbs.low {w W : World} {ao : Option Addr} {n : Nat} {l : List Db} (h : Dbs w ao n l) (hb : Below w.heap.size w W) : Dbs W ao n l :=
  ⟨h.len, h.max, h.each, fun hn => by
    obtain ⟨b, off, ha, hlt, hc⟩ := h.at_ hn
    exact ⟨b, off, ha, Nat.lt_of_lt_of_le hlt hb.size, fun j hj f hf => (hb.cell (p := ⟨b, off + j * 20 + f, none⟩) hlt).trans (hc j hj f hf)⟩⟩
section
variable {H : Type} {enc : TypeId × Value → H} {w : World} {base : Nat} {spare : Nat → Bool} {held : Bool}
theorem bs_kc_api_Req : Tryz.prog.cellsOf 27 = 5 := by kernel_rfl
theorem bs_kc_api_Entry : Tryz.prog.cellsOf 29 = 4 := by kernel_rfl
theorem bs_kc_api_Ask : Tryz.prog.cellsOf 31 = 19 := by kernel_rfl
theorem bs_kc_int : Tryz.prog.cellsOf 3 = 1 := by kernel_rfl
theorem bs_kc_roebucklaw18_Deed : Tryz.prog.cellsOf 33 = 20 := by kernel_rfl
theorem open_Db_C {cs : List Value} {fuel : Nat} {x : DataW H × List MemPlace} (hlen : cs.length = 20) (hf : DataW.trod enc Tryz.prog w base spare held fuel 33 cs = some x) :
    ∃ d : Db, cs = d.cells.toList ∧ d.In := by
  obtain ⟨xs, nn, _, hx, _, hxl, hg⟩ := DataW.trod_struct Tryz.underlying33 hf
  have h0 := hg 0 _ rfl
  have h1 := hg 1 _ rfl
  obtain ⟨x0, e0⟩ : ∃ x, xs[0]? = some x := ⟨xs[0]'(by rw [hxl]; decide), List.getElem?_eq_getElem _⟩
  obtain ⟨x1, e1⟩ : ∃ x, xs[1]? = some x := ⟨xs[1]'(by rw [hxl]; decide), List.getElem?_eq_getElem _⟩
  change DataW.trod enc Tryz.prog w base spare held nn 3 (List.take (Tryz.prog.cellsOf 3) (List.drop 0 _)) = _ at h0
  rw [bs_kc_int, e0] at h0
  change DataW.trod enc Tryz.prog w base spare held nn 31 (List.take (Tryz.prog.cellsOf 31) (List.drop 1 _)) = _ at h1
  rw [bs_kc_api_Ask, e1] at h1
  match cs, hlen with
  | [v0, v1, v2, v3, v4, v5, v6, v7, v8, v9, v10, v11, v12, v13, v14, v15, v16, v17, v18, v19], _ =>
    simp only [List.drop_zero, List.drop_succ_cons, List.take_succ_cons, List.take_zero] at h0 h1
    obtain ⟨a0, p0, -, q0⟩ := DataW.trod_int Tryz.underlying3 h0
    simp only [List.cons.injEq, and_true] at p0
    subst p0
    obtain ⟨a1, p1, i1⟩ := open_Ak_C rfl h1
    simp at p1
    obtain ⟨rfl, rfl, rfl, rfl, rfl, rfl, rfl, rfl, rfl, rfl, rfl, rfl, rfl, rfl, rfl, rfl, rfl, rfl, rfl⟩ := p1
    exact ⟨⟨a0, a1⟩, rfl, bounds_i64 q0, i1⟩
theorem open_Db {r : Reach} {b0 : Nat} {v : Value} {d : DataW H} {ps : List MemPlace} (hval : Value.okWide Tryz.prog w r b0 33 v) (hd : DataW.Trod enc Tryz.prog w base spare held 33 v d ps) :
    ∃ q : Db, v = .agg q.cells ∧ q.In := by
  simp only [Value.okWide, Tryz.underlying33] at hval
  obtain ⟨cs, rfl, hsz, _⟩ := hval
  obtain ⟨fuel, hf⟩ := hd
  rw [bs_kc_roebucklaw18_Deed] at hsz
  obtain ⟨q, hq, hin⟩ := open_Db_C (cs := cs.toList) (by simpa using hsz) hf
  refine ⟨q, ?_, hin⟩
  congr 1
  exact Array.ext' hq
theorem open_DbsC {v : Value} {fuel : Nat} {x : DataW H × List MemPlace} (hsl : ∃ ao n cap, v = .slice ao n cap) (hf : DataW.trod enc Tryz.prog w base spare held fuel 22 [v] = some x) :
    ∃ ao n cap l, v = .slice ao n cap ∧ Dbs w ao n l := by
  obtain ⟨ao, n, cap, rfl⟩ := hsl
  rcases Go.Deep.open_slice Tryz.underlying22 hf with ⟨hcs, _⟩ | ⟨a, len, cap', m, nf, D, Pl, hcs, hb, hl, hm, hmm, _, hel⟩
  · simp at hcs
    obtain ⟨rfl, rfl, rfl⟩ := hcs
    exact ⟨_, _, _, [], rfl, rfl, by omega, fun j hj => by omega, fun h => by omega⟩
  · simp at hcs
    obtain ⟨rfl, rfl, rfl⟩ := hcs
    have hmn : n ≤ m := by rw [hmm]; split <;> omega
    have key : ∀ i, i < n → ∃ q : Db, (∀ f, f < 20 → w.cell? ((a.add (i * 20)).add f) = q.cells[f]?) ∧ q.In := by
      intro i hi
      obtain ⟨cs', hc, htr⟩ := hel i (by omega)
      rw [bs_kc_roebucklaw18_Deed] at hc
      obtain ⟨_, hlen, hat⟩ := World.cells?_some hc
      obtain ⟨q, hq, hin⟩ := open_Db_C hlen htr
      refine ⟨q, fun f hf => ?_, hin⟩
      rw [hat f (by omega), hq]
      simp
    by_cases hn0 : n = 0
    · subst hn0
      exact ⟨_, _, _, [], rfl, rfl, by omega, fun j hj => by omega, fun h => by omega⟩
    · haveI : Inhabited Db := ⟨Db.zero⟩
      obtain ⟨f, hf⟩ := Go.Deep.choose_lt key
      have hz := (hf 0 (by omega)).1 0 (by omega)
      have hz' : w.cell? ((a.add (0 * 20)).add 0) = some (.int .i64 (f 0).hart) := hz
      have hsp : a.spot = none := by
        have := World.cell?_spot hz'
        simpa [Addr.add] using this
      obtain ⟨b, off, sp⟩ := a
      simp only at hsp
      subst hsp
      have hget : ∀ j, j < n → ((List.range n).map f).getD j Db.zero = f j := by
        intro j hj
        simp [List.getD, hj]
      have hlt : b < w.heap.size := by
        rw [add_plain, add_plain] at hz'
        exact block_lt_of_cell hz'
      refine ⟨_, _, _, (List.range n).map f, rfl, by simp, by unfold maxLen at hm; omega, fun j hj => by rw [hget j hj]; exact (hf j hj).2, fun _ => ⟨b, off, rfl, hlt, fun j hj g hg => ?_⟩⟩
      rw [hget j hj, ← (hf j hj).1 g hg, add_plain, add_plain]
theorem open_Dbs {r : Reach} {b0 : Nat} {v : Value} {d : DataW H} {ps : List MemPlace} (hval : Value.okWide Tryz.prog w r b0 22 v) (hd : DataW.Trod enc Tryz.prog w base spare held 22 v d ps) :
    ∃ ao n cap l, v = .slice ao n cap ∧ Dbs w ao n l := by
  obtain ⟨ao, n, cap, rfl⟩ := okWide_slice Tryz.underlying22 hval
  obtain ⟨fuel, hf⟩ := hd
  exact open_DbsC ⟨ao, n, cap, rfl⟩ hf
end
end Go.Proofs.YtfjdalepaacmgaaGreat
set_option maxRecDepth 20000
namespace Go.Proofs.YtfjdalepaacmgaaGreat
open Go.ChangeShapes Go.WideShapes Go.ChangeAt Go.RowKit

theorem Pc.Ok.get {n : Nat} {ws : List Int} (h : Pc.Ok n ws) (k : Nat) : 0 ≤ ws.getD k 0 ∧ ws.getD k 0 ≤ 18446744073709551615 := by
  by_cases hk : k < ws.length
  · have := h.all ws[k] (List.getElem_mem hk)
    simpa [List.getD, List.getElem?_eq_getElem hk] using this
  · rw [List.getD, List.getElem?_eq_none (by omega)]; simp
theorem doV_rng {X : Bs.B} (hc : Ct.Ok X.n X.c) (hp : Pc.Ok X.n X.p) (hu : Ut.Ok X.u) (h : Int) (a : Ak) : 0 ≤ Bs.doV X h a ∧ Bs.doV X h a ≤ 18446744073709551615 := by
  unfold Bs.doV
  split
  · unfold Bs.told
    split
    · unfold Bs.readB
      split
      · unfold Ct.readC
        split
        · omega
        · have := hc.rng (Ct.idx (Ct.at_ X.n (Bs.offD a.addr (Bs.dv X a)) a.size).1 (Ct.at_ X.n (Bs.offD a.addr (Bs.dv X a)) a.size).2.1)
          generalize X.c.getD _ 0 = x at *
          unfold Ct.part
          repeat' split
          all_goals omega
      · split
        · unfold Pc.readV
          repeat' split
          all_goals first | exact Pc.Ok.get hp _ | (rcases Pc.best_in (Go.bits .and .u64 (X.p.getD 1 0) (X.p.getD (35 + (Pc.at_ X.n (Bs.offD a.addr (Bs.dv X a)) a.size).2) 0)) (fun i => X.p.getD (3 + i) 0) 0 with hb | hb <;> unfold Pc.bst <;> omega) | omega
        · have := Bs.readV_rng hu (Bs.offD a.addr (Bs.dv X a))
          omega
    · split
      · unfold Bs.lineB Bs.acc
        have := Bs.lineC_of X.n X.c h
        repeat' split
        all_goals omega
      · omega
  · omega
def ksA : List (Option IntKind) := [some .u64, none, none, none, none, some .u64, some .i64, none, none, none, some .u64, some .i64, none, none, none, some .u64, some .i64, none, none, none, some .u64, some .i64, none, none, none, some .u64, some .i64, none, none, none, some .u64, some .i64, none, none, none, some .u64, some .i64, none, none, none, some .u64, some .i64]
theorem okL_an {v : Int} (h : 0 ≤ v ∧ v ≤ 18446744073709551615) : Eqf.okL ksA (anB v).toList = true := by
  have e : (Lit.int .u64 v).wf = true := wf_u64B h
  simp only [ksA, anB, Eqf.okL, Eqf.okV, e]
  rfl
theorem neq_an {v : Int} (h : 0 ≤ v ∧ v ≤ 18446744073709551615) (w : World) : (binOp .neq ANT (.agg (anB v)) (.agg (anB v))).run Tryz.prog w = .ok (.bool false) w := by
  have := Eqf.bneq (P := Tryz.prog) w 8 (by omega) ANT ksA (by kernel_rfl) (by kernel_rfl) (anB v) (anB v) (by kernel_rfl) (by kernel_rfl) (okL_an h) (okL_an h)
  rwa [Eqf.eqL_self (okL_an h)] at this
theorem guard_an : Tryz.prog.eqGuardType Tryz.prog.depth ANT = false := by kernel_rfl
theorem doX_n (X : Bs.B) (h : Int) (a : Ak) : (Bs.doX X h a).n = X.n := by
  unfold Bs.doX
  split
  · unfold Bs.wired Bs.step Bs.readX Bs.writeX
    repeat' split
    all_goals rfl
  · rfl
theorem doX_out (X : Bs.B) (h : Int) (a : Ak) : (Bs.doX X h a).u.out.length ≤ X.u.out.length + 1 := by
  unfold Bs.doX
  split
  · show (Bs.step X a).u.out.length ≤ _
    unfold Bs.step Bs.readX Bs.writeX
    repeat' split
    all_goals first | (simp only [Ut.read_out]; omega) | exact Ut.write_out | (simp only [Ut.in_out]; omega) | omega
  · omega
theorem goes_self (g : Bool) : (g != g) = false := by cases g <;> rfl
abbrev DbT : TypeId := 33
theorem Bu.oku {F : Nat → Prop} {w : World} {b : Nat} {X : Bs.B} (h : Bu F w b X) : Ut.Ok X.u := by
  obtain ⟨g, -, h2⟩ := h.ex
  exact h2.ok
/-- The program's bus at b (F: the port's blocks), the reference's value in block bx: each done as far as X and Z say. -/
structure PbF (F : Nat → Prop) (w W : World) (b bx : Nat) (X Z : Bs.B) (iv ov : Value) (p : Db) : Prop where
  bu : Bu F W b X
  i : VwG (fun k => F k ∨ k = b ∨ k = bx) W iv Z.u.q
  o : VwG (fun k => F k ∨ k = b ∨ k = bx) W ov Z.u.out
  lo : ∀ k, F k → w.heap.size < k ∧ k ≠ bx
  x : CsAt W bx BxT (xbX Z (xuV Z.u iv ov))
  okc : Ct.Ok Z.n Z.c
  okp : Pc.Ok Z.n Z.p
  oku : Ut.Ok Z.u
  ob : CsAt W w.heap.size DbT p.cells
  hb : w.heap.size < b
  hbx : w.heap.size < bx
  ne : b ≠ bx
  bel : Below w.heap.size w W
section
variable {F : Nat → Prop} {w W W' : World} {b bx : Nat} {X Y Z : Bs.B} {iv ov : Value} {p : Db}
theorem PbF.low (h : PbF F w W b bx X Z iv ov p) (hl : Below W.heap.size W W') : PbF F w W' b bx X Z iv ov p :=
  ⟨h.bu.low hl, h.i.low hl, h.o.low hl, h.lo, h.x.low hl, h.okc, h.okp, h.oku, h.ob.low hl, h.hb, h.hbx, h.ne, h.bel.trans (hl.mono h.bel.size)⟩
/-- The program's bus does something. -/
theorem PbF.run (h : PbF F w W b bx X Z iv ov p) (q : BuQ F W W' b Y) : ∃ F', PbF F' w W' b bx Y Z iv ov p := by
  obtain ⟨⟨F', k1, k2⟩, k3⟩ := q
  have hv : ∀ {v xs}, VwG (fun k => F k ∨ k = b ∨ k = bx) W v xs → VwG (fun k => F' k ∨ k = b ∨ k = bx) W' v xs := fun {v xs} hh => by
    have s1 : VwG (fun k => (F k ∨ F' k) ∨ k = b ∨ k = bx) W v xs := hh.more (fun k hk => by
      rcases hk with (hk | hk) | hk
      · exact .inl (.inl hk)
      · exact (k2 k hk).imp .inl id
      · exact .inl (.inr hk))
    have s2 := s1.keep (k3.mono (T := fun k => (F k ∨ F' k) ∨ k = b ∨ k = bx) (fun k hk => hk.elim (fun h => .inl (.inl h)) (fun h => .inr (.inl h))))
    exact s2.more (fun k hk => .inl (hk.elim (fun h => .inl (.inr h)) .inr))
  have hbl := h.x.lt
  have hwl := h.bel.size
  have hol := h.ob.lt
  have h10 := h.hb
  have h12 := h.ne
  refine ⟨F', k1, hv h.i, hv h.o, fun k hk => ?_, k3.cs h.x (fun hh => ?_), h.okc, h.okp, h.oku, k3.cs h.ob (fun hh => ?_), h.hb, h.hbx, h.ne, h.bel.trans (k3.below h.bel.size (fun k hk => ?_))⟩
  · rcases k2 k hk with hk | hk
    · exact h.lo k hk
    · exact ⟨by omega, by omega⟩
  · rcases hh with hh | hh
    · exact (h.lo _ hh).2 rfl
    · exact h12 hh.symm
  · rcases hh with hh | hh
    · have := (h.lo _ hh).1; omega
    · omega
  · rcases hk with hk | hk
    · have := (h.lo _ hk).1; omega
    · omega
end
end Go.Proofs.YtfjdalepaacmgaaGreat
