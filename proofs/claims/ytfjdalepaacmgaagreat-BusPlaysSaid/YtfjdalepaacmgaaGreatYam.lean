/-
  Contracts of uart.Clone, Same. What stands after something was done to a bus; contracts of read, write. Contracts of bus.Lines, New.
-/
import Derived.Test.YtfjdalepaacmgaaGreatYak
import Derived.Test.YtfjdalepaacmgaaGreatYal
import Derived.Great.BuildSlice
set_option maxRecDepth 20000
namespace Go.Proofs.YtfjdalepaacmgaaGreat
open Go.ChangeShapes Go.WideShapes Go.ChangeAt Go.RowKit

theorem exec_midU {P : Program} {o : Oper} {a : Act} {w : World} (ty : TypeId) (x : Operand) (ho : o.op = .load ty x) (b off : Nat) (hx : a.eval x = .pointer (some ⟨b, off, none⟩)) (cs : Array Value) (d : TypeDesc) (hg : w.rangeAt b off cs.toList)
    (hu : P.underlying ty = some d) (hd : d.isRow = true) (hi : (P.info? ty).map (·.size) = some cs.size) : (execOp a.eval o).run P w = .ok (.value (.agg cs)) w := by
  unfold execOp
  simp only [ho, hx, Instr.loadAt, Instr.sureAddr, Sem.run_bind, Sem.run_pure, Result.andThen_ok, run_loadVar_mid w b off ty cs.toList d hg hu hd (by simpa using hi)]
theorem wpOp_boxU {P : Program} {ops : Array Oper} {Q : Exit → Act → World → Prop} {i : Nat} {o : Oper} {a : Act} {w : World} {K : Act → World → Prop} (hi : ops[i]? = some o) (hw : Region.wanted o (yielded ops a.tmps) = true) (t : TypeId) (x : Operand) (ho : o.op = .box t x)
    (cells : Array Value) (hx : (a.eval x).cells = cells) (h : K (a.put o.dst (.pointer (some ⟨w.heap.size, 0, none⟩))) (w.alloc (.cells cells t))) : Go.wpOp P ops Q i K a w := by
  subst hx
  refine wpOp_wpX hi hw ?_
  unfold Oper.wp execOp
  simp only [ho, Sem.run_bind, Instr.box, newVar, newRow, run_newObj_alloc, Sem.run_pure, Result.andThen_ok]
  exact h
/-- The port's copy: two slices of its own, in a block of its own. -/
theorem PtS.cloned {w w1 : World} {s : Ut.S} {v1 v2 : Value} {N : Nat} (hN : w.heap.size = N) (ok : Ut.Ok s) (h1 : w1.ownsRow N U8 1 v1 s.q.length (u8V s.q)) (h2 : w1.ownsRow N U8 1 v2 s.out.length (u8V s.out)) (hb : Below w.heap.size w w1)
    (hne : ∀ k, v1.ownBlock = some k → v2.ownBlock ≠ some k) :
    PtS (fun k => N ≤ k ∧ k < (w1.alloc (.cells (ptV s v1 v2) PoT)).heap.size) (w1.alloc (.cells (ptV s v1 v2) PoT)) w1.heap.size s v1 v2 := by
  have hs : (w1.alloc (.cells (ptV s v1 v2) PoT)).heap.size = w1.heap.size + 1 := by simp
  refine ⟨CsAt.new _ _ _, own_mono (h1.alloc _) (Nat.zero_le _), own_mono (h2.alloc _) (Nat.zero_le _), ⟨by have := hb.size; omega, by omega⟩, fun k hk => ?_, fun k hk => ?_, hne, fun k hk => hk.2, ok⟩
  · have := h1.lt k hk
    exact ⟨⟨this.1, by omega⟩, by omega⟩
  · have := h2.lt k hk
    exact ⟨⟨this.1, by omega⟩, by omega⟩
set_option maxHeartbeats 8000000 in
theorem uclone_c {F : Nat → Prop} {w : World} {b : Nat} {s : Ut.S} (hn : s.out.length ≤ 900) (h : Pt F w b s) :
    Calls Tryz.prog 47 #[.pointer (some ⟨b, 0, none⟩)] w fun e w' => ∃ c, e = .returned (.pointer (some ⟨c, 0, none⟩)) ∧ Pt (fun k => w.heap.size ≤ k ∧ k < w'.heap.size) w' c s ∧ Below w.heap.size w w' := by
  obtain ⟨qv, sv, hp⟩ := h
  have HO := Lib.hid hp.ok
  have hp0 : PtS F w.drew b s qv sv := hp.low (Below.refl _ _).drew
  have HN := Lib.hid hn
  clear hp hn
  go_enter Tryz.func47, Tryz.ntmps47
  go_upto_region 3 with fail
  refine wp_region_noPanic ?_
  refine wp_region_held (S := fun W => PtS F W b s qv sv) (by kernel_rfl) ?_
  refine takeH (fuel := 10) (i := 0) (.pointer (some ⟨b, 0, none⟩)) ?_ rfl (by kernel_rfl) (by kernel_rfl) (by kernel_rfl) (fun _ _ _ h => h) (by kernel_rfl) (fun W hS => by go_simp) hp0 ?_ ?_
  rotate_left 1
  · go_simp
    exact rfl
  refine takeH (fuel := 9) (i := 1) (.pointer (some ⟨b, 0, none⟩)) ?_ rfl (by kernel_rfl) (by kernel_rfl) (by kernel_rfl) (fun _ _ _ h => h) (by kernel_rfl) (fun W hS => by go_simp) hp0 ?_ ?_
  rotate_left 1
  · go_simp
    exact rfl
  refine takeH (fuel := 8) (i := 2) (.pointer (some ⟨b, 0, none⟩)) ?_ rfl (by kernel_rfl) (by kernel_rfl) (by kernel_rfl) (fun _ _ _ h => h) (by kernel_rfl) (fun W hS => by go_simp) hp0 ?_ ?_
  rotate_left 1
  · go_simp
    exact rfl
  refine takeH (fuel := 7) (i := 3) (.agg (stV s)) ?_ rfl (by kernel_rfl) (by kernel_rfl) (by kernel_rfl) (fun _ _ _ h => h) (by kernel_rfl) (fun W hS => exec_midU StT _ rfl b 0 rfl _ _ hS.st Tryz.underlying119 rfl info_StT) hp0 ?_ ?_
  rotate_left 1
  · go_simp
    exact rfl
  refine takeH (fuel := 6) (i := 4) (.pointer (some ⟨b, 0, none⟩)) ?_ rfl (by kernel_rfl) (by kernel_rfl) (by kernel_rfl) (fun _ _ _ h => h) (by kernel_rfl) (fun W hS => by go_simp) hp0 ?_ ?_
  rotate_left 1
  · go_simp
    exact rfl
  refine takeH (fuel := 5) (i := 6) (.pointer (some ⟨b, 0, none⟩)) ?_ rfl (by kernel_rfl) (by kernel_rfl) (by kernel_rfl) (fun _ _ _ h => h) (by kernel_rfl) (fun W hS => by go_simp) hp0 ?_ ?_
  rotate_left 1
  · go_simp
    exact rfl
  refine wpAnyH_all (fuel := 4) (rs := [5]) (by kernel_rfl) (by decide) ?_
  intro i hi
  obtain rfl : i = 5 := by simpa using hi
  refine wpOp_callX 78 #[.pointer (some ⟨b, 0, none⟩)] rfl (by kernel_rfl) (by go_simp) ?_
  refine (uwaiting_c hp0.p).mono ?_
  rintro e w2 ⟨v1, rfl, ho1, hb1⟩
  have hp2 : PtS F w2 b s qv sv := hp0.low hb1
  refine ⟨_, rfl, hp2, ?_⟩
  refine wpAnyH_all (fuel := 3) (rs := [7]) (by kernel_rfl) (by decide) ?_
  intro i hi
  obtain rfl : i = 7 := by simpa using hi
  refine wpOp_callX 77 #[.pointer (some ⟨b, 0, none⟩)] rfl (by kernel_rfl) (by go_simp) ?_
  refine (uout_c HN.out hp2.p).mono ?_
  rintro e w3 ⟨v2, rfl, ho2, hb2⟩
  have hp3 : PtS F w3 b s qv sv := hp2.low hb2
  refine ⟨_, rfl, hp3, ?_⟩
  have hb3 : Below w.heap.size w w3 := (Below.refl w.heap.size w).drew.trans (hb1.trans (hb2.mono hb1.size))
  have ho3 := own_low ho1 hb2
  have hle : w.heap.size ≤ w2.heap.size := hb1.size
  have hne : ∀ k, v1.ownBlock = some k → v2.ownBlock ≠ some k := fun k h1 h2 => by have := (ho1.lt k h1).2; have := (ho2.lt k h2).1; omega
  have HC := Lib.hid (PtS.cloned (w := w) rfl HO.out ho3 (own_mono ho2 hle) hb3 hne)
  have HB := Lib.hid (hb3.alloc hb3.size (.cells (ptV s v1 v2) PoT))
  obtain ⟨p1, c1, rfl, -⟩ := own_form ho1
  obtain ⟨p2, c2, rfl, -⟩ := own_form ho2
  refine takeH (fuel := 2) (i := 8) (.agg (ptV s (.slice p1 s.q.length c1) (.slice p2 s.out.length c2))) ?_ rfl (by kernel_rfl) (by kernel_rfl) (by kernel_rfl) (fun _ _ _ h => h) (by kernel_rfl) (fun W hS => by kernel_rfl) hp3 ?_ ?_
  rotate_left 1
  · go_simp
    exact rfl
  refine wpAnyH_all (fuel := 1) (rs := [9]) (by kernel_rfl) (by decide) ?_
  intro i hi
  obtain rfl : i = 9 := by simpa using hi
  refine wpOp_boxU rfl (by kernel_rfl) PoT _ rfl (ptV s (.slice p1 s.q.length c1) (.slice p2 s.out.length c2)) rfl ?_
  have hp4 : PtS F (w3.alloc (.cells (ptV s (.slice p1 s.q.length c1) (.slice p2 s.out.length c2)) PoT)) b s qv sv := hp3.low ((Below.refl _ _).alloc (Nat.le_refl _) _)
  refine ⟨hp4, ?_⟩
  refine takeH (fuel := 0) (i := 10) (.pointer (some ⟨w3.heap.size, 0, none⟩)) ?_ rfl (by kernel_rfl) (by kernel_rfl) (by kernel_rfl) (fun _ _ _ h => h) (by kernel_rfl) (fun W hS => by go_simp) hp4 ?_ ?_
  rotate_left 1
  · go_simp
    exact rfl
  refine wpAnyH_done (by kernel_rfl) ?_ _
  refine NoPanic.normal ?_
  clear hp4 hp3 hp2 hp0 ho1 ho2 ho3 hb1 hb2 hb3 hne
  go_wp2_with fail
  go_ret
  exact ⟨_, rfl, HC.out.p, HB.out⟩

/-! Same. -/
def stE (s t : Ut.S) : Bool := Eqf.eqL (stV s).toList (stV t).toList
def sameU (s t : Ut.S) : Bool := stE s t && eqB s.q t.q && eqB s.out t.out
theorem wf_u8 {n : Int} (h : 0 ≤ n) (h1 : n < 256) : (Lit.int .u8 n).wf = true := by
  exact WalkArith.wf_u8 ⟨h, by omega⟩
theorem okL_st {s : Ut.S} (h : Ut.Ok s) : Eqf.okL [some .u8, some .u8, some .u8, some .u8, some .u8, some .u8, none, none, none] (stV s).toList = true := by
  have h1 := h.ier
  have h2 := h.mcr
  simp only [stV, Eqf.okL, Eqf.okV, wf_u8 h1.1 (by omega : s.ier < 256), wf_u8 h.lcr.1 h.lcr.2, wf_u8 h2.1 (by omega : s.mcr < 256), wf_u8 h.scr.1 h.scr.2, wf_u8 h.dll.1 h.dll.2, wf_u8 h.dlm.1 h.dlm.2]
  rfl
theorem eql_st {s t : Ut.S} (hs : Ut.Ok s) (ht : Ut.Ok t) (w : World) : (binOp .eql StT (.agg (stV s)) (.agg (stV t))).run Tryz.prog w = .ok (.bool (stE s t)) w :=
  Eqf.beql w 4 (by omega) StT [some .u8, some .u8, some .u8, some .u8, some .u8, some .u8, none, none, none] (by kernel_rfl) (by kernel_rfl) _ _ (by kernel_rfl) (by kernel_rfl) (okL_st hs) (okL_st ht)
theorem guard_st : Tryz.prog.eqGuardType Tryz.prog.depth StT = false := by kernel_rfl
theorem skipU {P : Program} {ops : Array Oper} {S : World → Prop} {md : Region.Mode} {Q : Exit → Act → World → Prop} {i : Nat} {oi : Oper} {fuel : Nat} {listed : Array Bool} {a : Act} {w : World} (b : Act) (hi : ops[i]? = some oi) (hs : Region.noSelect ops = true) (hf : Region.free md ops listed i = true) (hr : (Region.ready md ops listed).contains i = true)
    (hQ : ∀ c a w, Q (.panic c) (a.put oi.dst undef) w → Q (.panic c) a w) (hw : Region.wanted oi (yielded ops a.tmps) = false) (hS : S w) (hb : a.put oi.dst undef = b)
    (h : wpAnyH P md ops Q S fuel (listed.setIfInBounds i true) b w) : wpAnyH P md ops Q S (fuel + 1) listed a w :=
  wpAnyH_take hi hs hf hr hQ (Or.inr ⟨hw, rfl⟩) hS (hb ▸ h)
set_option maxHeartbeats 16000000 in
theorem usame_c {F G : Nat → Prop} {w : World} {b c : Nat} {s t : Ut.S} (hp : Pt F w b s) (hq : Pt G w c t) (ns : s.out.length ≤ 900) :
    Calls Tryz.prog 48 #[.pointer (some ⟨b, 0, none⟩), .pointer (some ⟨c, 0, none⟩)] w fun e w' => e = .returned (.bool (sameU s t)) ∧ Below w.heap.size w w' := by
  obtain ⟨qv, sv, hp⟩ := hp
  obtain ⟨rv, tv, hq⟩ := hq
  have nq := hp.ok.qn
  have nr := hq.ok.qn
  obtain ⟨p1, c1, rfl, -⟩ := own_form hp.q
  obtain ⟨p2, c2, rfl, -⟩ := own_form hp.o
  obtain ⟨p3, c3, rfl, -⟩ := own_form hq.q
  obtain ⟨p4, c4, rfl, -⟩ := own_form hq.o
  have hs0 : PtS F w.drew b s _ _ ∧ PtS G w.drew c t _ _ := ⟨hp.low (Below.refl _ _).drew, hq.low (Below.refl _ _).drew⟩
  have HE := Lib.hid (eql_st hp.ok hq.ok)
  have HU := Lib.hid (show sameU s t = (stE s t && eqB s.q t.q && eqB s.out t.out) from rfl)
  generalize sameU s t = res at *
  generalize stE s t = E at *
  have HQ := Lib.hid (fun W (h : PtS F W b s (.slice p1 s.q.length c1) (.slice p2 s.out.length c2)) (g : PtS G W c t (.slice p3 t.q.length c3) (.slice p4 t.out.length c4)) => bequal_c _ _ s.q t.q W (own_vwB h.q) (own_vwB g.q) (by omega))
  have HO := Lib.hid (fun W (h : PtS F W b s (.slice p1 s.q.length c1) (.slice p2 s.out.length c2)) (g : PtS G W c t (.slice p3 t.q.length c3) (.slice p4 t.out.length c4)) => bequal_c _ _ s.out t.out W (own_vwB h.o) (own_vwB g.o) (by omega))
  generalize eqB s.q t.q = r1 at *
  generalize eqB s.out t.out = r2 at *
  clear hp hq
  go_enter Tryz.func48, Tryz.ntmps48
  go_upto_region 3 with fail
  refine wp_region_noPanic ?_
  refine wp_region_held (S := fun W => PtS F W b s (.slice p1 s.q.length c1) (.slice p2 s.out.length c2) ∧ PtS G W c t (.slice p3 t.q.length c3) (.slice p4 t.out.length c4)) (by kernel_rfl) ?_
  refine takeH (fuel := 31) (i := 0) (.pointer (some ⟨b, 0, none⟩)) ?_ rfl (by kernel_rfl) (by kernel_rfl) (by kernel_rfl) (fun _ _ _ h => h) (by kernel_rfl) (fun W hS => by go_simp) hs0 ?_ ?_
  rotate_left 1
  · go_simp
    exact rfl
  refine takeH (fuel := 30) (i := 1) (.pointer (some ⟨b, 0, none⟩)) ?_ rfl (by kernel_rfl) (by kernel_rfl) (by kernel_rfl) (fun _ _ _ h => h) (by kernel_rfl) (fun W hS => by go_simp) hs0 ?_ ?_
  rotate_left 1
  · go_simp
    exact rfl
  refine takeH (fuel := 29) (i := 2) (.pointer (some ⟨b, 0, none⟩)) ?_ rfl (by kernel_rfl) (by kernel_rfl) (by kernel_rfl) (fun _ _ _ h => h) (by kernel_rfl) (fun W hS => by go_simp) hs0 ?_ ?_
  rotate_left 1
  · go_simp
    exact rfl
  refine takeH (fuel := 28) (i := 3) (.agg (stV s)) ?_ rfl (by kernel_rfl) (by kernel_rfl) (by kernel_rfl) (fun _ _ _ h => h) (by kernel_rfl) (fun W hS => exec_midU StT _ rfl b 0 rfl _ _ hS.1.st Tryz.underlying119 rfl info_StT) hs0 ?_ ?_
  rotate_left 1
  · go_simp
    exact rfl
  refine takeH (fuel := 27) (i := 4) (.pointer (some ⟨c, 0, none⟩)) ?_ rfl (by kernel_rfl) (by kernel_rfl) (by kernel_rfl) (fun _ _ _ h => h) (by kernel_rfl) (fun W hS => by go_simp) hs0 ?_ ?_
  rotate_left 1
  · go_simp
    exact rfl
  refine takeH (fuel := 26) (i := 5) (.pointer (some ⟨c, 0, none⟩)) ?_ rfl (by kernel_rfl) (by kernel_rfl) (by kernel_rfl) (fun _ _ _ h => h) (by kernel_rfl) (fun W hS => by go_simp) hs0 ?_ ?_
  rotate_left 1
  · go_simp
    exact rfl
  refine takeH (fuel := 25) (i := 6) (.pointer (some ⟨c, 0, none⟩)) ?_ rfl (by kernel_rfl) (by kernel_rfl) (by kernel_rfl) (fun _ _ _ h => h) (by kernel_rfl) (fun W hS => by go_simp) hs0 ?_ ?_
  rotate_left 1
  · go_simp
    exact rfl
  refine takeH (fuel := 24) (i := 7) (.agg (stV t)) ?_ rfl (by kernel_rfl) (by kernel_rfl) (by kernel_rfl) (fun _ _ _ h => h) (by kernel_rfl) (fun W hS => exec_midU StT _ rfl c 0 rfl _ _ hS.2.st Tryz.underlying119 rfl info_StT) hs0 ?_ ?_
  rotate_left 1
  · go_simp
    exact rfl
  refine takeH (fuel := 23) (i := 8) (.bool E) ?_ rfl (by kernel_rfl) (by kernel_rfl) (by kernel_rfl) (fun _ _ _ h => h) (by kernel_rfl) (fun W hS => exec_cmp .eql StT _ _ _ rfl _ _ rfl rfl guard_st _ (HE.out W)) hs0 ?_ ?_
  rotate_left 1
  · go_simp
    exact rfl
  refine takeH (fuel := 22) (i := 9) (.bool E) ?_ rfl (by kernel_rfl) (by kernel_rfl) (by kernel_rfl) (fun _ _ _ h => h) (by kernel_rfl) (fun W hS => by go_simp) hs0 ?_ ?_
  rotate_left 1
  · go_simp
    exact rfl
  cases E with
  | false =>
    refine skipU (S := fun W => PtS F W b s (.slice p1 s.q.length c1) (.slice p2 s.out.length c2) ∧ PtS G W c t (.slice p3 t.q.length c3) (.slice p4 t.out.length c4)) (fuel := 21) (i := 10) ?_ rfl (by kernel_rfl) (by kernel_rfl) (by kernel_rfl) (fun _ _ _ h => h) (by kernel_rfl) hs0 ?_ ?_
    rotate_left 1
    · go_simp
      exact rfl
    refine skipU (S := fun W => PtS F W b s (.slice p1 s.q.length c1) (.slice p2 s.out.length c2) ∧ PtS G W c t (.slice p3 t.q.length c3) (.slice p4 t.out.length c4)) (fuel := 20) (i := 11) ?_ rfl (by kernel_rfl) (by kernel_rfl) (by kernel_rfl) (fun _ _ _ h => h) (by kernel_rfl) hs0 ?_ ?_
    rotate_left 1
    · go_simp
      exact rfl
    refine skipU (S := fun W => PtS F W b s (.slice p1 s.q.length c1) (.slice p2 s.out.length c2) ∧ PtS G W c t (.slice p3 t.q.length c3) (.slice p4 t.out.length c4)) (fuel := 19) (i := 12) ?_ rfl (by kernel_rfl) (by kernel_rfl) (by kernel_rfl) (fun _ _ _ h => h) (by kernel_rfl) hs0 ?_ ?_
    rotate_left 1
    · go_simp
      exact rfl
    refine skipU (S := fun W => PtS F W b s (.slice p1 s.q.length c1) (.slice p2 s.out.length c2) ∧ PtS G W c t (.slice p3 t.q.length c3) (.slice p4 t.out.length c4)) (fuel := 18) (i := 13) ?_ rfl (by kernel_rfl) (by kernel_rfl) (by kernel_rfl) (fun _ _ _ h => h) (by kernel_rfl) hs0 ?_ ?_
    rotate_left 1
    · go_simp
      exact rfl
    refine skipU (S := fun W => PtS F W b s (.slice p1 s.q.length c1) (.slice p2 s.out.length c2) ∧ PtS G W c t (.slice p3 t.q.length c3) (.slice p4 t.out.length c4)) (fuel := 17) (i := 14) ?_ rfl (by kernel_rfl) (by kernel_rfl) (by kernel_rfl) (fun _ _ _ h => h) (by kernel_rfl) hs0 ?_ ?_
    rotate_left 1
    · go_simp
      exact rfl
    refine skipU (S := fun W => PtS F W b s (.slice p1 s.q.length c1) (.slice p2 s.out.length c2) ∧ PtS G W c t (.slice p3 t.q.length c3) (.slice p4 t.out.length c4)) (fuel := 16) (i := 15) ?_ rfl (by kernel_rfl) (by kernel_rfl) (by kernel_rfl) (fun _ _ _ h => h) (by kernel_rfl) hs0 ?_ ?_
    rotate_left 1
    · go_simp
      exact rfl
    refine skipU (S := fun W => PtS F W b s (.slice p1 s.q.length c1) (.slice p2 s.out.length c2) ∧ PtS G W c t (.slice p3 t.q.length c3) (.slice p4 t.out.length c4)) (fuel := 15) (i := 16) ?_ rfl (by kernel_rfl) (by kernel_rfl) (by kernel_rfl) (fun _ _ _ h => h) (by kernel_rfl) hs0 ?_ ?_
    rotate_left 1
    · go_simp
      exact rfl
    refine skipU (S := fun W => PtS F W b s (.slice p1 s.q.length c1) (.slice p2 s.out.length c2) ∧ PtS G W c t (.slice p3 t.q.length c3) (.slice p4 t.out.length c4)) (fuel := 14) (i := 17) ?_ rfl (by kernel_rfl) (by kernel_rfl) (by kernel_rfl) (fun _ _ _ h => h) (by kernel_rfl) hs0 ?_ ?_
    rotate_left 1
    · go_simp
      exact rfl
    refine skipU (S := fun W => PtS F W b s (.slice p1 s.q.length c1) (.slice p2 s.out.length c2) ∧ PtS G W c t (.slice p3 t.q.length c3) (.slice p4 t.out.length c4)) (fuel := 13) (i := 18) ?_ rfl (by kernel_rfl) (by kernel_rfl) (by kernel_rfl) (fun _ _ _ h => h) (by kernel_rfl) hs0 ?_ ?_
    rotate_left 1
    · go_simp
      exact rfl
    refine takeH (fuel := 12) (i := 19) (.bool false) ?_ rfl (by kernel_rfl) (by kernel_rfl) (by kernel_rfl) (fun _ _ _ h => h) (by kernel_rfl) (fun W hS => by go_simp) hs0 ?_ ?_
    rotate_left 1
    · go_simp
      exact rfl
    refine takeH (fuel := 11) (i := 20) (.bool false) ?_ rfl (by kernel_rfl) (by kernel_rfl) (by kernel_rfl) (fun _ _ _ h => h) (by kernel_rfl) (fun W hS => by go_simp) hs0 ?_ ?_
    rotate_left 1
    · go_simp
      exact rfl
    refine skipU (S := fun W => PtS F W b s (.slice p1 s.q.length c1) (.slice p2 s.out.length c2) ∧ PtS G W c t (.slice p3 t.q.length c3) (.slice p4 t.out.length c4)) (fuel := 10) (i := 21) ?_ rfl (by kernel_rfl) (by kernel_rfl) (by kernel_rfl) (fun _ _ _ h => h) (by kernel_rfl) hs0 ?_ ?_
    rotate_left 1
    · go_simp
      exact rfl
    refine skipU (S := fun W => PtS F W b s (.slice p1 s.q.length c1) (.slice p2 s.out.length c2) ∧ PtS G W c t (.slice p3 t.q.length c3) (.slice p4 t.out.length c4)) (fuel := 9) (i := 22) ?_ rfl (by kernel_rfl) (by kernel_rfl) (by kernel_rfl) (fun _ _ _ h => h) (by kernel_rfl) hs0 ?_ ?_
    rotate_left 1
    · go_simp
      exact rfl
    refine skipU (S := fun W => PtS F W b s (.slice p1 s.q.length c1) (.slice p2 s.out.length c2) ∧ PtS G W c t (.slice p3 t.q.length c3) (.slice p4 t.out.length c4)) (fuel := 8) (i := 23) ?_ rfl (by kernel_rfl) (by kernel_rfl) (by kernel_rfl) (fun _ _ _ h => h) (by kernel_rfl) hs0 ?_ ?_
    rotate_left 1
    · go_simp
      exact rfl
    refine skipU (S := fun W => PtS F W b s (.slice p1 s.q.length c1) (.slice p2 s.out.length c2) ∧ PtS G W c t (.slice p3 t.q.length c3) (.slice p4 t.out.length c4)) (fuel := 7) (i := 24) ?_ rfl (by kernel_rfl) (by kernel_rfl) (by kernel_rfl) (fun _ _ _ h => h) (by kernel_rfl) hs0 ?_ ?_
    rotate_left 1
    · go_simp
      exact rfl
    refine skipU (S := fun W => PtS F W b s (.slice p1 s.q.length c1) (.slice p2 s.out.length c2) ∧ PtS G W c t (.slice p3 t.q.length c3) (.slice p4 t.out.length c4)) (fuel := 6) (i := 25) ?_ rfl (by kernel_rfl) (by kernel_rfl) (by kernel_rfl) (fun _ _ _ h => h) (by kernel_rfl) hs0 ?_ ?_
    rotate_left 1
    · go_simp
      exact rfl
    refine skipU (S := fun W => PtS F W b s (.slice p1 s.q.length c1) (.slice p2 s.out.length c2) ∧ PtS G W c t (.slice p3 t.q.length c3) (.slice p4 t.out.length c4)) (fuel := 5) (i := 26) ?_ rfl (by kernel_rfl) (by kernel_rfl) (by kernel_rfl) (fun _ _ _ h => h) (by kernel_rfl) hs0 ?_ ?_
    rotate_left 1
    · go_simp
      exact rfl
    refine skipU (S := fun W => PtS F W b s (.slice p1 s.q.length c1) (.slice p2 s.out.length c2) ∧ PtS G W c t (.slice p3 t.q.length c3) (.slice p4 t.out.length c4)) (fuel := 4) (i := 27) ?_ rfl (by kernel_rfl) (by kernel_rfl) (by kernel_rfl) (fun _ _ _ h => h) (by kernel_rfl) hs0 ?_ ?_
    rotate_left 1
    · go_simp
      exact rfl
    refine skipU (S := fun W => PtS F W b s (.slice p1 s.q.length c1) (.slice p2 s.out.length c2) ∧ PtS G W c t (.slice p3 t.q.length c3) (.slice p4 t.out.length c4)) (fuel := 3) (i := 28) ?_ rfl (by kernel_rfl) (by kernel_rfl) (by kernel_rfl) (fun _ _ _ h => h) (by kernel_rfl) hs0 ?_ ?_
    rotate_left 1
    · go_simp
      exact rfl
    refine skipU (S := fun W => PtS F W b s (.slice p1 s.q.length c1) (.slice p2 s.out.length c2) ∧ PtS G W c t (.slice p3 t.q.length c3) (.slice p4 t.out.length c4)) (fuel := 2) (i := 29) ?_ rfl (by kernel_rfl) (by kernel_rfl) (by kernel_rfl) (fun _ _ _ h => h) (by kernel_rfl) hs0 ?_ ?_
    rotate_left 1
    · go_simp
      exact rfl
    refine takeH (fuel := 1) (i := 30) (.bool false) ?_ rfl (by kernel_rfl) (by kernel_rfl) (by kernel_rfl) (fun _ _ _ h => h) (by kernel_rfl) (fun W hS => by go_simp) hs0 ?_ ?_
    rotate_left 1
    · go_simp
      exact rfl
    refine takeH (fuel := 0) (i := 31) (.bool false) ?_ rfl (by kernel_rfl) (by kernel_rfl) (by kernel_rfl) (fun _ _ _ h => h) (by kernel_rfl) (fun W hS => by go_simp) hs0 ?_ ?_
    rotate_left 1
    · go_simp
      exact rfl
    refine wpAnyH_done (by kernel_rfl) ?_ _
    refine NoPanic.normal ?_
    clear hs0
    go_wp2_with fail
    go_ret
    exact ⟨by rw [HU.out]; rfl, (Below.refl _ _).drew⟩
  | true =>
    refine takeH (fuel := 21) (i := 10) (.pointer (some ⟨b, 0, none⟩)) ?_ rfl (by kernel_rfl) (by kernel_rfl) (by kernel_rfl) (fun _ _ _ h => h) (by kernel_rfl) (fun W hS => by go_simp) hs0 ?_ ?_
    rotate_left 1
    · go_simp
      exact rfl
    refine takeH (fuel := 20) (i := 11) (.pointer (some ⟨b, 0, none⟩)) ?_ rfl (by kernel_rfl) (by kernel_rfl) (by kernel_rfl) (fun _ _ _ h => h) (by kernel_rfl) (fun W hS => by go_simp) hs0 ?_ ?_
    rotate_left 1
    · go_simp
      exact rfl
    refine takeH (fuel := 19) (i := 12) (.pointer (some ⟨b, 9, none⟩)) ?_ rfl (by kernel_rfl) (by kernel_rfl) (by kernel_rfl) (fun _ _ _ h => h) (by kernel_rfl) (fun W hS => by go_simp) hs0 ?_ ?_
    rotate_left 1
    · go_simp
      exact rfl
    refine takeH (fuel := 18) (i := 13) (.slice p1 s.q.length c1) ?_ rfl (by kernel_rfl) (by kernel_rfl) (by kernel_rfl) (fun _ _ _ h => h) (by kernel_rfl) (fun W hS => by (have q := hS.1.row.cell 9); simp only [ptV, List.getElem?_toArray, List.getElem?_cons_succ, List.getElem?_cons_zero] at q; go_simp) hs0 ?_ ?_
    rotate_left 1
    · go_simp
      exact rfl
    refine takeH (fuel := 17) (i := 14) (.pointer (some ⟨c, 0, none⟩)) ?_ rfl (by kernel_rfl) (by kernel_rfl) (by kernel_rfl) (fun _ _ _ h => h) (by kernel_rfl) (fun W hS => by go_simp) hs0 ?_ ?_
    rotate_left 1
    · go_simp
      exact rfl
    refine takeH (fuel := 16) (i := 15) (.pointer (some ⟨c, 0, none⟩)) ?_ rfl (by kernel_rfl) (by kernel_rfl) (by kernel_rfl) (fun _ _ _ h => h) (by kernel_rfl) (fun W hS => by go_simp) hs0 ?_ ?_
    rotate_left 1
    · go_simp
      exact rfl
    refine takeH (fuel := 15) (i := 16) (.pointer (some ⟨c, 9, none⟩)) ?_ rfl (by kernel_rfl) (by kernel_rfl) (by kernel_rfl) (fun _ _ _ h => h) (by kernel_rfl) (fun W hS => by go_simp) hs0 ?_ ?_
    rotate_left 1
    · go_simp
      exact rfl
    refine takeH (fuel := 14) (i := 17) (.slice p3 t.q.length c3) ?_ rfl (by kernel_rfl) (by kernel_rfl) (by kernel_rfl) (fun _ _ _ h => h) (by kernel_rfl) (fun W hS => by (have q := hS.2.row.cell 9); simp only [ptV, List.getElem?_toArray, List.getElem?_cons_succ, List.getElem?_cons_zero] at q; go_simp) hs0 ?_ ?_
    rotate_left 1
    · go_simp
      exact rfl
    refine wpAnyH_all (fuel := 13) (rs := [18]) (by kernel_rfl) (by decide) ?_
    intro i hi
    obtain rfl : i = 18 := by simpa using hi
    refine wpOp_callX 79 #[.slice p1 s.q.length c1, .slice p3 t.q.length c3] rfl (by kernel_rfl) (by go_simp) ?_
    refine (HQ.out _ hs0.1 hs0.2).mono ?_
    rintro e w2 ⟨rfl, hb2⟩
    have hs1 : PtS F w2 b s _ _ ∧ PtS G w2 c t _ _ := ⟨hs0.1.low hb2, hs0.2.low hb2⟩
    have HB2 := Lib.hid ((Below.refl w.heap.size w).drew.trans hb2)
    refine ⟨_, rfl, hs1, ?_⟩
    cases r1 with
    | false =>
      refine takeH (fuel := 12) (i := 19) (.bool false) ?_ rfl (by kernel_rfl) (by kernel_rfl) (by kernel_rfl) (fun _ _ _ h => h) (by kernel_rfl) (fun W hS => by go_simp) hs1 ?_ ?_
      rotate_left 1
      · go_simp
        exact rfl
      refine takeH (fuel := 11) (i := 20) (.bool false) ?_ rfl (by kernel_rfl) (by kernel_rfl) (by kernel_rfl) (fun _ _ _ h => h) (by kernel_rfl) (fun W hS => by go_simp) hs1 ?_ ?_
      rotate_left 1
      · go_simp
        exact rfl
      refine skipU (S := fun W => PtS F W b s (.slice p1 s.q.length c1) (.slice p2 s.out.length c2) ∧ PtS G W c t (.slice p3 t.q.length c3) (.slice p4 t.out.length c4)) (fuel := 10) (i := 21) ?_ rfl (by kernel_rfl) (by kernel_rfl) (by kernel_rfl) (fun _ _ _ h => h) (by kernel_rfl) hs1 ?_ ?_
      rotate_left 1
      · go_simp
        exact rfl
      refine skipU (S := fun W => PtS F W b s (.slice p1 s.q.length c1) (.slice p2 s.out.length c2) ∧ PtS G W c t (.slice p3 t.q.length c3) (.slice p4 t.out.length c4)) (fuel := 9) (i := 22) ?_ rfl (by kernel_rfl) (by kernel_rfl) (by kernel_rfl) (fun _ _ _ h => h) (by kernel_rfl) hs1 ?_ ?_
      rotate_left 1
      · go_simp
        exact rfl
      refine skipU (S := fun W => PtS F W b s (.slice p1 s.q.length c1) (.slice p2 s.out.length c2) ∧ PtS G W c t (.slice p3 t.q.length c3) (.slice p4 t.out.length c4)) (fuel := 8) (i := 23) ?_ rfl (by kernel_rfl) (by kernel_rfl) (by kernel_rfl) (fun _ _ _ h => h) (by kernel_rfl) hs1 ?_ ?_
      rotate_left 1
      · go_simp
        exact rfl
      refine skipU (S := fun W => PtS F W b s (.slice p1 s.q.length c1) (.slice p2 s.out.length c2) ∧ PtS G W c t (.slice p3 t.q.length c3) (.slice p4 t.out.length c4)) (fuel := 7) (i := 24) ?_ rfl (by kernel_rfl) (by kernel_rfl) (by kernel_rfl) (fun _ _ _ h => h) (by kernel_rfl) hs1 ?_ ?_
      rotate_left 1
      · go_simp
        exact rfl
      refine skipU (S := fun W => PtS F W b s (.slice p1 s.q.length c1) (.slice p2 s.out.length c2) ∧ PtS G W c t (.slice p3 t.q.length c3) (.slice p4 t.out.length c4)) (fuel := 6) (i := 25) ?_ rfl (by kernel_rfl) (by kernel_rfl) (by kernel_rfl) (fun _ _ _ h => h) (by kernel_rfl) hs1 ?_ ?_
      rotate_left 1
      · go_simp
        exact rfl
      refine skipU (S := fun W => PtS F W b s (.slice p1 s.q.length c1) (.slice p2 s.out.length c2) ∧ PtS G W c t (.slice p3 t.q.length c3) (.slice p4 t.out.length c4)) (fuel := 5) (i := 26) ?_ rfl (by kernel_rfl) (by kernel_rfl) (by kernel_rfl) (fun _ _ _ h => h) (by kernel_rfl) hs1 ?_ ?_
      rotate_left 1
      · go_simp
        exact rfl
      refine skipU (S := fun W => PtS F W b s (.slice p1 s.q.length c1) (.slice p2 s.out.length c2) ∧ PtS G W c t (.slice p3 t.q.length c3) (.slice p4 t.out.length c4)) (fuel := 4) (i := 27) ?_ rfl (by kernel_rfl) (by kernel_rfl) (by kernel_rfl) (fun _ _ _ h => h) (by kernel_rfl) hs1 ?_ ?_
      rotate_left 1
      · go_simp
        exact rfl
      refine skipU (S := fun W => PtS F W b s (.slice p1 s.q.length c1) (.slice p2 s.out.length c2) ∧ PtS G W c t (.slice p3 t.q.length c3) (.slice p4 t.out.length c4)) (fuel := 3) (i := 28) ?_ rfl (by kernel_rfl) (by kernel_rfl) (by kernel_rfl) (fun _ _ _ h => h) (by kernel_rfl) hs1 ?_ ?_
      rotate_left 1
      · go_simp
        exact rfl
      refine skipU (S := fun W => PtS F W b s (.slice p1 s.q.length c1) (.slice p2 s.out.length c2) ∧ PtS G W c t (.slice p3 t.q.length c3) (.slice p4 t.out.length c4)) (fuel := 2) (i := 29) ?_ rfl (by kernel_rfl) (by kernel_rfl) (by kernel_rfl) (fun _ _ _ h => h) (by kernel_rfl) hs1 ?_ ?_
      rotate_left 1
      · go_simp
        exact rfl
      refine takeH (fuel := 1) (i := 30) (.bool false) ?_ rfl (by kernel_rfl) (by kernel_rfl) (by kernel_rfl) (fun _ _ _ h => h) (by kernel_rfl) (fun W hS => by go_simp) hs1 ?_ ?_
      rotate_left 1
      · go_simp
        exact rfl
      refine takeH (fuel := 0) (i := 31) (.bool false) ?_ rfl (by kernel_rfl) (by kernel_rfl) (by kernel_rfl) (fun _ _ _ h => h) (by kernel_rfl) (fun W hS => by go_simp) hs1 ?_ ?_
      rotate_left 1
      · go_simp
        exact rfl
      refine wpAnyH_done (by kernel_rfl) ?_ _
      refine NoPanic.normal ?_
      clear hs0
      go_wp2_with fail
      go_ret
      exact ⟨by rw [HU.out]; rfl, HB2.out⟩
    | true =>
      refine takeH (fuel := 12) (i := 19) (.bool true) ?_ rfl (by kernel_rfl) (by kernel_rfl) (by kernel_rfl) (fun _ _ _ h => h) (by kernel_rfl) (fun W hS => by go_simp) hs1 ?_ ?_
      rotate_left 1
      · go_simp
        exact rfl
      refine takeH (fuel := 11) (i := 20) (.bool true) ?_ rfl (by kernel_rfl) (by kernel_rfl) (by kernel_rfl) (fun _ _ _ h => h) (by kernel_rfl) (fun W hS => by go_simp) hs1 ?_ ?_
      rotate_left 1
      · go_simp
        exact rfl
      refine takeH (fuel := 10) (i := 21) (.pointer (some ⟨b, 0, none⟩)) ?_ rfl (by kernel_rfl) (by kernel_rfl) (by kernel_rfl) (fun _ _ _ h => h) (by kernel_rfl) (fun W hS => by go_simp) hs1 ?_ ?_
      rotate_left 1
      · go_simp
        exact rfl
      refine takeH (fuel := 9) (i := 22) (.pointer (some ⟨b, 0, none⟩)) ?_ rfl (by kernel_rfl) (by kernel_rfl) (by kernel_rfl) (fun _ _ _ h => h) (by kernel_rfl) (fun W hS => by go_simp) hs1 ?_ ?_
      rotate_left 1
      · go_simp
        exact rfl
      refine takeH (fuel := 8) (i := 23) (.pointer (some ⟨b, 10, none⟩)) ?_ rfl (by kernel_rfl) (by kernel_rfl) (by kernel_rfl) (fun _ _ _ h => h) (by kernel_rfl) (fun W hS => by go_simp) hs1 ?_ ?_
      rotate_left 1
      · go_simp
        exact rfl
      refine takeH (fuel := 7) (i := 24) (.slice p2 s.out.length c2) ?_ rfl (by kernel_rfl) (by kernel_rfl) (by kernel_rfl) (fun _ _ _ h => h) (by kernel_rfl) (fun W hS => by (have q := hS.1.row.cell 10); simp only [ptV, List.getElem?_toArray, List.getElem?_cons_succ, List.getElem?_cons_zero] at q; go_simp) hs1 ?_ ?_
      rotate_left 1
      · go_simp
        exact rfl
      refine takeH (fuel := 6) (i := 25) (.pointer (some ⟨c, 0, none⟩)) ?_ rfl (by kernel_rfl) (by kernel_rfl) (by kernel_rfl) (fun _ _ _ h => h) (by kernel_rfl) (fun W hS => by go_simp) hs1 ?_ ?_
      rotate_left 1
      · go_simp
        exact rfl
      refine takeH (fuel := 5) (i := 26) (.pointer (some ⟨c, 0, none⟩)) ?_ rfl (by kernel_rfl) (by kernel_rfl) (by kernel_rfl) (fun _ _ _ h => h) (by kernel_rfl) (fun W hS => by go_simp) hs1 ?_ ?_
      rotate_left 1
      · go_simp
        exact rfl
      refine takeH (fuel := 4) (i := 27) (.pointer (some ⟨c, 10, none⟩)) ?_ rfl (by kernel_rfl) (by kernel_rfl) (by kernel_rfl) (fun _ _ _ h => h) (by kernel_rfl) (fun W hS => by go_simp) hs1 ?_ ?_
      rotate_left 1
      · go_simp
        exact rfl
      refine takeH (fuel := 3) (i := 28) (.slice p4 t.out.length c4) ?_ rfl (by kernel_rfl) (by kernel_rfl) (by kernel_rfl) (fun _ _ _ h => h) (by kernel_rfl) (fun W hS => by (have q := hS.2.row.cell 10); simp only [ptV, List.getElem?_toArray, List.getElem?_cons_succ, List.getElem?_cons_zero] at q; go_simp) hs1 ?_ ?_
      rotate_left 1
      · go_simp
        exact rfl
      refine wpAnyH_all (fuel := 2) (rs := [29]) (by kernel_rfl) (by decide) ?_
      intro i hi
      obtain rfl : i = 29 := by simpa using hi
      refine wpOp_callX 79 #[.slice p2 s.out.length c2, .slice p4 t.out.length c4] rfl (by kernel_rfl) (by go_simp) ?_
      refine (HO.out _ hs1.1 hs1.2).mono ?_
      rintro e w3 ⟨rfl, hb3⟩
      have hs2 : PtS F w3 b s _ _ ∧ PtS G w3 c t _ _ := ⟨hs1.1.low hb3, hs1.2.low hb3⟩
      have HB3 := Lib.hid (HB2.out.trans (hb3.mono HB2.out.size))
      refine ⟨_, rfl, hs2, ?_⟩
      refine takeH (fuel := 1) (i := 30) (.bool r2) ?_ rfl (by kernel_rfl) (by kernel_rfl) (by kernel_rfl) (fun _ _ _ h => h) (by kernel_rfl) (fun W hS => by go_simp) hs2 ?_ ?_
      rotate_left 1
      · go_simp
        exact rfl
      refine takeH (fuel := 0) (i := 31) (.bool r2) ?_ rfl (by kernel_rfl) (by kernel_rfl) (by kernel_rfl) (fun _ _ _ h => h) (by kernel_rfl) (fun W hS => by go_simp) hs2 ?_ ?_
      rotate_left 1
      · go_simp
        exact rfl
      refine wpAnyH_done (by kernel_rfl) ?_ _
      refine NoPanic.normal ?_
      clear hs2 hs1 hs0 hb3 hb2
      go_wp2_with fail
      go_ret
      exact ⟨by rw [HU.out]; rfl, HB3.out⟩
end Go.Proofs.YtfjdalepaacmgaaGreat
set_option maxRecDepth 20000
namespace Go.Proofs.YtfjdalepaacmgaaGreat
open Go.ChangeShapes Go.WideShapes Go.ChangeAt Go.RowKit
theorem Bs.readV_rng {s : Ut.S} (h : Ut.Ok s) (off : Int) : 0 ≤ Ut.readV s off ∧ Ut.readV s off < 256 := by
  have hq : ∀ i, 0 ≤ s.q.getD i 0 ∧ s.q.getD i 0 < 256 := fun i => by
    rw [List.getD]
    by_cases hi : i < s.q.length
    · rw [List.getElem?_eq_getElem hi]
      exact h.qs _ (List.getElem_mem hi)
    · rw [List.getElem?_eq_none (by omega)]
      simp
  have h1 := h.ier
  have h2 := h.lcr
  have h3 := h.mcr
  have h4 := h.scr
  have h5 := h.dll
  have h6 := h.dlm
  unfold Ut.isB at h2 h4 h5 h6
  have hc := Ut.cause_of s
  have hm : 0 ≤ Ut.modem s.mcr ∧ Ut.modem s.mcr < 256 := by
    unfold Ut.modem Ut.b2i
    split
    · refine ⟨?_, ?_⟩ <;> (repeat' split) <;> omega
    · omega
  have h0 := hq 0
  unfold Ut.readV
  repeat' split
  all_goals omega

namespace Bs
def readB (X : B) (d : Nat) (off size : Int) : Int := if d = 0 then Ct.readC X.n X.c off size else if d = 1 then Pc.readV X.n X.p off size else Ut.readV X.u off
def readX (X : B) (d : Nat) (off size : Int) : B := if d = 0 then X else if d = 1 then { X with p := Pc.readW X.n X.p off size } else { X with u := Ut.readS X.u off }
def writeX (X : B) (d : Nat) (off size v : Int) : B := if d = 0 then { X with c := Ct.writeC X.n X.c off size v } else if d = 1 then { X with p := Pc.writeW X.n X.p off size v } else { X with u := Ut.writeS X.u off (v % 256) }
end Bs
/-- A bus in memory: F holds the port's blocks. -/
structure Bu (F : Nat → Prop) (w : World) (b : Nat) (X : Bs.B) : Prop where
  ex : ∃ g, CsAt w b BuT (buV (.pointer (some ⟨g, 0, none⟩)) X.n X.c X.p) ∧ Pt F w g X.u
  nb : ¬ F b
  okc : Ct.Ok X.n X.c
  okp : Pc.Ok X.n X.p
/-- After something was done. -/
structure BuQ (F : Nat → Prop) (w w' : World) (b : Nat) (X : Bs.B) : Prop where
  ex : ∃ F', Bu F' w' b X ∧ ∀ k, F' k → F k ∨ w.heap.size ≤ k
  chg : Chg (fun k => F k ∨ k = b) w w'
section
variable {F : Nat → Prop} {w w' w1 : World} {b : Nat} {X Y : Bs.B}
theorem Bu.lt (h : Bu F w b X) : b < w.heap.size := by
  obtain ⟨g, h1, -⟩ := h.ex
  exact h1.lt
theorem Bu.lo (h : Bu F w b X) : ∀ k, F k → k < w.heap.size := by
  obtain ⟨g, -, h2⟩ := h.ex
  exact h2.lt
theorem Bu.low (h : Bu F w b X) (hb : Below w.heap.size w w') : Bu F w' b X := by
  obtain ⟨g, h1, h2⟩ := h.ex
  exact ⟨⟨g, h1.low hb, h2.low hb⟩, h.nb, h.okc, h.okp⟩
theorem Bu.n1 (h : Bu F w b X) : w.cell? ⟨b, 1, none⟩ = some (.int .i64 X.n) := by
  obtain ⟨g, h1, -⟩ := h.ex
  rw [h1.cell]; exact buV_n
theorem Bu.keepQ (h : Bu F w b X) (hb : Below w.heap.size w w') : BuQ F w w' b X := ⟨⟨F, h.low hb, fun _ hk => .inl hk⟩, Chg.of_below hb⟩
theorem BuQ.then (h : BuQ F w w1 b X) (k : ∀ G, Bu G w1 b X → BuQ G w1 w' b Y) : BuQ F w w' b Y := by
  obtain ⟨⟨G, h1, h2⟩, h3⟩ := h
  obtain ⟨⟨J, k1, k2⟩, k3⟩ := k G h1
  refine ⟨⟨J, k1, fun i hi => ?_⟩, h3.transN k3 (fun i hi => ?_)⟩
  · rcases k2 i hi with hi | hi
    · exact h2 i hi
    · exact .inr (Nat.le_trans h3.size hi)
  · rcases hi with hi | hi
    · rcases h2 i hi with hi | hi
      · exact .inl (.inl hi)
      · exact .inr hi
    · exact .inl (.inr hi)
theorem BuQ.after (hb : Below w.heap.size w w1) (k : BuQ F w1 w' b Y) : BuQ F w w' b Y := by
  obtain ⟨⟨J, k1, k2⟩, k3⟩ := k
  exact ⟨⟨J, k1, fun i hi => (k2 i hi).imp id (Nat.le_trans hb.size)⟩, (Chg.of_below hb).trans k3⟩
theorem BuQ.low (h : BuQ F w w1 b X) (hb : Below w1.heap.size w1 w') : BuQ F w w' b X := by
  obtain ⟨⟨G, h1, h2⟩, h3⟩ := h
  exact ⟨⟨G, h1.low hb, h2⟩, h3.trans (Chg.of_below hb)⟩
theorem Och.chg (h : Och (some b) w w') : Chg (fun k => k = b) w w' := ⟨h.os, h.tape, h.output, h.size, fun k hk hs => h.block k hk (fun e => hs (by cases e; rfl))⟩
theorem BuQ.of_c {g : Nat} {cs : List Int} (h : Bu F w b X) (hp : Pt F w g X.u) (hc : Bm.CtP (.pointer (some ⟨g, 0, none⟩), X.p) w' (some ⟨b, 2, none⟩) X.n cs) (ho : Och (some b) w w') : BuQ F w w' b { X with c := cs } := by
  rcases hc with hc | ⟨b', e, hc⟩
  · cases hc.1
  · cases e
    refine ⟨⟨F, ⟨⟨g, hc.row, hp.keep ho.chg (fun k hk e => h.nb (e ▸ hk))⟩, h.nb, hc.ok, h.okp⟩, fun _ hk => .inl hk⟩, ho.chg.mono (fun _ hk => .inr hk)⟩
theorem BuQ.of_p {g : Nat} {ps : List Int} (h : Bu F w b X) (hp : Pt F w g X.u) (hc : Bp.PcP ⟨.pointer (some ⟨g, 0, none⟩), X.c, h.okc.len⟩ w' (some ⟨b, 20, none⟩) X.n ps) (ho : Och (some b) w w') : BuQ F w w' b { X with p := ps } := by
  rcases hc with hc | ⟨b', e, hc⟩
  · cases hc.1
  · cases e
    refine ⟨⟨F, ⟨⟨g, hc.row, hp.keep ho.chg (fun k hk e => h.nb (e ▸ hk))⟩, h.nb, h.okc, hc.ok⟩, fun _ hk => .inl hk⟩, ho.chg.mono (fun _ hk => .inr hk)⟩
theorem BuQ.of_u {g : Nat} {s : Ut.S} (h : Bu F w b X) (hr : CsAt w b BuT (buV (.pointer (some ⟨g, 0, none⟩)) X.n X.c X.p)) (hq : PtQ F w w' g s) : BuQ F w w' b { X with u := s } := by
  refine ⟨⟨Nw F w w', ⟨⟨g, hq.chg.cs hr h.nb, hq.pt⟩, fun hk => ?_, h.okc, h.okp⟩, fun _ hk => hk.imp id (fun h2 => h2.1)⟩, hq.chg.mono (fun _ hk => .inl hk)⟩
  rcases hk with hk | hk
  · exact h.nb hk
  · have := hr.lt; omega
end
set_option maxHeartbeats 8000000 in
theorem bread_c (F : Nat → Prop) (b : Nat) (X : Bs.B) (d : Nat) (hd : d < 3) (off size : Int) (o0 : 0 ≤ off) (o1 : off ≤ 18446744073709551615) (w : World) (h : Bu F w b X) :
    Calls Tryz.prog 23 #[.pointer (some ⟨b, 0, none⟩), .agg #[.int .i64 d, .int .u64 off, .int .i64 size]] w fun e w' => e = .returned (.int .u64 (Bs.readB X d off size)) ∧ BuQ F w w' b (Bs.readX X d off size) := by
  obtain ⟨g, hrow, hpt⟩ := h.ex
  have hb0 : Below w.heap.size w (w.alloc (.cells #[.int .i64 d, .int .u64 off, .int .i64 size] TgT)) := (Below.refl _ _).alloc (Nat.le_refl _) _
  have hR := CsAt.new w TgT #[.int .i64 d, .int .u64 off, .int .i64 size]
  have hB := h.low hb0
  have hrow1 := hrow.low hb0
  have hpt1 := hpt.low hb0
  have HB0 := Lib.hid hb0
  have hbl := h.lt
  go_enter Tryz.func23, Tryz.ntmps23
  go_upto_region 1 with fail
  generalize w.alloc (.cells #[.int .i64 d, .int .u64 off, .int .i64 size] TgT) = w1 at *
  have q0 := hR.cell 0
  have q1 := hR.cell 1
  have q2 := hR.cell 2
  have c0 : w1.cell? ⟨b, 0, none⟩ = some (.pointer (some ⟨g, 0, none⟩)) := by rw [hrow1.cell]; exact buV_u
  simp only [List.getElem?_toArray, List.getElem?_cons_zero, List.getElem?_cons_succ] at q0 q1 q2
  have hbd : Below w1.heap.size w1 w1.drew := below_dU (Below.refl _ _) 1
  have HBD := Lib.hid (hB.low hbd)
  have HRD := Lib.hid (hrow1.low hbd)
  have HPD := Lib.hid (hpt1.low hbd)
  have HTD := Lib.hid (hR.low hbd)
  have HB1 := Lib.hid (HB0.out.trans (hbd.mono HB0.out.size))
  have HBU := Lib.hid h
  have hWd : w1.drew = w1.drew := rfl
  clear hR hrow hpt hB hrow1 hpt1 hb0 hbd HB0 h
  obtain rfl | rfl | rfl : d = 0 ∨ d = 1 ∨ d = 2 := by omega
  · try clear hd
    go_upto_region 4 with fail
    clear hWd q0 q1 q2 c0
    have hs0 : CsAt w1.drew w.heap.size TgT #[.int .i64 0, .int .u64 off, .int .i64 size] ∧ w1.drew.cell? ⟨b, 0, none⟩ = some (.pointer (some ⟨g, 0, none⟩)) := ⟨HTD.out, by rw [HRD.out.cell]; exact buV_u⟩
    refine wp_region_noPanic ?_
    refine wp_region_held (S := fun W => CsAt W w.heap.size TgT #[.int .i64 0, .int .u64 off, .int .i64 size] ∧ W.cell? ⟨b, 0, none⟩ = some (.pointer (some ⟨g, 0, none⟩))) (by kernel_rfl) ?_
    refine takeH (fuel := 11) (i := 0) (.pointer (some ⟨b, 0, none⟩)) ?_ rfl (by kernel_rfl) (by kernel_rfl) (by kernel_rfl) (fun _ _ _ h => h) (by kernel_rfl) (fun W hS => by go_simp) hs0 ?_ ?_
    rotate_left 1
    · go_simp
      exact rfl
    refine takeH (fuel := 10) (i := 1) (.pointer (some ⟨b, 0, none⟩)) ?_ rfl (by kernel_rfl) (by kernel_rfl) (by kernel_rfl) (fun _ _ _ h => h) (by kernel_rfl) (fun W hS => by go_simp) hs0 ?_ ?_
    rotate_left 1
    · go_simp
      exact rfl
    refine takeH (fuel := 9) (i := 2) (.pointer (some ⟨b, 2, none⟩)) ?_ rfl (by kernel_rfl) (by kernel_rfl) (by kernel_rfl) (fun _ _ _ h => h) (by kernel_rfl) (fun W hS => by go_simp) hs0 ?_ ?_
    rotate_left 1
    · go_simp
      exact rfl
    refine takeH (fuel := 8) (i := 3) (.pointer (some ⟨w.heap.size, 1, none⟩)) ?_ rfl (by kernel_rfl) (by kernel_rfl) (by kernel_rfl) (fun _ _ _ h => h) (by kernel_rfl) (fun W hS => by go_simp) hs0 ?_ ?_
    rotate_left 1
    · go_simp
      exact rfl
    refine takeH (fuel := 7) (i := 4) (.int .u64 off) ?_ rfl (by kernel_rfl) (by kernel_rfl) (by kernel_rfl) (fun _ _ _ h => h) (by kernel_rfl) (fun W hS => by (have q := hS.1.cell 1; simp only [List.getElem?_toArray, List.getElem?_cons_succ, List.getElem?_cons_zero] at q; go_simp)) hs0 ?_ ?_
    rotate_left 1
    · go_simp
      exact rfl
    refine takeH (fuel := 6) (i := 5) (.pointer (some ⟨w.heap.size, 2, none⟩)) ?_ rfl (by kernel_rfl) (by kernel_rfl) (by kernel_rfl) (fun _ _ _ h => h) (by kernel_rfl) (fun W hS => by go_simp) hs0 ?_ ?_
    rotate_left 1
    · go_simp
      exact rfl
    refine takeH (fuel := 5) (i := 6) (.int .i64 size) ?_ rfl (by kernel_rfl) (by kernel_rfl) (by kernel_rfl) (fun _ _ _ h => h) (by kernel_rfl) (fun W hS => by (have q := hS.1.cell 2; simp only [List.getElem?_toArray, List.getElem?_cons_succ, List.getElem?_cons_zero] at q; go_simp)) hs0 ?_ ?_
    rotate_left 1
    · go_simp
      exact rfl
    refine wpAnyH_all (fuel := 4) (rs := [7]) (by kernel_rfl) (by decide) ?_
    intro i hi
    obtain rfl : i = 7 := by simpa using hi
    refine wpOp_callX 53 #[.pointer (some ⟨b, 2, none⟩), .int .u64 off, .int .i64 size] rfl (by kernel_rfl) (by go_simp) ?_
    refine (Bm.read_c (S := (.pointer (some ⟨g, 0, none⟩), X.p)) (some ⟨b, 2, none⟩) X.n X.c off o0 o1 size w1.drew (.inr ⟨b, rfl, ⟨HRD.out, HBD.out.okc⟩⟩)).mono ?_
    rintro e w2 ⟨rfl, hb2⟩
    have hQ := HBD.out.keepQ hb2
    have hs2 : CsAt w2 w.heap.size TgT #[.int .i64 0, .int .u64 off, .int .i64 size] ∧ w2.cell? ⟨b, 0, none⟩ = some (.pointer (some ⟨g, 0, none⟩)) := ⟨hQ.chg.cs HTD.out (fun hk => hk.elim (fun hk => by have := HBU.out.lo _ hk; omega) (fun hk => by omega)), by rw [(HRD.out.low hb2).cell]; exact buV_u⟩
    have HQ := Lib.hid (BuQ.after HB1.out hQ)
    refine ⟨_, rfl, hs2, ?_⟩
    refine takeH (fuel := 3) (i := 8) (.tuple #[.int .u64 (Ct.readC X.n X.c off size), .bool (Ct.is X.n off size)]) ?_ rfl (by kernel_rfl) (by kernel_rfl) (by kernel_rfl) (fun _ _ _ h => h) (by kernel_rfl) (fun W hS => by go_simp) hs2 ?_ ?_
    rotate_left 1
    · go_simp
      exact rfl
    refine takeH (fuel := 2) (i := 9) (.int .u64 (Ct.readC X.n X.c off size)) ?_ rfl (by kernel_rfl) (by kernel_rfl) (by kernel_rfl) (fun _ _ _ h => h) (by kernel_rfl) (fun W hS => by go_simp) hs2 ?_ ?_
    rotate_left 1
    · go_simp
      exact rfl
    refine takeH (fuel := 1) (i := 10) (.bool (Ct.is X.n off size)) ?_ rfl (by kernel_rfl) (by kernel_rfl) (by kernel_rfl) (fun _ _ _ h => h) (by kernel_rfl) (fun W hS => by go_simp) hs2 ?_ ?_
    rotate_left 1
    · go_simp
      exact rfl
    refine takeH (fuel := 0) (i := 11) (.int .u64 (Ct.readC X.n X.c off size)) ?_ rfl (by kernel_rfl) (by kernel_rfl) (by kernel_rfl) (fun _ _ _ h => h) (by kernel_rfl) (fun W hS => by go_simp) hs2 ?_ ?_
    rotate_left 1
    · go_simp
      exact rfl
    refine wpAnyH_done (by kernel_rfl) ?_ _
    refine NoPanic.normal ?_
    clear hs0 hs2 hQ
    go_wp2_with fail
    go_ret
    exact ⟨rfl, HQ.out⟩
  · try clear hd
    go_upto_region 6 with fail
    clear hWd q0 q1 q2 c0
    have hs0 : CsAt w1.drew w.heap.size TgT #[.int .i64 1, .int .u64 off, .int .i64 size] ∧ w1.drew.cell? ⟨b, 0, none⟩ = some (.pointer (some ⟨g, 0, none⟩)) := ⟨HTD.out, by rw [HRD.out.cell]; exact buV_u⟩
    refine wp_region_noPanic ?_
    refine wp_region_held (S := fun W => CsAt W w.heap.size TgT #[.int .i64 1, .int .u64 off, .int .i64 size] ∧ W.cell? ⟨b, 0, none⟩ = some (.pointer (some ⟨g, 0, none⟩))) (by kernel_rfl) ?_
    refine takeH (fuel := 11) (i := 0) (.pointer (some ⟨b, 0, none⟩)) ?_ rfl (by kernel_rfl) (by kernel_rfl) (by kernel_rfl) (fun _ _ _ h => h) (by kernel_rfl) (fun W hS => by go_simp) hs0 ?_ ?_
    rotate_left 1
    · go_simp
      exact rfl
    refine takeH (fuel := 10) (i := 1) (.pointer (some ⟨b, 0, none⟩)) ?_ rfl (by kernel_rfl) (by kernel_rfl) (by kernel_rfl) (fun _ _ _ h => h) (by kernel_rfl) (fun W hS => by go_simp) hs0 ?_ ?_
    rotate_left 1
    · go_simp
      exact rfl
    refine takeH (fuel := 9) (i := 2) (.pointer (some ⟨b, 20, none⟩)) ?_ rfl (by kernel_rfl) (by kernel_rfl) (by kernel_rfl) (fun _ _ _ h => h) (by kernel_rfl) (fun W hS => by go_simp) hs0 ?_ ?_
    rotate_left 1
    · go_simp
      exact rfl
    refine takeH (fuel := 8) (i := 3) (.pointer (some ⟨w.heap.size, 1, none⟩)) ?_ rfl (by kernel_rfl) (by kernel_rfl) (by kernel_rfl) (fun _ _ _ h => h) (by kernel_rfl) (fun W hS => by go_simp) hs0 ?_ ?_
    rotate_left 1
    · go_simp
      exact rfl
    refine takeH (fuel := 7) (i := 4) (.int .u64 off) ?_ rfl (by kernel_rfl) (by kernel_rfl) (by kernel_rfl) (fun _ _ _ h => h) (by kernel_rfl) (fun W hS => by (have q := hS.1.cell 1; simp only [List.getElem?_toArray, List.getElem?_cons_succ, List.getElem?_cons_zero] at q; go_simp)) hs0 ?_ ?_
    rotate_left 1
    · go_simp
      exact rfl
    refine takeH (fuel := 6) (i := 5) (.pointer (some ⟨w.heap.size, 2, none⟩)) ?_ rfl (by kernel_rfl) (by kernel_rfl) (by kernel_rfl) (fun _ _ _ h => h) (by kernel_rfl) (fun W hS => by go_simp) hs0 ?_ ?_
    rotate_left 1
    · go_simp
      exact rfl
    refine takeH (fuel := 5) (i := 6) (.int .i64 size) ?_ rfl (by kernel_rfl) (by kernel_rfl) (by kernel_rfl) (fun _ _ _ h => h) (by kernel_rfl) (fun W hS => by (have q := hS.1.cell 2; simp only [List.getElem?_toArray, List.getElem?_cons_succ, List.getElem?_cons_zero] at q; go_simp)) hs0 ?_ ?_
    rotate_left 1
    · go_simp
      exact rfl
    refine wpAnyH_all (fuel := 4) (rs := [7]) (by kernel_rfl) (by decide) ?_
    intro i hi
    obtain rfl : i = 7 := by simpa using hi
    refine wpOp_callX 54 #[.pointer (some ⟨b, 20, none⟩), .int .u64 off, .int .i64 size] rfl (by kernel_rfl) (by go_simp) ?_
    refine (Bp.pread_c (S := ⟨.pointer (some ⟨g, 0, none⟩), X.c, HBD.out.okc.len⟩) (some ⟨b, 20, none⟩) X.n X.p off size o0 o1 w1.drew (.inr ⟨b, rfl, ⟨HRD.out, HBD.out.okp⟩⟩)).mono ?_
    rintro e w2 ⟨rfl, hp2, ho2⟩
    have hQ := BuQ.of_p HBD.out HPD.out hp2 ho2
    have hs2 : CsAt w2 w.heap.size TgT #[.int .i64 1, .int .u64 off, .int .i64 size] ∧ w2.cell? ⟨b, 0, none⟩ = some (.pointer (some ⟨g, 0, none⟩)) := ⟨hQ.chg.cs HTD.out (fun hk => hk.elim (fun hk => by have := HBU.out.lo _ hk; omega) (fun hk => by omega)), by rw [hp2.of.row.cell]; exact buV_u⟩
    have HQ := Lib.hid (BuQ.after HB1.out hQ)
    refine ⟨_, rfl, hs2, ?_⟩
    refine takeH (fuel := 3) (i := 8) (.tuple #[.int .u64 (Pc.readV X.n X.p off size), .bool (Pc.is X.n off size)]) ?_ rfl (by kernel_rfl) (by kernel_rfl) (by kernel_rfl) (fun _ _ _ h => h) (by kernel_rfl) (fun W hS => by go_simp) hs2 ?_ ?_
    rotate_left 1
    · go_simp
      exact rfl
    refine takeH (fuel := 2) (i := 9) (.int .u64 (Pc.readV X.n X.p off size)) ?_ rfl (by kernel_rfl) (by kernel_rfl) (by kernel_rfl) (fun _ _ _ h => h) (by kernel_rfl) (fun W hS => by go_simp) hs2 ?_ ?_
    rotate_left 1
    · go_simp
      exact rfl
    refine takeH (fuel := 1) (i := 10) (.bool (Pc.is X.n off size)) ?_ rfl (by kernel_rfl) (by kernel_rfl) (by kernel_rfl) (fun _ _ _ h => h) (by kernel_rfl) (fun W hS => by go_simp) hs2 ?_ ?_
    rotate_left 1
    · go_simp
      exact rfl
    refine takeH (fuel := 0) (i := 11) (.int .u64 (Pc.readV X.n X.p off size)) ?_ rfl (by kernel_rfl) (by kernel_rfl) (by kernel_rfl) (fun _ _ _ h => h) (by kernel_rfl) (fun W hS => by go_simp) hs2 ?_ ?_
    rotate_left 1
    · go_simp
      exact rfl
    refine wpAnyH_done (by kernel_rfl) ?_ _
    refine NoPanic.normal ?_
    clear hs0 hs2 hQ
    go_wp2_with fail
    go_ret
    exact ⟨rfl, HQ.out⟩
  · try clear hd
    go_upto_region 8 with fail
    clear hWd q0 q1 q2 c0
    have hs0 : CsAt w1.drew w.heap.size TgT #[.int .i64 2, .int .u64 off, .int .i64 size] ∧ w1.drew.cell? ⟨b, 0, none⟩ = some (.pointer (some ⟨g, 0, none⟩)) := ⟨HTD.out, by rw [HRD.out.cell]; exact buV_u⟩
    refine wp_region_noPanic ?_
    refine wp_region_held (S := fun W => CsAt W w.heap.size TgT #[.int .i64 2, .int .u64 off, .int .i64 size] ∧ W.cell? ⟨b, 0, none⟩ = some (.pointer (some ⟨g, 0, none⟩))) (by kernel_rfl) ?_
    refine takeH (fuel := 11) (i := 0) (.pointer (some ⟨b, 0, none⟩)) ?_ rfl (by kernel_rfl) (by kernel_rfl) (by kernel_rfl) (fun _ _ _ h => h) (by kernel_rfl) (fun W hS => by go_simp) hs0 ?_ ?_
    rotate_left 1
    · go_simp
      exact rfl
    refine takeH (fuel := 10) (i := 1) (.pointer (some ⟨b, 0, none⟩)) ?_ rfl (by kernel_rfl) (by kernel_rfl) (by kernel_rfl) (fun _ _ _ h => h) (by kernel_rfl) (fun W hS => by go_simp) hs0 ?_ ?_
    rotate_left 1
    · go_simp
      exact rfl
    refine takeH (fuel := 9) (i := 2) (.pointer (some ⟨b, 0, none⟩)) ?_ rfl (by kernel_rfl) (by kernel_rfl) (by kernel_rfl) (fun _ _ _ h => h) (by kernel_rfl) (fun W hS => by go_simp) hs0 ?_ ?_
    rotate_left 1
    · go_simp
      exact rfl
    refine takeH (fuel := 8) (i := 3) (.pointer (some ⟨g, 0, none⟩)) ?_ rfl (by kernel_rfl) (by kernel_rfl) (by kernel_rfl) (fun _ _ _ h => h) (by kernel_rfl) (fun W hS => by (have q := hS.2; go_simp)) hs0 ?_ ?_
    rotate_left 1
    · go_simp
      exact rfl
    refine takeH (fuel := 7) (i := 4) (.pointer (some ⟨w.heap.size, 1, none⟩)) ?_ rfl (by kernel_rfl) (by kernel_rfl) (by kernel_rfl) (fun _ _ _ h => h) (by kernel_rfl) (fun W hS => by go_simp) hs0 ?_ ?_
    rotate_left 1
    · go_simp
      exact rfl
    refine takeH (fuel := 6) (i := 5) (.int .u64 off) ?_ rfl (by kernel_rfl) (by kernel_rfl) (by kernel_rfl) (fun _ _ _ h => h) (by kernel_rfl) (fun W hS => by (have q := hS.1.cell 1; simp only [List.getElem?_toArray, List.getElem?_cons_succ, List.getElem?_cons_zero] at q; go_simp)) hs0 ?_ ?_
    rotate_left 1
    · go_simp
      exact rfl
    refine wpAnyH_all (fuel := 5) (rs := [6]) (by kernel_rfl) (by decide) ?_
    intro i hi
    obtain rfl : i = 6 := by simpa using hi
    refine wpOp_callX 55 #[.pointer (some ⟨g, 0, none⟩), .int .u64 off] rfl (by kernel_rfl) (by go_simp) ?_
    refine (uread_c off o0 o1 HPD.out).mono ?_
    rintro e w2 ⟨rfl, hq2⟩
    have hQ := BuQ.of_u HBD.out HRD.out hq2
    have hs2 : CsAt w2 w.heap.size TgT #[.int .i64 2, .int .u64 off, .int .i64 size] ∧ w2.cell? ⟨b, 0, none⟩ = some (.pointer (some ⟨g, 0, none⟩)) := ⟨hQ.chg.cs HTD.out (fun hk => hk.elim (fun hk => by have := HBU.out.lo _ hk; omega) (fun hk => by omega)), by rw [(hq2.chg.cs HRD.out HBD.out.nb).cell]; exact buV_u⟩
    have HQ := Lib.hid (BuQ.after HB1.out hQ)
    have hv := Bs.readV_rng HPD.out.ok off
    have ev : IntKind.u64.wrap (Ut.readV X.u off) = Ut.readV X.u off := by rw [IntKind.wrap_u64]; omega
    have HE := Lib.hid (show Bs.readB X 2 off size = Ut.readV X.u off from rfl)
    clear hv
    generalize Ut.readV X.u off = v at *
    refine ⟨_, rfl, hs2, ?_⟩
    refine takeH (fuel := 4) (i := 7) (.tuple #[.int .u8 v, .bool (Ut.is off)]) ?_ rfl (by kernel_rfl) (by kernel_rfl) (by kernel_rfl) (fun _ _ _ h => h) (by kernel_rfl) (fun W hS => by go_simp) hs2 ?_ ?_
    rotate_left 1
    · go_simp
      exact rfl
    refine takeH (fuel := 3) (i := 8) (.int .u8 v) ?_ rfl (by kernel_rfl) (by kernel_rfl) (by kernel_rfl) (fun _ _ _ h => h) (by kernel_rfl) (fun W hS => by go_simp) hs2 ?_ ?_
    rotate_left 1
    · go_simp
      exact rfl
    refine takeH (fuel := 2) (i := 9) (.bool (Ut.is off)) ?_ rfl (by kernel_rfl) (by kernel_rfl) (by kernel_rfl) (fun _ _ _ h => h) (by kernel_rfl) (fun W hS => by go_simp) hs2 ?_ ?_
    rotate_left 1
    · go_simp
      exact rfl
    refine takeH (fuel := 1) (i := 10) (.int .u8 v) ?_ rfl (by kernel_rfl) (by kernel_rfl) (by kernel_rfl) (fun _ _ _ h => h) (by kernel_rfl) (fun W hS => by go_simp) hs2 ?_ ?_
    rotate_left 1
    · go_simp
      exact rfl
    refine takeH (fuel := 0) (i := 11) (.bool (Ut.is off)) ?_ rfl (by kernel_rfl) (by kernel_rfl) (by kernel_rfl) (fun _ _ _ h => h) (by kernel_rfl) (fun W hS => by go_simp) hs2 ?_ ?_
    rotate_left 1
    · go_simp
      exact rfl
    refine wpAnyH_done (by kernel_rfl) ?_ _
    refine NoPanic.normal ?_
    clear hs0 hs2 hQ
    go_wp2_with fail
    go_ret
    exact ⟨by rw [HE.out]; rfl, HQ.out⟩
set_option maxHeartbeats 8000000 in
theorem bwrite_c (F : Nat → Prop) (b : Nat) (X : Bs.B) (d : Nat) (hd : d < 3) (off size v : Int) (o0 : 0 ≤ off) (o1 : off ≤ 18446744073709551615) (v0 : 0 ≤ v) (v1 : v ≤ 18446744073709551615) (hn : X.u.out.length < 900) (w : World) (h : Bu F w b X) :
    Calls Tryz.prog 25 #[.pointer (some ⟨b, 0, none⟩), .agg #[.int .i64 d, .int .u64 off, .int .i64 size], .int .u64 v] w fun e w' => e = .returned (.tuple #[]) ∧ BuQ F w w' b (Bs.writeX X d off size v) := by
  obtain ⟨g, hrow, hpt⟩ := h.ex
  have hb0 : Below w.heap.size w (w.alloc (.cells #[.int .i64 d, .int .u64 off, .int .i64 size] TgT)) := (Below.refl _ _).alloc (Nat.le_refl _) _
  have hR := CsAt.new w TgT #[.int .i64 d, .int .u64 off, .int .i64 size]
  have hB := h.low hb0
  have hrow1 := hrow.low hb0
  have hpt1 := hpt.low hb0
  have HB0 := Lib.hid hb0
  have hbl := h.lt
  go_enter Tryz.func25, Tryz.ntmps25
  go_upto_region 1 with fail
  generalize w.alloc (.cells #[.int .i64 d, .int .u64 off, .int .i64 size] TgT) = w1 at *
  have q0 := hR.cell 0
  have q1 := hR.cell 1
  have q2 := hR.cell 2
  have c0 : w1.cell? ⟨b, 0, none⟩ = some (.pointer (some ⟨g, 0, none⟩)) := by rw [hrow1.cell]; exact buV_u
  simp only [List.getElem?_toArray, List.getElem?_cons_zero, List.getElem?_cons_succ] at q0 q1 q2
  have hbd : Below w1.heap.size w1 w1.drew := below_dU (Below.refl _ _) 1
  have HBD := Lib.hid (hB.low hbd)
  have HRD := Lib.hid (hrow1.low hbd)
  have HPD := Lib.hid (hpt1.low hbd)
  have HTD := Lib.hid (hR.low hbd)
  have HB1 := Lib.hid (HB0.out.trans (hbd.mono HB0.out.size))
  have HBU := Lib.hid h
  have hWd : w1.drew = w1.drew := rfl
  clear hR hrow hpt hB hrow1 hpt1 hb0 hbd HB0 h
  obtain rfl | rfl | rfl : d = 0 ∨ d = 1 ∨ d = 2 := by omega
  · try clear hd
    go_upto_region 3 with fail
    refine wp_region_steady_tail (fun W => W = w1.drew) 8 (by kernel_rfl) (by kernel_rfl) hWd ?_
    iterate 8
      refine steady_val ?_ ?_ (by rfl) (fun W hS => ?_) ?_ ?_
      rotate_left 2
      · subst hS
        go_simp
        exact rfl
      · go_simp
        exact rfl
    refine steady_nil ?_
    rintro W rfl
    simp only [List.drop_succ_cons, List.drop_zero]
    clear hWd q0 q1 q2 c0
    go_wp2_with fail
    refine (Bm.write_c (S := (.pointer (some ⟨g, 0, none⟩), X.p)) (some ⟨b, 2, none⟩) X.n X.c off o0 o1 size v v0 v1 w1.drew (.inr ⟨b, rfl, ⟨HRD.out, HBD.out.okc⟩⟩)).mono ?_
    rintro e w2 ⟨rfl, hp2, ho2⟩
    have HF := Lib.hid (BuQ.after HB1.out (BuQ.of_c HBD.out HPD.out hp2 ho2))
    clear hp2 ho2 HBU HB1 HRD HBD HPD HTD
    go_wp2_with fail
    exact bodyPost_end (v := .tuple #[]) (by simp [results, Tryz.results25, go_sem]) rfl ⟨rfl, HF.out⟩
  · try clear hd
    go_upto_region 5 with fail
    refine wp_region_steady_tail (fun W => W = w1.drew) 8 (by kernel_rfl) (by kernel_rfl) hWd ?_
    iterate 8
      refine steady_val ?_ ?_ (by rfl) (fun W hS => ?_) ?_ ?_
      rotate_left 2
      · subst hS
        go_simp
        exact rfl
      · go_simp
        exact rfl
    refine steady_nil ?_
    rintro W rfl
    simp only [List.drop_succ_cons, List.drop_zero]
    clear hWd q0 q1 q2 c0
    go_wp2_with fail
    refine (Bp.pwrite_c (S := ⟨.pointer (some ⟨g, 0, none⟩), X.c, HBD.out.okc.len⟩) (some ⟨b, 20, none⟩) X.n X.p off size o0 o1 v v0 (by omega) w1.drew (.inr ⟨b, rfl, ⟨HRD.out, HBD.out.okp⟩⟩)).mono ?_
    rintro e w2 ⟨rfl, hp2, ho2⟩
    have HF := Lib.hid (BuQ.after HB1.out (BuQ.of_p HBD.out HPD.out hp2 ho2))
    clear hp2 ho2 HBU HB1 HRD HBD HPD HTD
    go_wp2_with fail
    exact bodyPost_end (v := .tuple #[]) (by simp [results, Tryz.results25, go_sem]) rfl ⟨rfl, HF.out⟩
  · try clear hd
    have ew : IntKind.u8.wrap v = v % 256 := by rw [IntKind.wrap_u8]
    go_upto_region 7 with fail
    refine wp_region_steady_tail (fun W => W = w1.drew) 8 (by kernel_rfl) (by kernel_rfl) hWd ?_
    iterate 8
      refine steady_val ?_ ?_ (by rfl) (fun W hS => ?_) ?_ ?_
      rotate_left 2
      · subst hS
        go_simp
        exact rfl
      · go_simp
        exact rfl
    refine steady_nil ?_
    rintro W rfl
    simp only [List.drop_succ_cons, List.drop_zero]
    clear hWd q0 q1 q2 c0
    go_wp2_with fail
    refine (uwrite_c off (v % 256) o0 o1 ⟨by omega, by omega⟩ hn HPD.out).mono ?_
    rintro e w2 ⟨rfl, hq2⟩
    have HF := Lib.hid (BuQ.after HB1.out (BuQ.of_u HBD.out HRD.out hq2))
    clear hq2 HBU HB1 HRD HBD HPD HTD
    go_wp2_with fail
    exact bodyPost_end (v := .tuple #[]) (by simp [results, Tryz.results25, go_sem]) rfl ⟨rfl, HF.out⟩
end Go.Proofs.YtfjdalepaacmgaaGreat
set_option maxRecDepth 20000
namespace Go.Proofs.YtfjdalepaacmgaaGreat
open Go.ChangeShapes Go.WideShapes Go.ChangeAt Go.RowKit

abbrev LnT : TypeId := 122
namespace Bs
def lineP (X : B) (c : Int) : Bool := Pc.lineP X.n X.p c
def acc (X : B) (h : Int) (j : Nat) : Int := Ct.lineC X.n X.c h + (if 0 < j ∧ lineP X (2 * h) = true then 2048 else 0) + (if 1 < j ∧ lineP X (2 * h + 1) = true then 512 else 0)
def lineB (X : B) (h : Int) : Int := if hasB X.n h = true then acc X h 2 else 0
theorem lineC_of (n : Nat) (ws : List Int) (h : Int) : Ct.lineC n ws h = 0 ∨ Ct.lineC n ws h = 8 ∨ Ct.lineC n ws h = 128 ∨ Ct.lineC n ws h = 136 := by
  unfold Ct.lineC
  repeat' split
  all_goals omega
theorem or_11 {x : Int} (h : x = 0 ∨ x = 8 ∨ x = 128 ∨ x = 136) : Go.bits .or .u64 x 2048 = x + 2048 := by
  rcases h with rfl | rfl | rfl | rfl <;> decide
theorem or_9 {x : Int} (h : x = 0 ∨ x = 8 ∨ x = 128 ∨ x = 136 ∨ x = 2048 ∨ x = 2056 ∨ x = 2176 ∨ x = 2184) : Go.bits .or .u64 x 512 = x + 512 := by
  rcases h with rfl | rfl | rfl | rfl | rfl | rfl | rfl | rfl <;> decide
end Bs
def ln2 : Array Value := #[.int .i64 11, .int .i64 9]
theorem lx_0 (W : World) : (Instr.index LnT (.agg ln2) (.int .i64 0)).run Tryz.prog W = .ok (.int .i64 11) W := by kernel_rfl
theorem lx_1 (W : World) : (Instr.index LnT (.agg ln2) (.int .i64 1)).run Tryz.prog W = .ok (.int .i64 9) W := by kernel_rfl
set_option maxHeartbeats 8000000 in
theorem blines_c (F : Nat → Prop) (b : Nat) (X : Bs.B) (h : Int) (w : World) (hb : Bu F w b X) :
    Calls Tryz.prog 18 #[.pointer (some ⟨b, 0, none⟩), .int .i64 h] w fun e w' => e = .returned (.int .u64 (Bs.lineB X h)) ∧ Below w.heap.size w w' := by
  obtain ⟨g, hrow, -⟩ := hb.ex
  have hn8 := hb.okc.n8
  have HROW := Lib.hid (fun (W : World) (hl : Below w.heap.size w W) => hrow.low hl)
  have HH := Lib.hid (has_c X.n b h w hb.n1)
  have HOC := Lib.hid hb.okc
  have HOP := Lib.hid hb.okp
  clear hrow hb
  cases hh : Bs.hasB X.n h with
  | false =>
    have HE := Lib.hid (show Bs.lineB X h = 0 by unfold Bs.lineB; rw [hh]; rfl)
    rw [hh] at HH
    rw [HE.out]
    clear hh
    go_enter Tryz.func18, Tryz.ntmps18
    go_wp2_with fail
    refine HH.out.mono ?_
    rintro e w1 ⟨rfl, rfl⟩
    go_wp2_with fail
    go_ret
    exact ⟨rfl, Below.refl _ _⟩
  | true =>
    have HE := Lib.hid (show Bs.lineB X h = Bs.acc X h 2 by unfold Bs.lineB; rw [hh]; rfl)
    rw [hh] at HH
    rw [HE.out]
    have hr : 0 ≤ h ∧ h < X.n := by unfold Bs.hasB at hh; simpa using hh
    obtain ⟨k, rfl⟩ := Int.eq_ofNat_of_zero_le hr.1
    have hk : k < X.n := by omega
    have gk : (k : Int) < 8 := by omega
    clear hh hr HE
    go_enter Tryz.func18, Tryz.ntmps18
    go_wp2_with fail
    refine HH.out.mono ?_
    rintro e w1 ⟨rfl, rfl⟩
    go_wp2_with fail
    refine (Bm.lines_c (S := (.pointer (some ⟨g, 0, none⟩), X.p)) (some ⟨b, 2, none⟩) X.n X.c k (by omega) (by omega) w1 (.inr ⟨b, rfl, ⟨HROW.out w1 (Below.refl _ _), HOC.out⟩⟩)).mono ?_
    rintro e w2 ⟨rfl, hb2⟩
    have HB2 := Lib.hid hb2
    clear hb2 HH
    go_upto_region 5 with fail
    rw [show (#[Value.int IntKind.i64 11, Value.int IntKind.i64 9] : Array Value) = ln2 from rfl]
    go_loopw [5, 18] (fun lv i wr => ∃ j : Nat, j ≤ 2 ∧ i = .int .i64 j ∧ lv = .int .u64 (Bs.acc X k j) ∧ Below w1.heap.size w1 wr) (fun _ i _ => 2 - (intOf i).toNat)
    case atStart => exact ⟨0, by omega, rfl, by simp [Bs.acc], HB2.out⟩
    case round =>
      obtain ⟨j, hj, rfl, rfl, hb⟩ := hrel
      have HB := Lib.hid hb
      clear hb HB2
      have h3 : j = 0 ∨ j = 1 ∨ j = 2 := by omega
      rcases h3 with rfl | rfl | rfl
      · have ix := lx_0
        have HL := Lib.hid (Bp.pline_c (S := ⟨.pointer (some ⟨g, 0, none⟩), X.c, HOC.out.len⟩) (some ⟨b, 20, none⟩) X.n X.p (2 * (k : Int)) (by omega) (by omega) wr (.inr ⟨b, rfl, ⟨HROW.out wr HB.out, HOP.out⟩⟩))
        obtain ⟨l, hl⟩ : ∃ l, Pc.lineP X.n X.p (2 * (k : Int)) = l := ⟨_, rfl⟩
        rw [hl] at HL
        have hx0 := Bs.lineC_of X.n X.c (k : Int)
        have HA := Lib.hid (show Bs.acc X k (0 + 1) = Bs.acc X k 0 + (if l = true then 2048 else 0) by unfold Bs.acc Bs.lineP; rw [← hl]; simp)
        have hx : Bs.acc X k 0 = 0 ∨ Bs.acc X k 0 = 8 ∨ Bs.acc X k 0 = 128 ∨ Bs.acc X k 0 = 136 := by unfold Bs.acc; simp; omega
        clear hl hx0
        generalize Bs.acc X k 0 = x at *
        go_wp2_with fail
        refine HL.out.mono ?_
        rintro e w3 ⟨rfl, hb3⟩
        have HB3 := Lib.hid (HB.out.trans (hb3.mono HB.out.size))
        clear hb3 HB HL ix
        cases l with
        | false =>
          go_wp2_with fail
          go_roundw
          case rel => exact ⟨0 + 1, by omega, rfl, by rw [HA.out]; simp, HB3.out⟩
          case measure => simp [intOf]
        | true =>
          go_wp2_with fail
          go_roundw
          case rel => exact ⟨0 + 1, by omega, rfl, by rw [HA.out, if_pos trivial, Bs.or_11 hx], HB3.out⟩
          case measure => simp [intOf]
      · have ix := lx_1
        have HL := Lib.hid (Bp.pline_c (S := ⟨.pointer (some ⟨g, 0, none⟩), X.c, HOC.out.len⟩) (some ⟨b, 20, none⟩) X.n X.p (2 * (k : Int) + 1) (by omega) (by omega) wr (.inr ⟨b, rfl, ⟨HROW.out wr HB.out, HOP.out⟩⟩))
        obtain ⟨l, hl⟩ : ∃ l, Pc.lineP X.n X.p (2 * (k : Int) + 1) = l := ⟨_, rfl⟩
        rw [hl] at HL
        have hx0 := Bs.lineC_of X.n X.c (k : Int)
        have HA := Lib.hid (show Bs.acc X k (1 + 1) = Bs.acc X k 1 + (if l = true then 512 else 0) by unfold Bs.acc Bs.lineP; rw [← hl]; simp)
        have hx : Bs.acc X k 1 = 0 ∨ Bs.acc X k 1 = 8 ∨ Bs.acc X k 1 = 128 ∨ Bs.acc X k 1 = 136 ∨ Bs.acc X k 1 = 2048 ∨ Bs.acc X k 1 = 2056 ∨ Bs.acc X k 1 = 2176 ∨ Bs.acc X k 1 = 2184 := by unfold Bs.acc; simp only [Nat.lt_irrefl, false_and, if_false, Nat.zero_lt_one, true_and]; split <;> omega
        clear hl hx0
        generalize Bs.acc X k 1 = x at *
        go_wp2_with fail
        refine HL.out.mono ?_
        rintro e w3 ⟨rfl, hb3⟩
        have HB3 := Lib.hid (HB.out.trans (hb3.mono HB.out.size))
        clear hb3 HB HL ix
        cases l with
        | false =>
          go_wp2_with fail
          go_roundw
          case rel => exact ⟨1 + 1, by omega, rfl, by rw [HA.out]; simp, HB3.out⟩
          case measure => simp [intOf]
        | true =>
          go_wp2_with fail
          go_roundw
          case rel => exact ⟨1 + 1, by omega, rfl, by rw [HA.out, if_pos trivial, Bs.or_9 hx], HB3.out⟩
          case measure => simp [intOf]
      · go_wp2_with fail
        go_ret
        exact ⟨rfl, HB.out⟩
/-- A new bus. -/
def Bs.new (n : Nat) : Bs.B := ⟨n, Ct.newW n, Pc.zeros, Ut.zero⟩
theorem built_bu (n g : Nat) (h : 1 ≤ n ∧ n ≤ 8) : Tryz.prog.built BuT [(0, .pointer (some ⟨g, 0, none⟩)), (1, .int .i64 n), (2, .agg (ctV n (Ct.newW n))), (3, .agg (ctV n Pc.zeros))] = some (buV (.pointer (some ⟨g, 0, none⟩)) n (Ct.newW n) Pc.zeros) := by
  obtain rfl | rfl | rfl | rfl | rfl | rfl | rfl | rfl : n = 1 ∨ n = 2 ∨ n = 3 ∨ n = 4 ∨ n = 5 ∨ n = 6 ∨ n = 7 ∨ n = 8 := by omega
  all_goals kernel_rfl
set_option maxHeartbeats 8000000 in
theorem bnew_c (h : Int) (w : World) :
    Calls Tryz.prog 4 #[.int .i64 h] w fun e w' => Below w.heap.size w w' ∧ (Bs.okH h = false ∧ e = .returned (.tuple #[.pointer none, .int .i64 1]) ∨ Bs.okH h = true ∧ ∃ F b, e = .returned (.tuple #[.pointer (some ⟨b, 0, none⟩), .int .i64 0]) ∧ Bu F w' b (Bs.new h.toNat) ∧ (∀ k, F k → w.heap.size ≤ k) ∧ w.heap.size ≤ b) := by
  cases hh : Bs.okH h with
  | false =>
    go_enter Tryz.func4, Tryz.ntmps4
    go_wp2_with fail
    refine (right_c h w).mono ?_
    rintro e w1 ⟨rfl, rfl⟩
    rw [hh]
    go_wp2_with fail
    go_ret2
    exact ⟨Below.refl _ _, .inl ⟨trivial, rfl⟩⟩
  | true =>
    have hr : 1 ≤ h ∧ h ≤ 8 := by unfold Bs.okH at hh; simpa using hh
    obtain ⟨n, rfl⟩ := Int.eq_ofNat_of_zero_le (by omega : 0 ≤ h)
    have hn : 1 ≤ n ∧ n ≤ 8 := by omega
    have HE := Lib.hid (show Ct.cnt (n : Int) = n by unfold Ct.cnt; rw [if_pos (by omega)]; omega)
    have HN := Lib.hid hn
    have HBT := Lib.hid (fun g => built_bu n g hn)
    clear hr hn
    go_enter Tryz.func4, Tryz.ntmps4
    go_wp2_with fail
    refine (right_c n w).mono ?_
    rintro e w1 ⟨rfl, rfl⟩
    rw [hh]
    clear hh
    go_wp2_with fail
    refine (unew_c w1).mono ?_
    rintro e w2 ⟨rfl, hw2⟩
    have HP2 := Lib.hid (show PtS (fun k => k = w1.heap.size) w2 w1.heap.size Ut.zero (.slice none 0 0) (.slice none 0 0) by rw [hw2]; exact PtS.new w1)
    have HB2 := Lib.hid (show Below w1.heap.size w1 w2 by rw [hw2]; exact (Below.refl _ _).alloc (Nat.le_refl _) _)
    clear hw2
    go_wp2_with fail
    refine (new15_c n w2).mono ?_
    rintro e w3 ⟨rfl, hb3⟩
    rw [HE.out]
    have HB3 := Lib.hid (HB2.out.trans (hb3.mono HB2.out.size))
    have HP3 := Lib.hid (HP2.out.p.low hb3)
    clear hb3 HB2 HP2
    go_wp2_with fail
    refine (pnew_c n w3).mono ?_
    rintro e w4 ⟨rfl, hb4⟩
    rw [HE.out]
    have HB4 := Lib.hid (HB3.out.trans (hb4.mono HB3.out.size))
    have HP4 := Lib.hid (HP3.out.low hb4)
    clear hb4 HB3 HP3
    go_wp2_with (refine wpList_buildTo rfl BuT _ rfl _ rfl (buV (.pointer (some ⟨w1.heap.size, 0, none⟩)) n (Ct.newW n) Pc.zeros) ((congrArg (Tryz.prog.built BuT) (show _ = [(0, Value.pointer (some ⟨w1.heap.size, 0, none⟩)), (1, Value.int .i64 n), (2, Value.agg (ctV n (Ct.newW n))), (3, Value.agg (ctV n Pc.zeros))] by kernel_rfl)).trans (HBT.out w1.heap.size)) ?_)
    go_ret2
    have hb5 : Below w4.heap.size w4 (w4.alloc (.cells (buV (.pointer (some ⟨w1.heap.size, 0, none⟩)) n (Ct.newW n) Pc.zeros) BuT)) := (Below.refl _ _).alloc (Nat.le_refl _) _
    have hlt := HP4.out.lt _ rfl
    refine ⟨HB4.out.trans (hb5.mono HB4.out.size), .inr ⟨trivial, fun k => k = w1.heap.size, w4.heap.size, rfl, ⟨⟨w1.heap.size, CsAt.new _ _ _, HP4.out.low hb5⟩, fun h => by omega, ?_, ?_⟩, fun k hk => by omega, HB4.out.size⟩⟩
    · exact Ct.newW_ok _ (by have := HN.out; simp only [Bs.new, Int.toNat_natCast]; omega) (by have := HN.out; simp only [Int.toNat_natCast]; omega)
    · exact Pc.zeros_ok (by have := HN.out; simp only [Bs.new, Int.toNat_natCast]; omega)
end Go.Proofs.YtfjdalepaacmgaaGreat
