/-
  Contracts of uart.Clone, Same.
-/
import Derived.Test.YtkknfhbaldeigaaUtH
import Derived.Test.YtkknfhbaldeigaaEqf
set_option maxRecDepth 20000
namespace Go.Proofs.Ytkknfhbaldeigaa
open Go.ChangeShapes Go.WideShapes Go.ChangeAt Go.RowKit

theorem exec_midU {P : Program} {o : Oper} {a : Act} {w : World} (ty : TypeId) (x : Operand) (ho : o.op = .load ty x) (b off : Nat) (hx : a.eval x = .pointer (some ⟨b, off, none⟩)) (cs : Array Value) (d : TypeDesc) (hg : w.rangeAt b off cs.toList)
    (hu : P.underlying ty = some d) (hd : d.isRow = true) (hi : (P.info? ty).map (·.size) = some cs.size) : (execOp a.eval o).run P w = .ok (.value (.agg cs)) w := by
  unfold execOp
  simp only [ho, hx, Instr.loadAt, Instr.sureAddr, Sem.run_bind, Sem.run_pure, Result.andThen_ok, run_loadVar_mid w b off ty cs.toList d hg hu hd (by simpa using hi)]
theorem wpOp_boxU {P : Program} {ops : Array Oper} {Q : Exit → Act → World → Prop} {i : Nat} {o : Oper} {a : Act} {w : World} {K : Act → World → Prop} (hi : ops[i]? = some o) (hw : Region.wanted o (yielded ops a.tmps) = true) (t : TypeId) (x : Operand) (ho : o.op = .box t x)
    (cells : Array Value) (hx : (a.eval x).cells = cells) (h : K (a.put o.dst (.pointer (some ⟨w.heap.size, 0, none⟩))) (w.alloc (.cells cells t))) : Go.wpOp P ops Q i K a w := by
  subst hx
  refine wpOp_wpX hi hw ?_
  unfold Oper.wp execOp
  simp only [ho, Sem.run_bind, Instr.box, newVar, newRow, run_newObj_alloc, Sem.run_pure, Result.andThen_ok]
  exact h
/-- The port's copy: two slices of its own, in a block of its own. -/
theorem PtS.cloned {w w1 : World} {s : Ut.S} {v1 v2 : Value} {N : Nat} (hN : w.heap.size = N) (ok : Ut.Ok s) (h1 : w1.ownsRow N U8 1 v1 s.q.length (u8V s.q)) (h2 : w1.ownsRow N U8 1 v2 s.out.length (u8V s.out)) (hb : Below w.heap.size w w1)
    (hne : ∀ k, v1.ownBlock = some k → v2.ownBlock ≠ some k) :
    PtS (fun k => N ≤ k ∧ k < (w1.alloc (.cells (ptV s v1 v2) PoT)).heap.size) (w1.alloc (.cells (ptV s v1 v2) PoT)) w1.heap.size s v1 v2 := by
  have hs : (w1.alloc (.cells (ptV s v1 v2) PoT)).heap.size = w1.heap.size + 1 := by simp
  refine ⟨CsAt.new _ _ _, own_mono (h1.alloc _) (Nat.zero_le _), own_mono (h2.alloc _) (Nat.zero_le _), ⟨by have := hb.size; omega, by omega⟩, fun k hk => ?_, fun k hk => ?_, hne, fun k hk => hk.2, ok⟩
  · have := h1.lt k hk
    exact ⟨⟨this.1, by omega⟩, by omega⟩
  · have := h2.lt k hk
    exact ⟨⟨this.1, by omega⟩, by omega⟩
set_option maxHeartbeats 8000000 in
theorem uclone_c {F : Nat → Prop} {w : World} {b : Nat} {s : Ut.S} (hn : s.out.length ≤ 900) (h : Pt F w b s) :
    Calls Try.prog 37 #[.pointer (some ⟨b, 0, none⟩)] w fun e w' => ∃ c, e = .returned (.pointer (some ⟨c, 0, none⟩)) ∧ Pt (fun k => w.heap.size ≤ k ∧ k < w'.heap.size) w' c s ∧ Below w.heap.size w w' := by
  obtain ⟨qv, sv, hp⟩ := h
  have HO := Lib.hid hp.ok
  have hp0 : PtS F w.drew b s qv sv := hp.low (Below.refl _ _).drew
  have HN := Lib.hid hn
  clear hp hn
  go_enter Try.func37, Try.ntmps37
  go_upto_region 3 with fail
  refine wp_region_noPanic ?_
  refine wp_region_held (S := fun W => PtS F W b s qv sv) (by kernel_rfl) ?_
  refine takeH (fuel := 10) (i := 0) (.pointer (some ⟨b, 0, none⟩)) ?_ rfl (by kernel_rfl) (by kernel_rfl) (by kernel_rfl) (fun _ _ _ h => h) (by kernel_rfl) (fun W hS => by go_simp) hp0 ?_ ?_
  rotate_left 1
  · go_simp
    exact rfl
  refine takeH (fuel := 9) (i := 1) (.pointer (some ⟨b, 0, none⟩)) ?_ rfl (by kernel_rfl) (by kernel_rfl) (by kernel_rfl) (fun _ _ _ h => h) (by kernel_rfl) (fun W hS => by go_simp) hp0 ?_ ?_
  rotate_left 1
  · go_simp
    exact rfl
  refine takeH (fuel := 8) (i := 2) (.pointer (some ⟨b, 0, none⟩)) ?_ rfl (by kernel_rfl) (by kernel_rfl) (by kernel_rfl) (fun _ _ _ h => h) (by kernel_rfl) (fun W hS => by go_simp) hp0 ?_ ?_
  rotate_left 1
  · go_simp
    exact rfl
  refine takeH (fuel := 7) (i := 3) (.agg (stV s)) ?_ rfl (by kernel_rfl) (by kernel_rfl) (by kernel_rfl) (fun _ _ _ h => h) (by kernel_rfl) (fun W hS => exec_midU StT _ rfl b 0 rfl _ _ hS.st Try.underlying131 rfl info_StT) hp0 ?_ ?_
  rotate_left 1
  · go_simp
    exact rfl
  refine takeH (fuel := 6) (i := 4) (.pointer (some ⟨b, 0, none⟩)) ?_ rfl (by kernel_rfl) (by kernel_rfl) (by kernel_rfl) (fun _ _ _ h => h) (by kernel_rfl) (fun W hS => by go_simp) hp0 ?_ ?_
  rotate_left 1
  · go_simp
    exact rfl
  refine takeH (fuel := 5) (i := 6) (.pointer (some ⟨b, 0, none⟩)) ?_ rfl (by kernel_rfl) (by kernel_rfl) (by kernel_rfl) (fun _ _ _ h => h) (by kernel_rfl) (fun W hS => by go_simp) hp0 ?_ ?_
  rotate_left 1
  · go_simp
    exact rfl
  refine wpAnyH_all (fuel := 4) (rs := [5]) (by kernel_rfl) (by decide) ?_
  intro i hi
  obtain rfl : i = 5 := by simpa using hi
  refine wpOp_callX 36 #[.pointer (some ⟨b, 0, none⟩)] rfl (by kernel_rfl) (by go_simp) ?_
  refine (uwaiting_c hp0.p).mono ?_
  rintro e w2 ⟨v1, rfl, ho1, hb1⟩
  have hp2 : PtS F w2 b s qv sv := hp0.low hb1
  refine ⟨_, rfl, hp2, ?_⟩
  refine wpAnyH_all (fuel := 3) (rs := [7]) (by kernel_rfl) (by decide) ?_
  intro i hi
  obtain rfl : i = 7 := by simpa using hi
  refine wpOp_callX 35 #[.pointer (some ⟨b, 0, none⟩)] rfl (by kernel_rfl) (by go_simp) ?_
  refine (uout_c HN.out hp2.p).mono ?_
  rintro e w3 ⟨v2, rfl, ho2, hb2⟩
  have hp3 : PtS F w3 b s qv sv := hp2.low hb2
  refine ⟨_, rfl, hp3, ?_⟩
  have hb3 : Below w.heap.size w w3 := (Below.refl w.heap.size w).drew.trans (hb1.trans (hb2.mono hb1.size))
  have ho3 := own_low ho1 hb2
  have hle : w.heap.size ≤ w2.heap.size := hb1.size
  have hne : ∀ k, v1.ownBlock = some k → v2.ownBlock ≠ some k := fun k h1 h2 => by have := (ho1.lt k h1).2; have := (ho2.lt k h2).1; omega
  have HC := Lib.hid (PtS.cloned (w := w) rfl HO.out ho3 (own_mono ho2 hle) hb3 hne)
  have HB := Lib.hid (hb3.alloc hb3.size (.cells (ptV s v1 v2) PoT))
  obtain ⟨p1, c1, rfl, -⟩ := own_form ho1
  obtain ⟨p2, c2, rfl, -⟩ := own_form ho2
  refine takeH (fuel := 2) (i := 8) (.agg (ptV s (.slice p1 s.q.length c1) (.slice p2 s.out.length c2))) ?_ rfl (by kernel_rfl) (by kernel_rfl) (by kernel_rfl) (fun _ _ _ h => h) (by kernel_rfl) (fun W hS => by kernel_rfl) hp3 ?_ ?_
  rotate_left 1
  · go_simp
    exact rfl
  refine wpAnyH_all (fuel := 1) (rs := [9]) (by kernel_rfl) (by decide) ?_
  intro i hi
  obtain rfl : i = 9 := by simpa using hi
  refine wpOp_boxU rfl (by kernel_rfl) PoT _ rfl (ptV s (.slice p1 s.q.length c1) (.slice p2 s.out.length c2)) rfl ?_
  have hp4 : PtS F (w3.alloc (.cells (ptV s (.slice p1 s.q.length c1) (.slice p2 s.out.length c2)) PoT)) b s qv sv := hp3.low ((Below.refl _ _).alloc (Nat.le_refl _) _)
  refine ⟨hp4, ?_⟩
  refine takeH (fuel := 0) (i := 10) (.pointer (some ⟨w3.heap.size, 0, none⟩)) ?_ rfl (by kernel_rfl) (by kernel_rfl) (by kernel_rfl) (fun _ _ _ h => h) (by kernel_rfl) (fun W hS => by go_simp) hp4 ?_ ?_
  rotate_left 1
  · go_simp
    exact rfl
  refine wpAnyH_done (by kernel_rfl) ?_ _
  refine NoPanic.normal ?_
  clear hp4 hp3 hp2 hp0 ho1 ho2 ho3 hb1 hb2 hb3 hne
  go_wp2_with fail
  go_ret
  exact ⟨_, rfl, HC.out.p, HB.out⟩

/-! Same. -/
def stE (s t : Ut.S) : Bool := Eqf.eqL (stV s).toList (stV t).toList
def sameU (s t : Ut.S) : Bool := stE s t && eqB s.q t.q && eqB s.out t.out
theorem wf_u8 {n : Int} (h : 0 ≤ n) (h1 : n < 256) : (Lit.int .u8 n).wf = true := by
  exact WalkArith.wf_u8 ⟨h, by omega⟩
theorem okL_st {s : Ut.S} (h : Ut.Ok s) : Eqf.okL [some .u8, some .u8, some .u8, some .u8, some .u8, some .u8, none, none, none] (stV s).toList = true := by
  have h1 := h.ier
  have h2 := h.mcr
  simp only [stV, Eqf.okL, Eqf.okV, wf_u8 h1.1 (by omega : s.ier < 256), wf_u8 h.lcr.1 h.lcr.2, wf_u8 h2.1 (by omega : s.mcr < 256), wf_u8 h.scr.1 h.scr.2, wf_u8 h.dll.1 h.dll.2, wf_u8 h.dlm.1 h.dlm.2]
  rfl
theorem eql_st {s t : Ut.S} (hs : Ut.Ok s) (ht : Ut.Ok t) (w : World) : (binOp .eql StT (.agg (stV s)) (.agg (stV t))).run Try.prog w = .ok (.bool (stE s t)) w :=
  Eqf.beql w 4 (by omega) StT [some .u8, some .u8, some .u8, some .u8, some .u8, some .u8, none, none, none] (by kernel_rfl) (by kernel_rfl) _ _ (by kernel_rfl) (by kernel_rfl) (okL_st hs) (okL_st ht)
theorem guard_st : Try.prog.eqGuardType Try.prog.depth StT = false := by kernel_rfl
theorem skipU {P : Program} {ops : Array Oper} {S : World → Prop} {md : Region.Mode} {Q : Exit → Act → World → Prop} {i : Nat} {oi : Oper} {fuel : Nat} {listed : Array Bool} {a : Act} {w : World} (b : Act) (hi : ops[i]? = some oi) (hs : Region.noSelect ops = true) (hf : Region.free md ops listed i = true) (hr : (Region.ready md ops listed).contains i = true)
    (hQ : ∀ c a w, Q (.panic c) (a.put oi.dst undef) w → Q (.panic c) a w) (hw : Region.wanted oi (yielded ops a.tmps) = false) (hS : S w) (hb : a.put oi.dst undef = b)
    (h : wpAnyH P md ops Q S fuel (listed.setIfInBounds i true) b w) : wpAnyH P md ops Q S (fuel + 1) listed a w :=
  wpAnyH_take hi hs hf hr hQ (Or.inr ⟨hw, rfl⟩) hS (hb ▸ h)
set_option maxHeartbeats 16000000 in
theorem usame_c {F G : Nat → Prop} {w : World} {b c : Nat} {s t : Ut.S} (hp : Pt F w b s) (hq : Pt G w c t) (ns : s.out.length ≤ 900) :
    Calls Try.prog 38 #[.pointer (some ⟨b, 0, none⟩), .pointer (some ⟨c, 0, none⟩)] w fun e w' => e = .returned (.bool (sameU s t)) ∧ Below w.heap.size w w' := by
  obtain ⟨qv, sv, hp⟩ := hp
  obtain ⟨rv, tv, hq⟩ := hq
  have nq := hp.ok.qn
  have nr := hq.ok.qn
  obtain ⟨p1, c1, rfl, -⟩ := own_form hp.q
  obtain ⟨p2, c2, rfl, -⟩ := own_form hp.o
  obtain ⟨p3, c3, rfl, -⟩ := own_form hq.q
  obtain ⟨p4, c4, rfl, -⟩ := own_form hq.o
  have hs0 : PtS F w.drew b s _ _ ∧ PtS G w.drew c t _ _ := ⟨hp.low (Below.refl _ _).drew, hq.low (Below.refl _ _).drew⟩
  have HE := Lib.hid (eql_st hp.ok hq.ok)
  have HU := Lib.hid (show sameU s t = (stE s t && eqB s.q t.q && eqB s.out t.out) from rfl)
  generalize sameU s t = res at *
  generalize stE s t = E at *
  have HQ := Lib.hid (fun W (h : PtS F W b s (.slice p1 s.q.length c1) (.slice p2 s.out.length c2)) (g : PtS G W c t (.slice p3 t.q.length c3) (.slice p4 t.out.length c4)) => bequal_c _ _ s.q t.q W (own_vwB h.q) (own_vwB g.q) (by omega))
  have HO := Lib.hid (fun W (h : PtS F W b s (.slice p1 s.q.length c1) (.slice p2 s.out.length c2)) (g : PtS G W c t (.slice p3 t.q.length c3) (.slice p4 t.out.length c4)) => bequal_c _ _ s.out t.out W (own_vwB h.o) (own_vwB g.o) (by omega))
  generalize eqB s.q t.q = r1 at *
  generalize eqB s.out t.out = r2 at *
  clear hp hq
  go_enter Try.func38, Try.ntmps38
  go_upto_region 3 with fail
  refine wp_region_noPanic ?_
  refine wp_region_held (S := fun W => PtS F W b s (.slice p1 s.q.length c1) (.slice p2 s.out.length c2) ∧ PtS G W c t (.slice p3 t.q.length c3) (.slice p4 t.out.length c4)) (by kernel_rfl) ?_
  refine takeH (fuel := 31) (i := 0) (.pointer (some ⟨b, 0, none⟩)) ?_ rfl (by kernel_rfl) (by kernel_rfl) (by kernel_rfl) (fun _ _ _ h => h) (by kernel_rfl) (fun W hS => by go_simp) hs0 ?_ ?_
  rotate_left 1
  · go_simp
    exact rfl
  refine takeH (fuel := 30) (i := 1) (.pointer (some ⟨b, 0, none⟩)) ?_ rfl (by kernel_rfl) (by kernel_rfl) (by kernel_rfl) (fun _ _ _ h => h) (by kernel_rfl) (fun W hS => by go_simp) hs0 ?_ ?_
  rotate_left 1
  · go_simp
    exact rfl
  refine takeH (fuel := 29) (i := 2) (.pointer (some ⟨b, 0, none⟩)) ?_ rfl (by kernel_rfl) (by kernel_rfl) (by kernel_rfl) (fun _ _ _ h => h) (by kernel_rfl) (fun W hS => by go_simp) hs0 ?_ ?_
  rotate_left 1
  · go_simp
    exact rfl
  refine takeH (fuel := 28) (i := 3) (.agg (stV s)) ?_ rfl (by kernel_rfl) (by kernel_rfl) (by kernel_rfl) (fun _ _ _ h => h) (by kernel_rfl) (fun W hS => exec_midU StT _ rfl b 0 rfl _ _ hS.1.st Try.underlying131 rfl info_StT) hs0 ?_ ?_
  rotate_left 1
  · go_simp
    exact rfl
  refine takeH (fuel := 27) (i := 4) (.pointer (some ⟨c, 0, none⟩)) ?_ rfl (by kernel_rfl) (by kernel_rfl) (by kernel_rfl) (fun _ _ _ h => h) (by kernel_rfl) (fun W hS => by go_simp) hs0 ?_ ?_
  rotate_left 1
  · go_simp
    exact rfl
  refine takeH (fuel := 26) (i := 5) (.pointer (some ⟨c, 0, none⟩)) ?_ rfl (by kernel_rfl) (by kernel_rfl) (by kernel_rfl) (fun _ _ _ h => h) (by kernel_rfl) (fun W hS => by go_simp) hs0 ?_ ?_
  rotate_left 1
  · go_simp
    exact rfl
  refine takeH (fuel := 25) (i := 6) (.pointer (some ⟨c, 0, none⟩)) ?_ rfl (by kernel_rfl) (by kernel_rfl) (by kernel_rfl) (fun _ _ _ h => h) (by kernel_rfl) (fun W hS => by go_simp) hs0 ?_ ?_
  rotate_left 1
  · go_simp
    exact rfl
  refine takeH (fuel := 24) (i := 7) (.agg (stV t)) ?_ rfl (by kernel_rfl) (by kernel_rfl) (by kernel_rfl) (fun _ _ _ h => h) (by kernel_rfl) (fun W hS => exec_midU StT _ rfl c 0 rfl _ _ hS.2.st Try.underlying131 rfl info_StT) hs0 ?_ ?_
  rotate_left 1
  · go_simp
    exact rfl
  refine takeH (fuel := 23) (i := 8) (.bool E) ?_ rfl (by kernel_rfl) (by kernel_rfl) (by kernel_rfl) (fun _ _ _ h => h) (by kernel_rfl) (fun W hS => exec_cmp .eql StT _ _ _ rfl _ _ rfl rfl guard_st _ (HE.out W)) hs0 ?_ ?_
  rotate_left 1
  · go_simp
    exact rfl
  refine takeH (fuel := 22) (i := 9) (.bool E) ?_ rfl (by kernel_rfl) (by kernel_rfl) (by kernel_rfl) (fun _ _ _ h => h) (by kernel_rfl) (fun W hS => by go_simp) hs0 ?_ ?_
  rotate_left 1
  · go_simp
    exact rfl
  cases E with
  | false =>
    refine skipU (S := fun W => PtS F W b s (.slice p1 s.q.length c1) (.slice p2 s.out.length c2) ∧ PtS G W c t (.slice p3 t.q.length c3) (.slice p4 t.out.length c4)) (fuel := 21) (i := 10) ?_ rfl (by kernel_rfl) (by kernel_rfl) (by kernel_rfl) (fun _ _ _ h => h) (by kernel_rfl) hs0 ?_ ?_
    rotate_left 1
    · go_simp
      exact rfl
    refine skipU (S := fun W => PtS F W b s (.slice p1 s.q.length c1) (.slice p2 s.out.length c2) ∧ PtS G W c t (.slice p3 t.q.length c3) (.slice p4 t.out.length c4)) (fuel := 20) (i := 11) ?_ rfl (by kernel_rfl) (by kernel_rfl) (by kernel_rfl) (fun _ _ _ h => h) (by kernel_rfl) hs0 ?_ ?_
    rotate_left 1
    · go_simp
      exact rfl
    refine skipU (S := fun W => PtS F W b s (.slice p1 s.q.length c1) (.slice p2 s.out.length c2) ∧ PtS G W c t (.slice p3 t.q.length c3) (.slice p4 t.out.length c4)) (fuel := 19) (i := 12) ?_ rfl (by kernel_rfl) (by kernel_rfl) (by kernel_rfl) (fun _ _ _ h => h) (by kernel_rfl) hs0 ?_ ?_
    rotate_left 1
    · go_simp
      exact rfl
    refine skipU (S := fun W => PtS F W b s (.slice p1 s.q.length c1) (.slice p2 s.out.length c2) ∧ PtS G W c t (.slice p3 t.q.length c3) (.slice p4 t.out.length c4)) (fuel := 18) (i := 13) ?_ rfl (by kernel_rfl) (by kernel_rfl) (by kernel_rfl) (fun _ _ _ h => h) (by kernel_rfl) hs0 ?_ ?_
    rotate_left 1
    · go_simp
      exact rfl
    refine skipU (S := fun W => PtS F W b s (.slice p1 s.q.length c1) (.slice p2 s.out.length c2) ∧ PtS G W c t (.slice p3 t.q.length c3) (.slice p4 t.out.length c4)) (fuel := 17) (i := 14) ?_ rfl (by kernel_rfl) (by kernel_rfl) (by kernel_rfl) (fun _ _ _ h => h) (by kernel_rfl) hs0 ?_ ?_
    rotate_left 1
    · go_simp
      exact rfl
    refine skipU (S := fun W => PtS F W b s (.slice p1 s.q.length c1) (.slice p2 s.out.length c2) ∧ PtS G W c t (.slice p3 t.q.length c3) (.slice p4 t.out.length c4)) (fuel := 16) (i := 15) ?_ rfl (by kernel_rfl) (by kernel_rfl) (by kernel_rfl) (fun _ _ _ h => h) (by kernel_rfl) hs0 ?_ ?_
    rotate_left 1
    · go_simp
      exact rfl
    refine skipU (S := fun W => PtS F W b s (.slice p1 s.q.length c1) (.slice p2 s.out.length c2) ∧ PtS G W c t (.slice p3 t.q.length c3) (.slice p4 t.out.length c4)) (fuel := 15) (i := 16) ?_ rfl (by kernel_rfl) (by kernel_rfl) (by kernel_rfl) (fun _ _ _ h => h) (by kernel_rfl) hs0 ?_ ?_
    rotate_left 1
    · go_simp
      exact rfl
    refine skipU (S := fun W => PtS F W b s (.slice p1 s.q.length c1) (.slice p2 s.out.length c2) ∧ PtS G W c t (.slice p3 t.q.length c3) (.slice p4 t.out.length c4)) (fuel := 14) (i := 17) ?_ rfl (by kernel_rfl) (by kernel_rfl) (by kernel_rfl) (fun _ _ _ h => h) (by kernel_rfl) hs0 ?_ ?_
    rotate_left 1
    · go_simp
      exact rfl
    refine skipU (S := fun W => PtS F W b s (.slice p1 s.q.length c1) (.slice p2 s.out.length c2) ∧ PtS G W c t (.slice p3 t.q.length c3) (.slice p4 t.out.length c4)) (fuel := 13) (i := 18) ?_ rfl (by kernel_rfl) (by kernel_rfl) (by kernel_rfl) (fun _ _ _ h => h) (by kernel_rfl) hs0 ?_ ?_
    rotate_left 1
    · go_simp
      exact rfl
    refine takeH (fuel := 12) (i := 19) (.bool false) ?_ rfl (by kernel_rfl) (by kernel_rfl) (by kernel_rfl) (fun _ _ _ h => h) (by kernel_rfl) (fun W hS => by go_simp) hs0 ?_ ?_
    rotate_left 1
    · go_simp
      exact rfl
    refine takeH (fuel := 11) (i := 20) (.bool false) ?_ rfl (by kernel_rfl) (by kernel_rfl) (by kernel_rfl) (fun _ _ _ h => h) (by kernel_rfl) (fun W hS => by go_simp) hs0 ?_ ?_
    rotate_left 1
    · go_simp
      exact rfl
    refine skipU (S := fun W => PtS F W b s (.slice p1 s.q.length c1) (.slice p2 s.out.length c2) ∧ PtS G W c t (.slice p3 t.q.length c3) (.slice p4 t.out.length c4)) (fuel := 10) (i := 21) ?_ rfl (by kernel_rfl) (by kernel_rfl) (by kernel_rfl) (fun _ _ _ h => h) (by kernel_rfl) hs0 ?_ ?_
    rotate_left 1
    · go_simp
      exact rfl
    refine skipU (S := fun W => PtS F W b s (.slice p1 s.q.length c1) (.slice p2 s.out.length c2) ∧ PtS G W c t (.slice p3 t.q.length c3) (.slice p4 t.out.length c4)) (fuel := 9) (i := 22) ?_ rfl (by kernel_rfl) (by kernel_rfl) (by kernel_rfl) (fun _ _ _ h => h) (by kernel_rfl) hs0 ?_ ?_
    rotate_left 1
    · go_simp
      exact rfl
    refine skipU (S := fun W => PtS F W b s (.slice p1 s.q.length c1) (.slice p2 s.out.length c2) ∧ PtS G W c t (.slice p3 t.q.length c3) (.slice p4 t.out.length c4)) (fuel := 8) (i := 23) ?_ rfl (by kernel_rfl) (by kernel_rfl) (by kernel_rfl) (fun _ _ _ h => h) (by kernel_rfl) hs0 ?_ ?_
    rotate_left 1
    · go_simp
      exact rfl
    refine skipU (S := fun W => PtS F W b s (.slice p1 s.q.length c1) (.slice p2 s.out.length c2) ∧ PtS G W c t (.slice p3 t.q.length c3) (.slice p4 t.out.length c4)) (fuel := 7) (i := 24) ?_ rfl (by kernel_rfl) (by kernel_rfl) (by kernel_rfl) (fun _ _ _ h => h) (by kernel_rfl) hs0 ?_ ?_
    rotate_left 1
    · go_simp
      exact rfl
    refine skipU (S := fun W => PtS F W b s (.slice p1 s.q.length c1) (.slice p2 s.out.length c2) ∧ PtS G W c t (.slice p3 t.q.length c3) (.slice p4 t.out.length c4)) (fuel := 6) (i := 25) ?_ rfl (by kernel_rfl) (by kernel_rfl) (by kernel_rfl) (fun _ _ _ h => h) (by kernel_rfl) hs0 ?_ ?_
    rotate_left 1
    · go_simp
      exact rfl
    refine skipU (S := fun W => PtS F W b s (.slice p1 s.q.length c1) (.slice p2 s.out.length c2) ∧ PtS G W c t (.slice p3 t.q.length c3) (.slice p4 t.out.length c4)) (fuel := 5) (i := 26) ?_ rfl (by kernel_rfl) (by kernel_rfl) (by kernel_rfl) (fun _ _ _ h => h) (by kernel_rfl) hs0 ?_ ?_
    rotate_left 1
    · go_simp
      exact rfl
    refine skipU (S := fun W => PtS F W b s (.slice p1 s.q.length c1) (.slice p2 s.out.length c2) ∧ PtS G W c t (.slice p3 t.q.length c3) (.slice p4 t.out.length c4)) (fuel := 4) (i := 27) ?_ rfl (by kernel_rfl) (by kernel_rfl) (by kernel_rfl) (fun _ _ _ h => h) (by kernel_rfl) hs0 ?_ ?_
    rotate_left 1
    · go_simp
      exact rfl
    refine skipU (S := fun W => PtS F W b s (.slice p1 s.q.length c1) (.slice p2 s.out.length c2) ∧ PtS G W c t (.slice p3 t.q.length c3) (.slice p4 t.out.length c4)) (fuel := 3) (i := 28) ?_ rfl (by kernel_rfl) (by kernel_rfl) (by kernel_rfl) (fun _ _ _ h => h) (by kernel_rfl) hs0 ?_ ?_
    rotate_left 1
    · go_simp
      exact rfl
    refine skipU (S := fun W => PtS F W b s (.slice p1 s.q.length c1) (.slice p2 s.out.length c2) ∧ PtS G W c t (.slice p3 t.q.length c3) (.slice p4 t.out.length c4)) (fuel := 2) (i := 29) ?_ rfl (by kernel_rfl) (by kernel_rfl) (by kernel_rfl) (fun _ _ _ h => h) (by kernel_rfl) hs0 ?_ ?_
    rotate_left 1
    · go_simp
      exact rfl
    refine takeH (fuel := 1) (i := 30) (.bool false) ?_ rfl (by kernel_rfl) (by kernel_rfl) (by kernel_rfl) (fun _ _ _ h => h) (by kernel_rfl) (fun W hS => by go_simp) hs0 ?_ ?_
    rotate_left 1
    · go_simp
      exact rfl
    refine takeH (fuel := 0) (i := 31) (.bool false) ?_ rfl (by kernel_rfl) (by kernel_rfl) (by kernel_rfl) (fun _ _ _ h => h) (by kernel_rfl) (fun W hS => by go_simp) hs0 ?_ ?_
    rotate_left 1
    · go_simp
      exact rfl
    refine wpAnyH_done (by kernel_rfl) ?_ _
    refine NoPanic.normal ?_
    clear hs0
    go_wp2_with fail
    go_ret
    exact ⟨by rw [HU.out]; rfl, (Below.refl _ _).drew⟩
  | true =>
    refine takeH (fuel := 21) (i := 10) (.pointer (some ⟨b, 0, none⟩)) ?_ rfl (by kernel_rfl) (by kernel_rfl) (by kernel_rfl) (fun _ _ _ h => h) (by kernel_rfl) (fun W hS => by go_simp) hs0 ?_ ?_
    rotate_left 1
    · go_simp
      exact rfl
    refine takeH (fuel := 20) (i := 11) (.pointer (some ⟨b, 0, none⟩)) ?_ rfl (by kernel_rfl) (by kernel_rfl) (by kernel_rfl) (fun _ _ _ h => h) (by kernel_rfl) (fun W hS => by go_simp) hs0 ?_ ?_
    rotate_left 1
    · go_simp
      exact rfl
    refine takeH (fuel := 19) (i := 12) (.pointer (some ⟨b, 9, none⟩)) ?_ rfl (by kernel_rfl) (by kernel_rfl) (by kernel_rfl) (fun _ _ _ h => h) (by kernel_rfl) (fun W hS => by go_simp) hs0 ?_ ?_
    rotate_left 1
    · go_simp
      exact rfl
    refine takeH (fuel := 18) (i := 13) (.slice p1 s.q.length c1) ?_ rfl (by kernel_rfl) (by kernel_rfl) (by kernel_rfl) (fun _ _ _ h => h) (by kernel_rfl) (fun W hS => by (have q := hS.1.row.cell 9); simp only [ptV, List.getElem?_toArray, List.getElem?_cons_succ, List.getElem?_cons_zero] at q; go_simp) hs0 ?_ ?_
    rotate_left 1
    · go_simp
      exact rfl
    refine takeH (fuel := 17) (i := 14) (.pointer (some ⟨c, 0, none⟩)) ?_ rfl (by kernel_rfl) (by kernel_rfl) (by kernel_rfl) (fun _ _ _ h => h) (by kernel_rfl) (fun W hS => by go_simp) hs0 ?_ ?_
    rotate_left 1
    · go_simp
      exact rfl
    refine takeH (fuel := 16) (i := 15) (.pointer (some ⟨c, 0, none⟩)) ?_ rfl (by kernel_rfl) (by kernel_rfl) (by kernel_rfl) (fun _ _ _ h => h) (by kernel_rfl) (fun W hS => by go_simp) hs0 ?_ ?_
    rotate_left 1
    · go_simp
      exact rfl
    refine takeH (fuel := 15) (i := 16) (.pointer (some ⟨c, 9, none⟩)) ?_ rfl (by kernel_rfl) (by kernel_rfl) (by kernel_rfl) (fun _ _ _ h => h) (by kernel_rfl) (fun W hS => by go_simp) hs0 ?_ ?_
    rotate_left 1
    · go_simp
      exact rfl
    refine takeH (fuel := 14) (i := 17) (.slice p3 t.q.length c3) ?_ rfl (by kernel_rfl) (by kernel_rfl) (by kernel_rfl) (fun _ _ _ h => h) (by kernel_rfl) (fun W hS => by (have q := hS.2.row.cell 9); simp only [ptV, List.getElem?_toArray, List.getElem?_cons_succ, List.getElem?_cons_zero] at q; go_simp) hs0 ?_ ?_
    rotate_left 1
    · go_simp
      exact rfl
    refine wpAnyH_all (fuel := 13) (rs := [18]) (by kernel_rfl) (by decide) ?_
    intro i hi
    obtain rfl : i = 18 := by simpa using hi
    refine wpOp_callX 73 #[.slice p1 s.q.length c1, .slice p3 t.q.length c3] rfl (by kernel_rfl) (by go_simp) ?_
    refine (HQ.out _ hs0.1 hs0.2).mono ?_
    rintro e w2 ⟨rfl, hb2⟩
    have hs1 : PtS F w2 b s _ _ ∧ PtS G w2 c t _ _ := ⟨hs0.1.low hb2, hs0.2.low hb2⟩
    have HB2 := Lib.hid ((Below.refl w.heap.size w).drew.trans hb2)
    refine ⟨_, rfl, hs1, ?_⟩
    cases r1 with
    | false =>
      refine takeH (fuel := 12) (i := 19) (.bool false) ?_ rfl (by kernel_rfl) (by kernel_rfl) (by kernel_rfl) (fun _ _ _ h => h) (by kernel_rfl) (fun W hS => by go_simp) hs1 ?_ ?_
      rotate_left 1
      · go_simp
        exact rfl
      refine takeH (fuel := 11) (i := 20) (.bool false) ?_ rfl (by kernel_rfl) (by kernel_rfl) (by kernel_rfl) (fun _ _ _ h => h) (by kernel_rfl) (fun W hS => by go_simp) hs1 ?_ ?_
      rotate_left 1
      · go_simp
        exact rfl
      refine skipU (S := fun W => PtS F W b s (.slice p1 s.q.length c1) (.slice p2 s.out.length c2) ∧ PtS G W c t (.slice p3 t.q.length c3) (.slice p4 t.out.length c4)) (fuel := 10) (i := 21) ?_ rfl (by kernel_rfl) (by kernel_rfl) (by kernel_rfl) (fun _ _ _ h => h) (by kernel_rfl) hs1 ?_ ?_
      rotate_left 1
      · go_simp
        exact rfl
      refine skipU (S := fun W => PtS F W b s (.slice p1 s.q.length c1) (.slice p2 s.out.length c2) ∧ PtS G W c t (.slice p3 t.q.length c3) (.slice p4 t.out.length c4)) (fuel := 9) (i := 22) ?_ rfl (by kernel_rfl) (by kernel_rfl) (by kernel_rfl) (fun _ _ _ h => h) (by kernel_rfl) hs1 ?_ ?_
      rotate_left 1
      · go_simp
        exact rfl
      refine skipU (S := fun W => PtS F W b s (.slice p1 s.q.length c1) (.slice p2 s.out.length c2) ∧ PtS G W c t (.slice p3 t.q.length c3) (.slice p4 t.out.length c4)) (fuel := 8) (i := 23) ?_ rfl (by kernel_rfl) (by kernel_rfl) (by kernel_rfl) (fun _ _ _ h => h) (by kernel_rfl) hs1 ?_ ?_
      rotate_left 1
      · go_simp
        exact rfl
      refine skipU (S := fun W => PtS F W b s (.slice p1 s.q.length c1) (.slice p2 s.out.length c2) ∧ PtS G W c t (.slice p3 t.q.length c3) (.slice p4 t.out.length c4)) (fuel := 7) (i := 24) ?_ rfl (by kernel_rfl) (by kernel_rfl) (by kernel_rfl) (fun _ _ _ h => h) (by kernel_rfl) hs1 ?_ ?_
      rotate_left 1
      · go_simp
        exact rfl
      refine skipU (S := fun W => PtS F W b s (.slice p1 s.q.length c1) (.slice p2 s.out.length c2) ∧ PtS G W c t (.slice p3 t.q.length c3) (.slice p4 t.out.length c4)) (fuel := 6) (i := 25) ?_ rfl (by kernel_rfl) (by kernel_rfl) (by kernel_rfl) (fun _ _ _ h => h) (by kernel_rfl) hs1 ?_ ?_
      rotate_left 1
      · go_simp
        exact rfl
      refine skipU (S := fun W => PtS F W b s (.slice p1 s.q.length c1) (.slice p2 s.out.length c2) ∧ PtS G W c t (.slice p3 t.q.length c3) (.slice p4 t.out.length c4)) (fuel := 5) (i := 26) ?_ rfl (by kernel_rfl) (by kernel_rfl) (by kernel_rfl) (fun _ _ _ h => h) (by kernel_rfl) hs1 ?_ ?_
      rotate_left 1
      · go_simp
        exact rfl
      refine skipU (S := fun W => PtS F W b s (.slice p1 s.q.length c1) (.slice p2 s.out.length c2) ∧ PtS G W c t (.slice p3 t.q.length c3) (.slice p4 t.out.length c4)) (fuel := 4) (i := 27) ?_ rfl (by kernel_rfl) (by kernel_rfl) (by kernel_rfl) (fun _ _ _ h => h) (by kernel_rfl) hs1 ?_ ?_
      rotate_left 1
      · go_simp
        exact rfl
      refine skipU (S := fun W => PtS F W b s (.slice p1 s.q.length c1) (.slice p2 s.out.length c2) ∧ PtS G W c t (.slice p3 t.q.length c3) (.slice p4 t.out.length c4)) (fuel := 3) (i := 28) ?_ rfl (by kernel_rfl) (by kernel_rfl) (by kernel_rfl) (fun _ _ _ h => h) (by kernel_rfl) hs1 ?_ ?_
      rotate_left 1
      · go_simp
        exact rfl
      refine skipU (S := fun W => PtS F W b s (.slice p1 s.q.length c1) (.slice p2 s.out.length c2) ∧ PtS G W c t (.slice p3 t.q.length c3) (.slice p4 t.out.length c4)) (fuel := 2) (i := 29) ?_ rfl (by kernel_rfl) (by kernel_rfl) (by kernel_rfl) (fun _ _ _ h => h) (by kernel_rfl) hs1 ?_ ?_
      rotate_left 1
      · go_simp
        exact rfl
      refine takeH (fuel := 1) (i := 30) (.bool false) ?_ rfl (by kernel_rfl) (by kernel_rfl) (by kernel_rfl) (fun _ _ _ h => h) (by kernel_rfl) (fun W hS => by go_simp) hs1 ?_ ?_
      rotate_left 1
      · go_simp
        exact rfl
      refine takeH (fuel := 0) (i := 31) (.bool false) ?_ rfl (by kernel_rfl) (by kernel_rfl) (by kernel_rfl) (fun _ _ _ h => h) (by kernel_rfl) (fun W hS => by go_simp) hs1 ?_ ?_
      rotate_left 1
      · go_simp
        exact rfl
      refine wpAnyH_done (by kernel_rfl) ?_ _
      refine NoPanic.normal ?_
      clear hs0
      go_wp2_with fail
      go_ret
      exact ⟨by rw [HU.out]; rfl, HB2.out⟩
    | true =>
      refine takeH (fuel := 12) (i := 19) (.bool true) ?_ rfl (by kernel_rfl) (by kernel_rfl) (by kernel_rfl) (fun _ _ _ h => h) (by kernel_rfl) (fun W hS => by go_simp) hs1 ?_ ?_
      rotate_left 1
      · go_simp
        exact rfl
      refine takeH (fuel := 11) (i := 20) (.bool true) ?_ rfl (by kernel_rfl) (by kernel_rfl) (by kernel_rfl) (fun _ _ _ h => h) (by kernel_rfl) (fun W hS => by go_simp) hs1 ?_ ?_
      rotate_left 1
      · go_simp
        exact rfl
      refine takeH (fuel := 10) (i := 21) (.pointer (some ⟨b, 0, none⟩)) ?_ rfl (by kernel_rfl) (by kernel_rfl) (by kernel_rfl) (fun _ _ _ h => h) (by kernel_rfl) (fun W hS => by go_simp) hs1 ?_ ?_
      rotate_left 1
      · go_simp
        exact rfl
      refine takeH (fuel := 9) (i := 22) (.pointer (some ⟨b, 0, none⟩)) ?_ rfl (by kernel_rfl) (by kernel_rfl) (by kernel_rfl) (fun _ _ _ h => h) (by kernel_rfl) (fun W hS => by go_simp) hs1 ?_ ?_
      rotate_left 1
      · go_simp
        exact rfl
      refine takeH (fuel := 8) (i := 23) (.pointer (some ⟨b, 10, none⟩)) ?_ rfl (by kernel_rfl) (by kernel_rfl) (by kernel_rfl) (fun _ _ _ h => h) (by kernel_rfl) (fun W hS => by go_simp) hs1 ?_ ?_
      rotate_left 1
      · go_simp
        exact rfl
      refine takeH (fuel := 7) (i := 24) (.slice p2 s.out.length c2) ?_ rfl (by kernel_rfl) (by kernel_rfl) (by kernel_rfl) (fun _ _ _ h => h) (by kernel_rfl) (fun W hS => by (have q := hS.1.row.cell 10); simp only [ptV, List.getElem?_toArray, List.getElem?_cons_succ, List.getElem?_cons_zero] at q; go_simp) hs1 ?_ ?_
      rotate_left 1
      · go_simp
        exact rfl
      refine takeH (fuel := 6) (i := 25) (.pointer (some ⟨c, 0, none⟩)) ?_ rfl (by kernel_rfl) (by kernel_rfl) (by kernel_rfl) (fun _ _ _ h => h) (by kernel_rfl) (fun W hS => by go_simp) hs1 ?_ ?_
      rotate_left 1
      · go_simp
        exact rfl
      refine takeH (fuel := 5) (i := 26) (.pointer (some ⟨c, 0, none⟩)) ?_ rfl (by kernel_rfl) (by kernel_rfl) (by kernel_rfl) (fun _ _ _ h => h) (by kernel_rfl) (fun W hS => by go_simp) hs1 ?_ ?_
      rotate_left 1
      · go_simp
        exact rfl
      refine takeH (fuel := 4) (i := 27) (.pointer (some ⟨c, 10, none⟩)) ?_ rfl (by kernel_rfl) (by kernel_rfl) (by kernel_rfl) (fun _ _ _ h => h) (by kernel_rfl) (fun W hS => by go_simp) hs1 ?_ ?_
      rotate_left 1
      · go_simp
        exact rfl
      refine takeH (fuel := 3) (i := 28) (.slice p4 t.out.length c4) ?_ rfl (by kernel_rfl) (by kernel_rfl) (by kernel_rfl) (fun _ _ _ h => h) (by kernel_rfl) (fun W hS => by (have q := hS.2.row.cell 10); simp only [ptV, List.getElem?_toArray, List.getElem?_cons_succ, List.getElem?_cons_zero] at q; go_simp) hs1 ?_ ?_
      rotate_left 1
      · go_simp
        exact rfl
      refine wpAnyH_all (fuel := 2) (rs := [29]) (by kernel_rfl) (by decide) ?_
      intro i hi
      obtain rfl : i = 29 := by simpa using hi
      refine wpOp_callX 73 #[.slice p2 s.out.length c2, .slice p4 t.out.length c4] rfl (by kernel_rfl) (by go_simp) ?_
      refine (HO.out _ hs1.1 hs1.2).mono ?_
      rintro e w3 ⟨rfl, hb3⟩
      have hs2 : PtS F w3 b s _ _ ∧ PtS G w3 c t _ _ := ⟨hs1.1.low hb3, hs1.2.low hb3⟩
      have HB3 := Lib.hid (HB2.out.trans (hb3.mono HB2.out.size))
      refine ⟨_, rfl, hs2, ?_⟩
      refine takeH (fuel := 1) (i := 30) (.bool r2) ?_ rfl (by kernel_rfl) (by kernel_rfl) (by kernel_rfl) (fun _ _ _ h => h) (by kernel_rfl) (fun W hS => by go_simp) hs2 ?_ ?_
      rotate_left 1
      · go_simp
        exact rfl
      refine takeH (fuel := 0) (i := 31) (.bool r2) ?_ rfl (by kernel_rfl) (by kernel_rfl) (by kernel_rfl) (fun _ _ _ h => h) (by kernel_rfl) (fun W hS => by go_simp) hs2 ?_ ?_
      rotate_left 1
      · go_simp
        exact rfl
      refine wpAnyH_done (by kernel_rfl) ?_ _
      refine NoPanic.normal ?_
      clear hs2 hs1 hs0 hb3 hb2
      go_wp2_with fail
      go_ret
      exact ⟨by rw [HU.out]; rfl, HB3.out⟩
end Go.Proofs.Ytkknfhbaldeigaa
