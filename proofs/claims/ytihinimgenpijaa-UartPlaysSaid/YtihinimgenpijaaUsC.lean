/-
  The law of layer 17: Holds; any bytes that are read, written and come in (UartPlays walked).
-/
import Derived.Test.YtihinimgenpijaaUsB
set_option maxRecDepth 20000
namespace Go.Proofs.Ytihinimgenpijaa
open Go.ChangeShapes Go.WideShapes Go.ChangeAt Go.RowKit

theorem eqB_self (xs : List Int) : eqB xs xs = true := by unfold eqB; simp
set_option maxHeartbeats 16000000 in
theorem uholds_c (F G : Nat → Prop) (b : Nat) (s : Ut.S) (iv ov : Value) (w : World) (hp : Pt F w b s) (hi : VwG G w iv s.q) (ho : VwG G w ov s.out) (hn : s.out.length ≤ 900) :
    Calls Try.prog 12 #[.pointer (some ⟨b, 0, none⟩), .agg (xuV s iv ov)] w fun e w' => e = .returned (.bool true) ∧ Below w.heap.size w w' := by
  have hb0 : Below w.heap.size w (w.alloc (.cells (xuV s iv ov) X17)) := (Below.refl _ _).alloc (Nat.le_refl _) _
  have HB0 := Lib.hid hb0
  have HR := Lib.hid (CsAt.new w X17 (xuV s iv ov))
  have HP := Lib.hid (hp.low hb0)
  have HI := Lib.hid (hi.low hb0)
  have HO := Lib.hid (ho.low hb0)
  have hqn := hp.ok.qn
  have HK := Lib.hid hp.ok
  clear hp hi ho hb0
  go_enter Try.func12, Try.ntmps12
  go_upto_region 1 with fail
  generalize w.alloc (.cells (xuV s iv ov) X17) = w1 at *
  have hs0 : CsAt w1.drew w.heap.size X17 (xuV s iv ov) ∧ Pt F w1.drew b s := ⟨HR.out.low (below_dU (Below.refl _ _) 1), HP.out.low (below_dU (Below.refl _ _) 1)⟩
  have hi1 : VwG G w1.drew iv s.q := HI.out.low (below_dU (Below.refl _ _) 1)
  have ho1 : VwG G w1.drew ov s.out := HO.out.low (below_dU (Below.refl _ _) 1)
  have HBd := Lib.hid (show Below w.heap.size w w1.drew from HB0.out.trans (below_dU (Below.refl _ _) 1))
  have hle : (1 : Nat) = 1 := rfl
  refine wp_region_noPanic ?_
  refine wp_region_held (S := fun W => CsAt W w.heap.size X17 (xuV s iv ov) ∧ Pt F W b s) (by kernel_rfl) ?_
  refine takeH (fuel := 20) (i := 0) (.pointer (some ⟨b, 0, none⟩)) ?_ rfl (by kernel_rfl) (by kernel_rfl) (by kernel_rfl) (fun _ _ _ h => h) (by kernel_rfl) (fun W hS => by go_simp) hs0 ?_ ?_
  rotate_left 1
  · go_simp
    exact rfl
  refine takeH (fuel := 19) (i := 2) (.pointer (some ⟨w.heap.size, 9, none⟩)) ?_ rfl (by kernel_rfl) (by kernel_rfl) (by kernel_rfl) (fun _ _ _ h => h) (by kernel_rfl) (fun W hS => by go_simp) hs0 ?_ ?_
  rotate_left 1
  · go_simp
    exact rfl
  refine takeH (fuel := 18) (i := 3) (iv) ?_ rfl (by kernel_rfl) (by kernel_rfl) (by kernel_rfl) (fun _ _ _ h => h) (by kernel_rfl) (fun W hS => by (have q := hS.1.cell 9; simp only [xuV, List.getElem?_toArray, List.getElem?_cons_succ, List.getElem?_cons_zero] at q; go_simp)) hs0 ?_ ?_
  rotate_left 1
  · go_simp
    exact rfl
  have hs1 := hs0
  refine wpAnyH_all (fuel := 17) (rs := [1]) (by kernel_rfl) (by decide) ?_
  intro i hi
  obtain rfl : i = 1 := by simpa using hi
  refine wpOp_callX 20 #[.pointer (some ⟨b, 0, none⟩)] rfl (by kernel_rfl) (by go_simp) ?_
  refine (uwaiting_c hs1.2).mono ?_
  rintro e w2 ⟨v2, rfl, hv2, hb2⟩
  have hs2 : CsAt w2 w.heap.size X17 (xuV s iv ov) ∧ Pt F w2 b s := ⟨hs1.1.low hb2, hs1.2.low hb2⟩
  have hi2 := hi1.low hb2
  have ho2 := ho1.low hb2
  have HB2 := Lib.hid (HBd.out.trans (hb2.mono HBd.out.size))
  have hvb2 := own_vwB hv2
  refine ⟨_, rfl, hs2, ?_⟩
  refine wpAnyH_all (fuel := 16) (rs := [4]) (by kernel_rfl) (by decide) ?_
  intro i hi
  obtain rfl : i = 4 := by simpa using hi
  refine wpOp_callX 22 #[v2, iv] rfl (by kernel_rfl) (by go_simp) ?_
  refine (rbytes_c v2 iv s.q s.q _ hvb2 hi2.b (by omega)).mono ?_
  rintro e w3 ⟨rfl, hb3⟩
  rw [eqB_self]
  have hs3 : CsAt w3 w.heap.size X17 (xuV s iv ov) ∧ Pt F w3 b s := ⟨hs2.1.low hb3, hs2.2.low hb3⟩
  have hi3 := hi2.low hb3
  have ho3 := ho2.low hb3
  have HB3 := Lib.hid (HB2.out.trans (hb3.mono HB2.out.size))
  refine ⟨_, rfl, hs3, ?_⟩
  refine takeH (fuel := 15) (i := 5) (.bool true) ?_ rfl (by kernel_rfl) (by kernel_rfl) (by kernel_rfl) (fun _ _ _ h => h) (by kernel_rfl) (fun W hS => by go_simp) hs3 ?_ ?_
  rotate_left 1
  · go_simp
    exact rfl
  refine takeH (fuel := 14) (i := 6) (.pointer (some ⟨b, 0, none⟩)) ?_ rfl (by kernel_rfl) (by kernel_rfl) (by kernel_rfl) (fun _ _ _ h => h) (by kernel_rfl) (fun W hS => by go_simp) hs3 ?_ ?_
  rotate_left 1
  · go_simp
    exact rfl
  refine takeH (fuel := 13) (i := 8) (.pointer (some ⟨w.heap.size, 10, none⟩)) ?_ rfl (by kernel_rfl) (by kernel_rfl) (by kernel_rfl) (fun _ _ _ h => h) (by kernel_rfl) (fun W hS => by go_simp) hs3 ?_ ?_
  rotate_left 1
  · go_simp
    exact rfl
  refine takeH (fuel := 12) (i := 9) (ov) ?_ rfl (by kernel_rfl) (by kernel_rfl) (by kernel_rfl) (fun _ _ _ h => h) (by kernel_rfl) (fun W hS => by (have q := hS.1.cell 10; simp only [xuV, List.getElem?_toArray, List.getElem?_cons_succ, List.getElem?_cons_zero] at q; go_simp)) hs3 ?_ ?_
  rotate_left 1
  · go_simp
    exact rfl
  refine wpAnyH_all (fuel := 11) (rs := [7]) (by kernel_rfl) (by decide) ?_
  intro i hi
  obtain rfl : i = 7 := by simpa using hi
  refine wpOp_callX 21 #[.pointer (some ⟨b, 0, none⟩)] rfl (by kernel_rfl) (by go_simp) ?_
  refine (uout_c hn hs3.2).mono ?_
  rintro e w4 ⟨v4, rfl, hv4, hb4⟩
  have hs4 : CsAt w4 w.heap.size X17 (xuV s iv ov) ∧ Pt F w4 b s := ⟨hs3.1.low hb4, hs3.2.low hb4⟩
  have hi4 := hi3.low hb4
  have ho4 := ho3.low hb4
  have HB4 := Lib.hid (HB3.out.trans (hb4.mono HB3.out.size))
  have hvb4 := own_vwB hv4
  refine ⟨_, rfl, hs4, ?_⟩
  refine wpAnyH_all (fuel := 10) (rs := [10]) (by kernel_rfl) (by decide) ?_
  intro i hi
  obtain rfl : i = 10 := by simpa using hi
  refine wpOp_callX 22 #[v4, ov] rfl (by kernel_rfl) (by go_simp) ?_
  refine (rbytes_c v4 ov s.out s.out _ hvb4 ho4.b (by omega)).mono ?_
  rintro e w5 ⟨rfl, hb5⟩
  rw [eqB_self]
  have hs5 : CsAt w5 w.heap.size X17 (xuV s iv ov) ∧ Pt F w5 b s := ⟨hs4.1.low hb5, hs4.2.low hb5⟩
  have hi5 := hi4.low hb5
  have ho5 := ho4.low hb5
  have HB5 := Lib.hid (HB4.out.trans (hb5.mono HB4.out.size))
  refine ⟨_, rfl, hs5, ?_⟩
  refine takeH (fuel := 9) (i := 11) (.bool true) ?_ rfl (by kernel_rfl) (by kernel_rfl) (by kernel_rfl) (fun _ _ _ h => h) (by kernel_rfl) (fun W hS => by go_simp) hs5 ?_ ?_
  rotate_left 1
  · go_simp
    exact rfl
  refine takeH (fuel := 8) (i := 12) (.bool true) ?_ rfl (by kernel_rfl) (by kernel_rfl) (by kernel_rfl) (fun _ _ _ h => h) (by kernel_rfl) (fun W hS => by go_simp) hs5 ?_ ?_
  rotate_left 1
  · go_simp
    exact rfl
  refine takeH (fuel := 7) (i := 13) (.pointer (some ⟨b, 0, none⟩)) ?_ rfl (by kernel_rfl) (by kernel_rfl) (by kernel_rfl) (fun _ _ _ h => h) (by kernel_rfl) (fun W hS => by go_simp) hs5 ?_ ?_
  rotate_left 1
  · go_simp
    exact rfl
  refine takeH (fuel := 6) (i := 15) (.agg (xuV s iv ov)) ?_ rfl (by kernel_rfl) (by kernel_rfl) (by kernel_rfl) (fun _ _ _ h => h) (by kernel_rfl) (fun W hS => exec_load_row X17 _ rfl w.heap.size rfl X17 _ _ hS.1 Try.underlying32 rfl info_X17) hs5 ?_ ?_
  rotate_left 1
  · go_simp
    exact rfl
  refine wpAnyH_all (fuel := 5) (rs := [14]) (by kernel_rfl) (by decide) ?_
  intro i hi
  obtain rfl : i = 14 := by simpa using hi
  refine wpOp_callX 19 #[.pointer (some ⟨b, 0, none⟩)] rfl (by kernel_rfl) (by go_simp) ?_
  refine (uline_c hs5.2).mono ?_
  rintro e w6 ⟨rfl, rfl⟩
  refine ⟨_, rfl, hs5, ?_⟩
  refine wpAnyH_all (fuel := 4) (rs := [16]) (by kernel_rfl) (by decide) ?_
  intro i hi
  obtain rfl : i = 16 := by simpa using hi
  refine wpOp_callX 41 #[.agg (xuV s iv ov)] rfl (by kernel_rfl) (by go_simp) ?_
  refine (rcause_c G s iv ov HK.out _ hi5).mono ?_
  rintro e w7 ⟨rfl, hb7⟩
  have hs7 : CsAt w7 w.heap.size X17 (xuV s iv ov) ∧ Pt F w7 b s := ⟨hs5.1.low hb7, hs5.2.low hb7⟩
  have HB7 := Lib.hid (HB5.out.trans (hb7.mono HB5.out.size))
  refine ⟨_, rfl, hs7, ?_⟩
  obtain ⟨q, hq⟩ : ∃ q, (Ut.cause s != 1) = q := ⟨_, rfl⟩
  rw [hq]
  have gq : (q == q) = true := by simp
  refine takeH (fuel := 3) (i := 17) (.bool q) ?_ rfl (by kernel_rfl) (by kernel_rfl) (by kernel_rfl) (fun _ _ _ h => h) (by kernel_rfl) (fun W hS => by go_simp) hs7 ?_ ?_
  rotate_left 1
  · go_simp
    exact rfl
  refine takeH (fuel := 2) (i := 18) (.bool true) ?_ rfl (by kernel_rfl) (by kernel_rfl) (by kernel_rfl) (fun _ _ _ h => h) (by kernel_rfl) (fun W hS => by go_simp) hs7 ?_ ?_
  rotate_left 1
  · go_simp
    exact rfl
  refine takeH (fuel := 1) (i := 19) (.bool true) ?_ rfl (by kernel_rfl) (by kernel_rfl) (by kernel_rfl) (fun _ _ _ h => h) (by kernel_rfl) (fun W hS => by go_simp) hs7 ?_ ?_
  rotate_left 1
  · go_simp
    exact rfl
  refine takeH (fuel := 0) (i := 20) (.bool true) ?_ rfl (by kernel_rfl) (by kernel_rfl) (by kernel_rfl) (fun _ _ _ h => h) (by kernel_rfl) (fun W hS => by go_simp) hs7 ?_ ?_
  rotate_left 1
  · go_simp
    exact rfl
  refine wpAnyH_done (by kernel_rfl) ?_ _
  refine NoPanic.normal ?_
  clear hs7 hs5 hs4 hs3 hs2 hs1 hs0 hb2 hb3 hb4 hb5 hb7 hv2 hv4 hvb2 hvb4 hi1 hi2 hi3 hi4 hi5 ho1 ho2 ho3 ho4 ho5 hq gq
  go_wp2_with fail
  go_ret
  exact ⟨rfl, HB7.out⟩
theorem sameU_comm (s t : Ut.S) : sameU s t = sameU t s := by
  rw [sameU_all, sameU_all]
  have hb : ∀ a b : List Int, eqB a b = eqB b a := fun a b => by
    unfold eqB
    exact decide_eq_decide.2 ⟨Eq.symm, Eq.symm⟩
  rw [hb s.q, hb s.out]
  simp only [bne, Bool.not_not, BEq.comm (a := s.ier), BEq.comm (a := s.lcr), BEq.comm (a := s.mcr), BEq.comm (a := s.scr), BEq.comm (a := s.dll), BEq.comm (a := s.dlm), BEq.comm (a := s.fifo), BEq.comm (a := s.lost), BEq.comm (a := s.empty)]
abbrev D2T : TypeId := 26
/-- What stands while UartPlays goes on: the port, the reference's value in its block, the two deeds. -/
structure PlS (w W : World) (bx b : Nat) (s : Ut.S) (p q : Du) : Prop where
  ex : ∃ F iv ov, Pt F W b s ∧ VwG (fun k => F k ∨ k = bx) W iv s.q ∧ VwG (fun k => F k ∨ k = bx) W ov s.out ∧ (∀ k, F k → w.heap.size < k ∧ k ≠ bx) ∧ CsAt W bx X17 (xuV s iv ov)
  ob : CsAt W w.heap.size D2T (d2V p q)
  hbx : w.heap.size < bx
  bel : Below w.heap.size w W
theorem PlS.low {w W W' : World} {bx b : Nat} {s : Ut.S} {p q : Du} (h : PlS w W bx b s p q) (hb : Below W.heap.size W W') : PlS w W' bx b s p q := by
  obtain ⟨⟨F, iv, ov, h1, h2, h3, h4, h5⟩, h6, h7, h8⟩ := h
  exact ⟨⟨F, iv, ov, h1.low hb, h2.low hb, h3.low hb, h4, h5.low hb⟩, h6.low hb, h7, h8.trans (hb.mono h8.size)⟩
theorem rng_du {w W : World} {b off k : Nat} {d : Du} (hdl : b < w.heap.size) (hc : ∀ f, f < 3 → w.cell? ⟨b, off + k * 3 + f, none⟩ = d.cells[f]?) (hb : Below w.heap.size w W) : W.rangeAt b (off + k * 3) d.cells.toList := fun j v hv => by
  have hj : j < 3 := by
    have := (List.getElem?_eq_some_iff.1 hv).1
    simpa using this
  have h1 := hc j hj
  rw [show d.cells[j]? = d.cells.toList[j]? by simp, hv] at h1
  exact (hb.cell (p := ⟨b, off + k * 3 + j, none⟩) hdl).trans h1
theorem rng_d0 {W : World} {b : Nat} {p q : Du} (h : CsAt W b D2T (d2V p q)) : W.rangeAt b 0 p.cells.toList := fun j v hv => by
  have hj : j < 3 := by
    have := (List.getElem?_eq_some_iff.1 hv).1
    simpa using this
  rw [h.cell, ← hv]
  obtain rfl | rfl | rfl : j = 0 ∨ j = 1 ∨ j = 2 := by omega
  all_goals rfl
theorem rng_d1 {W : World} {b : Nat} {p q : Du} (h : CsAt W b D2T (d2V p q)) : W.rangeAt b 3 q.cells.toList := fun j v hv => by
  have hj : j < 3 := by
    have := (List.getElem?_eq_some_iff.1 hv).1
    simpa using this
  rw [h.cell, ← hv]
  obtain rfl | rfl | rfl : j = 0 ∨ j = 1 ∨ j = 2 := by omega
  all_goals rfl
theorem info_DuT : (Try.prog.info? DuT).map (·.size) = some 3 := by kernel_rfl
/-- Behind a deed: the port and its value, whose block is new; the block of the old value as it was. -/
structure PlD (w W : World) (bx b nb : Nat) (s t : Ut.S) (p q : Du) : Prop where
  ex : ∃ F iv ov, Pt F W b s ∧ VwG (fun k => F k ∨ k = bx) W iv s.q ∧ VwG (fun k => F k ∨ k = bx) W ov s.out ∧ (∀ k, F k → w.heap.size < k ∧ k ≠ bx) ∧ CsAt W nb X17 (xuV s iv ov)
  x : ∃ jv qv, CsAt W bx X17 (xuV t jv qv)
  ob : CsAt W w.heap.size D2T (d2V p q)
  hbx : w.heap.size < bx
  ne : nb ≠ bx
  bel : Below w.heap.size w W
theorem PlD.stored {w W : World} {bx b nb : Nat} {s t : Ut.S} {p q : Du} {iv ov : Value} (h : PlD w W bx b nb s t p q) (hy : CsAt W nb X17 (xuV s iv ov)) : PlS w (W.setRow bx (xuV s iv ov)) bx b s p q := by
  obtain ⟨⟨F, iv', ov', h1, h2, h3, h4, h5⟩, ⟨jv, qv, h6⟩, h7, h8, h9, h10⟩ := h
  have e : xuV s iv ov = xuV s iv' ov' := by
    have := hy.symm.trans h5
    simpa using this
  rw [e]
  have hc : Chg (fun k => k = bx) W (W.setRow bx (xuV s iv' ov')) := Chg.of_row (S := fun k => k = bx) (b := bx) rfl _
  exact ⟨⟨F, iv', ov', h1.keep hc (fun k hk e => (h4 k hk).2 e), h2.keep (hc.mono (fun _ hk => .inr hk)), h3.keep (hc.mono (fun _ hk => .inr hk)), h4, h6.row _⟩, h7.rowFar (by omega) _, h8, h10.trans (hc.below (by have := h10.size; exact this) (fun k hk => by omega))⟩
theorem range_all {w : World} {b : Nat} {t : TypeId} {cs : Array Value} (h : CsAt w b t cs) : w.rangeAt b 0 cs.toList := fun j v hv => by
  rw [h.cell, Nat.zero_add, ← hv]; simp
theorem wpList_load_csW {P : Program} {ops : Array Oper} {rest : List Oper} {o : Oper} {a : Act} {w : World} {Q : Exit → Act → World → Prop} (hw : Region.wanted o (yielded ops a.tmps) = true) (ty : TypeId) (x : Operand) (ho : o.op = .load ty x)
    (b : Nat) (hx : a.eval x = .pointer (some ⟨b, 0, none⟩)) (t : TypeId) (cs : Array Value) (d : TypeDesc) (hc : CsAt w b t cs)
    (hu : P.underlying ty = some d) (hd : d.isRow = true) (hi : (P.info? ty).map (·.size) = some cs.size)
    (h : wpList P ops Q rest (a.put o.dst (.agg cs)) w) : wpList P ops Q (o :: rest) a w :=
  wpList_load_midW hw ty x ho b 0 hx cs.toList d (range_all hc) hu hd (by simpa using hi) (by simpa using h)
theorem wpList_load_du {P : Program} {ops : Array Oper} {rest : List Oper} {o : Oper} {a : Act} {w : World} {Q : Exit → Act → World → Prop} (hw : Region.wanted o (yielded ops a.tmps) = true) (ty : TypeId) (x : Operand) (ho : o.op = .load ty x)
    (b off : Nat) (hx : a.eval x = .pointer (some ⟨b, off, none⟩)) (e : Du) (d : TypeDesc) (hc : w.rangeAt b off e.cells.toList)
    (hu : P.underlying ty = some d) (hd : d.isRow = true) (hi : (P.info? ty).map (·.size) = some 3)
    (h : wpList P ops Q rest (a.put o.dst (.agg e.cells)) w) : wpList P ops Q (o :: rest) a w :=
  wpList_load_midW hw ty x ho b off hx e.cells.toList d hc hu hd (by simpa using hi) (by simpa using h)
theorem sameU_self (s : Ut.S) : sameU s s = true := by
  rw [sameU_all, eqB_self, eqB_self]
  simp
set_option maxRecDepth 100000 in
set_option maxHeartbeats 32000000 in
theorem uplays_walk (w : World) (ao : Option Addr) (n cap : Nat) (l : List Du) (p q : Du) (hds : Dus w ao n l) (hp : p.In) (hq : q.In) :
    Calls Try.prog 3 #[.slice ao n cap, .agg (d2V p q)] w fun e w' => e = .returned (.bool true) ∧ Below w.heap.size w w' := by
  have HDS := Lib.hid hds
  have hmx := hds.max
  have HPI := Lib.hid hp
  have HQI := Lib.hid hq
  have hba : Below w.heap.size w (w.alloc (.cells (d2V p q) D2T)) := (Below.refl _ _).alloc (Nat.le_refl _) _
  have HBA := Lib.hid hba
  have HOB := Lib.hid (CsAt.new w D2T (d2V p q))
  clear hds hp hq hba
  by_cases hlong : 150 < n
  · have g0 : decide ((n : Int) > 150) = true := by simp; omega
    go_enter Try.func3, Try.ntmps3
    go_upto_region 1 with fail
    generalize w.alloc (.cells (d2V p q) D2T) = w0 at *
    go_wp2_with fail
    refine (live17_c w0).mono ?_
    rintro e w1 ⟨rfl, hb1⟩
    have HB := Lib.hid (HBA.out.trans (hb1.mono HBA.out.size))
    clear hb1
    go_wp2_with fail
    go_ret
    exact ⟨rfl, HB.out⟩
  · have g0 : decide ((n : Int) > 150) = false := by simp; omega
    have hz := zero_x17
    go_enter Try.func3, Try.ntmps3
    go_upto_region 1 with fail
    generalize hw0 : w.alloc (.cells (d2V p q) D2T) = w0 at *
    have hs0 : w0.heap.size = w.heap.size + 1 := by rw [← hw0]; simp
    clear hw0
    go_wp2_with fail
    refine (unew_c w0).mono ?_
    rintro e w1 ⟨rfl, rfl⟩
    have hN := PtS.new w0
    have hb1 : Below w0.heap.size w0 (w0.alloc (.cells (ptV Ut.zero (.slice none 0 0) (.slice none 0 0)) PoT)) := (Below.refl _ _).alloc (Nat.le_refl _) _
    have hs1 : (w0.alloc (.cells (ptV Ut.zero (.slice none 0 0) (.slice none 0 0)) PoT)).heap.size = w.heap.size + 2 := by simp [hs0]
    have hob1 := HOB.out.low hb1
    have hbe1 := HBA.out.trans (hb1.mono HBA.out.size)
    generalize w0.alloc (.cells (ptV Ut.zero (.slice none 0 0) (.slice none 0 0)) PoT) = w1 at *
    generalize hbb : w0.heap.size = b at *
    have HN := Lib.hid hN.p
    have HOB1 := Lib.hid hob1
    have HBE1 := Lib.hid hbe1
    have HSZ : Hid (w1.heap.size = w.heap.size + 2 ∧ b = w.heap.size + 1) := Lib.hid ⟨hs1, by omega⟩
    clear hN hb1 hob1 hbe1 HOB HBA hs1 hs0 hbb
    go_upto_region 5 with (refine wpList_storeNew (w0 := w1) rfl X17 _ _ rfl (xuV Ut.zero (.slice none 0 0) (.slice none 0 0)) (xuV Ut.zero (.slice none 0 0) (.slice none 0 0)) X17 rfl rfl info_X17 rfl (xuV_one _ rfl rfl) ?_)
    have hb2 : Below w1.heap.size w1 (w1.alloc (.cells (xuV Ut.zero (.slice none 0 0) (.slice none 0 0)) X17)) := (Below.refl _ _).alloc (Nat.le_refl _) _
    obtain ⟨hs1, hs0⟩ := HSZ.out
    have hS0 : PlS w (w1.alloc (.cells (xuV Ut.zero (.slice none 0 0) (.slice none 0 0)) X17)) w1.heap.size b Ut.zero p q :=
      ⟨⟨fun k => k = b, .slice none 0 0, .slice none 0 0, HN.out.low hb2, VwG.nil _ _, VwG.nil _ _, fun k hk => by omega, CsAt.new _ _ _⟩, HOB1.out.low hb2, by omega, HBE1.out.trans (hb2.mono HBE1.out.size)⟩
    have HS0 := Lib.hid hS0
    clear hb2 hS0 HN HOB1 HBE1 HSZ hs1 hs0
    generalize w1.alloc (.cells (xuV Ut.zero (.slice none 0 0) (.slice none 0 0)) X17) = w2 at *
    generalize w1.heap.size = bx at *
    go_wp2_with fail
    go_loopw [7] (fun i wr => ∃ (k : Nat) (s : Ut.S), k ≤ n ∧ s.out.length ≤ k ∧ i = .int .i64 k ∧ PlS w wr bx b s p q) (fun i _ => n - (intOf i).toNat)
    case atStart => exact ⟨0, Ut.zero, Nat.zero_le _, Nat.zero_le _, rfl, HS0.out⟩
    case round =>
      obtain ⟨k, s, hk, hso, rfl, hs⟩ := hrel
      have HR := Lib.hid hs
      clear hs HS0
      by_cases hlt : k < n
      · have e0 : decide ((k : Int) < (n : Int)) = true := by simp; omega
        obtain ⟨db, off, rfl, hdl, hcells⟩ := HDS.out.at_ (by omega)
        have hin := HDS.out.each k hlt
        have HDD := Lib.hid (fun (W : World) (hb : Below w.heap.size w W) => rng_du (W := W) hdl (fun f hf => hcells k hlt f hf) hb)
        have c1 := hcells k hlt 1 (by omega)
        have hoff := hin.off
        have HIN := Lib.hid hin
        clear hcells hin
        generalize l.getD k Du.zero = d at *
        have c1 : w.cell? ⟨db, off + k * 3 + 1, none⟩ = some (.int .u64 d.off) := c1
        have HC1 := Lib.hid (fun (W : World) (hb : Below w.heap.size w W) => (hb.cell (p := ⟨db, off + k * 3 + 1, none⟩) hdl).trans c1)
        have gk : (k : Int) < (n : Int) := by omega
        have F1 := Lib.hid (fun W => ufits_c d.off 1 hoff.1 hoff.2 W)
        have F2 := Lib.hid (fun W => ufits_c d.off 2 hoff.1 hoff.2 W)
        rw [show decide (d.off < 8 ∧ (1 : Int) = 1) = decide (d.off < 8) by simp] at F1
        rw [show decide (d.off < 8 ∧ (2 : Int) = 1) = false by simp] at F2
        obtain ⟨f, hf⟩ : ∃ f, decide (d.off < 8) = f := ⟨_, rfl⟩
        rw [hf] at F1
        have gf : (f == f) = true := by simp
        clear c1
        go_upto_region 8 with fail
        refine wp_region_steady (fun W => PlS w W bx b s p q) (by kernel_rfl) (by kernel_rfl) (HR.out.low (below_dU (Below.refl _ _) 1)) ?_
        iterate 4
          refine steady_val ?_ ?_ (by kernel_rfl) (fun W hS => ?_) ?_ ?_
          rotate_left 2
          · go_simp
            exact rfl
          · go_simp
            exact rfl
        iterate 1
          refine steady_val ?_ ?_ (by kernel_rfl) (fun W hS => ?_) ?_ ?_
          rotate_left 2
          · (have q1 := HC1.out _ hS.bel); go_simp
            exact rfl
          · go_simp
            exact rfl
        refine steady_enter (.bool f) 10 #[.int .u64 d.off, .int .i64 1] ?_ (by kernel_rfl) (fun W hS => ?_) (fun W hS => (F1.out W).mono (by rintro e w' ⟨rfl, rfl⟩; exact ⟨rfl, hS⟩)) ?_ ?_
        rotate_left 1
        · go_simp
        · go_simp
          exact rfl
        iterate 4
          refine steady_val ?_ ?_ (by kernel_rfl) (fun W hS => ?_) ?_ ?_
          rotate_left 2
          · go_simp
            exact rfl
          · go_simp
            exact rfl
        iterate 1
          refine steady_val ?_ ?_ (by kernel_rfl) (fun W hS => ?_) ?_ ?_
          rotate_left 2
          · (have q1 := HC1.out _ hS.bel); go_simp
            exact rfl
          · go_simp
            exact rfl
        iterate 7
          refine steady_val ?_ ?_ (by kernel_rfl) (fun W hS => ?_) ?_ ?_
          rotate_left 2
          · go_simp
            exact rfl
          · go_simp
            exact rfl
        iterate 1
          refine steady_val ?_ ?_ (by kernel_rfl) (fun W hS => ?_) ?_ ?_
          rotate_left 2
          · (have q1 := HC1.out _ hS.bel); go_simp
            exact rfl
          · go_simp
            exact rfl
        refine steady_enter (.bool false) 10 #[.int .u64 d.off, .int .i64 2] ?_ (by kernel_rfl) (fun W hS => ?_) (fun W hS => (F2.out W).mono (by rintro e w' ⟨rfl, rfl⟩; exact ⟨rfl, hS⟩)) ?_ ?_
        rotate_left 1
        · go_simp
        · go_simp
          exact rfl
        iterate 1
          refine steady_val ?_ ?_ (by kernel_rfl) (fun W hS => ?_) ?_ ?_
          rotate_left 2
          · go_simp
            exact rfl
          · go_simp
            exact rfl
        refine steady_nil ?_
        intro W hS
        have HR2 := Lib.hid hS
        clear hS HR F1 F2 hf gf
        go_upto_region 10 with fail
        go_cut [8, 9] (fun s8 s9 wx => ∃ nb, s8 = .pointer (some ⟨nb, 0, none⟩) ∧ s9 = .bool true ∧ PlD w wx bx b nb (doU s d) s p q)
        case first =>
          have hp0 : PlS w W.drew bx b s p q := HR2.out.low (below_dU (Below.refl _ _) 1)
          obtain ⟨⟨F, iv, ov, h1, h2, h3, h4, h5⟩, h6, h7, h8⟩ := hp0
          have hbxl := h5.lt
          have hs0 : CsAt W.drew bx X17 (xuV s iv ov) ∧ Below w.heap.size w W.drew := ⟨h5, h8⟩
          have hFl := h1.lt
          have HDB := Lib.hid (fun (V : World) (hb : Below W.drew.heap.size W.drew V) (hV : W.drew.heap.size < V.heap.size) => du_c F (fun k => k = bx ∨ k = W.drew.heap.size) b s iv ov d HIN.out V (h1.low hb) (fun k hk => by omega)
            ((h2.more (H := fun k => F k ∨ k = bx ∨ k = W.drew.heap.size) (fun k hk => by rcases hk with h | h | h <;> first | exact .inl (.inl h) | exact .inl (.inr h) | exact .inr (by omega))).low hb)
            ((h3.more (H := fun k => F k ∨ k = bx ∨ k = W.drew.heap.size) (fun k hk => by rcases hk with h | h | h <;> first | exact .inl (.inl h) | exact .inl (.inr h) | exact .inr (by omega))).low hb) (by omega))
          have HDO := Lib.hid (fun (V : World) (hb : Below W.drew.heap.size W.drew V) => du_c F (fun k => k = bx) b s iv ov d HIN.out V (h1.low hb) (fun k hk => by have := hb.size; omega) (h2.low hb) (h3.low hb) (by omega))
          refine wp_region_noPanic ?_
          refine wp_region_held (S := fun V => CsAt V bx X17 (xuV s iv ov) ∧ Below w.heap.size w V) (by kernel_rfl) ?_
          refine takeH (fuel := 12) (i := 0) (.pointer (some ⟨b, 0, none⟩)) ?_ rfl (by kernel_rfl) (by kernel_rfl) (by kernel_rfl) (fun _ _ _ h => h) (by kernel_rfl) (fun W hS => by go_simp) hs0 ?_ ?_
          rotate_left 1
          · go_simp
            exact rfl
          refine takeH (fuel := 11) (i := 1) (.agg (xuV s iv ov)) ?_ rfl (by kernel_rfl) (by kernel_rfl) (by kernel_rfl) (fun _ _ _ h => h) (by kernel_rfl) (fun W hS => exec_load_row X17 _ rfl bx rfl X17 _ _ hS.1 Try.underlying32 rfl info_X17) hs0 ?_ ?_
          rotate_left 1
          · go_simp
            exact rfl
          refine takeH (fuel := 10) (i := 2) (.slice (some ⟨db, off, none⟩) n cap) ?_ rfl (by kernel_rfl) (by kernel_rfl) (by kernel_rfl) (fun _ _ _ h => h) (by kernel_rfl) (fun W hS => by go_simp) hs0 ?_ ?_
          rotate_left 1
          · go_simp
            exact rfl
          refine takeH (fuel := 9) (i := 3) (.int .i64 (k : Int)) ?_ rfl (by kernel_rfl) (by kernel_rfl) (by kernel_rfl) (fun _ _ _ h => h) (by kernel_rfl) (fun W hS => by go_simp) hs0 ?_ ?_
          rotate_left 1
          · go_simp
            exact rfl
          refine takeH (fuel := 8) (i := 4) (.pointer (some ⟨db, off + k * 3, none⟩)) ?_ rfl (by kernel_rfl) (by kernel_rfl) (by kernel_rfl) (fun _ _ _ h => h) (by kernel_rfl) (fun W hS => by go_simp) hs0 ?_ ?_
          rotate_left 1
          · go_simp
            exact rfl
          refine takeH (fuel := 7) (i := 5) (.agg d.cells) ?_ rfl (by kernel_rfl) (by kernel_rfl) (by kernel_rfl) (fun _ _ _ h => h) (by kernel_rfl) (fun W hS => exec_midU DuT _ rfl db (off + k * 3) rfl _ _ (HDD.out _ hS.2) Try.underlying25 rfl info_DuT) hs0 ?_ ?_
          rotate_left 1
          · go_simp
            exact rfl
          refine wpAnyH_all (fuel := 6) (rs := [6, 10]) (by kernel_rfl) (by decide) ?_
          intro i hi
          simp only [List.mem_cons, List.not_mem_nil, or_false] at hi
          rcases hi with rfl | rfl
          · refine wpOp_callX 11 #[.pointer (some ⟨b, 0, none⟩), .agg (xuV s iv ov), .agg d.cells] rfl (by kernel_rfl) (by go_simp) ?_
            refine (HDO.out _ (Below.refl _ _)).mono ?_
            rintro e w4 ⟨iv4, ov4, rfl, hq4⟩
            have hne : ¬ F bx := fun a => (h4 _ a).2 rfl
            have hs4 : CsAt w4 bx X17 (xuV s iv ov) ∧ Below w.heap.size w w4 := ⟨hq4.chg.cs h5 hne, h8.trans (hq4.chg.below h8.size (fun k hk => by have := h4 k hk; omega))⟩
            refine ⟨_, rfl, hs4, ?_⟩
            refine takeH (fuel := 5) (i := 7) (.tuple #[.agg (xuV (doU s d) iv4 ov4), .bool true]) ?_ rfl (by kernel_rfl) (by kernel_rfl) (by kernel_rfl) (fun _ _ _ h => h) (by kernel_rfl) (fun W hS => by go_simp) hs4 ?_ ?_
            rotate_left 1
            · go_simp
              exact rfl
            refine takeH (fuel := 4) (i := 8) (.agg (xuV (doU s d) iv4 ov4)) ?_ rfl (by kernel_rfl) (by kernel_rfl) (by kernel_rfl) (fun _ _ _ h => h) (by kernel_rfl) (fun W hS => by go_simp) hs4 ?_ ?_
            rotate_left 1
            · go_simp
              exact rfl
            refine takeH (fuel := 3) (i := 9) (.bool true) ?_ rfl (by kernel_rfl) (by kernel_rfl) (by kernel_rfl) (fun _ _ _ h => h) (by kernel_rfl) (fun W hS => by go_simp) hs4 ?_ ?_
            rotate_left 1
            · go_simp
              exact rfl
            refine wpAnyH_all (fuel := 2) (rs := [10]) (by kernel_rfl) (by decide) ?_
            intro i hi
            obtain rfl : i = 10 := by simpa using hi
            have hb5 : Below w4.heap.size w4 (w4.alloc (.cells (xuV Ut.zero (.slice none 0 0) (.slice none 0 0)) X17)) := (Below.refl _ _).alloc (Nat.le_refl _) _
            refine wpOp_valB (.pointer (some ⟨w4.heap.size, 0, none⟩)) (w4.alloc (.cells (xuV Ut.zero (.slice none 0 0) (.slice none 0 0)) X17)) _ rfl (by kernel_rfl) (exec_alloc X17 rfl _ (zero_x17 _)) rfl ?_
            have hs5 : CsAt (w4.alloc (.cells (xuV Ut.zero (.slice none 0 0) (.slice none 0 0)) X17)) bx X17 (xuV s iv ov) ∧ Below w.heap.size w (w4.alloc (.cells (xuV Ut.zero (.slice none 0 0) (.slice none 0 0)) X17)) := ⟨hs4.1.low hb5, hs4.2.trans (hb5.mono hs4.2.size)⟩
            refine ⟨hs5, ?_⟩
            obtain ⟨⟨F', q1, q2, q3, q4⟩, q5⟩ := hq4
            have hyN := CsAt.new w4 X17 (xuV Ut.zero (.slice none 0 0) (.slice none 0 0))
            have hone := xuV_one (doU s d) q2.one q3.one
            refine wpAnyH_all (fuel := 1) (rs := [11]) (by kernel_rfl) (by decide) ?_
            intro i hi
            obtain rfl : i = 11 := by simpa using hi
            refine wpOp_unitB ((w4.alloc (.cells (xuV Ut.zero (.slice none 0 0) (.slice none 0 0)) X17)).setRow w4.heap.size (xuV (doU s d) iv4 ov4)) _ rfl (by kernel_rfl) (exec_store_row X17 _ _ rfl w4.heap.size (xuV (doU s d) iv4 ov4) rfl rfl X17 _ hyN info_X17 rfl hone) rfl ?_
            have hws : (w4.alloc (.cells (xuV Ut.zero (.slice none 0 0) (.slice none 0 0)) X17)).setRow w4.heap.size (xuV (doU s d) iv4 ov4) = w4.alloc (.cells (xuV (doU s d) iv4 ov4) X17) := World.setRow_alloc_new ..
            rw [hws]
            have hb6 : Below w4.heap.size w4 (w4.alloc (.cells (xuV (doU s d) iv4 ov4) X17)) := (Below.refl _ _).alloc (Nat.le_refl _) _
            have hs6 : CsAt (w4.alloc (.cells (xuV (doU s d) iv4 ov4) X17)) bx X17 (xuV s iv ov) ∧ Below w.heap.size w (w4.alloc (.cells (xuV (doU s d) iv4 ov4) X17)) := ⟨hs4.1.low hb6, hs4.2.trans (hb6.mono hs4.2.size)⟩
            refine ⟨hs6, ?_⟩
            refine takeH (fuel := 0) (i := 12) (.bool true) ?_ rfl (by kernel_rfl) (by kernel_rfl) (by kernel_rfl) (fun _ _ _ h => h) (by kernel_rfl) (fun W hS => by go_simp) hs6 ?_ ?_
            rotate_left 1
            · go_simp
              exact rfl
            refine wpAnyH_done (by kernel_rfl) ?_ _
            refine NoPanic.normal ?_
            have hfin : PlD w (w4.alloc (.cells (xuV (doU s d) iv4 ov4) X17)) bx b w4.heap.size (doU s d) s p q := ⟨⟨F', iv4, ov4, q1.low hb6, q2.low hb6, q3.low hb6, fun k hk => (q4 k hk).elim (h4 k) (fun h => by omega), CsAt.new _ _ _⟩, ⟨iv, ov, hs6.1⟩, (q5.cs h6 (fun a => by have := h4 _ a; omega)).low hb6, h7, by have := hs4.1.lt; omega, hs6.2⟩
            have HFIN := Lib.hid hfin
            clear hfin hs6 hs5 hs4 hb5 hb6 hyN hone hws q1 q2 q3 q4 q5 h1 h2 h3 h4 h5 h6 h7 h8 hbxl hs0 hne
            go_wp2_with fail
            go_meet
            exact ⟨_, rfl, rfl, HFIN.out⟩
          · have hb3 : Below W.drew.heap.size W.drew (W.drew.alloc (.cells (xuV Ut.zero (.slice none 0 0) (.slice none 0 0)) X17)) := (Below.refl _ _).alloc (Nat.le_refl _) _
            refine wpOp_valB (.pointer (some ⟨W.drew.heap.size, 0, none⟩)) (W.drew.alloc (.cells (xuV Ut.zero (.slice none 0 0) (.slice none 0 0)) X17)) _ rfl (by kernel_rfl) (exec_alloc X17 rfl _ (zero_x17 _)) rfl ?_
            have hs3 : CsAt (W.drew.alloc (.cells (xuV Ut.zero (.slice none 0 0) (.slice none 0 0)) X17)) bx X17 (xuV s iv ov) ∧ Below w.heap.size w (W.drew.alloc (.cells (xuV Ut.zero (.slice none 0 0) (.slice none 0 0)) X17)) := ⟨hs0.1.low hb3, hs0.2.trans (hb3.mono hs0.2.size)⟩
            refine ⟨hs3, ?_⟩
            have hyN := CsAt.new W.drew X17 (xuV Ut.zero (.slice none 0 0) (.slice none 0 0))
            have h6b := h6.low hb3
            have hszb : (W.drew.alloc (.cells (xuV Ut.zero (.slice none 0 0) (.slice none 0 0)) X17)).heap.size = W.drew.heap.size + 1 := by simp
            refine wpAnyH_all (fuel := 5) (rs := [6]) (by kernel_rfl) (by decide) ?_
            intro i hi
            obtain rfl : i = 6 := by simpa using hi
            refine wpOp_callX 11 #[.pointer (some ⟨b, 0, none⟩), .agg (xuV s iv ov), .agg d.cells] rfl (by kernel_rfl) (by go_simp) ?_
            refine (HDB.out _ hb3 (by simp)).mono ?_
            rintro e w4 ⟨iv4, ov4, rfl, hq4⟩
            have hne : ¬ F bx := fun a => (h4 _ a).2 rfl
            have hFl := h1.lt
            have hs4 : CsAt w4 bx X17 (xuV s iv ov) ∧ Below w.heap.size w w4 := ⟨hq4.chg.cs hs3.1 hne, hs3.2.trans (hq4.chg.below hs3.2.size (fun k hk => by have := h4 k hk; omega))⟩
            refine ⟨_, rfl, hs4, ?_⟩
            have hy4 := hq4.chg.cs hyN (fun a => by have := hFl _ a; omega)
            obtain ⟨⟨F', q1, q2, q3, q4⟩, q5⟩ := hq4
            have hone := xuV_one (doU s d) q2.one q3.one
            refine takeH (fuel := 4) (i := 7) (.tuple #[.agg (xuV (doU s d) iv4 ov4), .bool true]) ?_ rfl (by kernel_rfl) (by kernel_rfl) (by kernel_rfl) (fun _ _ _ h => h) (by kernel_rfl) (fun W hS => by go_simp) hs4 ?_ ?_
            rotate_left 1
            · go_simp
              exact rfl
            refine takeH (fuel := 3) (i := 8) (.agg (xuV (doU s d) iv4 ov4)) ?_ rfl (by kernel_rfl) (by kernel_rfl) (by kernel_rfl) (fun _ _ _ h => h) (by kernel_rfl) (fun W hS => by go_simp) hs4 ?_ ?_
            rotate_left 1
            · go_simp
              exact rfl
            refine takeH (fuel := 2) (i := 9) (.bool true) ?_ rfl (by kernel_rfl) (by kernel_rfl) (by kernel_rfl) (fun _ _ _ h => h) (by kernel_rfl) (fun W hS => by go_simp) hs4 ?_ ?_
            rotate_left 1
            · go_simp
              exact rfl
            refine wpAnyH_all (fuel := 1) (rs := [11]) (by kernel_rfl) (by decide) ?_
            intro i hi
            obtain rfl : i = 11 := by simpa using hi
            refine wpOp_unitB (w4.setRow W.drew.heap.size (xuV (doU s d) iv4 ov4)) _ rfl (by kernel_rfl) (exec_store_row X17 _ _ rfl W.drew.heap.size (xuV (doU s d) iv4 ov4) rfl rfl X17 _ hy4 info_X17 rfl hone) rfl ?_
            have hcy : Chg (fun k => k = W.drew.heap.size) w4 (w4.setRow W.drew.heap.size (xuV (doU s d) iv4 ov4)) := Chg.of_row (S := fun k => k = W.drew.heap.size) rfl _
            have hs6 : CsAt (w4.setRow W.drew.heap.size (xuV (doU s d) iv4 ov4)) bx X17 (xuV s iv ov) ∧ Below w.heap.size w (w4.setRow W.drew.heap.size (xuV (doU s d) iv4 ov4)) := ⟨hs4.1.rowFar (by omega) _, hs4.2.trans (hcy.below hs4.2.size (fun k hk => by have := h8.size; omega))⟩
            refine ⟨hs6, ?_⟩
            refine takeH (fuel := 0) (i := 12) (.bool true) ?_ rfl (by kernel_rfl) (by kernel_rfl) (by kernel_rfl) (fun _ _ _ h => h) (by kernel_rfl) (fun W hS => by go_simp) hs6 ?_ ?_
            rotate_left 1
            · go_simp
              exact rfl
            refine wpAnyH_done (by kernel_rfl) ?_ _
            refine NoPanic.normal ?_
            have hfin : PlD w (w4.setRow W.drew.heap.size (xuV (doU s d) iv4 ov4)) bx b W.drew.heap.size (doU s d) s p q := ⟨⟨F', iv4, ov4, q1.keep hcy (fun k hk e => (q4 k hk).elim (fun h => by have := hFl k h; omega) (fun h => by omega)), (q2.keep (hcy.mono (fun k hk => .inr (.inr hk)))).more (fun k hk => .inl (hk.imp id .inl)), (q3.keep (hcy.mono (fun k hk => .inr (.inr hk)))).more (fun k hk => .inl (hk.imp id .inl)), fun k hk => (q4 k hk).elim (h4 k) (fun h => by omega), hy4.row _⟩, ⟨iv, ov, hs6.1⟩, ((q5.cs (h6.low hb3) (fun a => by have := h4 _ a; omega)).rowFar (by omega) _), h7, by omega, hs6.2⟩
            have HFIN := Lib.hid hfin
            clear hfin hs6 hs4 hb3 hyN hy4 hcy hone q1 q2 q3 q4 q5 h1 h2 h3 h4 h5 h6 h7 h8 hbxl hs0 hs3 hne hFl h6b hszb
            go_wp2_with fail
            go_meet
            exact ⟨_, rfl, rfl, HFIN.out⟩
        case rest =>
          obtain ⟨nb, rfl, rfl, hD⟩ := hcut
          obtain ⟨F, iv, ov, g1, g2, g3, g4, g5⟩ := hD.ex
          obtain ⟨jv, qv, g6⟩ := hD.x
          have HY := Lib.hid g5
          have HX := Lib.hid g6
          have HONE := Lib.hid (xuV_one (doU s d) g2.one g3.one)
          have HS3 := Lib.hid (hD.stored g5)
          have hou := doU_out s d
          clear hD g1 g2 g3 g4 g5 g6 HR2
          go_upto_region 12 with (first | (refine wpList_load_row rfl X17 _ rfl nb rfl X17 _ (0, 0) _ HY.out Try.underlying32 rfl info_X17 ?_) | (refine wpList_store_row rfl X17 _ _ rfl bx (xuV (doU s d) iv ov) rfl rfl X17 (xuV s jv qv) HX.out info_X17 rfl HONE.out ?_))
          clear HX HY HONE
          generalize wc.setRow bx (xuV (doU s d) iv ov) = w3 at *
          generalize hs2 : doU s d = s2 at *
          clear hs2
          obtain ⟨F3, iv3, ov3, k1, k2, k3, k4, k5⟩ := HS3.out.ex
          have HX3 := Lib.hid k5
          have HHO := Lib.hid (uholds_c F3 _ b s2 iv3 ov3 w3 k1 k2 k3 (by omega))
          clear k1 k2 k3 k4 k5
          go_wp2_with (refine wpList_load_csW (by rfl) X17 _ rfl bx rfl X17 _ _ HX3.out Try.underlying32 rfl info_X17 ?_)
          refine HHO.out.mono ?_
          rintro e w4 ⟨rfl, hb4⟩
          have HS4 := Lib.hid (HS3.out.low hb4)
          clear hb4 HHO HX3 HS3
          go_wp2_with fail
          go_roundw
          case rel => exact ⟨k + 1, s2, by omega, by omega, by go_num, HS4.out⟩
          case measure => simp [intOf]; omega
      · have e0 : decide ((k : Int) < (n : Int)) = false := by simp; omega
        obtain rfl : k = n := by omega
        obtain ⟨F, iv, ov, p1, p2, p3, p4, p5⟩ := HR.out.ex
        have HS0 := Lib.hid (show PlS w wr bx b s p q from HR.out)
        clear HR
        go_wp2_with fail
        refine (uclone_c (by omega) p1).mono ?_
        rintro e w3 ⟨c, rfl, hc3, hb3⟩
        obtain ⟨Fc, hFc⟩ : ∃ Fc : Nat → Prop, (fun i => wr.heap.size ≤ i ∧ i < w3.heap.size) = Fc := ⟨_, rfl⟩
        have hFw : ∀ i, Fc i → wr.heap.size ≤ i := fun i hi => by rw [← hFc] at hi; exact hi.1
        rw [hFc] at hc3
        have hsm := usame_c hc3 (p1.low hb3) (by omega)
        rw [sameU_self] at hsm
        have HSM := Lib.hid hsm
        have HC3 := Lib.hid hc3
        have HB3 := Lib.hid hb3
        have HFW := Lib.hid hFw
        have HI := Lib.hid (fun (W : World) (hb : Below wr.heap.size wr W) => (p2.more (H := fun i => Fc i ∨ (fun _ => False) i) (fun i hi => .inr (hi.elim (hFw i) False.elim))).low hb)
        have HO := Lib.hid (fun (W : World) (hb : Below wr.heap.size wr W) => (p3.more (H := fun i => Fc i ∨ (fun _ => False) i) (fun i hi => .inr (hi.elim (hFw i) False.elim))).low hb)
        have HP := Lib.hid p1
        have HVI := Lib.hid p2
        have HVO := Lib.hid p3
        have HX := Lib.hid p5
        clear hsm hc3 hb3 hFw hFc p1 p2 p3 p4 p5
        go_wp2_with fail
        refine HSM.out.mono ?_
        rintro e w4 ⟨rfl, hb4⟩
        have HB4 := Lib.hid (HB3.out.trans (hb4.mono HB3.out.size))
        have HC4 := Lib.hid (HC3.out.low hb4)
        clear hb4 HSM HC3 HB3
        have HX4 := Lib.hid (HX.out.low HB4.out)
        have HD4 := Lib.hid (rng_d0 (HS0.out.ob.low HB4.out))
        have HDO := Lib.hid (du_c Fc (fun _ => False) c s iv ov p HPI.out w4 HC4.out (fun _ h => h.elim) (HI.out _ HB4.out) (HO.out _ HB4.out) (by omega))
        have hou := doU_out s p
        clear HI HO
        go_wp2_with (first | (refine wpList_load_row rfl X17 _ rfl bx rfl X17 _ (0, 0) _ HX4.out Try.underlying32 rfl info_X17 ?_) | (refine wpList_load_du (by rfl) DuT _ rfl w.heap.size 0 rfl p _ HD4.out Try.underlying25 rfl info_DuT ?_))
        refine HDO.out.mono ?_
        rintro e w5 ⟨iv5, ov5, rfl, hq5⟩
        obtain ⟨⟨Fd, q1, q2, q3, q4⟩, q5⟩ := hq5
        have HFD := Lib.hid (show ∀ i, Fd i → wr.heap.size ≤ i from fun i hi => (q4 i hi).elim (HFW.out i) (fun h => Nat.le_trans HB4.out.size h))
        have HB5 := Lib.hid (HB4.out.trans (q5.below HB4.out.size (fun i hi => HFW.out i hi)))
        have HONE := Lib.hid (xuV_one (doU s p) q2.one q3.one)
        have HQ1 := Lib.hid q1
        have HQ2 := Lib.hid q2
        have HQ3 := Lib.hid q3
        clear q1 q2 q3 q4 q5 HDO HD4 HX4 HC4 HB4 HFW
        generalize hs1 : doU s p = s1 at *
        clear hs1
        go_upto_region 18 with (refine wpList_storeNew (w0 := w5) rfl X17 _ _ rfl (xuV Ut.zero (.slice none 0 0) (.slice none 0 0)) (xuV s1 iv5 ov5) X17 rfl rfl info_X17 rfl HONE.out ?_)
        have hb6 : Below w5.heap.size w5 (w5.alloc (.cells (xuV s1 iv5 ov5) X17)) := (Below.refl _ _).alloc (Nat.le_refl _) _
        have HY6 := Lib.hid (CsAt.new w5 X17 (xuV s1 iv5 ov5))
        have HB6 := Lib.hid (HB5.out.trans (hb6.mono HB5.out.size))
        have HP6 := Lib.hid (HQ1.out.low hb6)
        have HI6 := Lib.hid (HQ2.out.low hb6)
        have HO6 := Lib.hid (HQ3.out.low hb6)
        clear hb6 HQ1 HQ2 HQ3 HB5 HONE
        generalize w5.alloc (.cells (xuV s1 iv5 ov5) X17) = w6 at *
        generalize w5.heap.size = y5 at *
        have HD6 := Lib.hid (rng_d1 (HS0.out.ob.low HB6.out))
        have HDO := Lib.hid (du_c Fd (fun _ => False) c s1 iv5 ov5 q HQI.out w6 HP6.out (fun _ h => h.elim) HI6.out HO6.out (by omega))
        have hou2 := doU_out s1 q
        clear HI6 HO6
        go_wp2_with (first | (refine wpList_load_row rfl X17 _ rfl y5 rfl X17 _ (0, 0) _ HY6.out Try.underlying32 rfl info_X17 ?_) | (refine wpList_load_du (by rfl) DuT _ rfl w.heap.size 3 rfl q _ HD6.out Try.underlying25 rfl info_DuT ?_))
        refine HDO.out.mono ?_
        rintro e w7 ⟨iv7, ov7, rfl, hq7⟩
        obtain ⟨⟨Fe, q1, q2, q3, q4⟩, q5⟩ := hq7
        have HB7 := Lib.hid (HB6.out.trans (q5.below HB6.out.size (fun i hi => HFD.out i hi)))
        have HONE := Lib.hid (xuV_one (doU s1 q) q2.one q3.one)
        have HQ1 := Lib.hid q1
        have HQ2 := Lib.hid q2
        have HQ3 := Lib.hid q3
        clear q1 q2 q3 q4 q5 HDO HD6 HY6 HP6 HB6 HFD
        generalize hs2 : doU s1 q = s2 at *
        clear hs2
        go_upto_region 19 with (refine wpList_storeNew (w0 := w7) rfl X17 _ _ rfl (xuV Ut.zero (.slice none 0 0) (.slice none 0 0)) (xuV s2 iv7 ov7) X17 rfl rfl info_X17 rfl HONE.out ?_)
        have hb8 : Below w7.heap.size w7 (w7.alloc (.cells (xuV s2 iv7 ov7) X17)) := (Below.refl _ _).alloc (Nat.le_refl _) _
        have HZ := Lib.hid (CsAt.new w7 X17 (xuV s2 iv7 ov7))
        have HB8 := Lib.hid (HB7.out.trans (hb8.mono HB7.out.size))
        have HP8 := Lib.hid (HQ1.out.low hb8)
        have HI8 := Lib.hid (HQ2.out.low hb8)
        have HO8 := Lib.hid (HQ3.out.low hb8)
        clear hb8 HQ1 HQ2 HQ3 HB7 HONE
        generalize w7.alloc (.cells (xuV s2 iv7 ov7) X17) = w8 at *
        generalize w7.heap.size = zb at *
        have HHC := Lib.hid (fun (W : World) (hb : Below w8.heap.size w8 W) => uholds_c Fe _ c s2 iv7 ov7 W (HP8.out.low hb) (HI8.out.low hb) (HO8.out.low hb) (by omega))
        have HX8 := Lib.hid (HX.out.low HB8.out)
        have HHP := Lib.hid (fun (W : World) (hb : Below w8.heap.size w8 W) => uholds_c F _ b s iv ov W ((HP.out.low HB8.out).low hb) ((HVI.out.low HB8.out).low hb) ((HVO.out.low HB8.out).low hb) (by omega))
        have hsm := fun (W : World) (hb : Below w8.heap.size w8 W) => usame_c (HP8.out.low hb) ((HP.out.low HB8.out).low hb) (by omega)
        have hrs := fun (W : World) (hb : Below w8.heap.size w8 W) => rsame_c _ _ s s2 iv ov iv7 ov7 W ((HVI.out.low HB8.out).low hb) ((HVO.out.low HB8.out).low hb) (HI8.out.low hb) (HO8.out.low hb) (by have := HP.out.ok.qn; omega) (by omega)
        rw [sameU_comm] at hsm
        generalize sameU s s2 = r at *
        have HSM := Lib.hid hsm
        have HRS := Lib.hid hrs
        have HEND := Lib.hid (show Below w.heap.size w w8 from HS0.out.bel.trans (HB8.out.mono HS0.out.bel.size))
        have gr : (r == r) = true := by simp
        clear hsm hrs HP8 HI8 HO8 HB8 HP HVI HVO HX HS0
        refine wp_region_steady (fun W => Below w8.heap.size w8 W) (by kernel_rfl) (by kernel_rfl) (below_dU (Below.refl _ _) 1) ?_
        iterate 6
          refine steady_val ?_ ?_ (by kernel_rfl) (fun W hS => ?_) ?_ ?_
          rotate_left 2
          · go_simp
            exact rfl
          · go_simp
            exact rfl
        refine steady_val (.agg (xuV s2 iv7 ov7)) ?_ (by kernel_rfl) (fun W hS => exec_load_row X17 _ rfl zb rfl X17 _ _ (HZ.out.low hS) Try.underlying32 rfl info_X17) ?_ ?_
        rotate_left 1
        · go_simp
          exact rfl
        refine steady_enter (.bool true) 12 #[.pointer (some ⟨c, 0, none⟩), .agg (xuV s2 iv7 ov7)] ?_ (by kernel_rfl) (fun W hS => ?_) (fun W hS => (HHC.out W hS).mono (by rintro e w' ⟨rfl, hb⟩; exact ⟨rfl, hS.trans (hb.mono hS.size)⟩)) ?_ ?_
        rotate_left 1
        · go_simp
        · go_simp
          exact rfl
        iterate 3
          refine steady_val ?_ ?_ (by kernel_rfl) (fun W hS => ?_) ?_ ?_
          rotate_left 2
          · go_simp
            exact rfl
          · go_simp
            exact rfl
        refine steady_val (.agg (xuV s iv ov)) ?_ (by kernel_rfl) (fun W hS => exec_load_row X17 _ rfl bx rfl X17 _ _ (HX8.out.low hS) Try.underlying32 rfl info_X17) ?_ ?_
        rotate_left 1
        · go_simp
          exact rfl
        refine steady_enter (.bool true) 12 #[.pointer (some ⟨b, 0, none⟩), .agg (xuV s iv ov)] ?_ (by kernel_rfl) (fun W hS => ?_) (fun W hS => (HHP.out W hS).mono (by rintro e w' ⟨rfl, hb⟩; exact ⟨rfl, hS.trans (hb.mono hS.size)⟩)) ?_ ?_
        rotate_left 1
        · go_simp
        · go_simp
          exact rfl
        iterate 4
          refine steady_val ?_ ?_ (by kernel_rfl) (fun W hS => ?_) ?_ ?_
          rotate_left 2
          · go_simp
            exact rfl
          · go_simp
            exact rfl
        refine steady_enter (.bool r) 14 #[.pointer (some ⟨c, 0, none⟩), .pointer (some ⟨b, 0, none⟩)] ?_ (by kernel_rfl) (fun W hS => ?_) (fun W hS => (HSM.out W hS).mono (by rintro e w' ⟨rfl, hb⟩; exact ⟨rfl, hS.trans (hb.mono hS.size)⟩)) ?_ ?_
        rotate_left 1
        · go_simp
        · go_simp
          exact rfl
        refine steady_val (.agg (xuV s iv ov)) ?_ (by kernel_rfl) (fun W hS => exec_load_row X17 _ rfl bx rfl X17 _ _ (HX8.out.low hS) Try.underlying32 rfl info_X17) ?_ ?_
        rotate_left 1
        · go_simp
          exact rfl
        refine steady_val (.agg (xuV s2 iv7 ov7)) ?_ (by kernel_rfl) (fun W hS => exec_load_row X17 _ rfl zb rfl X17 _ _ (HZ.out.low hS) Try.underlying32 rfl info_X17) ?_ ?_
        rotate_left 1
        · go_simp
          exact rfl
        refine steady_enter (.bool r) 15 #[.agg (xuV s iv ov), .agg (xuV s2 iv7 ov7)] ?_ (by kernel_rfl) (fun W hS => ?_) (fun W hS => (HRS.out W hS).mono (by rintro e w' ⟨rfl, hb⟩; exact ⟨rfl, hS.trans (hb.mono hS.size)⟩)) ?_ ?_
        rotate_left 1
        · go_simp
        · go_simp
          exact rfl
        refine steady_val (.bool true) ?_ (by kernel_rfl) (fun W hS => by go_simp) ?_ ?_
        rotate_left 1
        · go_simp
          exact rfl
        iterate 2
          refine steady_val ?_ ?_ (by kernel_rfl) (fun W hS => ?_) ?_ ?_
          rotate_left 2
          · go_simp
            exact rfl
          · go_simp
            exact rfl
        refine steady_enter (.bool true) 8 #[] ?_ (by kernel_rfl) (fun W hS => ?_) (fun W hS => (live17_c W).mono (by rintro e w' ⟨rfl, hb⟩; exact ⟨rfl, hS.trans (hb.mono hS.size)⟩)) ?_ ?_
        rotate_left 1
        · go_simp
        · go_simp
          exact rfl
        iterate 2
          refine steady_val ?_ ?_ (by kernel_rfl) (fun W hS => ?_) ?_ ?_
          rotate_left 2
          · go_simp
            exact rfl
          · go_simp
            exact rfl
        refine steady_nil ?_
        intro W hS
        have HF := Lib.hid (HEND.out.trans (hS.mono HEND.out.size))
        clear hS HEND HHC HHP HSM HRS HX8 HZ
        go_wp2_with fail
        go_ret
        exact ⟨rfl, HF.out⟩
end Go.Proofs.Ytihinimgenpijaa
