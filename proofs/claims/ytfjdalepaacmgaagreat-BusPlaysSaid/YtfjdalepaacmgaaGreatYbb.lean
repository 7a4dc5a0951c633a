/-
  The program's bus and the reference's row: the row stored; when both say the same; the same bus twice. BusPlays walked. What the laws' frames share: the program's knobs.
-/
import Derived.Test.YtfjdalepaacmgaaGreatYba
import Derived.Test.YtfjdalepaacmgaaGreatYan
import Derived.Great.Walk
import Derived.Test.YtfjdalepaacmgaaGreatRows
import Derived.WalkKit
import Derived.ProofKit
import Derived.OpenShut
import Derived.ShutString
import Derived.ChangeOld
import Derived.Below
set_option maxRecDepth 20000
namespace Go.Proofs.YtfjdalepaacmgaaGreat
open Go.ChangeShapes Go.WideShapes Go.ChangeAt Go.RowKit

theorem wpList_load_rowV {P : Program} {ops : Array Oper} {rest : List Oper} {o : Oper} {a : Act} {w : World} {Q : Exit → Act → World → Prop} (hw : Region.wanted o (yielded ops a.tmps) = true) (ty : TypeId) (x : Operand) (ho : o.op = .load ty x)
    (g : Nat) (hx : a.eval x = .pointer (some ⟨g, 0, none⟩)) (t : TypeId) (cs : Array Value) (fr : Nat × Nat) (d : TypeDesc) (hg : w.heap[g]? = some (.cells cs t fr))
    (hu : P.underlying ty = some d) (hd : (match d with | .struct _ | .array _ _ => true | _ => false) = true) (hi : (P.info? ty).map (·.size) = some cs.size)
    (h : wpList P ops Q rest (a.put o.dst (.agg cs)) w) : wpList P ops Q (o :: rest) a w :=
  wpList_step fun _ hK => by
    rw [if_pos hw]
    exact wp_load_row ty x ho g hx t cs fr d hg hu hd hi (hK _ _ h)
theorem PbF.stored {F : Nat → Prop} {w W : World} {b bx : Nat} {X Y : Bs.B} {iv ov : Value} {p : Db} (h : PbF F w W b bx Y X iv ov p) (iv' ov' : Value) (hi : VwG (fun k => F k ∨ k = b ∨ k = bx) W iv' Y.u.q) (ho : VwG (fun k => F k ∨ k = b ∨ k = bx) W ov' Y.u.out) :
    PbF F w (W.setRow bx (xbX Y (xuV Y.u iv' ov'))) b bx Y Y iv' ov' p := by
  have hc : Chg (fun k => k = bx) W (W.setRow bx (xbX Y (xuV Y.u iv' ov'))) := Chg.of_row (S := fun k => k = bx) rfl _
  have hcg : Chg (fun k => F k ∨ k = b ∨ k = bx) W (W.setRow bx (xbX Y (xuV Y.u iv' ov'))) := hc.mono (fun k hk => .inr (.inr hk))
  obtain ⟨g, g1, g2⟩ := h.bu.ex
  have hbx := h.hbx
  exact ⟨⟨⟨g, hc.cs g1 (fun e => h.ne e), g2.keep hc (fun k hk e => (h.lo k hk).2 e)⟩, h.bu.nb, h.bu.okc, h.bu.okp⟩, hi.keep hcg, ho.keep hcg, h.lo, h.x.row _, h.bu.okc, h.bu.okp, h.bu.oku, h.ob.rowFar (by omega) _, h.hb, h.hbx, h.ne, below_setRow h.bel (by omega) _⟩
theorem sameU_comm' (s t : Ut.S) : sameU s t = sameU t s := by
  rw [sameU_all, sameU_all]
  have hb : ∀ a b : List Int, eqB a b = eqB b a := fun a b => by
    unfold eqB
    exact decide_eq_decide.2 ⟨Eq.symm, Eq.symm⟩
  rw [hb s.q, hb s.out]
  simp only [bne, Bool.not_not, BEq.comm (a := s.ier), BEq.comm (a := s.lcr), BEq.comm (a := s.mcr), BEq.comm (a := s.scr), BEq.comm (a := s.dll), BEq.comm (a := s.dlm), BEq.comm (a := s.fifo), BEq.comm (a := s.lost), BEq.comm (a := s.empty)]
theorem sameB_comm (X Y : Bs.B) : sameB X Y = sameB Y X := by
  unfold sameB
  rw [sameU_comm' X.u, decide_eq_decide.2 (show (X.n = Y.n ∧ X.c = Y.c) ↔ (Y.n = X.n ∧ Y.c = X.c) from ⟨fun h => ⟨h.1.symm, h.2.symm⟩, fun h => ⟨h.1.symm, h.2.symm⟩⟩), decide_eq_decide.2 (show (X.n = Y.n ∧ X.p = Y.p) ↔ (Y.n = X.n ∧ Y.p = X.p) from ⟨fun h => ⟨h.1.symm, h.2.symm⟩, fun h => ⟨h.1.symm, h.2.symm⟩⟩)]
theorem sameB_self (X : Bs.B) : sameB X X = true := by
  unfold sameB
  rw [sameU_all]
  have hb : ∀ a : List Int, eqB a a = true := fun a => by unfold eqB; simp
  rw [hb, hb]
  simp
theorem db_ask (d : Db) : ∀ j, j < 19 → d.cells[1 + j]? = d.ask.cells.toList[j]?
  | 0, _ => rfl | 1, _ => rfl | 2, _ => rfl | 3, _ => rfl | 4, _ => rfl | 5, _ => rfl | 6, _ => rfl | 7, _ => rfl | 8, _ => rfl | 9, _ => rfl | 10, _ => rfl | 11, _ => rfl | 12, _ => rfl | 13, _ => rfl | 14, _ => rfl | 15, _ => rfl | 16, _ => rfl | 17, _ => rfl | 18, _ => rfl
  | j + 19, h => by omega
/-- The ask of a deed in its block. -/
theorem ob_ask {W : World} {g : Nat} {p : Db} (h : CsAt W g DbT p.cells) : W.rangeAt g 1 p.ask.cells.toList := fun j v hv => by
  have hj : j < 19 := by
    have := (List.getElem?_eq_some_iff.1 hv).1
    simpa using this
  have h1 := h.cell (1 + j)
  rw [db_ask p j hj, hv] at h1
  exact h1
end Go.Proofs.YtfjdalepaacmgaaGreat
set_option maxRecDepth 20000
namespace Go.Proofs.YtfjdalepaacmgaaGreat
open Go.ChangeShapes Go.WideShapes Go.ChangeAt Go.RowKit

theorem rng_db {w W : World} {b off k : Nat} {d : Db} (hdl : b < w.heap.size) (hc : ∀ f, f < 20 → w.cell? ⟨b, off + k * 20 + f, none⟩ = d.cells[f]?) (hb : Below w.heap.size w W) : W.rangeAt b (off + k * 20 + 1) d.ask.cells.toList := fun j v hv => by
  have hj : j < 19 := by
    have := (List.getElem?_eq_some_iff.1 hv).1
    simpa using this
  have h1 := hc (1 + j) (by omega)
  rw [db_ask d j hj, hv, ← Nat.add_assoc] at h1
  exact (hb.cell (p := ⟨b, off + k * 20 + 1 + j, none⟩) hdl).trans h1
/-- A block c that was made ahead of it is stored into behind it. -/
theorem BuQ.boxed {F : Nat → Prop} {W V V' : World} {b c : Nat} {Y : Bs.B} (h : BuQ F V V' b Y) (hv : Below W.heap.size W V) (h1 : W.heap.size ≤ c) (h2 : c < V.heap.size) (h3 : ¬ F c) (h4 : c ≠ b) (cs : Array Value) : BuQ F W (V'.setRow c cs) b Y := by
  obtain ⟨⟨F', k1, k2⟩, k3⟩ := h
  have hc : Chg (fun k => k = c) V' (V'.setRow c cs) := Chg.of_row (S := fun k => k = c) rfl _
  have hf : ¬ F' c := fun hh => (k2 c hh).elim h3 (fun h => by omega)
  obtain ⟨g, g1, g2⟩ := k1.ex
  refine ⟨⟨F', ⟨⟨g, hc.cs g1 (fun e => h4 e.symm), g2.keep hc (fun k hk e => hf (by rw [← show k = c from e]; exact hk))⟩, k1.nb, k1.okc, k1.okp⟩, fun k hk => (k2 k hk).imp id (fun h => Nat.le_trans hv.size h)⟩, ((Chg.of_below hv).trans k3).transN hc (fun i hi => .inr (by rw [show i = c from hi]; exact h1))⟩
theorem wpList_allocZ {P : Program} {ops : Array Oper} {rest : List Oper} {o : Oper} {a : Act} {w : World} {Q : Exit → Act → World → Prop} (hg : o.guard = none) (dst : Option Tmp) (hdst : o.dst = dst) (ty : TypeId) (ho : o.op = .alloc ty) (cs : Array Value) (hz : (zeroValue ty).run P w = .ok (.agg cs) w)
    (h : wpList P ops Q rest (a.put dst (.pointer (some ⟨w.heap.size, 0, none⟩))) (w.alloc (.cells cs ty))) : wpList P ops Q (o :: rest) a w :=
  Go.Great.wpList_allocTo hg dst hdst _ _ (exec_alloc ty ho (.agg cs) hz) h
theorem exec_allocZ {P : Program} {o : Oper} {a : Act} {w : World} (ty : TypeId) (ho : o.op = .alloc ty) (cs : Array Value) (hz : (zeroValue ty).run P w = .ok (.agg cs) w) : (execOp a.eval o).run P w = .ok (.value (.pointer (some ⟨w.heap.size, 0, none⟩))) (w.alloc (.cells cs ty)) := exec_alloc ty ho (.agg cs) hz
theorem zero_bx1 (W : World) : (zeroValue BxT).run Tryz.prog W = .ok (.agg xb0') W := zero_bx W
theorem new_x (n : Nat) : xbV n (x15V n (Ct.newW n)) (x16V n Pc.zeros) uxZ = xbX (Bs.new n) (xuV (Bs.new n).u (.slice none 0 0) (.slice none 0 0)) := rfl
set_option maxRecDepth 100000 in
set_option maxHeartbeats 32000000 in
theorem bplays_walk (w : World) (h : Int) (ao : Option Addr) (n cap : Nat) (l : List Db) (p : Db) (hds : Dbs w ao n l) (hp : p.In) :
    Calls Tryz.prog 3 #[.int .i64 h, .slice ao n cap, .agg p.cells] w fun e w' => e = .returned (.bool true) ∧ Below w.heap.size w w' := by
  have HDS := Lib.hid hds
  have hmx := hds.max
  have HPI := Lib.hid hp
  have hba : Below w.heap.size w (w.alloc (.cells p.cells DbT)) := (Below.refl _ _).alloc (Nat.le_refl _) _
  have HBA := Lib.hid hba
  have HOB := Lib.hid (CsAt.new w DbT p.cells)
  have HLV := Lib.hid (fun W => live18_c W)
  clear hds hp hba
  by_cases hok : Bs.okH h = false
  · have e1 : decide (h < 1) = true ∨ (decide (h < 1) = false ∧ decide (h > 8) = true) := by
      have : ¬ (1 ≤ h ∧ h ≤ 8) := by simpa [Bs.okH] using hok
      by_cases h1 : h < 1
      · exact .inl (by simpa using h1)
      · exact .inr ⟨by simpa using h1, by simp; omega⟩
    have HN := Lib.hid (fun W => bnew_c h W)
    rw [hok] at HN
    clear hok hmx
    rcases e1 with e1 | ⟨e1, e2⟩
    · skip
      go_enter Tryz.func3, Tryz.ntmps3
      go_upto_region 1 with fail
      generalize w.alloc (.cells p.cells DbT) = w0 at *
      go_wp2_with fail
      refine (HN.out _).mono ?_
      rintro e w1 ⟨hb1, hc1⟩
      have HB := Lib.hid (HBA.out.trans (hb1.mono HBA.out.size))
      rcases hc1 with ⟨-, rfl⟩ | ⟨hno, -⟩
      rotate_left 1
      · exact absurd hno (by simp)
      clear hb1 HN
      go_wp2_with fail
      refine (HLV.out _).mono ?_
      rintro e w2 ⟨rfl, hb2⟩
      replace HB := Lib.hid (HB.out.trans (hb2.mono HB.out.size))
      clear hb2
      go_wp2_with fail
      go_ret
      exact ⟨rfl, HB.out⟩
    · skip
      go_enter Tryz.func3, Tryz.ntmps3
      go_upto_region 1 with fail
      generalize w.alloc (.cells p.cells DbT) = w0 at *
      go_wp2_with fail
      refine (HN.out _).mono ?_
      rintro e w1 ⟨hb1, hc1⟩
      have HB := Lib.hid (HBA.out.trans (hb1.mono HBA.out.size))
      rcases hc1 with ⟨-, rfl⟩ | ⟨hno, -⟩
      rotate_left 1
      · exact absurd hno (by simp)
      clear hb1 HN
      go_wp2_with fail
      refine (HLV.out _).mono ?_
      rintro e w2 ⟨rfl, hb2⟩
      replace HB := Lib.hid (HB.out.trans (hb2.mono HB.out.size))
      clear hb2
      go_wp2_with fail
      go_ret
      exact ⟨rfl, HB.out⟩
  · have hok : Bs.okH h = true := by simpa using hok
    have hh : 1 ≤ h ∧ h ≤ 8 := by simpa [Bs.okH] using hok
    have e1 : decide (h < 1) = false := by simp; omega
    have e2 : decide (h > 8) = false := by simp; omega
    have HN := Lib.hid (fun W => bnew_c h W)
    rw [hok] at HN
    by_cases hlong : 120 < n
    · have g0 : decide ((n : Int) > 120) = true := by simp; omega
      clear hok hmx hh
      go_enter Tryz.func3, Tryz.ntmps3
      go_upto_region 1 with fail
      generalize w.alloc (.cells p.cells DbT) = w0 at *
      go_wp2_with fail
      refine (HN.out _).mono ?_
      rintro e w1 ⟨hb1, hc1⟩
      have HB := Lib.hid (HBA.out.trans (hb1.mono HBA.out.size))
      rcases hc1 with ⟨hno, -⟩ | ⟨-, F, b, rfl, -, -, -⟩
      · exact absurd hno (by simp)
      clear hb1 HN
      go_wp2_with fail
      refine (HLV.out _).mono ?_
      rintro e w2 ⟨rfl, hb2⟩
      replace HB := Lib.hid (HB.out.trans (hb2.mono HB.out.size))
      clear hb2
      go_wp2_with fail
      go_ret
      exact ⟨rfl, HB.out⟩
    · have g0 : decide ((n : Int) > 120) = false := by simp; omega
      obtain ⟨m, rfl⟩ : ∃ m : Nat, h = m := ⟨h.toNat, by omega⟩
      have HRN := Lib.hid (fun W => rnewB_c m (by omega) W)
      have hzb : ∀ W : World, (zeroValue BxT).run Tryz.prog W = .ok (.agg xb0') W := zero_bx
      have hm : 1 ≤ m ∧ m ≤ 8 := by omega
      clear hok hh hzb
      go_enter Tryz.func3, Tryz.ntmps3
      go_upto_region 1 with fail
      generalize hw0 : w.alloc (.cells p.cells DbT) = w0 at *
      have hs0 : w0.heap.size = w.heap.size + 1 := by rw [← hw0]; simp
      clear hw0
      go_wp2_with fail
      refine (HN.out _).mono ?_
      rintro e w1 ⟨hb1, hc1⟩
      rcases hc1 with ⟨hno, -⟩ | ⟨-, F, b, rfl, hbu, hF, hbl⟩
      · exact absurd hno (by simp)
      rw [show ((m : Int)).toNat = m by omega] at hbu
      have HB := Lib.hid (HBA.out.trans (hb1.mono HBA.out.size))
      have HO1 := Lib.hid (HOB.out.low hb1)
      have HBU := Lib.hid hbu
      have HF := Lib.hid (And.intro hF (And.intro hbl hs0))
      clear hb1 HN HBA HOB hbu hF hbl hs0
      go_wp2_with fail
      refine (HRN.out _).mono ?_
      rintro e w2 ⟨rfl, hb2⟩
      rw [new_x]
      have HLT := Lib.hid (And.intro HBU.out.lt hb2.size)
      replace HBU := Lib.hid (HBU.out.low hb2)
      replace HB := Lib.hid (HB.out.trans (hb2.mono HB.out.size))
      replace HO1 := Lib.hid (HO1.out.low hb2)
      clear hb2 HRN
      have KC := Lib.hid (HBU.out.okc)
      have KP := Lib.hid (HBU.out.okp)
      have KU := Lib.hid (HBU.out.oku)
      have hXn : 1 ≤ (Bs.new m).n := hm.1
      have hXo : (Bs.new m).u.out.length = 0 := rfl
      have HQE := Lib.hid (show (Bs.new m).u.q = [] ∧ (Bs.new m).u.out = [] from ⟨rfl, rfl⟩)
      obtain ⟨X0, hX0⟩ : ∃ X, Bs.new m = X := ⟨_, rfl⟩
      rw [hX0] at hXn hXo HBU KC KP KU HQE ⊢
      clear hX0 hm
      have IX := Lib.hid (iBx X0.n (x15_size X0.n X0.c KC.out.len) (x16_size' X0.n X0.p) (show (xuV X0.u (.slice none 0 0) (.slice none 0 0)).size = 11 from rfl))
      have OX := Lib.hid (xbV_one X0.n (x15V_one (n := X0.n) (ws := X0.c)) (x16_one (n := X0.n) (ws := X0.p)) (xuV_one X0.u (iv := .slice none 0 0) (ov := .slice none 0 0) rfl rfl))
      have ZX := Lib.hid (show (xb0').size = (xbX X0 (xuV X0.u (.slice none 0 0) (.slice none 0 0))).size by rw [xbX_size KC.out.len rfl]; exact xbV_size 0 (x15_size 0 _ (ctnew_len (by omega))) (x16_size' _ _) rfl)
      go_upto_region 5 with (first
        | (refine wpList_allocZ rfl _ rfl BxT rfl xb0' (zero_bx1 _) ?_)
        | (refine wpList_storeNew (w0 := w2) rfl BxT _ _ rfl xb0' (xbX X0 (xuV X0.u (.slice none 0 0) (.slice none 0 0))) BxT (by kernel_rfl) (by kernel_rfl) IX.out ZX.out OX.out ?_))
      have hb3 : Below w2.heap.size w2 (w2.alloc (.cells (xbX X0 (xuV X0.u (.slice none 0 0) (.slice none 0 0))) BxT)) := (Below.refl _ _).alloc (Nat.le_refl _) _
      have hbw := HB.out.size
      obtain ⟨hF, hbl, hs0⟩ := HF.out
      obtain ⟨hlt, hsz⟩ := HLT.out
      have HS := Lib.hid (show PbF F w (w2.alloc (.cells (xbX X0 (xuV X0.u (.slice none 0 0) (.slice none 0 0))) BxT)) b w2.heap.size X0 X0 (.slice none 0 0) (.slice none 0 0) p from
        ⟨HBU.out.low hb3, by rw [HQE.out.1]; exact VwG.nil _ _, by rw [HQE.out.2]; exact VwG.nil _ _, fun k hk => ⟨by have := hF k hk; omega, by have := HBU.out.lo k hk; omega⟩, CsAt.new _ _ _, KC.out, KP.out, KU.out, HO1.out.low hb3, by omega, by omega, by omega, HB.out.trans (hb3.mono HB.out.size)⟩)
      clear hb3 hbw hF hbl hs0 hlt hsz HBU HF HLT HO1 HB KC KP KU IX OX ZX HQE
      generalize w2.alloc (.cells (xbX X0 (xuV X0.u (.slice none 0 0) (.slice none 0 0))) BxT) = w3 at *
      generalize w2.heap.size = bx at *
      go_wp2_with fail
      go_loopw [10] (fun i wr => ∃ (k : Nat) (F : Nat → Prop) (X : Bs.B) (iv ov : Value), k ≤ n ∧ X.u.out.length ≤ k ∧ 1 ≤ X.n ∧ i = .int .i64 k ∧ PbF F w wr b bx X X iv ov p) (fun i _ => n - (intOf i).toNat)
      case atStart => exact ⟨0, F, X0, _, _, Nat.zero_le _, by omega, hXn, rfl, HS.out⟩
      case round =>
        clear HS hXn hXo
        obtain ⟨k, F, X, iv, ov, hk, hXo, hXn, rfl, hs⟩ := hrel
        have HR := Lib.hid hs
        clear hs
        by_cases hlt : k < n
        · have e0 : decide ((k : Int) < (n : Int)) = true := by simp; omega
          obtain ⟨db, off, rfl, hdl, hcells⟩ := HDS.out.at_ (by omega)
          have hin := HDS.out.each k hlt
          have HDD := Lib.hid (fun (W : World) (hb : Below w.heap.size w W) => rng_db (W := W) hdl (fun f hf => hcells k hlt f hf) hb)
          have c0 := hcells k hlt 0 (by omega)
          have HIN := Lib.hid hin
          clear hcells hin
          generalize l.getD k Db.zero = d at *
          have c0 : w.cell? ⟨db, off + k * 20, none⟩ = some (.int .i64 d.hart) := c0
          have HC0 := Lib.hid (fun (W : World) (hb : Below w.heap.size w W) => (hb.cell (p := ⟨db, off + k * 20, none⟩) hdl).trans c0)
          have gk : (k : Int) < (n : Int) := by omega
          clear c0
          have HBD := Lib.hid (fun (F : Nat → Prop) (W : World) (hb : Bu F W b X) => bdo_c F b X d.hart d.ask HIN.out.ask (by omega) W hb)
          have HRD := Lib.hid (fun (G : Nat → Prop) (iv ov : Value) (W : World) (oc : Ct.Ok X.n X.c) (op : Pc.Ok X.n X.p) (ou : Ut.Ok X.u) (hG : ∀ k, G k → k < W.heap.size) (hi : VwG G W iv X.u.q) (ho : VwG G W ov X.u.out) => rdo18_c G X d.hart d.ask HIN.out.ask oc op ou (by omega) iv ov W hG hi ho)
          have hYn : 1 ≤ (Bs.doX X d.hart d.ask).n := by rw [doX_n]; exact hXn
          have hYo : (Bs.doX X d.hart d.ask).u.out.length ≤ k + 1 := by have := doX_out X d.hart d.ask; omega
          have HVR := Lib.hid (doV_rng HR.out.okc HR.out.okp HR.out.oku d.hart d.ask)
          generalize Bs.doX X d.hart d.ask = Y at *
          generalize Bs.doV X d.hart d.ask = v at *
          generalize Bs.goB X d.hart d.ask = g at *
          go_upto_region 8 with fail
          go_cut [11, 12] (fun s11 s12 wx => ∃ nb F', s11 = .pointer (some ⟨nb, 0, none⟩) ∧ s12 = .bool g ∧ PbF F' w wx b bx Y X iv ov p ∧ CsAt wx nb ANT (anB v) ∧ w.heap.size < nb ∧ nb ≠ bx ∧ nb ≠ b)
          case first =>
            have hp0 := HR.out.low (below_dU (Below.refl _ _) 1 : Below wr.heap.size wr wr.drew)
            have hs0 := hp0.bel
            have hwl := hp0.ob.lt
            have hbl := hp0.bu.lt
            have hxl := hp0.x.lt
            refine wp_region_noPanic ?_
            refine wp_region_held (S := fun V => Below w.heap.size w V) (by kernel_rfl) ?_
            refine takeH (fuel := 17) (i := 0) (.pointer (some ⟨b, 0, none⟩)) ?_ rfl (by kernel_rfl) (by kernel_rfl) (by kernel_rfl) (fun _ _ _ h => h) (by kernel_rfl) (fun W hS => by go_simp) hs0 ?_ ?_
            rotate_left 1
            · go_simp
              exact rfl
            refine takeH (fuel := 16) (i := 1) (.slice (some ⟨db, off, none⟩) n cap) ?_ rfl (by kernel_rfl) (by kernel_rfl) (by kernel_rfl) (fun _ _ _ h => h) (by kernel_rfl) (fun W hS => by go_simp) hs0 ?_ ?_
            rotate_left 1
            · go_simp
              exact rfl
            refine takeH (fuel := 15) (i := 2) (.int .i64 (k : Int)) ?_ rfl (by kernel_rfl) (by kernel_rfl) (by kernel_rfl) (fun _ _ _ h => h) (by kernel_rfl) (fun W hS => by go_simp) hs0 ?_ ?_
            rotate_left 1
            · go_simp
              exact rfl
            refine takeH (fuel := 14) (i := 3) (.pointer (some ⟨db, off + k * 20, none⟩)) ?_ rfl (by kernel_rfl) (by kernel_rfl) (by kernel_rfl) (fun _ _ _ h => h) (by kernel_rfl) (fun W hS => by go_simp) hs0 ?_ ?_
            rotate_left 1
            · go_simp
              exact rfl
            refine takeH (fuel := 13) (i := 4) (.pointer (some ⟨db, off + k * 20, none⟩)) ?_ rfl (by kernel_rfl) (by kernel_rfl) (by kernel_rfl) (fun _ _ _ h => h) (by kernel_rfl) (fun W hS => by go_simp) hs0 ?_ ?_
            rotate_left 1
            · go_simp
              exact rfl
            refine takeH (fuel := 12) (i := 5) (.int .i64 d.hart) ?_ rfl (by kernel_rfl) (by kernel_rfl) (by kernel_rfl) (fun _ _ _ h => h) (by kernel_rfl) (fun W hS => by (have q := HC0.out _ hS; go_simp)) hs0 ?_ ?_
            rotate_left 1
            · go_simp
              exact rfl
            refine takeH (fuel := 11) (i := 6) (.slice (some ⟨db, off, none⟩) n cap) ?_ rfl (by kernel_rfl) (by kernel_rfl) (by kernel_rfl) (fun _ _ _ h => h) (by kernel_rfl) (fun W hS => by go_simp) hs0 ?_ ?_
            rotate_left 1
            · go_simp
              exact rfl
            refine takeH (fuel := 10) (i := 7) (.int .i64 (k : Int)) ?_ rfl (by kernel_rfl) (by kernel_rfl) (by kernel_rfl) (fun _ _ _ h => h) (by kernel_rfl) (fun W hS => by go_simp) hs0 ?_ ?_
            rotate_left 1
            · go_simp
              exact rfl
            refine takeH (fuel := 9) (i := 8) (.pointer (some ⟨db, off + k * 20, none⟩)) ?_ rfl (by kernel_rfl) (by kernel_rfl) (by kernel_rfl) (fun _ _ _ h => h) (by kernel_rfl) (fun W hS => by go_simp) hs0 ?_ ?_
            rotate_left 1
            · go_simp
              exact rfl
            refine takeH (fuel := 8) (i := 9) (.pointer (some ⟨db, off + k * 20 + 1, none⟩)) ?_ rfl (by kernel_rfl) (by kernel_rfl) (by kernel_rfl) (fun _ _ _ h => h) (by kernel_rfl) (fun W hS => by go_simp) hs0 ?_ ?_
            rotate_left 1
            · go_simp
              exact rfl
            refine takeH (fuel := 7) (i := 10) (.agg d.ask.cells) ?_ rfl (by kernel_rfl) (by kernel_rfl) (by kernel_rfl) (fun _ _ _ h => h) (by kernel_rfl) (fun W hS => exec_midU AKT _ rfl db (off + k * 20 + 1) rfl _ _ (HDD.out _ hS) Tryz.underlying31 rfl info_AK) hs0 ?_ ?_
            rotate_left 1
            · go_simp
              exact rfl
            refine wpAnyH_all (fuel := 6) (rs := [11, 15]) (by kernel_rfl) (by decide) ?_
            intro i hi
            simp only [List.mem_cons, List.not_mem_nil, or_false] at hi
            rcases hi with rfl | rfl
            · refine wpOp_callX 7 #[.pointer (some ⟨b, 0, none⟩), .int .i64 d.hart, .agg d.ask.cells] rfl (by kernel_rfl) (by go_simp) ?_
              refine (HBD.out _ _ hp0.bu).mono ?_
              rintro e w4 ⟨rfl, hq4⟩
              obtain ⟨F', hp4⟩ := hp0.run hq4
              have hs4 := hp4.bel
              have hsz4 := hq4.chg.size
              refine ⟨_, rfl, hs4, ?_⟩
              refine takeH (fuel := 5) (i := 12) (.tuple #[.agg (anB v), .bool g]) ?_ rfl (by kernel_rfl) (by kernel_rfl) (by kernel_rfl) (fun _ _ _ h => h) (by kernel_rfl) (fun W hS => by go_simp) hs4 ?_ ?_
              rotate_left 1
              · go_simp
                exact rfl
              refine takeH (fuel := 4) (i := 13) (.agg (anB v)) ?_ rfl (by kernel_rfl) (by kernel_rfl) (by kernel_rfl) (fun _ _ _ h => h) (by kernel_rfl) (fun W hS => by go_simp) hs4 ?_ ?_
              rotate_left 1
              · go_simp
                exact rfl
              refine takeH (fuel := 3) (i := 14) (.bool g) ?_ rfl (by kernel_rfl) (by kernel_rfl) (by kernel_rfl) (fun _ _ _ h => h) (by kernel_rfl) (fun W hS => by go_simp) hs4 ?_ ?_
              rotate_left 1
              · go_simp
                exact rfl
              refine wpAnyH_all (fuel := 2) (rs := [15]) (by kernel_rfl) (by decide) ?_
              intro i hi
              obtain rfl : i = 15 := by simpa using hi
              have hba : Below w4.heap.size w4 (w4.alloc (.cells (anB 0) ANT)) := (Below.refl _ _).alloc (Nat.le_refl _) _
              refine wpOp_valB (.pointer (some ⟨w4.heap.size, 0, none⟩)) (w4.alloc (.cells (anB 0) ANT)) _ rfl (by kernel_rfl) (exec_alloc ANT rfl (.agg (anB 0)) (zero_an _)) rfl ?_
              have hs5 : Below w.heap.size w (w4.alloc (.cells (anB 0) ANT)) := hs4.trans (hba.mono hs4.size)
              refine ⟨hs5, ?_⟩
              refine wpAnyH_all (fuel := 1) (rs := [16]) (by kernel_rfl) (by decide) ?_
              intro i hi
              obtain rfl : i = 16 := by simpa using hi
              refine wpOp_unitB ((w4.alloc (.cells (anB 0) ANT)).setRow w4.heap.size (anB v)) _ rfl (by kernel_rfl) (exec_store_row ANT _ _ rfl w4.heap.size (anB v) rfl rfl ANT _ (CsAt.new w4 ANT (anB 0)) (iAN _) rfl (anB_one _)) rfl ?_
              have hws : (w4.alloc (.cells (anB 0) ANT)).setRow w4.heap.size (anB v) = w4.alloc (.cells (anB v) ANT) := World.setRow_alloc_new ..
              rw [hws]
              have hb6 : Below w4.heap.size w4 (w4.alloc (.cells (anB v) ANT)) := (Below.refl _ _).alloc (Nat.le_refl _) _
              have hs6 : Below w.heap.size w (w4.alloc (.cells (anB v) ANT)) := hs4.trans (hb6.mono hs4.size)
              refine ⟨hs6, ?_⟩
              refine takeH (fuel := 0) (i := 17) (.bool g) ?_ rfl (by kernel_rfl) (by kernel_rfl) (by kernel_rfl) (fun _ _ _ h => h) (by kernel_rfl) (fun W hS => by go_simp) hs6 ?_ ?_
              rotate_left 1
              · go_simp
                exact rfl
              refine wpAnyH_done (by kernel_rfl) ?_ _
              refine NoPanic.normal ?_
              have HFIN := Lib.hid (hp4.low hb6)
              have HNB := Lib.hid (And.intro (CsAt.new w4 ANT (anB v)) (show w.heap.size < w4.heap.size ∧ w4.heap.size ≠ bx ∧ w4.heap.size ≠ b from ⟨by omega, by omega, by omega⟩))
              clear hp0 hp4 hs0 hs4 hs5 hs6 hba hb6 hws hq4 hwl hbl hxl hsz4
              go_wp2_with fail
              go_meet
              exact ⟨_, _, rfl, rfl, HFIN.out, HNB.out.1, HNB.out.2⟩
            · have hba : Below wr.drew.heap.size wr.drew (wr.drew.alloc (.cells (anB 0) ANT)) := (Below.refl _ _).alloc (Nat.le_refl _) _
              refine wpOp_valB (.pointer (some ⟨wr.drew.heap.size, 0, none⟩)) (wr.drew.alloc (.cells (anB 0) ANT)) _ rfl (by kernel_rfl) (exec_alloc ANT rfl (.agg (anB 0)) (zero_an _)) rfl ?_
              have hp3 := hp0.low hba
              have hs3 := hp3.bel
              have hcN := CsAt.new wr.drew ANT (anB 0)
              have hlo := hp0.bu.lo
              refine ⟨hs3, ?_⟩
              refine wpAnyH_all (fuel := 5) (rs := [11]) (by kernel_rfl) (by decide) ?_
              intro i hi
              obtain rfl : i = 11 := by simpa using hi
              refine wpOp_callX 7 #[.pointer (some ⟨b, 0, none⟩), .int .i64 d.hart, .agg d.ask.cells] rfl (by kernel_rfl) (by go_simp) ?_
              refine (HBD.out _ _ hp3.bu).mono ?_
              rintro e w4 ⟨rfl, hq4⟩
              obtain ⟨F', hp4⟩ := hp3.run hq4
              have hs4 := hp4.bel
              have hc4 := hq4.chg.cs hcN (fun hh => hh.elim (fun hh => absurd (hlo _ hh) (Nat.lt_irrefl _)) (fun hh => absurd hbl (by rw [show b = wr.drew.heap.size from hh.symm]; exact Nat.lt_irrefl _)))
              refine ⟨_, rfl, hs4, ?_⟩
              refine takeH (fuel := 4) (i := 12) (.tuple #[.agg (anB v), .bool g]) ?_ rfl (by kernel_rfl) (by kernel_rfl) (by kernel_rfl) (fun _ _ _ h => h) (by kernel_rfl) (fun W hS => by go_simp) hs4 ?_ ?_
              rotate_left 1
              · go_simp
                exact rfl
              refine takeH (fuel := 3) (i := 13) (.agg (anB v)) ?_ rfl (by kernel_rfl) (by kernel_rfl) (by kernel_rfl) (fun _ _ _ h => h) (by kernel_rfl) (fun W hS => by go_simp) hs4 ?_ ?_
              rotate_left 1
              · go_simp
                exact rfl
              refine takeH (fuel := 2) (i := 14) (.bool g) ?_ rfl (by kernel_rfl) (by kernel_rfl) (by kernel_rfl) (fun _ _ _ h => h) (by kernel_rfl) (fun W hS => by go_simp) hs4 ?_ ?_
              rotate_left 1
              · go_simp
                exact rfl
              refine wpAnyH_all (fuel := 1) (rs := [16]) (by kernel_rfl) (by decide) ?_
              intro i hi
              obtain rfl : i = 16 := by simpa using hi
              refine wpOp_unitB (w4.setRow wr.drew.heap.size (anB v)) _ rfl (by kernel_rfl) (exec_store_row ANT _ _ rfl wr.drew.heap.size (anB v) rfl rfl ANT _ hc4 (iAN _) rfl (anB_one _)) rfl ?_
              have hcy : Chg (fun k => k = wr.drew.heap.size) w4 (w4.setRow wr.drew.heap.size (anB v)) := Chg.of_row (S := fun k => k = wr.drew.heap.size) rfl _
              have hs6 : Below w.heap.size w (w4.setRow wr.drew.heap.size (anB v)) := below_setRow hs4 (Nat.le_of_lt hwl) _
              refine ⟨hs6, ?_⟩
              refine takeH (fuel := 0) (i := 17) (.bool g) ?_ rfl (by kernel_rfl) (by kernel_rfl) (by kernel_rfl) (fun _ _ _ h => h) (by kernel_rfl) (fun W hS => by go_simp) hs6 ?_ ?_
              rotate_left 1
              · go_simp
                exact rfl
              refine wpAnyH_done (by kernel_rfl) ?_ _
              refine NoPanic.normal ?_
              obtain ⟨F6, hp6⟩ := hp0.run (hq4.boxed hba (Nat.le_refl _) (by simp) (fun hh => absurd (hlo _ hh) (Nat.lt_irrefl _)) (fun e => absurd hbl (by rw [← show wr.drew.heap.size = b from e]; exact Nat.lt_irrefl _)) (anB v))
              have HFIN := Lib.hid hp6
              have HNB := Lib.hid (And.intro (hc4.row (anB v)) (show w.heap.size < wr.drew.heap.size ∧ wr.drew.heap.size ≠ bx ∧ wr.drew.heap.size ≠ b from ⟨hwl, fun e => absurd hxl (by rw [← e]; exact Nat.lt_irrefl _), fun e => absurd hbl (by rw [← e]; exact Nat.lt_irrefl _)⟩))
              clear hp0 hp3 hp4 hp6 hs0 hs3 hs4 hs6 hba hcN hc4 hcy hq4 hwl hbl hxl hlo
              go_wp2_with fail
              go_meet
              exact ⟨_, _, rfl, rfl, HFIN.out, HNB.out.1, HNB.out.2⟩
          case rest =>
            obtain ⟨nb, F', rfl, rfl, hP, hN, hn1, hn2, hn3⟩ := hcut
            have HP := Lib.hid hP
            have HNB := Lib.hid (And.intro hN (And.intro hn1 (And.intro hn2 hn3)))
            have IX := Lib.hid (iBx X.n (x15_size X.n X.c hP.okc.len) (x16_size' X.n X.p) (show (xuV X.u iv ov).size = 11 from rfl))
            have HQ := Lib.hid (fun (V : World) (hS : Below wc.heap.size wc V) => hP.low hS)
            have HWB := Lib.hid (fun (V : World) (hS : Below wc.heap.size wc V) => hP.bel.trans (hS.mono hP.bel.size))
            have SY := Lib.hid (fun (iv' ov' : Value) => show (xb0').size = (xbX Y (xuV Y.u iv' ov')).size by rw [xbX_size hP.bu.okc.len rfl]; exact xbV_size 0 (x15_size 0 _ (ctnew_len (by omega))) (x16_size' _ _) rfl)
            have IY := Lib.hid (fun (iv' ov' : Value) => iBx Y.n (x15_size Y.n Y.c hP.bu.okc.len) (x16_size' Y.n Y.p) (show (xuV Y.u iv' ov').size = 11 from rfl))
            have OY := Lib.hid (fun (iv' ov' : Value) (h1 : iv'.oneCell' = true) (h2 : ov'.oneCell' = true) => xbV_one Y.n (x15V_one (n := Y.n) (ws := Y.c)) (x16_one (n := Y.n) (ws := Y.p)) (xuV_one Y.u h1 h2))
            clear hP hN hn1 hn2 hn3 HR HBD
            go_upto_region 9 with fail
            go_cut [13, 14, 15] (fun s13 s14 s15 wx => ∃ c13 c14 iv' ov', s13 = .pointer (some ⟨c13, 0, none⟩) ∧ s14 = .pointer (some ⟨c14, 0, none⟩) ∧ s15 = .bool g ∧ Below wc.heap.size wc wx ∧ VwG (fun k => F' k ∨ k = b ∨ k = bx) wx iv' Y.u.q ∧ VwG (fun k => F' k ∨ k = b ∨ k = bx) wx ov' Y.u.out ∧ CsAt wx c13 BxT (xbX Y (xuV Y.u iv' ov')) ∧ CsAt wx c14 ANT (anB v) ∧ wc.heap.size ≤ c13)
            case first =>
              have hs0 : Below wc.heap.size wc wc.drew := below_dU (Below.refl _ _) 1
              refine wp_region_noPanic ?_
              refine wp_region_held (S := fun V => Below wc.heap.size wc V) (by kernel_rfl) ?_
              refine takeH (fuel := 20) (i := 0) (.agg (xbX X (xuV X.u iv ov))) ?_ rfl (by kernel_rfl) (by kernel_rfl) (by kernel_rfl) (fun _ _ _ h => h) (by kernel_rfl) (fun W hS => exec_load_row BxT _ rfl bx rfl BxT _ _ (HQ.out _ hS).x Tryz.underlying53 rfl IX.out) hs0 ?_ ?_
              rotate_left 1
              · go_simp
                exact rfl
              refine takeH (fuel := 19) (i := 1) (.slice (some ⟨db, off, none⟩) n cap) ?_ rfl (by kernel_rfl) (by kernel_rfl) (by kernel_rfl) (fun _ _ _ h => h) (by kernel_rfl) (fun W hS => by go_simp) hs0 ?_ ?_
              rotate_left 1
              · go_simp
                exact rfl
              refine takeH (fuel := 18) (i := 2) (.int .i64 (k : Int)) ?_ rfl (by kernel_rfl) (by kernel_rfl) (by kernel_rfl) (fun _ _ _ h => h) (by kernel_rfl) (fun W hS => by go_simp) hs0 ?_ ?_
              rotate_left 1
              · go_simp
                exact rfl
              refine takeH (fuel := 17) (i := 3) (.pointer (some ⟨db, off + k * 20, none⟩)) ?_ rfl (by kernel_rfl) (by kernel_rfl) (by kernel_rfl) (fun _ _ _ h => h) (by kernel_rfl) (fun W hS => by go_simp) hs0 ?_ ?_
              rotate_left 1
              · go_simp
                exact rfl
              refine takeH (fuel := 16) (i := 4) (.pointer (some ⟨db, off + k * 20, none⟩)) ?_ rfl (by kernel_rfl) (by kernel_rfl) (by kernel_rfl) (fun _ _ _ h => h) (by kernel_rfl) (fun W hS => by go_simp) hs0 ?_ ?_
              rotate_left 1
              · go_simp
                exact rfl
              refine takeH (fuel := 15) (i := 5) (.int .i64 d.hart) ?_ rfl (by kernel_rfl) (by kernel_rfl) (by kernel_rfl) (fun _ _ _ h => h) (by kernel_rfl) (fun W hS => by (have q := HC0.out _ (HWB.out _ hS); go_simp)) hs0 ?_ ?_
              rotate_left 1
              · go_simp
                exact rfl
              refine takeH (fuel := 14) (i := 6) (.slice (some ⟨db, off, none⟩) n cap) ?_ rfl (by kernel_rfl) (by kernel_rfl) (by kernel_rfl) (fun _ _ _ h => h) (by kernel_rfl) (fun W hS => by go_simp) hs0 ?_ ?_
              rotate_left 1
              · go_simp
                exact rfl
              refine takeH (fuel := 13) (i := 7) (.int .i64 (k : Int)) ?_ rfl (by kernel_rfl) (by kernel_rfl) (by kernel_rfl) (fun _ _ _ h => h) (by kernel_rfl) (fun W hS => by go_simp) hs0 ?_ ?_
              rotate_left 1
              · go_simp
                exact rfl
              refine takeH (fuel := 12) (i := 8) (.pointer (some ⟨db, off + k * 20, none⟩)) ?_ rfl (by kernel_rfl) (by kernel_rfl) (by kernel_rfl) (fun _ _ _ h => h) (by kernel_rfl) (fun W hS => by go_simp) hs0 ?_ ?_
              rotate_left 1
              · go_simp
                exact rfl
              refine takeH (fuel := 11) (i := 9) (.pointer (some ⟨db, off + k * 20 + 1, none⟩)) ?_ rfl (by kernel_rfl) (by kernel_rfl) (by kernel_rfl) (fun _ _ _ h => h) (by kernel_rfl) (fun W hS => by go_simp) hs0 ?_ ?_
              rotate_left 1
              · go_simp
                exact rfl
              refine takeH (fuel := 10) (i := 10) (.agg d.ask.cells) ?_ rfl (by kernel_rfl) (by kernel_rfl) (by kernel_rfl) (fun _ _ _ h => h) (by kernel_rfl) (fun W hS => exec_midU AKT _ rfl db (off + k * 20 + 1) rfl _ _ (HDD.out _ (HWB.out _ hS)) Tryz.underlying31 rfl info_AK) hs0 ?_ ?_
              rotate_left 1
              · go_simp
                exact rfl
              refine wpAnyH_all (fuel := 9) (rs := [11, 16, 17]) (by kernel_rfl) (by decide) ?_
              intro i hi
              simp only [List.mem_cons, List.not_mem_nil, or_false] at hi
              rcases hi with rfl | rfl | rfl
              · refine wpOp_callX 8 #[.agg (xbX X (xuV X.u iv ov)), .int .i64 d.hart, .agg d.ask.cells] rfl (by kernel_rfl) (by go_simp) ?_
                refine (HRD.out (fun k => (F' k ∨ k = b ∨ k = bx) ∨ (wc.heap.size ≤ k ∧ k < wc.drew.heap.size)) iv ov wc.drew (HQ.out _ hs0).okc (HQ.out _ hs0).okp (HQ.out _ hs0).oku (fun k hk => by
                    have h1 := (HQ.out _ hs0).bu.lo
                    have h2 := (HQ.out _ hs0).bu.lt
                    have h3 := (HQ.out _ hs0).x.lt
                    rcases hk with (hk | hk | hk) | hk
                    · exact h1 k hk
                    · rw [hk]; exact h2
                    · rw [hk]; exact h3
                    · exact hk.2) ((HP.out.i.more (fun k hk => hk.imp id And.left)).low hs0) ((HP.out.o.more (fun k hk => hk.imp id And.left)).low hs0)).mono ?_
                rintro e V1 ⟨iv1, ov1, rfl, hq⟩
                have hs11 : Below wc.heap.size wc V1 := hs0.trans (hq.bel.mono hs0.size)
                have hi1 := hq.i.more (H := fun k => ((F' k ∨ k = b ∨ k = bx) ∨ (wc.heap.size ≤ k ∧ k < wc.drew.heap.size)) ∨ V1.heap.size ≤ k) (fun k hk => hk)
                have ho1 := hq.o.more (H := fun k => ((F' k ∨ k = b ∨ k = bx) ∨ (wc.heap.size ≤ k ∧ k < wc.drew.heap.size)) ∨ V1.heap.size ≤ k) (fun k hk => hk)
                refine ⟨_, rfl, hs11, ?_⟩
                refine takeH (fuel := 8) (i := 12) (.tuple #[.agg (xbX Y (xuV Y.u iv1 ov1)), .agg (anB v), .bool g]) ?_ rfl (by kernel_rfl) (by kernel_rfl) (by kernel_rfl) (fun _ _ _ h => h) (by kernel_rfl) (fun W hS => by go_simp) hs11 ?_ ?_
                rotate_left 1
                · go_simp
                  exact rfl
                refine takeH (fuel := 7) (i := 13) (.agg (xbX Y (xuV Y.u iv1 ov1))) ?_ rfl (by kernel_rfl) (by kernel_rfl) (by kernel_rfl) (fun _ _ _ h => h) (by kernel_rfl) (fun W hS => by go_simp) hs11 ?_ ?_
                rotate_left 1
                · go_simp
                  exact rfl
                refine takeH (fuel := 6) (i := 14) (.agg (anB v)) ?_ rfl (by kernel_rfl) (by kernel_rfl) (by kernel_rfl) (fun _ _ _ h => h) (by kernel_rfl) (fun W hS => by go_simp) hs11 ?_ ?_
                rotate_left 1
                · go_simp
                  exact rfl
                refine takeH (fuel := 5) (i := 15) (.bool g) ?_ rfl (by kernel_rfl) (by kernel_rfl) (by kernel_rfl) (fun _ _ _ h => h) (by kernel_rfl) (fun W hS => by go_simp) hs11 ?_ ?_
                rotate_left 1
                · go_simp
                  exact rfl
                refine wpAnyH_all (fuel := 4) (rs := [16, 17]) (by kernel_rfl) (by decide) ?_
                intro i hi
                simp only [List.mem_cons, List.not_mem_nil, or_false] at hi
                rcases hi with rfl | rfl
                · have hba : Below V1.heap.size V1 (V1.alloc (.cells xb0' BxT)) := (Below.refl _ _).alloc (Nat.le_refl _) _
                  refine wpOp_valB (.pointer (some ⟨V1.heap.size, 0, none⟩)) (V1.alloc (.cells xb0' BxT)) _ rfl (by kernel_rfl) (exec_allocZ BxT rfl xb0' (zero_bx1 _)) rfl ?_
                  have hs12 : Below wc.heap.size wc (V1.alloc (.cells xb0' BxT)) := hs11.trans (hba.mono hs11.size)
                  have h13 : CsAt (V1.alloc (.cells xb0' BxT)) V1.heap.size BxT xb0' := CsAt.new _ _ _
                  have l13 : wc.heap.size ≤ V1.heap.size := hs11.size
                  have hi1 := hi1.low hba
                  have ho1 := ho1.low hba
                  have hgrow : V1.heap.size ≤ (V1.alloc (.cells xb0' BxT)).heap.size := hba.size
                  refine ⟨hs12, ?_⟩
                  clear hba
                  obtain ⟨c13, hcc13⟩ : ∃ c, V1.heap.size = c := ⟨_, rfl⟩
                  rw [hcc13] at h13 l13 ⊢
                  have g13 : ((F' c13 ∨ c13 = b ∨ c13 = bx) ∨ (wc.heap.size ≤ c13 ∧ c13 < wc.drew.heap.size)) ∨ V1.heap.size ≤ c13 := .inr (by rw [← hcc13]; exact Nat.le_refl _)
                  refine wpAnyH_all (fuel := 3) (rs := [17]) (by kernel_rfl) (by decide) ?_
                  intro i hi
                  obtain rfl : i = 17 := by simpa using hi
                  have hba : Below (V1.alloc (.cells xb0' BxT)).heap.size (V1.alloc (.cells xb0' BxT)) ((V1.alloc (.cells xb0' BxT)).alloc (.cells (anB 0) ANT)) := (Below.refl _ _).alloc (Nat.le_refl _) _
                  refine wpOp_valB (.pointer (some ⟨(V1.alloc (.cells xb0' BxT)).heap.size, 0, none⟩)) ((V1.alloc (.cells xb0' BxT)).alloc (.cells (anB 0) ANT)) _ rfl (by kernel_rfl) (exec_allocZ ANT rfl (anB 0) (zero_an _)) rfl ?_
                  have hs13 : Below wc.heap.size wc ((V1.alloc (.cells xb0' BxT)).alloc (.cells (anB 0) ANT)) := hs12.trans (hba.mono hs12.size)
                  have h14 : CsAt ((V1.alloc (.cells xb0' BxT)).alloc (.cells (anB 0) ANT)) (V1.alloc (.cells xb0' BxT)).heap.size ANT (anB 0) := CsAt.new _ _ _
                  have l14 : wc.heap.size ≤ (V1.alloc (.cells xb0' BxT)).heap.size := hs12.size
                  have hne : c13 ≠ (V1.alloc (.cells xb0' BxT)).heap.size := fun e => absurd h13.lt (by rw [e]; exact Nat.lt_irrefl _)
                  have h13 := h13.low hba
                  have hi1 := hi1.low hba
                  have ho1 := ho1.low hba
                  refine ⟨hs13, ?_⟩
                  clear hba
                  obtain ⟨c14, hcc14⟩ : ∃ c, (V1.alloc (.cells xb0' BxT)).heap.size = c := ⟨_, rfl⟩
                  rw [hcc14] at h14 l14 hne ⊢
                  have g14 : ((F' c14 ∨ c14 = b ∨ c14 = bx) ∨ (wc.heap.size ≤ c14 ∧ c14 < wc.drew.heap.size)) ∨ V1.heap.size ≤ c14 := .inr (by rw [← hcc14]; exact hgrow)
                  refine wpAnyH_all (fuel := 2) (rs := [18]) (by kernel_rfl) (by decide) ?_
                  intro i hi
                  obtain rfl : i = 18 := by simpa using hi
                  refine wpOp_unitB (((V1.alloc (.cells xb0' BxT)).alloc (.cells (anB 0) ANT)).setRow c13 (xbX Y (xuV Y.u iv1 ov1))) _ rfl (by kernel_rfl) (exec_store_row BxT _ _ rfl c13 (xbX Y (xuV Y.u iv1 ov1)) rfl rfl BxT _ h13 (IY.out _ _) (SY.out _ _) (OY.out _ _ hi1.one ho1.one)) rfl ?_
                  have hsa : Below wc.heap.size wc (((V1.alloc (.cells xb0' BxT)).alloc (.cells (anB 0) ANT)).setRow c13 (xbX Y (xuV Y.u iv1 ov1))) := below_setRow hs13 l13 _
                  refine ⟨hsa, ?_⟩
                  refine wpAnyH_all (fuel := 1) (rs := [19]) (by kernel_rfl) (by decide) ?_
                  intro i hi
                  obtain rfl : i = 19 := by simpa using hi
                  refine wpOp_unitB ((((V1.alloc (.cells xb0' BxT)).alloc (.cells (anB 0) ANT)).setRow c13 (xbX Y (xuV Y.u iv1 ov1))).setRow c14 (anB v)) _ rfl (by kernel_rfl) (exec_store_row ANT _ _ rfl c14 (anB v) rfl rfl ANT _ (h14.rowFar (fun e => hne e.symm) _) (iAN _) rfl (anB_one _)) rfl ?_
                  have hsb : Below wc.heap.size wc ((((V1.alloc (.cells xb0' BxT)).alloc (.cells (anB 0) ANT)).setRow c13 (xbX Y (xuV Y.u iv1 ov1))).setRow c14 (anB v)) := below_setRow hsa l14 _
                  refine ⟨hsb, ?_⟩
                  refine takeH (fuel := 0) (i := 20) (.bool g) ?_ rfl (by kernel_rfl) (by kernel_rfl) (by kernel_rfl) (fun _ _ _ h => h) (by kernel_rfl) (fun W hS => by go_simp) hsb ?_ ?_
                  rotate_left 1
                  · go_simp
                    exact rfl
                  refine wpAnyH_done (by kernel_rfl) ?_ _
                  refine NoPanic.normal ?_
                  have hcf : Chg (fun k => k = c13 ∨ k = c14) ((V1.alloc (.cells xb0' BxT)).alloc (.cells (anB 0) ANT)) ((((V1.alloc (.cells xb0' BxT)).alloc (.cells (anB 0) ANT)).setRow c13 (xbX Y (xuV Y.u iv1 ov1))).setRow c14 (anB v)) := (Chg.of_row (S := fun k => k = c13 ∨ k = c14) (b := c13) (.inl rfl) _).trans (Chg.of_row (S := fun k => k = c13 ∨ k = c14) (b := c14) (.inr rfl) _)
                  have hcg := hcf.mono (T := fun k => ((F' k ∨ k = b ∨ k = bx) ∨ (wc.heap.size ≤ k ∧ k < wc.drew.heap.size)) ∨ V1.heap.size ≤ k) (fun k hk => hk.elim (fun e => by rw [e]; exact g13) (fun e => by rw [e]; exact g14))
                  have HFI := Lib.hid ((hi1.keep hcg).more (H := fun k => F' k ∨ k = b ∨ k = bx) (fun k hk => .inl (.inl (.inl hk))))
                  have HFO := Lib.hid ((ho1.keep hcg).more (H := fun k => F' k ∨ k = b ∨ k = bx) (fun k hk => .inl (.inl (.inl hk))))
                  have HF3 := Lib.hid ((h13.row (xbX Y (xuV Y.u iv1 ov1))).rowFar hne (anB v))
                  have HF4 := Lib.hid ((h14.rowFar (fun e => hne e.symm) (xbX Y (xuV Y.u iv1 ov1))).row (anB v))
                  have HSB := Lib.hid hsb
                  have HL3 := Lib.hid l13
                  clear hcf hcg hi1 ho1 h13 h14 hsb hsa g13 g14 l13 l14 hne
                  go_wp2_with fail
                  go_meet
                  exact ⟨_, _, _, _, rfl, rfl, rfl, HSB.out, HFI.out, HFO.out, HF3.out, HF4.out, HL3.out⟩
                · have hba : Below V1.heap.size V1 (V1.alloc (.cells (anB 0) ANT)) := (Below.refl _ _).alloc (Nat.le_refl _) _
                  refine wpOp_valB (.pointer (some ⟨V1.heap.size, 0, none⟩)) (V1.alloc (.cells (anB 0) ANT)) _ rfl (by kernel_rfl) (exec_allocZ ANT rfl (anB 0) (zero_an _)) rfl ?_
                  have hs12 : Below wc.heap.size wc (V1.alloc (.cells (anB 0) ANT)) := hs11.trans (hba.mono hs11.size)
                  have h14 : CsAt (V1.alloc (.cells (anB 0) ANT)) V1.heap.size ANT (anB 0) := CsAt.new _ _ _
                  have l14 : wc.heap.size ≤ V1.heap.size := hs11.size
                  have hi1 := hi1.low hba
                  have ho1 := ho1.low hba
                  have hgrow : V1.heap.size ≤ (V1.alloc (.cells (anB 0) ANT)).heap.size := hba.size
                  refine ⟨hs12, ?_⟩
                  clear hba
                  obtain ⟨c14, hcc14⟩ : ∃ c, V1.heap.size = c := ⟨_, rfl⟩
                  rw [hcc14] at h14 l14 ⊢
                  have g14 : ((F' c14 ∨ c14 = b ∨ c14 = bx) ∨ (wc.heap.size ≤ c14 ∧ c14 < wc.drew.heap.size)) ∨ V1.heap.size ≤ c14 := .inr (by rw [← hcc14]; exact Nat.le_refl _)
                  refine wpAnyH_all (fuel := 3) (rs := [16]) (by kernel_rfl) (by decide) ?_
                  intro i hi
                  obtain rfl : i = 16 := by simpa using hi
                  have hba : Below (V1.alloc (.cells (anB 0) ANT)).heap.size (V1.alloc (.cells (anB 0) ANT)) ((V1.alloc (.cells (anB 0) ANT)).alloc (.cells xb0' BxT)) := (Below.refl _ _).alloc (Nat.le_refl _) _
                  refine wpOp_valB (.pointer (some ⟨(V1.alloc (.cells (anB 0) ANT)).heap.size, 0, none⟩)) ((V1.alloc (.cells (anB 0) ANT)).alloc (.cells xb0' BxT)) _ rfl (by kernel_rfl) (exec_allocZ BxT rfl xb0' (zero_bx1 _)) rfl ?_
                  have hs13 : Below wc.heap.size wc ((V1.alloc (.cells (anB 0) ANT)).alloc (.cells xb0' BxT)) := hs12.trans (hba.mono hs12.size)
                  have h13 : CsAt ((V1.alloc (.cells (anB 0) ANT)).alloc (.cells xb0' BxT)) (V1.alloc (.cells (anB 0) ANT)).heap.size BxT xb0' := CsAt.new _ _ _
                  have l13 : wc.heap.size ≤ (V1.alloc (.cells (anB 0) ANT)).heap.size := hs12.size
                  have hne : (V1.alloc (.cells (anB 0) ANT)).heap.size ≠ c14 := fun e => absurd h14.lt (by rw [← e]; exact Nat.lt_irrefl _)
                  have h14 := h14.low hba
                  have hi1 := hi1.low hba
                  have ho1 := ho1.low hba
                  refine ⟨hs13, ?_⟩
                  clear hba
                  obtain ⟨c13, hcc13⟩ : ∃ c, (V1.alloc (.cells (anB 0) ANT)).heap.size = c := ⟨_, rfl⟩
                  rw [hcc13] at h13 l13 hne ⊢
                  have g13 : ((F' c13 ∨ c13 = b ∨ c13 = bx) ∨ (wc.heap.size ≤ c13 ∧ c13 < wc.drew.heap.size)) ∨ V1.heap.size ≤ c13 := .inr (by rw [← hcc13]; exact hgrow)
                  refine wpAnyH_all (fuel := 2) (rs := [18]) (by kernel_rfl) (by decide) ?_
                  intro i hi
                  obtain rfl : i = 18 := by simpa using hi
                  refine wpOp_unitB (((V1.alloc (.cells (anB 0) ANT)).alloc (.cells xb0' BxT)).setRow c13 (xbX Y (xuV Y.u iv1 ov1))) _ rfl (by kernel_rfl) (exec_store_row BxT _ _ rfl c13 (xbX Y (xuV Y.u iv1 ov1)) rfl rfl BxT _ h13 (IY.out _ _) (SY.out _ _) (OY.out _ _ hi1.one ho1.one)) rfl ?_
                  have hsa : Below wc.heap.size wc (((V1.alloc (.cells (anB 0) ANT)).alloc (.cells xb0' BxT)).setRow c13 (xbX Y (xuV Y.u iv1 ov1))) := below_setRow hs13 l13 _
                  refine ⟨hsa, ?_⟩
                  refine wpAnyH_all (fuel := 1) (rs := [19]) (by kernel_rfl) (by decide) ?_
                  intro i hi
                  obtain rfl : i = 19 := by simpa using hi
                  refine wpOp_unitB ((((V1.alloc (.cells (anB 0) ANT)).alloc (.cells xb0' BxT)).setRow c13 (xbX Y (xuV Y.u iv1 ov1))).setRow c14 (anB v)) _ rfl (by kernel_rfl) (exec_store_row ANT _ _ rfl c14 (anB v) rfl rfl ANT _ (h14.rowFar (fun e => hne e.symm) _) (iAN _) rfl (anB_one _)) rfl ?_
                  have hsb : Below wc.heap.size wc ((((V1.alloc (.cells (anB 0) ANT)).alloc (.cells xb0' BxT)).setRow c13 (xbX Y (xuV Y.u iv1 ov1))).setRow c14 (anB v)) := below_setRow hsa l14 _
                  refine ⟨hsb, ?_⟩
                  refine takeH (fuel := 0) (i := 20) (.bool g) ?_ rfl (by kernel_rfl) (by kernel_rfl) (by kernel_rfl) (fun _ _ _ h => h) (by kernel_rfl) (fun W hS => by go_simp) hsb ?_ ?_
                  rotate_left 1
                  · go_simp
                    exact rfl
                  refine wpAnyH_done (by kernel_rfl) ?_ _
                  refine NoPanic.normal ?_
                  have hcf : Chg (fun k => k = c13 ∨ k = c14) ((V1.alloc (.cells (anB 0) ANT)).alloc (.cells xb0' BxT)) ((((V1.alloc (.cells (anB 0) ANT)).alloc (.cells xb0' BxT)).setRow c13 (xbX Y (xuV Y.u iv1 ov1))).setRow c14 (anB v)) := (Chg.of_row (S := fun k => k = c13 ∨ k = c14) (b := c13) (.inl rfl) _).trans (Chg.of_row (S := fun k => k = c13 ∨ k = c14) (b := c14) (.inr rfl) _)
                  have hcg := hcf.mono (T := fun k => ((F' k ∨ k = b ∨ k = bx) ∨ (wc.heap.size ≤ k ∧ k < wc.drew.heap.size)) ∨ V1.heap.size ≤ k) (fun k hk => hk.elim (fun e => by rw [e]; exact g13) (fun e => by rw [e]; exact g14))
                  have HFI := Lib.hid ((hi1.keep hcg).more (H := fun k => F' k ∨ k = b ∨ k = bx) (fun k hk => .inl (.inl (.inl hk))))
                  have HFO := Lib.hid ((ho1.keep hcg).more (H := fun k => F' k ∨ k = b ∨ k = bx) (fun k hk => .inl (.inl (.inl hk))))
                  have HF3 := Lib.hid ((h13.row (xbX Y (xuV Y.u iv1 ov1))).rowFar hne (anB v))
                  have HF4 := Lib.hid ((h14.rowFar (fun e => hne e.symm) (xbX Y (xuV Y.u iv1 ov1))).row (anB v))
                  have HSB := Lib.hid hsb
                  have HL3 := Lib.hid l13
                  clear hcf hcg hi1 ho1 h13 h14 hsb hsa g13 g14 l13 l14 hne
                  go_wp2_with fail
                  go_meet
                  exact ⟨_, _, _, _, rfl, rfl, rfl, HSB.out, HFI.out, HFO.out, HF3.out, HF4.out, HL3.out⟩
              · have hba : Below wc.drew.heap.size wc.drew (wc.drew.alloc (.cells xb0' BxT)) := (Below.refl _ _).alloc (Nat.le_refl _) _
                refine wpOp_valB (.pointer (some ⟨wc.drew.heap.size, 0, none⟩)) (wc.drew.alloc (.cells xb0' BxT)) _ rfl (by kernel_rfl) (exec_allocZ BxT rfl xb0' (zero_bx1 _)) rfl ?_
                have hs11 : Below wc.heap.size wc (wc.drew.alloc (.cells xb0' BxT)) := hs0.trans (hba.mono hs0.size)
                have h13 : CsAt (wc.drew.alloc (.cells xb0' BxT)) wc.drew.heap.size BxT xb0' := CsAt.new _ _ _
                have l13 : wc.heap.size ≤ wc.drew.heap.size := hs0.size
                refine ⟨hs11, ?_⟩
                clear hba
                obtain ⟨c13, hcc13⟩ : ∃ c, wc.drew.heap.size = c := ⟨_, rfl⟩
                rw [hcc13] at h13 l13 ⊢
                refine wpAnyH_all (fuel := 8) (rs := [11, 17]) (by kernel_rfl) (by decide) ?_
                intro i hi
                simp only [List.mem_cons, List.not_mem_nil, or_false] at hi
                rcases hi with rfl | rfl
                · refine wpOp_callX 8 #[.agg (xbX X (xuV X.u iv ov)), .int .i64 d.hart, .agg d.ask.cells] rfl (by kernel_rfl) (by go_simp) ?_
                  refine (HRD.out (fun k => (F' k ∨ k = b ∨ k = bx) ∨ (wc.heap.size ≤ k ∧ k < (wc.drew.alloc (.cells xb0' BxT)).heap.size)) iv ov (wc.drew.alloc (.cells xb0' BxT)) (HQ.out _ hs11).okc (HQ.out _ hs11).okp (HQ.out _ hs11).oku (fun k hk => by
                      have h1 := (HQ.out _ hs11).bu.lo
                      have h2 := (HQ.out _ hs11).bu.lt
                      have h3 := (HQ.out _ hs11).x.lt
                      rcases hk with (hk | hk | hk) | hk
                      · exact h1 k hk
                      · rw [hk]; exact h2
                      · rw [hk]; exact h3
                      · exact hk.2) ((HP.out.i.more (fun k hk => hk.imp id And.left)).low hs11) ((HP.out.o.more (fun k hk => hk.imp id And.left)).low hs11)).mono ?_
                  rintro e V2 ⟨iv1, ov1, rfl, hq⟩
                  have hs12 : Below wc.heap.size wc V2 := hs11.trans (hq.bel.mono hs11.size)
                  have hi1 := hq.i.more (H := fun k => ((F' k ∨ k = b ∨ k = bx) ∨ (wc.heap.size ≤ k ∧ k < (wc.drew.alloc (.cells xb0' BxT)).heap.size)) ∨ V2.heap.size ≤ k) (fun k hk => hk)
                  have ho1 := hq.o.more (H := fun k => ((F' k ∨ k = b ∨ k = bx) ∨ (wc.heap.size ≤ k ∧ k < (wc.drew.alloc (.cells xb0' BxT)).heap.size)) ∨ V2.heap.size ≤ k) (fun k hk => hk)
                  have g13 : ((F' c13 ∨ c13 = b ∨ c13 = bx) ∨ (wc.heap.size ≤ c13 ∧ c13 < (wc.drew.alloc (.cells xb0' BxT)).heap.size)) ∨ V2.heap.size ≤ c13 := .inl (.inr ⟨l13, h13.lt⟩)
                  have h13 := h13.low hq.bel
                  refine ⟨_, rfl, hs12, ?_⟩
                  refine takeH (fuel := 7) (i := 12) (.tuple #[.agg (xbX Y (xuV Y.u iv1 ov1)), .agg (anB v), .bool g]) ?_ rfl (by kernel_rfl) (by kernel_rfl) (by kernel_rfl) (fun _ _ _ h => h) (by kernel_rfl) (fun W hS => by go_simp) hs12 ?_ ?_
                  rotate_left 1
                  · go_simp
                    exact rfl
                  refine takeH (fuel := 6) (i := 13) (.agg (xbX Y (xuV Y.u iv1 ov1))) ?_ rfl (by kernel_rfl) (by kernel_rfl) (by kernel_rfl) (fun _ _ _ h => h) (by kernel_rfl) (fun W hS => by go_simp) hs12 ?_ ?_
                  rotate_left 1
                  · go_simp
                    exact rfl
                  refine takeH (fuel := 5) (i := 14) (.agg (anB v)) ?_ rfl (by kernel_rfl) (by kernel_rfl) (by kernel_rfl) (fun _ _ _ h => h) (by kernel_rfl) (fun W hS => by go_simp) hs12 ?_ ?_
                  rotate_left 1
                  · go_simp
                    exact rfl
                  refine takeH (fuel := 4) (i := 15) (.bool g) ?_ rfl (by kernel_rfl) (by kernel_rfl) (by kernel_rfl) (fun _ _ _ h => h) (by kernel_rfl) (fun W hS => by go_simp) hs12 ?_ ?_
                  rotate_left 1
                  · go_simp
                    exact rfl
                  refine wpAnyH_all (fuel := 3) (rs := [17]) (by kernel_rfl) (by decide) ?_
                  intro i hi
                  obtain rfl : i = 17 := by simpa using hi
                  have hba : Below V2.heap.size V2 (V2.alloc (.cells (anB 0) ANT)) := (Below.refl _ _).alloc (Nat.le_refl _) _
                  refine wpOp_valB (.pointer (some ⟨V2.heap.size, 0, none⟩)) (V2.alloc (.cells (anB 0) ANT)) _ rfl (by kernel_rfl) (exec_allocZ ANT rfl (anB 0) (zero_an _)) rfl ?_
                  have hs13 : Below wc.heap.size wc (V2.alloc (.cells (anB 0) ANT)) := hs12.trans (hba.mono hs12.size)
                  have h14 : CsAt (V2.alloc (.cells (anB 0) ANT)) V2.heap.size ANT (anB 0) := CsAt.new _ _ _
                  have l14 : wc.heap.size ≤ V2.heap.size := hs12.size
                  have hne : c13 ≠ V2.heap.size := fun e => absurd h13.lt (by rw [e]; exact Nat.lt_irrefl _)
                  have h13 := h13.low hba
                  have hi1 := hi1.low hba
                  have ho1 := ho1.low hba
                  have hgrow : V2.heap.size ≤ (V2.alloc (.cells (anB 0) ANT)).heap.size := hba.size
                  refine ⟨hs13, ?_⟩
                  clear hba
                  obtain ⟨c14, hcc14⟩ : ∃ c, V2.heap.size = c := ⟨_, rfl⟩
                  rw [hcc14] at h14 l14 hne ⊢
                  have g14 : ((F' c14 ∨ c14 = b ∨ c14 = bx) ∨ (wc.heap.size ≤ c14 ∧ c14 < (wc.drew.alloc (.cells xb0' BxT)).heap.size)) ∨ V2.heap.size ≤ c14 := .inr (by rw [← hcc14]; exact Nat.le_refl _)
                  refine wpAnyH_all (fuel := 2) (rs := [18]) (by kernel_rfl) (by decide) ?_
                  intro i hi
                  obtain rfl : i = 18 := by simpa using hi
                  refine wpOp_unitB ((V2.alloc (.cells (anB 0) ANT)).setRow c13 (xbX Y (xuV Y.u iv1 ov1))) _ rfl (by kernel_rfl) (exec_store_row BxT _ _ rfl c13 (xbX Y (xuV Y.u iv1 ov1)) rfl rfl BxT _ h13 (IY.out _ _) (SY.out _ _) (OY.out _ _ hi1.one ho1.one)) rfl ?_
                  have hsa : Below wc.heap.size wc ((V2.alloc (.cells (anB 0) ANT)).setRow c13 (xbX Y (xuV Y.u iv1 ov1))) := below_setRow hs13 l13 _
                  refine ⟨hsa, ?_⟩
                  refine wpAnyH_all (fuel := 1) (rs := [19]) (by kernel_rfl) (by decide) ?_
                  intro i hi
                  obtain rfl : i = 19 := by simpa using hi
                  refine wpOp_unitB (((V2.alloc (.cells (anB 0) ANT)).setRow c13 (xbX Y (xuV Y.u iv1 ov1))).setRow c14 (anB v)) _ rfl (by kernel_rfl) (exec_store_row ANT _ _ rfl c14 (anB v) rfl rfl ANT _ (h14.rowFar (fun e => hne e.symm) _) (iAN _) rfl (anB_one _)) rfl ?_
                  have hsb : Below wc.heap.size wc (((V2.alloc (.cells (anB 0) ANT)).setRow c13 (xbX Y (xuV Y.u iv1 ov1))).setRow c14 (anB v)) := below_setRow hsa l14 _
                  refine ⟨hsb, ?_⟩
                  refine takeH (fuel := 0) (i := 20) (.bool g) ?_ rfl (by kernel_rfl) (by kernel_rfl) (by kernel_rfl) (fun _ _ _ h => h) (by kernel_rfl) (fun W hS => by go_simp) hsb ?_ ?_
                  rotate_left 1
                  · go_simp
                    exact rfl
                  refine wpAnyH_done (by kernel_rfl) ?_ _
                  refine NoPanic.normal ?_
                  have hcf : Chg (fun k => k = c13 ∨ k = c14) (V2.alloc (.cells (anB 0) ANT)) (((V2.alloc (.cells (anB 0) ANT)).setRow c13 (xbX Y (xuV Y.u iv1 ov1))).setRow c14 (anB v)) := (Chg.of_row (S := fun k => k = c13 ∨ k = c14) (b := c13) (.inl rfl) _).trans (Chg.of_row (S := fun k => k = c13 ∨ k = c14) (b := c14) (.inr rfl) _)
                  have hcg := hcf.mono (T := fun k => ((F' k ∨ k = b ∨ k = bx) ∨ (wc.heap.size ≤ k ∧ k < (wc.drew.alloc (.cells xb0' BxT)).heap.size)) ∨ V2.heap.size ≤ k) (fun k hk => hk.elim (fun e => by rw [e]; exact g13) (fun e => by rw [e]; exact g14))
                  have HFI := Lib.hid ((hi1.keep hcg).more (H := fun k => F' k ∨ k = b ∨ k = bx) (fun k hk => .inl (.inl (.inl hk))))
                  have HFO := Lib.hid ((ho1.keep hcg).more (H := fun k => F' k ∨ k = b ∨ k = bx) (fun k hk => .inl (.inl (.inl hk))))
                  have HF3 := Lib.hid ((h13.row (xbX Y (xuV Y.u iv1 ov1))).rowFar hne (anB v))
                  have HF4 := Lib.hid ((h14.rowFar (fun e => hne e.symm) (xbX Y (xuV Y.u iv1 ov1))).row (anB v))
                  have HSB := Lib.hid hsb
                  have HL3 := Lib.hid l13
                  clear hcf hcg hi1 ho1 h13 h14 hsb hsa g13 g14 l13 l14 hne
                  go_wp2_with fail
                  go_meet
                  exact ⟨_, _, _, _, rfl, rfl, rfl, HSB.out, HFI.out, HFO.out, HF3.out, HF4.out, HL3.out⟩
                · have hba : Below (wc.drew.alloc (.cells xb0' BxT)).heap.size (wc.drew.alloc (.cells xb0' BxT)) ((wc.drew.alloc (.cells xb0' BxT)).alloc (.cells (anB 0) ANT)) := (Below.refl _ _).alloc (Nat.le_refl _) _
                  refine wpOp_valB (.pointer (some ⟨(wc.drew.alloc (.cells xb0' BxT)).heap.size, 0, none⟩)) ((wc.drew.alloc (.cells xb0' BxT)).alloc (.cells (anB 0) ANT)) _ rfl (by kernel_rfl) (exec_allocZ ANT rfl (anB 0) (zero_an _)) rfl ?_
                  have hs12 : Below wc.heap.size wc ((wc.drew.alloc (.cells xb0' BxT)).alloc (.cells (anB 0) ANT)) := hs11.trans (hba.mono hs11.size)
                  have h14 : CsAt ((wc.drew.alloc (.cells xb0' BxT)).alloc (.cells (anB 0) ANT)) (wc.drew.alloc (.cells xb0' BxT)).heap.size ANT (anB 0) := CsAt.new _ _ _
                  have l14 : wc.heap.size ≤ (wc.drew.alloc (.cells xb0' BxT)).heap.size := hs11.size
                  have hne : c13 ≠ (wc.drew.alloc (.cells xb0' BxT)).heap.size := fun e => absurd h13.lt (by rw [e]; exact Nat.lt_irrefl _)
                  have h13 := h13.low hba
                  refine ⟨hs12, ?_⟩
                  clear hba
                  obtain ⟨c14, hcc14⟩ : ∃ c, (wc.drew.alloc (.cells xb0' BxT)).heap.size = c := ⟨_, rfl⟩
                  rw [hcc14] at h14 l14 hne ⊢
                  refine wpAnyH_all (fuel := 7) (rs := [11]) (by kernel_rfl) (by decide) ?_
                  intro i hi
                  obtain rfl : i = 11 := by simpa using hi
                  refine wpOp_callX 8 #[.agg (xbX X (xuV X.u iv ov)), .int .i64 d.hart, .agg d.ask.cells] rfl (by kernel_rfl) (by go_simp) ?_
                  refine (HRD.out (fun k => (F' k ∨ k = b ∨ k = bx) ∨ (wc.heap.size ≤ k ∧ k < ((wc.drew.alloc (.cells xb0' BxT)).alloc (.cells (anB 0) ANT)).heap.size)) iv ov ((wc.drew.alloc (.cells xb0' BxT)).alloc (.cells (anB 0) ANT)) (HQ.out _ hs12).okc (HQ.out _ hs12).okp (HQ.out _ hs12).oku (fun k hk => by
                      have h1 := (HQ.out _ hs12).bu.lo
                      have h2 := (HQ.out _ hs12).bu.lt
                      have h3 := (HQ.out _ hs12).x.lt
                      rcases hk with (hk | hk | hk) | hk
                      · exact h1 k hk
                      · rw [hk]; exact h2
                      · rw [hk]; exact h3
                      · exact hk.2) ((HP.out.i.more (fun k hk => hk.imp id And.left)).low hs12) ((HP.out.o.more (fun k hk => hk.imp id And.left)).low hs12)).mono ?_
                  rintro e V3 ⟨iv1, ov1, rfl, hq⟩
                  have hs13 : Below wc.heap.size wc V3 := hs12.trans (hq.bel.mono hs12.size)
                  have hi1 := hq.i.more (H := fun k => ((F' k ∨ k = b ∨ k = bx) ∨ (wc.heap.size ≤ k ∧ k < ((wc.drew.alloc (.cells xb0' BxT)).alloc (.cells (anB 0) ANT)).heap.size)) ∨ V3.heap.size ≤ k) (fun k hk => hk)
                  have ho1 := hq.o.more (H := fun k => ((F' k ∨ k = b ∨ k = bx) ∨ (wc.heap.size ≤ k ∧ k < ((wc.drew.alloc (.cells xb0' BxT)).alloc (.cells (anB 0) ANT)).heap.size)) ∨ V3.heap.size ≤ k) (fun k hk => hk)
                  have g13 : ((F' c13 ∨ c13 = b ∨ c13 = bx) ∨ (wc.heap.size ≤ c13 ∧ c13 < ((wc.drew.alloc (.cells xb0' BxT)).alloc (.cells (anB 0) ANT)).heap.size)) ∨ V3.heap.size ≤ c13 := .inl (.inr ⟨l13, h13.lt⟩)
                  have h13 := h13.low hq.bel
                  have g14 : ((F' c14 ∨ c14 = b ∨ c14 = bx) ∨ (wc.heap.size ≤ c14 ∧ c14 < ((wc.drew.alloc (.cells xb0' BxT)).alloc (.cells (anB 0) ANT)).heap.size)) ∨ V3.heap.size ≤ c14 := .inl (.inr ⟨l14, h14.lt⟩)
                  have h14 := h14.low hq.bel
                  refine ⟨_, rfl, hs13, ?_⟩
                  refine takeH (fuel := 6) (i := 12) (.tuple #[.agg (xbX Y (xuV Y.u iv1 ov1)), .agg (anB v), .bool g]) ?_ rfl (by kernel_rfl) (by kernel_rfl) (by kernel_rfl) (fun _ _ _ h => h) (by kernel_rfl) (fun W hS => by go_simp) hs13 ?_ ?_
                  rotate_left 1
                  · go_simp
                    exact rfl
                  refine takeH (fuel := 5) (i := 13) (.agg (xbX Y (xuV Y.u iv1 ov1))) ?_ rfl (by kernel_rfl) (by kernel_rfl) (by kernel_rfl) (fun _ _ _ h => h) (by kernel_rfl) (fun W hS => by go_simp) hs13 ?_ ?_
                  rotate_left 1
                  · go_simp
                    exact rfl
                  refine takeH (fuel := 4) (i := 14) (.agg (anB v)) ?_ rfl (by kernel_rfl) (by kernel_rfl) (by kernel_rfl) (fun _ _ _ h => h) (by kernel_rfl) (fun W hS => by go_simp) hs13 ?_ ?_
                  rotate_left 1
                  · go_simp
                    exact rfl
                  refine takeH (fuel := 3) (i := 15) (.bool g) ?_ rfl (by kernel_rfl) (by kernel_rfl) (by kernel_rfl) (fun _ _ _ h => h) (by kernel_rfl) (fun W hS => by go_simp) hs13 ?_ ?_
                  rotate_left 1
                  · go_simp
                    exact rfl
                  refine wpAnyH_all (fuel := 2) (rs := [18]) (by kernel_rfl) (by decide) ?_
                  intro i hi
                  obtain rfl : i = 18 := by simpa using hi
                  refine wpOp_unitB (V3.setRow c13 (xbX Y (xuV Y.u iv1 ov1))) _ rfl (by kernel_rfl) (exec_store_row BxT _ _ rfl c13 (xbX Y (xuV Y.u iv1 ov1)) rfl rfl BxT _ h13 (IY.out _ _) (SY.out _ _) (OY.out _ _ hi1.one ho1.one)) rfl ?_
                  have hsa : Below wc.heap.size wc (V3.setRow c13 (xbX Y (xuV Y.u iv1 ov1))) := below_setRow hs13 l13 _
                  refine ⟨hsa, ?_⟩
                  refine wpAnyH_all (fuel := 1) (rs := [19]) (by kernel_rfl) (by decide) ?_
                  intro i hi
                  obtain rfl : i = 19 := by simpa using hi
                  refine wpOp_unitB ((V3.setRow c13 (xbX Y (xuV Y.u iv1 ov1))).setRow c14 (anB v)) _ rfl (by kernel_rfl) (exec_store_row ANT _ _ rfl c14 (anB v) rfl rfl ANT _ (h14.rowFar (fun e => hne e.symm) _) (iAN _) rfl (anB_one _)) rfl ?_
                  have hsb : Below wc.heap.size wc ((V3.setRow c13 (xbX Y (xuV Y.u iv1 ov1))).setRow c14 (anB v)) := below_setRow hsa l14 _
                  refine ⟨hsb, ?_⟩
                  refine takeH (fuel := 0) (i := 20) (.bool g) ?_ rfl (by kernel_rfl) (by kernel_rfl) (by kernel_rfl) (fun _ _ _ h => h) (by kernel_rfl) (fun W hS => by go_simp) hsb ?_ ?_
                  rotate_left 1
                  · go_simp
                    exact rfl
                  refine wpAnyH_done (by kernel_rfl) ?_ _
                  refine NoPanic.normal ?_
                  have hcf : Chg (fun k => k = c13 ∨ k = c14) V3 ((V3.setRow c13 (xbX Y (xuV Y.u iv1 ov1))).setRow c14 (anB v)) := (Chg.of_row (S := fun k => k = c13 ∨ k = c14) (b := c13) (.inl rfl) _).trans (Chg.of_row (S := fun k => k = c13 ∨ k = c14) (b := c14) (.inr rfl) _)
                  have hcg := hcf.mono (T := fun k => ((F' k ∨ k = b ∨ k = bx) ∨ (wc.heap.size ≤ k ∧ k < ((wc.drew.alloc (.cells xb0' BxT)).alloc (.cells (anB 0) ANT)).heap.size)) ∨ V3.heap.size ≤ k) (fun k hk => hk.elim (fun e => by rw [e]; exact g13) (fun e => by rw [e]; exact g14))
                  have HFI := Lib.hid ((hi1.keep hcg).more (H := fun k => F' k ∨ k = b ∨ k = bx) (fun k hk => .inl (.inl (.inl hk))))
                  have HFO := Lib.hid ((ho1.keep hcg).more (H := fun k => F' k ∨ k = b ∨ k = bx) (fun k hk => .inl (.inl (.inl hk))))
                  have HF3 := Lib.hid ((h13.row (xbX Y (xuV Y.u iv1 ov1))).rowFar hne (anB v))
                  have HF4 := Lib.hid ((h14.rowFar (fun e => hne e.symm) (xbX Y (xuV Y.u iv1 ov1))).row (anB v))
                  have HSB := Lib.hid hsb
                  have HL3 := Lib.hid l13
                  clear hcf hcg hi1 ho1 h13 h14 hsb hsa g13 g14 l13 l14 hne
                  go_wp2_with fail
                  go_meet
                  exact ⟨_, _, _, _, rfl, rfl, rfl, HSB.out, HFI.out, HFO.out, HF3.out, HF4.out, HL3.out⟩
              · have hba : Below wc.drew.heap.size wc.drew (wc.drew.alloc (.cells (anB 0) ANT)) := (Below.refl _ _).alloc (Nat.le_refl _) _
                refine wpOp_valB (.pointer (some ⟨wc.drew.heap.size, 0, none⟩)) (wc.drew.alloc (.cells (anB 0) ANT)) _ rfl (by kernel_rfl) (exec_allocZ ANT rfl (anB 0) (zero_an _)) rfl ?_
                have hs11 : Below wc.heap.size wc (wc.drew.alloc (.cells (anB 0) ANT)) := hs0.trans (hba.mono hs0.size)
                have h14 : CsAt (wc.drew.alloc (.cells (anB 0) ANT)) wc.drew.heap.size ANT (anB 0) := CsAt.new _ _ _
                have l14 : wc.heap.size ≤ wc.drew.heap.size := hs0.size
                refine ⟨hs11, ?_⟩
                clear hba
                obtain ⟨c14, hcc14⟩ : ∃ c, wc.drew.heap.size = c := ⟨_, rfl⟩
                rw [hcc14] at h14 l14 ⊢
                refine wpAnyH_all (fuel := 8) (rs := [11, 16]) (by kernel_rfl) (by decide) ?_
                intro i hi
                simp only [List.mem_cons, List.not_mem_nil, or_false] at hi
                rcases hi with rfl | rfl
                · refine wpOp_callX 8 #[.agg (xbX X (xuV X.u iv ov)), .int .i64 d.hart, .agg d.ask.cells] rfl (by kernel_rfl) (by go_simp) ?_
                  refine (HRD.out (fun k => (F' k ∨ k = b ∨ k = bx) ∨ (wc.heap.size ≤ k ∧ k < (wc.drew.alloc (.cells (anB 0) ANT)).heap.size)) iv ov (wc.drew.alloc (.cells (anB 0) ANT)) (HQ.out _ hs11).okc (HQ.out _ hs11).okp (HQ.out _ hs11).oku (fun k hk => by
                      have h1 := (HQ.out _ hs11).bu.lo
                      have h2 := (HQ.out _ hs11).bu.lt
                      have h3 := (HQ.out _ hs11).x.lt
                      rcases hk with (hk | hk | hk) | hk
                      · exact h1 k hk
                      · rw [hk]; exact h2
                      · rw [hk]; exact h3
                      · exact hk.2) ((HP.out.i.more (fun k hk => hk.imp id And.left)).low hs11) ((HP.out.o.more (fun k hk => hk.imp id And.left)).low hs11)).mono ?_
                  rintro e V2 ⟨iv1, ov1, rfl, hq⟩
                  have hs12 : Below wc.heap.size wc V2 := hs11.trans (hq.bel.mono hs11.size)
                  have hi1 := hq.i.more (H := fun k => ((F' k ∨ k = b ∨ k = bx) ∨ (wc.heap.size ≤ k ∧ k < (wc.drew.alloc (.cells (anB 0) ANT)).heap.size)) ∨ V2.heap.size ≤ k) (fun k hk => hk)
                  have ho1 := hq.o.more (H := fun k => ((F' k ∨ k = b ∨ k = bx) ∨ (wc.heap.size ≤ k ∧ k < (wc.drew.alloc (.cells (anB 0) ANT)).heap.size)) ∨ V2.heap.size ≤ k) (fun k hk => hk)
                  have g14 : ((F' c14 ∨ c14 = b ∨ c14 = bx) ∨ (wc.heap.size ≤ c14 ∧ c14 < (wc.drew.alloc (.cells (anB 0) ANT)).heap.size)) ∨ V2.heap.size ≤ c14 := .inl (.inr ⟨l14, h14.lt⟩)
                  have h14 := h14.low hq.bel
                  refine ⟨_, rfl, hs12, ?_⟩
                  refine takeH (fuel := 7) (i := 12) (.tuple #[.agg (xbX Y (xuV Y.u iv1 ov1)), .agg (anB v), .bool g]) ?_ rfl (by kernel_rfl) (by kernel_rfl) (by kernel_rfl) (fun _ _ _ h => h) (by kernel_rfl) (fun W hS => by go_simp) hs12 ?_ ?_
                  rotate_left 1
                  · go_simp
                    exact rfl
                  refine takeH (fuel := 6) (i := 13) (.agg (xbX Y (xuV Y.u iv1 ov1))) ?_ rfl (by kernel_rfl) (by kernel_rfl) (by kernel_rfl) (fun _ _ _ h => h) (by kernel_rfl) (fun W hS => by go_simp) hs12 ?_ ?_
                  rotate_left 1
                  · go_simp
                    exact rfl
                  refine takeH (fuel := 5) (i := 14) (.agg (anB v)) ?_ rfl (by kernel_rfl) (by kernel_rfl) (by kernel_rfl) (fun _ _ _ h => h) (by kernel_rfl) (fun W hS => by go_simp) hs12 ?_ ?_
                  rotate_left 1
                  · go_simp
                    exact rfl
                  refine takeH (fuel := 4) (i := 15) (.bool g) ?_ rfl (by kernel_rfl) (by kernel_rfl) (by kernel_rfl) (fun _ _ _ h => h) (by kernel_rfl) (fun W hS => by go_simp) hs12 ?_ ?_
                  rotate_left 1
                  · go_simp
                    exact rfl
                  refine wpAnyH_all (fuel := 3) (rs := [16]) (by kernel_rfl) (by decide) ?_
                  intro i hi
                  obtain rfl : i = 16 := by simpa using hi
                  have hba : Below V2.heap.size V2 (V2.alloc (.cells xb0' BxT)) := (Below.refl _ _).alloc (Nat.le_refl _) _
                  refine wpOp_valB (.pointer (some ⟨V2.heap.size, 0, none⟩)) (V2.alloc (.cells xb0' BxT)) _ rfl (by kernel_rfl) (exec_allocZ BxT rfl xb0' (zero_bx1 _)) rfl ?_
                  have hs13 : Below wc.heap.size wc (V2.alloc (.cells xb0' BxT)) := hs12.trans (hba.mono hs12.size)
                  have h13 : CsAt (V2.alloc (.cells xb0' BxT)) V2.heap.size BxT xb0' := CsAt.new _ _ _
                  have l13 : wc.heap.size ≤ V2.heap.size := hs12.size
                  have hne : V2.heap.size ≠ c14 := fun e => absurd h14.lt (by rw [← e]; exact Nat.lt_irrefl _)
                  have h14 := h14.low hba
                  have hi1 := hi1.low hba
                  have ho1 := ho1.low hba
                  have hgrow : V2.heap.size ≤ (V2.alloc (.cells xb0' BxT)).heap.size := hba.size
                  refine ⟨hs13, ?_⟩
                  clear hba
                  obtain ⟨c13, hcc13⟩ : ∃ c, V2.heap.size = c := ⟨_, rfl⟩
                  rw [hcc13] at h13 l13 hne ⊢
                  have g13 : ((F' c13 ∨ c13 = b ∨ c13 = bx) ∨ (wc.heap.size ≤ c13 ∧ c13 < (wc.drew.alloc (.cells (anB 0) ANT)).heap.size)) ∨ V2.heap.size ≤ c13 := .inr (by rw [← hcc13]; exact Nat.le_refl _)
                  refine wpAnyH_all (fuel := 2) (rs := [18]) (by kernel_rfl) (by decide) ?_
                  intro i hi
                  obtain rfl : i = 18 := by simpa using hi
                  refine wpOp_unitB ((V2.alloc (.cells xb0' BxT)).setRow c13 (xbX Y (xuV Y.u iv1 ov1))) _ rfl (by kernel_rfl) (exec_store_row BxT _ _ rfl c13 (xbX Y (xuV Y.u iv1 ov1)) rfl rfl BxT _ h13 (IY.out _ _) (SY.out _ _) (OY.out _ _ hi1.one ho1.one)) rfl ?_
                  have hsa : Below wc.heap.size wc ((V2.alloc (.cells xb0' BxT)).setRow c13 (xbX Y (xuV Y.u iv1 ov1))) := below_setRow hs13 l13 _
                  refine ⟨hsa, ?_⟩
                  refine wpAnyH_all (fuel := 1) (rs := [19]) (by kernel_rfl) (by decide) ?_
                  intro i hi
                  obtain rfl : i = 19 := by simpa using hi
                  refine wpOp_unitB (((V2.alloc (.cells xb0' BxT)).setRow c13 (xbX Y (xuV Y.u iv1 ov1))).setRow c14 (anB v)) _ rfl (by kernel_rfl) (exec_store_row ANT _ _ rfl c14 (anB v) rfl rfl ANT _ (h14.rowFar (fun e => hne e.symm) _) (iAN _) rfl (anB_one _)) rfl ?_
                  have hsb : Below wc.heap.size wc (((V2.alloc (.cells xb0' BxT)).setRow c13 (xbX Y (xuV Y.u iv1 ov1))).setRow c14 (anB v)) := below_setRow hsa l14 _
                  refine ⟨hsb, ?_⟩
                  refine takeH (fuel := 0) (i := 20) (.bool g) ?_ rfl (by kernel_rfl) (by kernel_rfl) (by kernel_rfl) (fun _ _ _ h => h) (by kernel_rfl) (fun W hS => by go_simp) hsb ?_ ?_
                  rotate_left 1
                  · go_simp
                    exact rfl
                  refine wpAnyH_done (by kernel_rfl) ?_ _
                  refine NoPanic.normal ?_
                  have hcf : Chg (fun k => k = c13 ∨ k = c14) (V2.alloc (.cells xb0' BxT)) (((V2.alloc (.cells xb0' BxT)).setRow c13 (xbX Y (xuV Y.u iv1 ov1))).setRow c14 (anB v)) := (Chg.of_row (S := fun k => k = c13 ∨ k = c14) (b := c13) (.inl rfl) _).trans (Chg.of_row (S := fun k => k = c13 ∨ k = c14) (b := c14) (.inr rfl) _)
                  have hcg := hcf.mono (T := fun k => ((F' k ∨ k = b ∨ k = bx) ∨ (wc.heap.size ≤ k ∧ k < (wc.drew.alloc (.cells (anB 0) ANT)).heap.size)) ∨ V2.heap.size ≤ k) (fun k hk => hk.elim (fun e => by rw [e]; exact g13) (fun e => by rw [e]; exact g14))
                  have HFI := Lib.hid ((hi1.keep hcg).more (H := fun k => F' k ∨ k = b ∨ k = bx) (fun k hk => .inl (.inl (.inl hk))))
                  have HFO := Lib.hid ((ho1.keep hcg).more (H := fun k => F' k ∨ k = b ∨ k = bx) (fun k hk => .inl (.inl (.inl hk))))
                  have HF3 := Lib.hid ((h13.row (xbX Y (xuV Y.u iv1 ov1))).rowFar hne (anB v))
                  have HF4 := Lib.hid ((h14.rowFar (fun e => hne e.symm) (xbX Y (xuV Y.u iv1 ov1))).row (anB v))
                  have HSB := Lib.hid hsb
                  have HL3 := Lib.hid l13
                  clear hcf hcg hi1 ho1 h13 h14 hsb hsa g13 g14 l13 l14 hne
                  go_wp2_with fail
                  go_meet
                  exact ⟨_, _, _, _, rfl, rfl, rfl, HSB.out, HFI.out, HFO.out, HF3.out, HF4.out, HL3.out⟩
                · have hba : Below (wc.drew.alloc (.cells (anB 0) ANT)).heap.size (wc.drew.alloc (.cells (anB 0) ANT)) ((wc.drew.alloc (.cells (anB 0) ANT)).alloc (.cells xb0' BxT)) := (Below.refl _ _).alloc (Nat.le_refl _) _
                  refine wpOp_valB (.pointer (some ⟨(wc.drew.alloc (.cells (anB 0) ANT)).heap.size, 0, none⟩)) ((wc.drew.alloc (.cells (anB 0) ANT)).alloc (.cells xb0' BxT)) _ rfl (by kernel_rfl) (exec_allocZ BxT rfl xb0' (zero_bx1 _)) rfl ?_
                  have hs12 : Below wc.heap.size wc ((wc.drew.alloc (.cells (anB 0) ANT)).alloc (.cells xb0' BxT)) := hs11.trans (hba.mono hs11.size)
                  have h13 : CsAt ((wc.drew.alloc (.cells (anB 0) ANT)).alloc (.cells xb0' BxT)) (wc.drew.alloc (.cells (anB 0) ANT)).heap.size BxT xb0' := CsAt.new _ _ _
                  have l13 : wc.heap.size ≤ (wc.drew.alloc (.cells (anB 0) ANT)).heap.size := hs11.size
                  have hne : (wc.drew.alloc (.cells (anB 0) ANT)).heap.size ≠ c14 := fun e => absurd h14.lt (by rw [← e]; exact Nat.lt_irrefl _)
                  have h14 := h14.low hba
                  refine ⟨hs12, ?_⟩
                  clear hba
                  obtain ⟨c13, hcc13⟩ : ∃ c, (wc.drew.alloc (.cells (anB 0) ANT)).heap.size = c := ⟨_, rfl⟩
                  rw [hcc13] at h13 l13 hne ⊢
                  refine wpAnyH_all (fuel := 7) (rs := [11]) (by kernel_rfl) (by decide) ?_
                  intro i hi
                  obtain rfl : i = 11 := by simpa using hi
                  refine wpOp_callX 8 #[.agg (xbX X (xuV X.u iv ov)), .int .i64 d.hart, .agg d.ask.cells] rfl (by kernel_rfl) (by go_simp) ?_
                  refine (HRD.out (fun k => (F' k ∨ k = b ∨ k = bx) ∨ (wc.heap.size ≤ k ∧ k < ((wc.drew.alloc (.cells (anB 0) ANT)).alloc (.cells xb0' BxT)).heap.size)) iv ov ((wc.drew.alloc (.cells (anB 0) ANT)).alloc (.cells xb0' BxT)) (HQ.out _ hs12).okc (HQ.out _ hs12).okp (HQ.out _ hs12).oku (fun k hk => by
                      have h1 := (HQ.out _ hs12).bu.lo
                      have h2 := (HQ.out _ hs12).bu.lt
                      have h3 := (HQ.out _ hs12).x.lt
                      rcases hk with (hk | hk | hk) | hk
                      · exact h1 k hk
                      · rw [hk]; exact h2
                      · rw [hk]; exact h3
                      · exact hk.2) ((HP.out.i.more (fun k hk => hk.imp id And.left)).low hs12) ((HP.out.o.more (fun k hk => hk.imp id And.left)).low hs12)).mono ?_
                  rintro e V3 ⟨iv1, ov1, rfl, hq⟩
                  have hs13 : Below wc.heap.size wc V3 := hs12.trans (hq.bel.mono hs12.size)
                  have hi1 := hq.i.more (H := fun k => ((F' k ∨ k = b ∨ k = bx) ∨ (wc.heap.size ≤ k ∧ k < ((wc.drew.alloc (.cells (anB 0) ANT)).alloc (.cells xb0' BxT)).heap.size)) ∨ V3.heap.size ≤ k) (fun k hk => hk)
                  have ho1 := hq.o.more (H := fun k => ((F' k ∨ k = b ∨ k = bx) ∨ (wc.heap.size ≤ k ∧ k < ((wc.drew.alloc (.cells (anB 0) ANT)).alloc (.cells xb0' BxT)).heap.size)) ∨ V3.heap.size ≤ k) (fun k hk => hk)
                  have g13 : ((F' c13 ∨ c13 = b ∨ c13 = bx) ∨ (wc.heap.size ≤ c13 ∧ c13 < ((wc.drew.alloc (.cells (anB 0) ANT)).alloc (.cells xb0' BxT)).heap.size)) ∨ V3.heap.size ≤ c13 := .inl (.inr ⟨l13, h13.lt⟩)
                  have h13 := h13.low hq.bel
                  have g14 : ((F' c14 ∨ c14 = b ∨ c14 = bx) ∨ (wc.heap.size ≤ c14 ∧ c14 < ((wc.drew.alloc (.cells (anB 0) ANT)).alloc (.cells xb0' BxT)).heap.size)) ∨ V3.heap.size ≤ c14 := .inl (.inr ⟨l14, h14.lt⟩)
                  have h14 := h14.low hq.bel
                  refine ⟨_, rfl, hs13, ?_⟩
                  refine takeH (fuel := 6) (i := 12) (.tuple #[.agg (xbX Y (xuV Y.u iv1 ov1)), .agg (anB v), .bool g]) ?_ rfl (by kernel_rfl) (by kernel_rfl) (by kernel_rfl) (fun _ _ _ h => h) (by kernel_rfl) (fun W hS => by go_simp) hs13 ?_ ?_
                  rotate_left 1
                  · go_simp
                    exact rfl
                  refine takeH (fuel := 5) (i := 13) (.agg (xbX Y (xuV Y.u iv1 ov1))) ?_ rfl (by kernel_rfl) (by kernel_rfl) (by kernel_rfl) (fun _ _ _ h => h) (by kernel_rfl) (fun W hS => by go_simp) hs13 ?_ ?_
                  rotate_left 1
                  · go_simp
                    exact rfl
                  refine takeH (fuel := 4) (i := 14) (.agg (anB v)) ?_ rfl (by kernel_rfl) (by kernel_rfl) (by kernel_rfl) (fun _ _ _ h => h) (by kernel_rfl) (fun W hS => by go_simp) hs13 ?_ ?_
                  rotate_left 1
                  · go_simp
                    exact rfl
                  refine takeH (fuel := 3) (i := 15) (.bool g) ?_ rfl (by kernel_rfl) (by kernel_rfl) (by kernel_rfl) (fun _ _ _ h => h) (by kernel_rfl) (fun W hS => by go_simp) hs13 ?_ ?_
                  rotate_left 1
                  · go_simp
                    exact rfl
                  refine wpAnyH_all (fuel := 2) (rs := [18]) (by kernel_rfl) (by decide) ?_
                  intro i hi
                  obtain rfl : i = 18 := by simpa using hi
                  refine wpOp_unitB (V3.setRow c13 (xbX Y (xuV Y.u iv1 ov1))) _ rfl (by kernel_rfl) (exec_store_row BxT _ _ rfl c13 (xbX Y (xuV Y.u iv1 ov1)) rfl rfl BxT _ h13 (IY.out _ _) (SY.out _ _) (OY.out _ _ hi1.one ho1.one)) rfl ?_
                  have hsa : Below wc.heap.size wc (V3.setRow c13 (xbX Y (xuV Y.u iv1 ov1))) := below_setRow hs13 l13 _
                  refine ⟨hsa, ?_⟩
                  refine wpAnyH_all (fuel := 1) (rs := [19]) (by kernel_rfl) (by decide) ?_
                  intro i hi
                  obtain rfl : i = 19 := by simpa using hi
                  refine wpOp_unitB ((V3.setRow c13 (xbX Y (xuV Y.u iv1 ov1))).setRow c14 (anB v)) _ rfl (by kernel_rfl) (exec_store_row ANT _ _ rfl c14 (anB v) rfl rfl ANT _ (h14.rowFar (fun e => hne e.symm) _) (iAN _) rfl (anB_one _)) rfl ?_
                  have hsb : Below wc.heap.size wc ((V3.setRow c13 (xbX Y (xuV Y.u iv1 ov1))).setRow c14 (anB v)) := below_setRow hsa l14 _
                  refine ⟨hsb, ?_⟩
                  refine takeH (fuel := 0) (i := 20) (.bool g) ?_ rfl (by kernel_rfl) (by kernel_rfl) (by kernel_rfl) (fun _ _ _ h => h) (by kernel_rfl) (fun W hS => by go_simp) hsb ?_ ?_
                  rotate_left 1
                  · go_simp
                    exact rfl
                  refine wpAnyH_done (by kernel_rfl) ?_ _
                  refine NoPanic.normal ?_
                  have hcf : Chg (fun k => k = c13 ∨ k = c14) V3 ((V3.setRow c13 (xbX Y (xuV Y.u iv1 ov1))).setRow c14 (anB v)) := (Chg.of_row (S := fun k => k = c13 ∨ k = c14) (b := c13) (.inl rfl) _).trans (Chg.of_row (S := fun k => k = c13 ∨ k = c14) (b := c14) (.inr rfl) _)
                  have hcg := hcf.mono (T := fun k => ((F' k ∨ k = b ∨ k = bx) ∨ (wc.heap.size ≤ k ∧ k < ((wc.drew.alloc (.cells (anB 0) ANT)).alloc (.cells xb0' BxT)).heap.size)) ∨ V3.heap.size ≤ k) (fun k hk => hk.elim (fun e => by rw [e]; exact g13) (fun e => by rw [e]; exact g14))
                  have HFI := Lib.hid ((hi1.keep hcg).more (H := fun k => F' k ∨ k = b ∨ k = bx) (fun k hk => .inl (.inl (.inl hk))))
                  have HFO := Lib.hid ((ho1.keep hcg).more (H := fun k => F' k ∨ k = b ∨ k = bx) (fun k hk => .inl (.inl (.inl hk))))
                  have HF3 := Lib.hid ((h13.row (xbX Y (xuV Y.u iv1 ov1))).rowFar hne (anB v))
                  have HF4 := Lib.hid ((h14.rowFar (fun e => hne e.symm) (xbX Y (xuV Y.u iv1 ov1))).row (anB v))
                  have HSB := Lib.hid hsb
                  have HL3 := Lib.hid l13
                  clear hcf hcg hi1 ho1 h13 h14 hsb hsa g13 g14 l13 l14 hne
                  go_wp2_with fail
                  go_meet
                  exact ⟨_, _, _, _, rfl, rfl, rfl, HSB.out, HFI.out, HFO.out, HF3.out, HF4.out, HL3.out⟩
            case rest =>
              obtain ⟨c13, c14, iv', ov', rfl, rfl, rfl, hB9, hi9, ho9, h13, h14, hl9⟩ := hcut
              have hP9 := HP.out.low hB9
              have n13 : c13 ≠ bx := fun e => absurd HP.out.x.lt (by rw [← e]; exact Nat.not_lt.2 hl9)
              have n14 : c14 ≠ bx := fun e => by
                have h1 : wc.heap[c14]? = some (.cells (anB v) ANT (0, 0)) := h14
                have h2 : wc.heap[bx]? = some (.cells (xbX X (xuV X.u iv ov)) BxT (0, 0)) := hP9.x
                rw [e, h2] at h1
                have h3 : (BxT : TypeId) = ANT := by simpa using (congrArg (fun o => match o with | some (Obj.cells _ t _) => t | _ => 0) h1)
                exact absurd h3 (by decide)
              have hone : (xbX Y (xuV Y.u iv' ov')).all (·.oneCell') = true := OY.out _ _ hi9.one ho9.one
              have hsx : (xbX X (xuV X.u iv ov)).size = (xbX Y (xuV Y.u iv' ov')).size := by rw [← SY.out iv' ov', xbX_size hP9.okc.len rfl]; exact (xbV_size 0 (x15_size 0 _ (ctnew_len (by omega))) (x16_size' _ _) rfl).symm
              have HPS := Lib.hid (hP9.stored iv' ov' hi9 ho9)
              have HN1 := Lib.hid ((HNB.out.1.low hB9).rowFar HNB.out.2.2.1 (xbX Y (xuV Y.u iv' ov')))
              have HN2 := Lib.hid (h14.rowFar n14 (xbX Y (xuV Y.u iv' ov')))
              have HX9 := Lib.hid hP9.x
              have HR9 := Lib.hid h13
              clear n13 n14 hP9 h13 h14 hl9 hi9 ho9 hB9 HP HNB HQ HWB IX HRD HDD HC0 HIN
              go_upto_region 11 with (first
                | (refine wpList_load_row rfl BxT _ rfl c13 rfl BxT _ (0, 0) _ HR9.out Tryz.underlying53 rfl (IY.out _ _) ?_)
                | (refine wpList_store_row rfl BxT _ _ rfl bx (xbX Y (xuV Y.u iv' ov')) rfl rfl BxT _ HX9.out (IY.out _ _) hsx hone ?_))
              generalize hw10 : wc.setRow bx (xbX Y (xuV Y.u iv' ov')) = w10 at *
              clear hw10 hone hsx HX9 HR9
              have hgg : (g == g) = true := by simp
              have HPO := HPS.out
              have HHC := Lib.hid (bholds_c F' _ b Y iv' ov' w10 HPO.bu HPO.oku hYn HPO.i HPO.o (by omega))
              clear HPO
              go_wp2_with (first
                | (refine wpList_load_row rfl ANT _ rfl nb rfl ANT _ (0, 0) _ HN1.out Tryz.underlying57 rfl (iAN _) ?_)
                | (refine wpList_load_row rfl ANT _ rfl c14 rfl ANT _ (0, 0) _ HN2.out Tryz.underlying57 rfl (iAN _) ?_)
                | (refine wpList_cmp rfl .neq ANT _ _ _ rfl (anB v) (anB v) rfl rfl guard_an _ (neq_an HVR.out _) ?_)
                | (refine wpList_load_rowV (by rfl) BxT _ rfl bx rfl BxT _ (0, 0) _ HPS.out.x Tryz.underlying53 rfl (IY.out _ _) ?_))
              refine HHC.out.mono ?_
              rintro e w11 ⟨rfl, hb⟩
              have HPF := Lib.hid (HPS.out.low hb)
              clear hb HPS HN1 HN2 HHC
              go_wp2_with fail
              go_roundw
              case rel => exact ⟨k + 1, F', Y, iv', ov', by omega, hYo, hYn, by go_num, HPF.out⟩
              case measure => simp [intOf]; omega
        · obtain rfl : k = n := by omega
          have e0 : decide ((k : Int) < (k : Int)) = false := by simp
          have HDO := Lib.hid (fun (G : Nat → Prop) c W (hb : Bu G W c X) => bdo_c G c X p.hart p.ask HPI.out.ask (by omega) W hb)
          have HRD := Lib.hid (fun (G : Nat → Prop) (iv ov : Value) (W : World) (oc : Ct.Ok X.n X.c) (op : Pc.Ok X.n X.p) (ou : Ut.Ok X.u) (hG : ∀ k, G k → k < W.heap.size) (hi : VwG G W iv X.u.q) (ho : VwG G W ov X.u.out) => rdo18_c G X p.hart p.ask HPI.out.ask oc op ou (by omega) iv ov W hG hi ho)
          have hYn : 1 ≤ (Bs.doX X p.hart p.ask).n := by rw [doX_n]; exact hXn
          have hYo : (Bs.doX X p.hart p.ask).u.out.length ≤ k + 1 := by have := doX_out X p.hart p.ask; omega
          generalize Bs.doX X p.hart p.ask = Y at *
          generalize Bs.doV X p.hart p.ask = v at *
          generalize Bs.goB X p.hart p.ask = g at *
          go_wp2_with fail
          refine (busclone_c F b X (by omega) _ HR.out.bu).mono ?_
          rintro e w4 ⟨c, F2, rfl, hc4, hb4, hF2, hlc⟩
          have HP4 := Lib.hid (HR.out.low hb4)
          have HC4 := Lib.hid hc4
          have HL4 := Lib.hid (And.intro hF2 hlc)
          have HB4 := Lib.hid hb4
          clear hc4 hb4 hF2 hlc
          go_wp2_with fail
          refine (bussame_c F2 F c b X X (by omega) _ HC4.out HP4.out.bu).mono ?_
          rintro e w5 ⟨rfl, hb⟩
          rw [sameB_self]
          have HP5 := Lib.hid (HP4.out.low hb)
          have HC5 := Lib.hid (HC4.out.low hb)
          have HB5 := Lib.hid (HB4.out.trans (hb.mono HB4.out.size))
          clear hb HP4 HC4 HB4
          have q0 : w5.cell? ⟨w.heap.size, 0, none⟩ = some (.int .i64 p.hart) := HP5.out.ob.cell 0
          go_wp2_with (refine wpList_load_part rfl AKT _ rfl w.heap.size 1 rfl p.ask.cells _ (ob_ask HP5.out.ob) Tryz.underlying31 rfl info_AK ?_)
          refine (HDO.out F2 c _ HC5.out).mono ?_
          rintro e w6 ⟨rfl, hq6⟩
          have hb6 := hq6.below HB5.out HL4.out.1 HL4.out.2
          have HP6 := Lib.hid (HR.out.low hb6)
          obtain ⟨F3, k1, k2⟩ := hq6.1
          have HC6 := Lib.hid k1
          clear hq6 HC5 HP5 HB5 HL4 q0 hb6 k2 HR
          have q0 : w6.cell? ⟨w.heap.size, 0, none⟩ = some (.int .i64 p.hart) := HP6.out.ob.cell 0
          have IX := Lib.hid (iBx X.n (x15_size X.n X.c HP6.out.okc.len) (x16_size' X.n X.p) (show (xuV X.u iv ov).size = 11 from rfl))
          have IY := Lib.hid (fun (iv' ov' : Value) => iBx Y.n (x15_size Y.n Y.c HC6.out.okc.len) (x16_size' Y.n Y.p) (show (xuV Y.u iv' ov').size = 11 from rfl))
          have SY := Lib.hid (fun (iv' ov' : Value) => show (xb0').size = (xbX Y (xuV Y.u iv' ov')).size by rw [xbX_size HC6.out.okc.len rfl]; exact xbV_size 0 (x15_size 0 _ (ctnew_len (by omega))) (x16_size' _ _) rfl)
          have OY := Lib.hid (fun (iv' ov' : Value) (h1 : iv'.oneCell' = true) (h2 : ov'.oneCell' = true) => xbV_one Y.n (x15V_one (n := Y.n) (ws := Y.c)) (x16_one (n := Y.n) (ws := Y.p)) (xuV_one Y.u h1 h2))
          go_wp2_with (first
            | (refine wpList_load_row rfl BxT _ rfl bx rfl BxT _ (0, 0) _ HP6.out.x Tryz.underlying53 rfl IX.out ?_)
            | (refine wpList_load_part rfl AKT _ rfl w.heap.size 1 rfl p.ask.cells _ (ob_ask HP6.out.ob) Tryz.underlying31 rfl info_AK ?_))
          refine (HRD.out (fun k => F k ∨ k = b ∨ k = bx) iv ov w6 HP6.out.okc HP6.out.okp HP6.out.oku (fun k hk => by
            have h1 := HP6.out.bu.lo
            have h2 := HP6.out.bu.lt
            have h3 := HP6.out.x.lt
            rcases hk with hk | hk | hk
            · exact h1 k hk
            · rw [hk]; exact h2
            · rw [hk]; exact h3) HP6.out.i HP6.out.o).mono ?_
          rintro e w7 ⟨jv, qv, rfl, hq⟩
          have HP7 := Lib.hid (HP6.out.low hq.bel)
          have HC7 := Lib.hid (HC6.out.low hq.bel)
          have HI7 := Lib.hid hq.i
          have HO7 := Lib.hid hq.o
          clear hq HP6 HC6 q0
          have h17 : CsAt ((w7.alloc (.cells xb0' BxT)).alloc (.cells (anB 0) ANT)) w7.heap.size BxT xb0' := (CsAt.new w7 BxT xb0').alloc _
          have h18 : CsAt ((w7.alloc (.cells xb0' BxT)).alloc (.cells (anB 0) ANT)) (w7.alloc (.cells xb0' BxT)).heap.size ANT (anB 0) := CsAt.new _ _ _
          have hn18 : (w7.alloc (.cells xb0' BxT)).heap.size ≠ w7.heap.size := by simp
          have H17 := Lib.hid h17
          have H18 := Lib.hid (h18.rowFar hn18 (xbX Y (xuV Y.u jv qv)))
          have HON := Lib.hid (OY.out jv qv HI7.out.one HO7.out.one)
          have HW := Lib.hid (show ∀ W, W = (((w7.alloc (.cells xb0' BxT)).alloc (.cells (anB 0) ANT)).setRow w7.heap.size (xbX Y (xuV Y.u jv qv))).setRow (w7.heap.size + 1) (anB v) → Below w7.heap.size w7 W ∧ CsAt W w7.heap.size BxT (xbX Y (xuV Y.u jv qv)) from fun W e => by
            subst e
            have hb : Below w7.heap.size w7 ((w7.alloc (.cells xb0' BxT)).alloc (.cells (anB 0) ANT)) := ((Below.refl _ _).alloc (Nat.le_refl _) _).alloc (by simp) _
            exact ⟨below_setRow (below_setRow hb (Nat.le_refl _) _) (by omega) _, (h17.row _).rowFar (by omega) _⟩)
          clear h17 h18 hn18
          go_upto_region 18 with (first
            | (refine wpList_allocZ rfl _ rfl BxT rfl xb0' (zero_bx1 _) ?_)
            | (refine wpList_allocZ rfl _ rfl ANT rfl (anB 0) (zero_an _) ?_)
            | (refine wpList_store_row rfl BxT _ _ rfl w7.heap.size (xbX Y (xuV Y.u jv qv)) rfl rfl BxT _ H17.out (IY.out _ _) (SY.out _ _) HON.out ?_)
            | (refine wpList_store_row rfl ANT _ _ rfl (w7.alloc (.cells xb0' BxT)).heap.size (anB v) rfl rfl ANT _ H18.out (iAN _) rfl (anB_one _) ?_))
          obtain ⟨hb8, h17⟩ := HW.out _ rfl
          generalize (((w7.alloc (.cells xb0' BxT)).alloc (.cells (anB 0) ANT)).setRow w7.heap.size (xbX Y (xuV Y.u jv qv))).setRow (w7.heap.size + 1) (anB v) = w8 at *
          have HP8 := Lib.hid (HP7.out.low hb8)
          have HC8 := Lib.hid (HC7.out.low hb8)
          have HI8 := Lib.hid (HI7.out.low hb8)
          have HO8 := Lib.hid (HO7.out.low hb8)
          have HR8 := Lib.hid h17
          have OU := Lib.hid (HC8.out.oku)
          have hq1 := HP8.out.oku.qn
          have hq2 := OU.out.qn
          have hzc := sameB_comm Y X
          have HH1 := Lib.hid (fun (W : World) (hS : Below w8.heap.size w8 W) => bholds_c F3 _ c Y jv qv W (HC8.out.low hS) OU.out hYn (HI8.out.low hS) (HO8.out.low hS) (by omega))
          have HH2 := Lib.hid (fun (W : World) (hS : Below w8.heap.size w8 W) => bholds_c F _ b X iv ov W (HP8.out.low hS).bu HP8.out.oku hXn (HP8.out.low hS).i (HP8.out.low hS).o (by omega))
          have HS1 := Lib.hid (fun (W : World) (hS : Below w8.heap.size w8 W) => bussame_c F3 F c b Y X (by omega) W (HC8.out.low hS) (HP8.out.low hS).bu)
          have HS2 := Lib.hid (fun (W : World) (hS : Below w8.heap.size w8 W) => rsameB_c _ _ X Y iv ov jv qv W HP8.out.okc HP8.out.okp HC8.out.okc HC8.out.okp (HP8.out.low hS).i (HP8.out.low hS).o (HI8.out.low hS) (HO8.out.low hS) (by omega) (by omega))
          rw [hzc] at HS1
          have HXL := Lib.hid (fun (W : World) (hS : Below w8.heap.size w8 W) => (HP8.out.low hS).x)
          have HYL := Lib.hid (fun (W : World) (hS : Below w8.heap.size w8 W) => HR8.out.low hS)
          have HBE := Lib.hid HP8.out.bel
          clear hb8 h17 HP7 HC7 HI7 HO7 H17 H18 HON HW SY OY hzc hq1 hq2 HP8 HC8 HI8 HO8 HR8 OU HDO HRD
          generalize sameB X Y = z at *
          have hzz : (z == z) = true := by simp
          refine wp_region_steady (fun W => Below w8.heap.size w8 W) (by kernel_rfl) (by kernel_rfl) (Below.drew (Below.refl _ _)) ?_
          refine steady_val ?_ ?_ (by kernel_rfl) (fun W hS => ?_) ?_ ?_
          rotate_left 2
          · go_simp
            exact rfl
          · go_simp
            exact rfl
          refine steady_val (.agg (xbX Y (xuV Y.u jv qv))) ?_ (by kernel_rfl) (fun W hS => exec_load_row BxT _ rfl w7.heap.size rfl BxT _ _ (HYL.out _ hS) Tryz.underlying53 rfl (IY.out _ _)) ?_ ?_
          rotate_left 1
          · go_simp
            exact rfl
          refine steady_enter (.bool true) 9 #[.pointer (some ⟨c, 0, none⟩), .agg (xbX Y (xuV Y.u jv qv))] ?_ (by kernel_rfl) (fun W hS => ?_) (fun W hS => (HH1.out W hS).mono (by rintro e w' ⟨rfl, hb⟩; exact ⟨rfl, hS.trans (hb.mono hS.size)⟩)) ?_ ?_
          rotate_left 1
          · go_simp
          · go_simp
            exact rfl
          iterate 2
            refine steady_val ?_ ?_ (by kernel_rfl) (fun W hS => ?_) ?_ ?_
            rotate_left 2
            · go_simp
              exact rfl
            · go_simp
              exact rfl
          refine steady_val (.agg (xbX X (xuV X.u iv ov))) ?_ (by kernel_rfl) (fun W hS => exec_load_row BxT _ rfl bx rfl BxT _ _ (HXL.out _ hS) Tryz.underlying53 rfl IX.out) ?_ ?_
          rotate_left 1
          · go_simp
            exact rfl
          refine steady_enter (.bool true) 9 #[.pointer (some ⟨b, 0, none⟩), .agg (xbX X (xuV X.u iv ov))] ?_ (by kernel_rfl) (fun W hS => ?_) (fun W hS => (HH2.out W hS).mono (by rintro e w' ⟨rfl, hb⟩; exact ⟨rfl, hS.trans (hb.mono hS.size)⟩)) ?_ ?_
          rotate_left 1
          · go_simp
          · go_simp
            exact rfl
          iterate 4
            refine steady_val ?_ ?_ (by kernel_rfl) (fun W hS => ?_) ?_ ?_
            rotate_left 2
            · go_simp
              exact rfl
            · go_simp
              exact rfl
          refine steady_enter (.bool z) 11 #[.pointer (some ⟨c, 0, none⟩), .pointer (some ⟨b, 0, none⟩)] ?_ (by kernel_rfl) (fun W hS => ?_) (fun W hS => (HS1.out W hS).mono (by rintro e w' ⟨rfl, hb⟩; exact ⟨rfl, hS.trans (hb.mono hS.size)⟩)) ?_ ?_
          rotate_left 1
          · go_simp
          · go_simp
            exact rfl
          refine steady_val (.agg (xbX X (xuV X.u iv ov))) ?_ (by kernel_rfl) (fun W hS => exec_load_row BxT _ rfl bx rfl BxT _ _ (HXL.out _ hS) Tryz.underlying53 rfl IX.out) ?_ ?_
          rotate_left 1
          · go_simp
            exact rfl
          refine steady_val (.agg (xbX Y (xuV Y.u jv qv))) ?_ (by kernel_rfl) (fun W hS => exec_load_row BxT _ rfl w7.heap.size rfl BxT _ _ (HYL.out _ hS) Tryz.underlying53 rfl (IY.out _ _)) ?_ ?_
          rotate_left 1
          · go_simp
            exact rfl
          refine steady_enter (.bool z) 12 #[.agg (xbX X (xuV X.u iv ov)), .agg (xbX Y (xuV Y.u jv qv))] ?_ (by kernel_rfl) (fun W hS => ?_) (fun W hS => (HS2.out W hS).mono (by rintro e w' ⟨rfl, hb⟩; exact ⟨rfl, hS.trans (hb.mono hS.size)⟩)) ?_ ?_
          rotate_left 1
          · go_simp
          · go_simp
            exact rfl
          iterate 3
            refine steady_val ?_ ?_ (by kernel_rfl) (fun W hS => ?_) ?_ ?_
            rotate_left 2
            · go_simp
              exact rfl
            · go_simp
              exact rfl
          refine steady_enter (.bool true) 5 #[] ?_ (by kernel_rfl) (fun W hS => ?_) (fun W hS => (HLV.out W).mono (by rintro e w' ⟨rfl, hb⟩; exact ⟨rfl, hS.trans (hb.mono hS.size)⟩)) ?_ ?_
          rotate_left 1
          · go_simp
          · go_simp
            exact rfl
          iterate 2
            refine steady_val ?_ ?_ (by kernel_rfl) (fun W hS => ?_) ?_ ?_
            rotate_left 2
            · go_simp
              exact rfl
            · go_simp
              exact rfl
          refine steady_nil ?_
          intro W hS
          have HBZ := Lib.hid (HBE.out.trans (hS.mono HBE.out.size))
          clear hS
          go_wp2_with fail
          go_ret
          exact ⟨rfl, HBZ.out⟩
end Go.Proofs.YtfjdalepaacmgaaGreat
set_option maxRecDepth 20000
namespace Go.Proofs.YtfjdalepaacmgaaGreat
open Go.ChangeShapes Go.WideShapes Go.ChangeAt Go.RowKit

theorem own : ownKnob Tryz.prog.godebug = none := by kernel_rfl
theorem laidOut : laidOutB Tryz.prog = true := by kernel_rfl

end Go.Proofs.YtfjdalepaacmgaaGreat
