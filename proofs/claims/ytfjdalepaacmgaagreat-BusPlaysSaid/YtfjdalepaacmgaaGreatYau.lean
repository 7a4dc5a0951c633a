/-
  The reference of layer 18: what stands while something is done; a part of its row stored. The reference of layer 18: Do. The reference of layer 18: Do, kind 9 at device 0.
-/
import Derived.Test.YtfjdalepaacmgaaGreatYat
import Derived.Test.YtfjdalepaacmgaaGreatYan
import Derived.Great.Walk
set_option maxRecDepth 20000
namespace Go.Proofs.YtfjdalepaacmgaaGreat
open Go.ChangeShapes Go.WideShapes Go.ChangeAt Go.RowKit

def xsetL (cs : Array Value) : Nat → List Value → Array Value
  | _, [] => cs
  | o, v :: l => xsetL (cs.setIfInBounds o v) (o + 1) l
theorem xsets {b : Nat} {t : TypeId} : ∀ (l : List Value) (o : Nat) (w : World) (cs : Array Value), CsAt w b t cs → CsAt (w.setCells b o l) b t (xsetL cs o l)
  | [], _, _, _, h => h
  | v :: l, o, w, cs, h => xsets l (o + 1) (w.setCell ⟨b, o, none⟩ v) (cs.setIfInBounds o v) (by unfold CsAt; rw [heap_setCell_same w b o _ t _ h])
theorem chg_cells {S : Nat → Prop} {b : Nat} (hb : S b) : ∀ (l : List Value) (o : Nat) (w : World), Chg S w (w.setCells b o l)
  | [], _, w => Chg.refl S w
  | v :: l, o, w => (Chg.of_cell (S := S) (b := b) hb o v).trans (chg_cells hb l (o + 1) (w.setCell ⟨b, o, none⟩ v))
theorem xsetL_seg : ∀ (l c A B : List Value), l.length = c.length → xsetL (A ++ c ++ B).toArray A.length l = (A ++ l ++ B).toArray
  | [], [], _, _, _ => rfl
  | v :: l, x :: c, A, B, h => by
    have e : ((A ++ x :: c ++ B).toArray).setIfInBounds A.length v = ((A ++ [v]) ++ c ++ B).toArray := by
      rw [List.setIfInBounds_toArray]
      congr 1
      rw [List.append_assoc, List.set_append_right _ _ (Nat.le_refl _)]
      simp
    have ih := xsetL_seg l c (A ++ [v]) B (by simpa using h)
    show xsetL (((A ++ x :: c ++ B).toArray).setIfInBounds A.length v) (A.length + 1) l = _
    rw [e, show A.length + 1 = (A ++ [v]).length by simp, ih]
    simp
  | [], _ :: _, _, _, h => by simp at h
  | _ :: _, [], _, _, h => by simp at h
theorem xseg {A c l B : Array Value} (h : l.size = c.size) : xsetL (A ++ c ++ B) A.size l.toList = A ++ l ++ B := by
  have := xsetL_seg l.toList c.toList A.toList B.toList (by simpa using h)
  have e : ∀ y : Array Value, (A.toList ++ y.toList ++ B.toList).toArray = A ++ y ++ B := fun y => by apply Array.ext'; simp
  rw [e, e] at this
  simpa using this
theorem xs_there {w : World} {b : Nat} {t : TypeId} {cs : Array Value} (h : CsAt w b t cs) (o k : Nat) (hk : o + k ≤ cs.size) : w.there b o k := fun j hj => ⟨by
  rw [h.cell (o + j), Array.getElem?_eq_getElem (by omega)]
  rfl, h.frozen _⟩
section
variable {W : World} {b n : Nat} {c p u c' p' u' : Array Value}
theorem xb_putc (h : CsAt W b BxT (xbV n c p u)) (e : c'.size = c.size) : CsAt (W.setCells b 1 c'.toList) b BxT (xbV n c' p u) := by
  have k := xsets c'.toList 1 W _ h
  rwa [show xbV n c p u = #[.int .i64 n] ++ c ++ (p ++ u) by simp [xbV], show (1 : Nat) = (#[Value.int .i64 n] : Array Value).size from rfl, xseg e, show #[.int .i64 n] ++ c' ++ (p ++ u) = xbV n c' p u by simp [xbV]] at k
theorem xb_putp (hc : c.size = 18) (h : CsAt W b BxT (xbV n c p u)) (e : p'.size = p.size) : CsAt (W.setCells b 19 p'.toList) b BxT (xbV n c p' u) := by
  have k := xsets p'.toList 19 W _ h
  have es : (#[Value.int .i64 n] ++ c : Array Value).size = 19 := by simp [hc]
  have eq := xseg (A := #[Value.int .i64 n] ++ c) (B := u) e
  rw [es] at eq
  rw [show xbV n c p u = (#[.int .i64 n] ++ c) ++ p ++ u from rfl, eq] at k
  exact k
theorem xb_putu (hc : c.size = 18) (hp : p.size = 657) (h : CsAt W b BxT (xbV n c p u)) (e : u'.size = u.size) : CsAt (W.setCells b 676 u'.toList) b BxT (xbV n c p u') := by
  have k := xsets u'.toList 676 W _ h
  have es : (#[Value.int .i64 n] ++ c ++ p : Array Value).size = 676 := by simp [hc, hp]
  have eq := xseg (A := #[Value.int .i64 n] ++ c ++ p) (B := #[]) e
  rw [es] at eq
  rw [show xbV n c p u = (#[.int .i64 n] ++ c ++ p) ++ u ++ #[] by simp [xbV], eq] at k
  simpa [xbV] using k
end
/-- The blocks that the slices are none of: those of the caller, and what the call has made for itself. -/
def GA (G : Nat → Prop) (w : World) (tb : Nat) : Nat → Prop := fun k => G k ∨ (w.heap.size ≤ k ∧ k ≤ tb)
def xb0' : Array Value := xbV 0 (x15V 0 (Ct.newW 0)) (x16V 0 Pc.zeros) uxZ
/-- While the reference does something. -/
structure RoS (G : Nat → Prop) (w : World) (tb : Nat) (W : World) (a : Ak) (Y : Bs.B) (v : Int) (iv ov : Value) : Prop where
  x : CsAt W w.heap.size BxT (xbX Y (xuV Y.u iv ov))
  a : AkAt W (w.heap.size + 1) a
  r : CsAt W (w.heap.size + 2) BxT xb0'
  q : CsAt W (w.heap.size + 3) ANT (anB 0)
  t : CsAt W tb ANT (anB v)
  i : VwG (GA G w tb) W iv Y.u.q
  o : VwG (GA G w tb) W ov Y.u.out
  bel : Below w.heap.size w W
  lo : ∀ k, G k → k < w.heap.size
  tb : w.heap.size + 4 ≤ tb
  okc : Ct.Ok Y.n Y.c
  okp : Pc.Ok Y.n Y.p
  oku : Ut.Ok Y.u
section
variable {G : Nat → Prop} {w W W' : World} {tb : Nat} {a : Ak} {Y : Bs.B} {v : Int} {iv ov iv' ov' : Value}
theorem RoS.low (h : RoS G w tb W a Y v iv ov) (hb : Below W.heap.size W W') : RoS G w tb W' a Y v iv ov :=
  ⟨h.x.low hb, h.a.low hb, h.r.low hb, h.q.low hb, h.t.low hb, h.i.low hb, h.o.low hb, h.bel.trans (hb.mono h.bel.size), h.lo, h.tb, h.okc, h.okp, h.oku⟩
theorem RoS.glt (h : RoS G w tb W a Y v iv ov) : ∀ k, GA G w tb k → k < W.heap.size := fun k hk => by
  have := h.t.lt
  have := h.bel.size
  rcases hk with hk | hk
  · have := h.lo k hk; omega
  · omega
theorem RoS.parts (h : RoS G w tb W a Y v iv ov) : (x15V Y.n Y.c).size = 18 ∧ (x16V Y.n Y.p).size = 657 ∧ (xuV Y.u iv ov).size = 11 := ⟨x15_size _ _ h.okc.len, x16_size' _ _, rfl⟩
/-- A row stored into a block of the call's own, or into a part of one. -/
theorem RoS.chg (h : RoS G w tb W a Y v iv ov) (hc : Chg (fun k => k = w.heap.size) W W') {Z : Bs.B} {jv kv : Value} (hx : CsAt W' w.heap.size BxT (xbX Z (xuV Z.u jv kv))) (hi : VwG (GA G w tb) W jv Z.u.q) (ho : VwG (GA G w tb) W kv Z.u.out) (okc : Ct.Ok Z.n Z.c) (okp : Pc.Ok Z.n Z.p) (oku : Ut.Ok Z.u) : RoS G w tb W' a Z v jv kv := by
  have ht := h.tb
  have hg : ∀ k, k = w.heap.size → GA G w tb k := fun k hk => .inr ⟨by omega, by omega⟩
  exact ⟨hx, ⟨hc.cs h.a.cs (by omega)⟩, hc.cs h.r (by omega), hc.cs h.q (by omega), hc.cs h.t (by omega), hi.keep (hc.mono hg), ho.keep (hc.mono hg),
    h.bel.trans (hc.below h.bel.size (fun k hk => by omega)), h.lo, h.tb, okc, okp, oku⟩
theorem RoS.putC (h : RoS G w tb W a Y v iv ov) {c' : List Int} (ok : Ct.Ok Y.n c') : RoS G w tb (W.setCells w.heap.size 1 (x15V Y.n c').toList) a { Y with c := c' } v iv ov :=
  h.chg (chg_cells (S := fun k => k = w.heap.size) rfl _ _ _) (xb_putc (c' := x15V Y.n c') h.x (by rw [h.parts.1, x15_size _ _ ok.len])) h.i h.o ok h.okp h.oku
theorem RoS.putP (h : RoS G w tb W a Y v iv ov) {p' : List Int} (ok : Pc.Ok Y.n p') : RoS G w tb (W.setCells w.heap.size 19 (x16V Y.n p').toList) a { Y with p := p' } v iv ov :=
  h.chg (chg_cells (S := fun k => k = w.heap.size) rfl _ _ _) (xb_putp (p' := x16V Y.n p') h.parts.1 h.x (by rw [h.parts.2.1, x16_size'])) h.i h.o h.okc ok h.oku
theorem RoS.putU (h : RoS G w tb W a Y v iv ov) {s : Ut.S} {jv kv : Value} (hi : VwG (GA G w tb) W jv s.q) (ho : VwG (GA G w tb) W kv s.out) (ok : Ut.Ok s) : RoS G w tb (W.setCells w.heap.size 676 (xuV s jv kv).toList) a { Y with u := s } v jv kv :=
  h.chg (chg_cells (S := fun k => k = w.heap.size) rfl _ _ _) (xb_putu (u' := xuV s jv kv) h.parts.1 h.parts.2.1 h.x rfl) hi ho h.okc h.okp ok
theorem RoS.tell (h : RoS G w tb W a Y v iv ov) (x : Int) : RoS G w tb (W.setCell ⟨tb, 0, none⟩ (.int .u64 x)) a Y x iv ov := by
  have ht := h.tb
  have hc : Chg (fun i => i = tb) W (W.setCell ⟨tb, 0, none⟩ (.int .u64 x)) := Chg.of_cell (S := fun i => i = tb) (b := tb) rfl 0 _
  have hg : ∀ k, k = tb → GA G w tb k := fun k hk => .inr ⟨by omega, by omega⟩
  refine ⟨hc.cs h.x (by omega), ⟨hc.cs h.a.cs (by omega)⟩, hc.cs h.r (by omega), hc.cs h.q (by omega), ?_, h.i.keep (hc.mono hg), h.o.keep (hc.mono hg), h.bel.trans (hc.below h.bel.size (fun k hk => by omega)), h.lo, h.tb, h.okc, h.okp, h.oku⟩
  unfold CsAt
  rw [heap_setCell_same W tb 0 _ ANT _ h.t, anB_set]
theorem RoS.cell (h : RoS G w tb W a Y v iv ov) : W.cell? ⟨tb, 0, none⟩ = some (.int .u64 v) ∧ W.frozen? ⟨tb, 0, none⟩ = false := ⟨h.t.cell 0, h.t.frozen 0⟩
theorem RoS.thC (h : RoS G w tb W a Y v iv ov) : W.there w.heap.size 1 18 := xs_there h.x 1 18 (by rw [xbX_size h.okc.len rfl]; omega)
theorem RoS.thP (h : RoS G w tb W a Y v iv ov) : W.there w.heap.size 19 657 := xs_there h.x 19 657 (by rw [xbX_size h.okc.len rfl]; omega)
theorem RoS.thU (h : RoS G w tb W a Y v iv ov) : W.there w.heap.size 676 11 := xs_there h.x 676 11 (by rw [xbX_size h.okc.len rfl]; omega)
end
end Go.Proofs.YtfjdalepaacmgaaGreat
set_option maxRecDepth 20000
namespace Go.Proofs.YtfjdalepaacmgaaGreat
open Go.ChangeShapes Go.WideShapes Go.ChangeAt Go.RowKit

/-- Ahead of what is done: the two parameters, the two results. -/
structure RoP (w W : World) (X : Bs.B) (us : Array Value) (a : Ak) : Prop where
  x : CsAt W w.heap.size BxT (xbX X us)
  a : AkAt W (w.heap.size + 1) a
  r : CsAt W (w.heap.size + 2) BxT xb0'
  q : CsAt W (w.heap.size + 3) ANT (anB 0)
  bel : Below w.heap.size w W
theorem RoP.low {w W W' : World} {X : Bs.B} {us : Array Value} {a : Ak} (h : RoP w W X us a) (hb : Below W.heap.size W W') : RoP w W' X us a := ⟨h.x.low hb, h.a.low hb, h.r.low hb, h.q.low hb, h.bel.trans (hb.mono h.bel.size)⟩
theorem RoP.new (w : World) (x : Array Value) (X : Bs.B) (us : Array Value) (hx : x = xbX X us) (a : Ak) : RoP w ((((w.alloc (.cells x BxT)).alloc (.cells a.cells AKT)).alloc (.cells xb0' BxT)).alloc (.cells (anB 0) ANT)) X us a := by
  subst hx
  refine ⟨(((CsAt.new w BxT _).alloc _).alloc _).alloc _, ⟨?_⟩, ?_, ?_, ((((Below.refl _ _).alloc (Nat.le_refl _) _).alloc (by simp) _).alloc (by simp; omega) _).alloc (by simp; omega) _⟩
  · have := ((CsAt.new (w.alloc (.cells (xbX X us) BxT)) AKT a.cells).alloc (.cells xb0' BxT)).alloc (.cells (anB 0) ANT)
    simpa using this
  · have := (CsAt.new ((w.alloc (.cells (xbX X us) BxT)).alloc (.cells a.cells AKT)) BxT xb0').alloc (.cells (anB 0) ANT)
    simpa using this
  · have := CsAt.new (((w.alloc (.cells (xbX X us) BxT)).alloc (.cells a.cells AKT)).alloc (.cells xb0' BxT)) ANT (anB 0)
    simpa using this
theorem RoP.go {G : Nat → Prop} {w W : World} {X : Bs.B} {iv ov : Value} {a : Ak} (h : RoP w W X (xuV X.u iv ov) a) (hG : ∀ k, G k → k < w.heap.size) (hi : VwG G w iv X.u.q) (ho : VwG G w ov X.u.out) (okc : Ct.Ok X.n X.c) (okp : Pc.Ok X.n X.p) (oku : Ut.Ok X.u) :
    RoS G w W.heap.size (W.alloc (.cells (anB 0) ANT)) a X 0 iv ov := by
  have hb : Below W.heap.size W (W.alloc (.cells (anB 0) ANT)) := (Below.refl _ _).alloc (Nat.le_refl _) _
  have hl := h.low hb
  have h4 := h.q.lt
  have hw : ∀ {v xs}, VwG G w v xs → VwG (GA G w W.heap.size) (W.alloc (.cells (anB 0) ANT)) v xs := fun h => (h.more (fun k hk => hk.imp id And.left)).low hl.bel
  exact ⟨hl.x, hl.a, hl.r, hl.q, CsAt.new W ANT (anB 0), hw hi, hw ho, hl.bel, hG, by omega, okc, okp, oku⟩
theorem results_ccb {F : Func} {x y z : Tmp} (t1 t2 : TypeId) (hF : F.results = #[.cell x t1, .cell y t2, .tmp z]) (tmps : Array Value) (w : World) (b c : Nat) (cs ds : Array Value) (r : Value) (h2 : tmps.getD x undef = .pointer (some ⟨b, 0, none⟩)) (h3 : tmps.getD y undef = .pointer (some ⟨c, 0, none⟩)) (h4 : tmps.getD z undef = r)
    (l1 : (loadVar t1 ⟨b, 0, none⟩).run Tryz.prog w = .ok (.agg cs) w) (l2 : (loadVar t2 ⟨c, 0, none⟩).run Tryz.prog w = .ok (.agg ds) w) : (results F tmps).run Tryz.prog w = .ok (.tuple #[.agg cs, .agg ds, r]) w := by
  have h2' : tmps[x]?.getD undef = .pointer (some ⟨b, 0, none⟩) := by simpa using h2
  have h3' : tmps[y]?.getD undef = .pointer (some ⟨c, 0, none⟩) := by simpa using h3
  have h4' : tmps[z]?.getD undef = r := by simpa using h4
  simp [results, hF, h2', h3', h4', asAddr, l1, l2]
theorem iX17V (s : Ut.S) (iv ov : Value) : (Tryz.prog.info? X17).map (·.size) = some (xuV s iv ov).size := info_X17
theorem RoS.info {G : Nat → Prop} {w W : World} {tb : Nat} {a : Ak} {Y : Bs.B} {v : Int} {iv ov : Value} (h : RoS G w tb W a Y v iv ov) : (Tryz.prog.info? BxT).map (·.size) = some (xbX Y (xuV Y.u iv ov)).size := iBx Y.n h.parts.1 h.parts.2.1 h.parts.2.2
theorem RoS.one {G : Nat → Prop} {w W : World} {tb : Nat} {a : Ak} {Y : Bs.B} {v : Int} {iv ov : Value} (h : RoS G w tb W a Y v iv ov) : (xbX Y (xuV Y.u iv ov)).all (·.oneCell') = true := xbV_one Y.n (x15V_one (n := Y.n) (ws := Y.c)) (x16_one (n := Y.n) (ws := Y.p)) (xuV_one Y.u h.i.one h.o.one)
theorem RoS.n0 {G : Nat → Prop} {w W : World} {tb : Nat} {a : Ak} {Y : Bs.B} {v : Int} {iv ov : Value} (h : RoS G w tb W a Y v iv ov) : W.cell? ⟨w.heap.size, 0, none⟩ = some (.int .i64 Y.n) := xb_at0 h.x
/-- Both results are laid. -/
theorem RoS.done {G : Nat → Prop} {w W : World} {tb : Nat} {a : Ak} {Y : Bs.B} {v : Int} {iv ov : Value} (h : RoS G w tb W a Y v iv ov) (x y : Array Value) : XuQ G w ((W.setRow (w.heap.size + 2) x).setRow (w.heap.size + 3) y) Y.u iv ov := by
  have ht := h.tb
  have hc : Chg (fun k => k = w.heap.size + 2 ∨ k = w.heap.size + 3) W ((W.setRow (w.heap.size + 2) x).setRow (w.heap.size + 3) y) :=
    (Chg.of_row (S := fun k => k = w.heap.size + 2 ∨ k = w.heap.size + 3) (b := w.heap.size + 2) (.inl rfl) _).trans (Chg.of_row (S := fun k => k = w.heap.size + 2 ∨ k = w.heap.size + 3) (b := w.heap.size + 3) (.inr rfl) _)
  have hg : ∀ k, (k = w.heap.size + 2 ∨ k = w.heap.size + 3) → GA G w tb k := fun k hk => .inr (by omega)
  exact ⟨(h.i.keep (hc.mono hg)).more (fun k hk => .inl (.inl hk)), (h.o.keep (hc.mono hg)).more (fun k hk => .inl (.inl hk)), h.bel.trans (hc.below h.bel.size (fun k hk => by omega))⟩

end Go.Proofs.YtfjdalepaacmgaaGreat
set_option maxRecDepth 20000
namespace Go.Proofs.YtfjdalepaacmgaaGreat
open Go.ChangeShapes Go.WideShapes Go.ChangeAt Go.RowKit

set_option maxRecDepth 100000 in
set_option maxHeartbeats 32000000 in
theorem rdo18_BtDa (G : Nat → Prop) (X : Bs.B) (h : Int) (a : Ak) (ha : a.In) (hk : a.kind = 9) (hd : Bs.dv X a = 0) (okc : Ct.Ok X.n X.c) (okp : Pc.Ok X.n X.p) (oku : Ut.Ok X.u) (_hn : X.u.out.length < 900) (iv ov : Value) (w : World)
    (hG : ∀ k, G k → k < w.heap.size) (hi : VwG G w iv X.u.q) (ho : VwG G w ov X.u.out) :
    Calls Tryz.prog 8 #[.agg (xbX X (xuV X.u iv ov)), .int .i64 h, .agg a.cells] w fun e w' =>
      ∃ iv' ov', e = .returned (.tuple #[.agg (xbX (Bs.doX X h a) (xuV (Bs.doX X h a).u iv' ov')), .agg (anB (Bs.doV X h a)), .bool (Bs.goB X h a)]) ∧ XuQ G w w' (Bs.doX X h a).u iv' ov' := by
  have g15 := x15_size X.n X.c okc.len
  have IX := Lib.hid (iBx X.n g15 (x16_size' X.n X.p) (show (xuV X.u iv ov).size = 11 from rfl))
  have OX := Lib.hid (xbV_one X.n (x15V_one (n := X.n) (ws := X.c)) (x16_one (n := X.n) (ws := X.p)) (xuV_one X.u hi.one ho.one))
  have ZX := Lib.hid (show (xb0').size = (xbX X (xuV X.u iv ov)).size by rw [xbX_size okc.len rfl]; exact xbV_size 0 (x15_size 0 _ (ctnew_len (by omega))) (x16_size' _ _) rfl)
  have HP := Lib.hid (RoP.new w _ X (xuV X.u iv ov) rfl a)
  have HMB := Lib.hid (fun W => rmayB_c X.n (xbX X (xuV X.u iv ov)) (xbV_0 _ _ _ _) a ha.addr W)
  have HS0 := Lib.hid (fun (W : World) (h : RoP w W X (xuV X.u iv ov) a) => h.go hG hi ho okc okp oku)
  have HBI := Lib.hid hi
  have HBO := Lib.hid ho
  have HIN := Lib.hid ha
  have HOU := Lib.hid oku
  have HOC := Lib.hid okc
  have HOP := Lib.hid okp
  have hzb : ∀ W : World, (zeroValue BxT).run Tryz.prog W = .ok (.agg xb0') W := zero_bx
  have hz := zero_an
  clear g15 hi ho ha oku okc okp hG
  have hm : Bs.mayB X.n a = true := by unfold Bs.mayB Bs.isK; rw [hk]; simpa [Bs.dv] using (show Bs.dv X a < 3 by omega)
  have HG := Lib.hid (show Bs.goB X h a = true by unfold Bs.goB; rw [hm, hk]; rfl)
  rw [show Bs.doV X h a = Bs.told X h a by unfold Bs.doV; rw [HG.out]; rfl, show Bs.doX X h a = Bs.wired (Bs.step X a) by unfold Bs.doX; rw [HG.out]; rfl, HG.out]
  clear HG
  rw [show Bs.told X h a = Ct.readC X.n X.c (Bs.offD a.addr 0) a.size by unfold Bs.told; rw [if_pos hk, hd]; rfl, show Bs.step X a = X by unfold Bs.step; rw [if_pos hk, hd]; rfl]
  go_enter Tryz.func8, Tryz.ntmps8
  go_upto_region 1 with fail
  generalize ((((w.alloc (.cells (xbX X (xuV X.u iv ov)) BxT)).alloc (.cells a.cells AKT)).alloc (.cells xb0' BxT)).alloc (.cells (anB 0) ANT)) = w1 at *
  clear hz hzb
  go_wp2_with (first | (refine wpList_load_row rfl BxT _ rfl w.heap.size rfl BxT _ (0, 0) _ HP.out.x Tryz.underlying53 rfl IX.out ?_) | (refine wpList_load_row rfl AKT _ rfl (w.heap.size + 1) rfl AKT _ (0, 0) _ HP.out.a.cs Tryz.underlying31 rfl info_AK ?_))
  rw [hm] at HMB
  refine (HMB.out _).mono ?_
  rintro e w2 ⟨rfl, hb2⟩
  replace HP := Lib.hid (HP.out.low hb2)
  clear hb2 HMB hm
  have q0 := HP.out.a.kind
  have q0n := xb_at0 HP.out.x
  rw [hk] at q0
  have HWH := Lib.hid (fun W => rwhere_c X.n a.addr a.size HIN.out.addr.1 HIN.out.addr.2 W)
  rw [show (Bs.whN X.n a.addr a.size : Int) = 1 by unfold Bs.whN; rw [show Bs.dev X.n a.addr a.size = 0 from hd]; rfl] at HWH
  have ew : IntKind.u64.wrap (a.addr - 33554432) = Bs.offD a.addr 0 := by have := Bs.off_wrap a.addr 0; simpa [Bs.base] using this
  have HOF := Lib.hid (Bs.offD_rng a.addr 0)
  clear hd
  go_upto_region 3 with fail
  go_upto_region 4 with (first | (refine wpList_allocTo rfl _ rfl (.pointer (some ⟨w2.heap.size, 0, none⟩)) (.cells (anB 0) ANT) (exec_alloc ANT rfl (.agg (anB 0)) (zero_an _)) ?_) | (refine wpList_storeNew (w0 := w2) rfl ANT _ _ rfl (anB 0) (anB 0) ANT (by kernel_rfl) (by kernel_rfl) (iAN _) rfl (anB_one _) ?_))
  have HS := Lib.hid (HS0.out _ HP.out)
  clear HS0 HP IX OX ZX q0 q0n
  generalize w2.alloc (.cells (anB 0) ANT) = w3 at *
  generalize w2.heap.size = tb at *
  have q0 := HS.out.a.kind
  rw [hk] at q0
  have q1 := HS.out.a.addr
  have q4 := HS.out.a.size
  have q6 := HS.out.a.data
  have qn := HS.out.n0
  go_wp2_with fail
  refine (HWH.out _).mono ?_
  rintro e w4 ⟨rfl, rfl⟩
  clear HWH
  obtain ⟨rv, hrv⟩ : ∃ r, Ct.readC X.n X.c (Bs.offD a.addr 0) a.size = r := ⟨_, rfl⟩
  have i15 := Lib.hid (iX15B X.n X.c HOC.out.len)
  go_wp2_with (refine wpList_load_part rfl X15 _ rfl w.heap.size 1 rfl (x15V X.n X.c) _ (xb_rc HS.out.x) Tryz.underlying42 rfl i15.out ?_)
  refine (rread15_c X.n X.c HOC.out (Bs.offD a.addr 0) a.size HOF.out.1 _).mono ?_
  rintro e w5 ⟨rfl, hb5⟩
  rw [hrv]
  have HV := Lib.hid hrv
  clear hrv i15
  replace HS := Lib.hid (HS.out.low hb5)
  clear hb5
  try clear q1
  try clear q4
  try clear q6
  try clear q8
  try clear qn
  try clear ew
  try clear HOF
  obtain ⟨qc, qf⟩ := HS.out.cell
  go_upto_region 36 with fail
  replace HS := Lib.hid (HS.out.tell rv)
  clear qc qf
  generalize w5.setCell ⟨tb, 0, none⟩ (.int .u64 rv) = wz at *
  have HT := HS
  clear HS
  obtain ⟨Y, hY⟩ : ∃ y, (X : Bs.B) = y := ⟨_, rfl⟩
  rw [hY] at HT
  have HZ := Lib.hid (show Bs.wired (X) = { Y with p := Pc.wireW Y.n Y.p 10 (Ut.cause Y.u != 1) } by rw [hY]; rfl)
  clear hY
  have HQ := Lib.hid (fun (W : World) (hS : Below wz.heap.size wz W) => HT.out.low hS)
  have HCA := Lib.hid (fun (W : World) (hS : Below wz.heap.size wz W) => rcause_c (GA G w tb) Y.u iv ov HT.out.oku W (HT.out.low hS).i)
  have HWI := Lib.hid (fun (q : Bool) (W : World) => rwire16_c Y.n Y.p HT.out.okp 10 q W)
  have HWO := Lib.hid (fun (q : Bool) => Pc.wireW_ok HT.out.okp 10 q)
  generalize Ut.cause Y.u = cz at *
  obtain ⟨q, hq⟩ : ∃ q, (cz != 1) = q := ⟨_, rfl⟩
  rw [hq] at HZ
  have HQQ := Lib.hid hq
  clear hq
  replace HWI := Lib.hid (HWI.out q)
  replace HWO := Lib.hid (HWO.out q)
  generalize hpp : Pc.wireW Y.n Y.p 10 q = p' at *
  generalize hwr : Pc.wires Y.n 10 = wr at *
  clear hpp hwr
  go_upto_region 40 with fail
  try simp only [Act.put]
  go_cut [28, 29] (fun s28 s29 wx => ∃ c, s28 = .pointer (some ⟨c, 0, none⟩) ∧ s29 = .bool wr ∧ CsAt wx c X16 (x16V Y.n p') ∧ Below wz.heap.size wz wx)
  case first =>
    have hs0 : Below wz.heap.size wz wz.drew := below_dU (Below.refl _ _) 1
    refine wp_region_noPanic ?_
    refine wp_region_held (S := fun W => Below wz.heap.size wz W) (by kernel_rfl) ?_
    refine takeH (fuel := 12) (i := 0) (.pointer (some ⟨w.heap.size, 19, none⟩)) ?_ rfl (by kernel_rfl) (by kernel_rfl) (by kernel_rfl) (fun _ _ _ h => h) (by kernel_rfl) (fun W hS => by go_simp) hs0 ?_ ?_
    rotate_left 1
    · go_simp
      exact rfl
    refine takeH (fuel := 11) (i := 1) (.agg (x16V Y.n Y.p)) ?_ rfl (by kernel_rfl) (by kernel_rfl) (by kernel_rfl) (fun _ _ _ h => h) (by kernel_rfl) (fun W hS => exec_load_mid X16 _ rfl w.heap.size 19 rfl _ _ (xb_rp (HQ.out _ hS).parts.1 (HQ.out _ hS).x) Tryz.underlying48 rfl iX16) hs0 ?_ ?_
    rotate_left 1
    · go_simp
      exact rfl
    refine takeH (fuel := 10) (i := 2) (.pointer (some ⟨w.heap.size, 676, none⟩)) ?_ rfl (by kernel_rfl) (by kernel_rfl) (by kernel_rfl) (fun _ _ _ h => h) (by kernel_rfl) (fun W hS => by go_simp) hs0 ?_ ?_
    rotate_left 1
    · go_simp
      exact rfl
    refine takeH (fuel := 9) (i := 3) (.agg (xuV Y.u iv ov)) ?_ rfl (by kernel_rfl) (by kernel_rfl) (by kernel_rfl) (fun _ _ _ h => h) (by kernel_rfl) (fun W hS => exec_load_mid X17 _ rfl w.heap.size 676 rfl _ _ (xb_ru (HQ.out _ hS).parts.1 (HQ.out _ hS).parts.2.1 (HQ.out _ hS).x) Tryz.underlying51 rfl (iX17V _ _ _)) hs0 ?_ ?_
    rotate_left 1
    · go_simp
      exact rfl
    refine wpAnyH_all (fuel := 8) (rs := [4, 10]) (by kernel_rfl) (by decide) ?_
    intro i hi
    simp only [List.mem_cons, List.not_mem_nil, or_false] at hi
    rcases hi with rfl | rfl
    · refine wpOp_callX 42 #[.agg (xuV Y.u iv ov)] rfl (by kernel_rfl) (by go_simp) ?_
      refine (HCA.out _ hs0).mono ?_
      rintro e w4 ⟨rfl, hb⟩
      have hs4 : Below wz.heap.size wz w4 := hs0.trans (hb.mono hs0.size)
      refine ⟨_, rfl, hs4, ?_⟩
      refine takeH (fuel := 7) (i := 5) (.bool q) ?_ rfl (by kernel_rfl) (by kernel_rfl) (by kernel_rfl) (fun _ _ _ h => h) (by kernel_rfl) (fun W hS => by (have qq := HQQ.out; go_simp)) hs4 ?_ ?_
      rotate_left 1
      · go_simp
        exact rfl
      refine wpAnyH_all (fuel := 6) (rs := [6, 10]) (by kernel_rfl) (by decide) ?_
      intro i hi
      simp only [List.mem_cons, List.not_mem_nil, or_false] at hi
      rcases hi with rfl | rfl
      · refine wpOp_callX 41 #[.agg (x16V Y.n Y.p), .int .i64 10, .bool q] rfl (by kernel_rfl) (by go_simp) ?_
        refine (HWI.out _).mono ?_
        rintro e w5 ⟨rfl, hb⟩
        have hs5 : Below wz.heap.size wz w5 := hs4.trans (hb.mono hs4.size)
        refine ⟨_, rfl, hs5, ?_⟩
        refine takeH (fuel := 5) (i := 7) (.tuple #[.agg (x16V Y.n p'), .bool wr]) ?_ rfl (by kernel_rfl) (by kernel_rfl) (by kernel_rfl) (fun _ _ _ h => h) (by kernel_rfl) (fun W hS => by go_simp) hs5 ?_ ?_
        rotate_left 1
        · go_simp
          exact rfl
        refine takeH (fuel := 4) (i := 8) (.agg (x16V Y.n p')) ?_ rfl (by kernel_rfl) (by kernel_rfl) (by kernel_rfl) (fun _ _ _ h => h) (by kernel_rfl) (fun W hS => by go_simp) hs5 ?_ ?_
        rotate_left 1
        · go_simp
          exact rfl
        refine takeH (fuel := 3) (i := 9) (.bool wr) ?_ rfl (by kernel_rfl) (by kernel_rfl) (by kernel_rfl) (fun _ _ _ h => h) (by kernel_rfl) (fun W hS => by go_simp) hs5 ?_ ?_
        rotate_left 1
        · go_simp
          exact rfl
        refine wpAnyH_all (fuel := 2) (rs := [10]) (by kernel_rfl) (by decide) ?_
        intro i hi
        obtain rfl : i = 10 := by simpa using hi
        have hba : Below w5.heap.size w5 (w5.alloc (.cells (x16V 0 Pc.zeros) X16)) := (Below.refl _ _).alloc (Nat.le_refl _) _
        refine wpOp_valB (.pointer (some ⟨w5.heap.size, 0, none⟩)) (w5.alloc (.cells (x16V 0 Pc.zeros) X16)) _ rfl (by kernel_rfl) (exec_alloc X16 rfl _ (zero_x16 _)) rfl ?_
        have hs6 : Below wz.heap.size wz (w5.alloc (.cells (x16V 0 Pc.zeros) X16)) := hs5.trans (hba.mono hs5.size)
        have hcN : CsAt (w5.alloc (.cells (x16V 0 Pc.zeros) X16)) w5.heap.size X16 (x16V 0 Pc.zeros) := CsAt.new _ _ _
        have hle : wz.heap.size ≤ w5.heap.size := hs5.size
        refine ⟨hs6, ?_⟩
        refine wpAnyH_all (fuel := 1) (rs := [11]) (by kernel_rfl) (by decide) ?_
        intro i hi
        obtain rfl : i = 11 := by simpa using hi
        refine wpOp_unitB ((w5.alloc (.cells (x16V 0 Pc.zeros) X16)).setRow w5.heap.size (x16V Y.n p')) _ rfl (by kernel_rfl) (exec_store_row X16 _ _ rfl w5.heap.size (x16V Y.n p') rfl rfl X16 _ hcN iX16 (by rw [x16_size', x16_size']) x16_one) rfl ?_
        have hsf : Below wz.heap.size wz ((w5.alloc (.cells (x16V 0 Pc.zeros) X16)).setRow w5.heap.size (x16V Y.n p')) := below_setRow hs6 hle _
        refine ⟨hsf, ?_⟩
        refine takeH (fuel := 0) (i := 12) (.bool wr) ?_ rfl (by kernel_rfl) (by kernel_rfl) (by kernel_rfl) (fun _ _ _ h => h) (by kernel_rfl) (fun W hS => by go_simp) hsf ?_ ?_
        rotate_left 1
        · go_simp
          exact rfl
        refine wpAnyH_done (by kernel_rfl) ?_ _
        refine NoPanic.normal ?_
        have hfin := hcN.row (x16V Y.n p')
        have HFIN := Lib.hid hfin
        have HSF := Lib.hid hsf
        clear hfin hsf hcN hle hba hb hs0
        go_wp2_with fail
        go_meet
        exact ⟨_, rfl, rfl, HFIN.out, HSF.out⟩
      · have hba : Below w4.heap.size w4 (w4.alloc (.cells (x16V 0 Pc.zeros) X16)) := (Below.refl _ _).alloc (Nat.le_refl _) _
        refine wpOp_valB (.pointer (some ⟨w4.heap.size, 0, none⟩)) (w4.alloc (.cells (x16V 0 Pc.zeros) X16)) _ rfl (by kernel_rfl) (exec_alloc X16 rfl _ (zero_x16 _)) rfl ?_
        have hs5 : Below wz.heap.size wz (w4.alloc (.cells (x16V 0 Pc.zeros) X16)) := hs4.trans (hba.mono hs4.size)
        have hcN : CsAt (w4.alloc (.cells (x16V 0 Pc.zeros) X16)) w4.heap.size X16 (x16V 0 Pc.zeros) := CsAt.new _ _ _
        have hle : wz.heap.size ≤ w4.heap.size := hs4.size
        refine ⟨hs5, ?_⟩
        refine wpAnyH_all (fuel := 5) (rs := [6]) (by kernel_rfl) (by decide) ?_
        intro i hi
        obtain rfl : i = 6 := by simpa using hi
        refine wpOp_callX 41 #[.agg (x16V Y.n Y.p), .int .i64 10, .bool q] rfl (by kernel_rfl) (by go_simp) ?_
        refine (HWI.out _).mono ?_
        rintro e w6 ⟨rfl, hb⟩
        have hs6 : Below wz.heap.size wz w6 := hs5.trans (hb.mono hs5.size)
        have hcN := hcN.low hb
        refine ⟨_, rfl, hs6, ?_⟩
        refine takeH (fuel := 4) (i := 7) (.tuple #[.agg (x16V Y.n p'), .bool wr]) ?_ rfl (by kernel_rfl) (by kernel_rfl) (by kernel_rfl) (fun _ _ _ h => h) (by kernel_rfl) (fun W hS => by go_simp) hs6 ?_ ?_
        rotate_left 1
        · go_simp
          exact rfl
        refine takeH (fuel := 3) (i := 8) (.agg (x16V Y.n p')) ?_ rfl (by kernel_rfl) (by kernel_rfl) (by kernel_rfl) (fun _ _ _ h => h) (by kernel_rfl) (fun W hS => by go_simp) hs6 ?_ ?_
        rotate_left 1
        · go_simp
          exact rfl
        refine takeH (fuel := 2) (i := 9) (.bool wr) ?_ rfl (by kernel_rfl) (by kernel_rfl) (by kernel_rfl) (fun _ _ _ h => h) (by kernel_rfl) (fun W hS => by go_simp) hs6 ?_ ?_
        rotate_left 1
        · go_simp
          exact rfl
        refine wpAnyH_all (fuel := 1) (rs := [11]) (by kernel_rfl) (by decide) ?_
        intro i hi
        obtain rfl : i = 11 := by simpa using hi
        refine wpOp_unitB (w6.setRow w4.heap.size (x16V Y.n p')) _ rfl (by kernel_rfl) (exec_store_row X16 _ _ rfl w4.heap.size (x16V Y.n p') rfl rfl X16 _ hcN iX16 (by rw [x16_size', x16_size']) x16_one) rfl ?_
        have hsf : Below wz.heap.size wz (w6.setRow w4.heap.size (x16V Y.n p')) := below_setRow hs6 hle _
        refine ⟨hsf, ?_⟩
        refine takeH (fuel := 0) (i := 12) (.bool wr) ?_ rfl (by kernel_rfl) (by kernel_rfl) (by kernel_rfl) (fun _ _ _ h => h) (by kernel_rfl) (fun W hS => by go_simp) hsf ?_ ?_
        rotate_left 1
        · go_simp
          exact rfl
        refine wpAnyH_done (by kernel_rfl) ?_ _
        refine NoPanic.normal ?_
        have hfin := hcN.row (x16V Y.n p')
        have HFIN := Lib.hid hfin
        have HSF := Lib.hid hsf
        clear hfin hsf hcN hle hba hb hs0
        go_wp2_with fail
        go_meet
        exact ⟨_, rfl, rfl, HFIN.out, HSF.out⟩
    · have hba : Below wz.drew.heap.size wz.drew (wz.drew.alloc (.cells (x16V 0 Pc.zeros) X16)) := (Below.refl _ _).alloc (Nat.le_refl _) _
      refine wpOp_valB (.pointer (some ⟨wz.drew.heap.size, 0, none⟩)) (wz.drew.alloc (.cells (x16V 0 Pc.zeros) X16)) _ rfl (by kernel_rfl) (exec_alloc X16 rfl _ (zero_x16 _)) rfl ?_
      have hs4 : Below wz.heap.size wz (wz.drew.alloc (.cells (x16V 0 Pc.zeros) X16)) := hs0.trans (hba.mono hs0.size)
      have hcN : CsAt (wz.drew.alloc (.cells (x16V 0 Pc.zeros) X16)) wz.drew.heap.size X16 (x16V 0 Pc.zeros) := CsAt.new _ _ _
      have hle : wz.heap.size ≤ wz.drew.heap.size := hs0.size
      refine ⟨hs4, ?_⟩
      refine wpAnyH_all (fuel := 7) (rs := [4]) (by kernel_rfl) (by decide) ?_
      intro i hi
      obtain rfl : i = 4 := by simpa using hi
      refine wpOp_callX 42 #[.agg (xuV Y.u iv ov)] rfl (by kernel_rfl) (by go_simp) ?_
      refine (HCA.out _ hs4).mono ?_
      rintro e w5 ⟨rfl, hb⟩
      have hs5 : Below wz.heap.size wz w5 := hs4.trans (hb.mono hs4.size)
      have hcN := hcN.low hb
      refine ⟨_, rfl, hs5, ?_⟩
      refine takeH (fuel := 6) (i := 5) (.bool q) ?_ rfl (by kernel_rfl) (by kernel_rfl) (by kernel_rfl) (fun _ _ _ h => h) (by kernel_rfl) (fun W hS => by (have qq := HQQ.out; go_simp)) hs5 ?_ ?_
      rotate_left 1
      · go_simp
        exact rfl
      refine wpAnyH_all (fuel := 5) (rs := [6]) (by kernel_rfl) (by decide) ?_
      intro i hi
      obtain rfl : i = 6 := by simpa using hi
      refine wpOp_callX 41 #[.agg (x16V Y.n Y.p), .int .i64 10, .bool q] rfl (by kernel_rfl) (by go_simp) ?_
      refine (HWI.out _).mono ?_
      rintro e w6 ⟨rfl, hb⟩
      have hs6 : Below wz.heap.size wz w6 := hs5.trans (hb.mono hs5.size)
      have hcN := hcN.low hb
      refine ⟨_, rfl, hs6, ?_⟩
      refine takeH (fuel := 4) (i := 7) (.tuple #[.agg (x16V Y.n p'), .bool wr]) ?_ rfl (by kernel_rfl) (by kernel_rfl) (by kernel_rfl) (fun _ _ _ h => h) (by kernel_rfl) (fun W hS => by go_simp) hs6 ?_ ?_
      rotate_left 1
      · go_simp
        exact rfl
      refine takeH (fuel := 3) (i := 8) (.agg (x16V Y.n p')) ?_ rfl (by kernel_rfl) (by kernel_rfl) (by kernel_rfl) (fun _ _ _ h => h) (by kernel_rfl) (fun W hS => by go_simp) hs6 ?_ ?_
      rotate_left 1
      · go_simp
        exact rfl
      refine takeH (fuel := 2) (i := 9) (.bool wr) ?_ rfl (by kernel_rfl) (by kernel_rfl) (by kernel_rfl) (fun _ _ _ h => h) (by kernel_rfl) (fun W hS => by go_simp) hs6 ?_ ?_
      rotate_left 1
      · go_simp
        exact rfl
      refine wpAnyH_all (fuel := 1) (rs := [11]) (by kernel_rfl) (by decide) ?_
      intro i hi
      obtain rfl : i = 11 := by simpa using hi
      refine wpOp_unitB (w6.setRow wz.drew.heap.size (x16V Y.n p')) _ rfl (by kernel_rfl) (exec_store_row X16 _ _ rfl wz.drew.heap.size (x16V Y.n p') rfl rfl X16 _ hcN iX16 (by rw [x16_size', x16_size']) x16_one) rfl ?_
      have hsf : Below wz.heap.size wz (w6.setRow wz.drew.heap.size (x16V Y.n p')) := below_setRow hs6 hle _
      refine ⟨hsf, ?_⟩
      refine takeH (fuel := 0) (i := 12) (.bool wr) ?_ rfl (by kernel_rfl) (by kernel_rfl) (by kernel_rfl) (fun _ _ _ h => h) (by kernel_rfl) (fun W hS => by go_simp) hsf ?_ ?_
      rotate_left 1
      · go_simp
        exact rfl
      refine wpAnyH_done (by kernel_rfl) ?_ _
      refine NoPanic.normal ?_
      have hfin := hcN.row (x16V Y.n p')
      have HFIN := Lib.hid hfin
      have HSF := Lib.hid hsf
      clear hfin hsf hcN hle hba hb hs0
      go_wp2_with fail
      go_meet
      exact ⟨_, rfl, rfl, HFIN.out, HSF.out⟩
  case rest =>
    obtain ⟨c, rfl, rfl, hC, hB⟩ := hcut
    have HC := Lib.hid hC
    replace HT := Lib.hid (HT.out.low hB)
    clear hC hB HQ HCA HWI
    have HTH := Lib.hid (show wc.there w.heap.size 19 (x16V Y.n p').size from by rw [x16_size']; exact HT.out.thP)
    go_upto_region 42 with (first
      | (refine wpList_load_row rfl X16 _ rfl c rfl X16 (x16V Y.n p') (0, 0) _ HC.out Tryz.underlying48 rfl iX16 ?_)
      | (refine wpList_store_mid rfl X16 _ _ rfl w.heap.size 19 (x16V Y.n p') rfl rfl HTH.out iX16 x16_one ?_))
    replace HT := Lib.hid (HT.out.putP HWO.out)
    clear HC HTH HWO
    generalize wc.setCells w.heap.size 19 (x16V Y.n p').toList = w7 at *
    generalize hZZ : ({ Y with p := p' } : Bs.B) = Z at *
    clear hZZ
    replace HT := Lib.hid (HT.out.low (below_dU (Below.refl _ _) 1 : Below w7.heap.size w7 w7.drew))
    have hs0 : CsAt w7.drew w.heap.size BxT (xbX Z (xuV Z.u iv ov)) ∧ CsAt w7.drew tb ANT (anB rv) := ⟨HT.out.x, HT.out.t⟩
    have IZ := Lib.hid HT.out.info
    have OZ := Lib.hid HT.out.one
    have htb := HT.out.tb
    have ZZ := Lib.hid (show (xb0').size = (xbX Z (xuV Z.u iv ov)).size by rw [xbX_size HT.out.okc.len rfl]; exact xbV_size 0 (x15_size 0 _ (ctnew_len (by omega))) (x16_size' _ _) rfl)
    refine wp_region_noPanic ?_
    refine wp_region_held (S := fun W => CsAt W w.heap.size BxT (xbX Z (xuV Z.u iv ov)) ∧ CsAt W tb ANT (anB rv)) (by kernel_rfl) ?_
    refine takeH (fuel := 4) (i := 0) (.agg (xbX Z (xuV Z.u iv ov))) ?_ rfl (by kernel_rfl) (by kernel_rfl) (by kernel_rfl) (fun _ _ _ h => h) (by kernel_rfl) (fun W hS => exec_load_row BxT _ rfl w.heap.size rfl BxT _ _ hS.1 Tryz.underlying53 rfl IZ.out) hs0 ?_ ?_
    rotate_left 1
    · go_simp
      exact rfl
    refine takeH (fuel := 3) (i := 1) (.agg (anB rv)) ?_ rfl (by kernel_rfl) (by kernel_rfl) (by kernel_rfl) (fun _ _ _ h => h) (by kernel_rfl) (fun W hS => exec_load_row ANT _ rfl tb rfl ANT _ _ hS.2 Tryz.underlying57 rfl (iAN _)) hs0 ?_ ?_
    rotate_left 1
    · go_simp
      exact rfl
    refine wpAnyH_all (fuel := 2) (rs := [2]) (by kernel_rfl) (by decide) ?_
    intro i hi
    obtain rfl : i = 2 := by simpa using hi
    refine wpOp_unitB (w7.drew.setRow (w.heap.size + 2) (xbX Z (xuV Z.u iv ov))) _ rfl (by kernel_rfl) (exec_store_row BxT _ _ rfl (w.heap.size + 2) (xbX Z (xuV Z.u iv ov)) rfl rfl BxT _ HT.out.r IZ.out ZZ.out OZ.out) rfl ?_
    have hs1 : CsAt (w7.drew.setRow (w.heap.size + 2) (xbX Z (xuV Z.u iv ov))) w.heap.size BxT (xbX Z (xuV Z.u iv ov)) ∧ CsAt (w7.drew.setRow (w.heap.size + 2) (xbX Z (xuV Z.u iv ov))) tb ANT (anB rv) := ⟨hs0.1.rowFar (by omega) _, hs0.2.rowFar (by omega) _⟩
    refine ⟨hs1, ?_⟩
    refine wpAnyH_all (fuel := 1) (rs := [3]) (by kernel_rfl) (by decide) ?_
    intro i hi
    obtain rfl : i = 3 := by simpa using hi
    refine wpOp_unitB ((w7.drew.setRow (w.heap.size + 2) (xbX Z (xuV Z.u iv ov))).setRow (w.heap.size + 3) (anB rv)) _ rfl (by kernel_rfl) (exec_store_row ANT _ _ rfl (w.heap.size + 3) (anB rv) rfl rfl ANT _ (HT.out.q.rowFar (by omega) _) (iAN _) rfl (anB_one _)) rfl ?_
    have hs2 : CsAt ((w7.drew.setRow (w.heap.size + 2) (xbX Z (xuV Z.u iv ov))).setRow (w.heap.size + 3) (anB rv)) w.heap.size BxT (xbX Z (xuV Z.u iv ov)) ∧ CsAt ((w7.drew.setRow (w.heap.size + 2) (xbX Z (xuV Z.u iv ov))).setRow (w.heap.size + 3) (anB rv)) tb ANT (anB rv) := ⟨hs1.1.rowFar (by omega) _, hs1.2.rowFar (by omega) _⟩
    refine ⟨hs2, ?_⟩
    refine takeH (fuel := 0) (i := 4) (.bool true) ?_ rfl (by kernel_rfl) (by kernel_rfl) (by kernel_rfl) (fun _ _ _ h => h) (by kernel_rfl) (fun W hS => by go_simp) hs2 ?_ ?_
    rotate_left 1
    · go_simp
      exact rfl
    refine wpAnyH_done (by kernel_rfl) ?_ _
    refine NoPanic.normal ?_
    clear hs0 hs1 hs2
    go_wp2_with fail
    exact bodyPost_ret (results_ccb BxT ANT Tryz.results8 _ _ (w.heap.size + 2) (w.heap.size + 3) _ _ _ rfl rfl rfl (run_loadVar_row _ _ BxT BxT _ (0, 0) _ ((HT.out.r.row _).rowFar (by omega) _) Tryz.underlying53 rfl IZ.out) (run_loadVar_row _ _ ANT ANT _ (0, 0) _ ((HT.out.q.rowFar (by omega) _).row (anB rv)) Tryz.underlying57 rfl (iAN rv))) rfl
      ⟨iv, ov, by rw [HZ.out]; rw [HV.out]; rfl, by rw [HZ.out]; exact HT.out.done _ _⟩
end Go.Proofs.YtfjdalepaacmgaaGreat
