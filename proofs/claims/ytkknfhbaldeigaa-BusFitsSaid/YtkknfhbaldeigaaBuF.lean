/-
  Contract of bus.Do.
-/
import Derived.Test.YtkknfhbaldeigaaBuE
set_option maxRecDepth 20000
namespace Go.Proofs.Ytkknfhbaldeigaa
open Go.ChangeShapes Go.WideShapes Go.ChangeAt Go.RowKit

/-- An answer of a number alone. -/
def anB (v : Int) : Array Value := #[.int .u64 v, .bool false, .bool false, .bool false, .bool false, .int .u64 0, .int .i64 0, .bool false, .bool false, .bool false, .int .u64 0, .int .i64 0, .bool false, .bool false, .bool false, .int .u64 0, .int .i64 0, .bool false, .bool false, .bool false, .int .u64 0, .int .i64 0, .bool false, .bool false, .bool false, .int .u64 0, .int .i64 0, .bool false, .bool false, .bool false, .int .u64 0, .int .i64 0, .bool false, .bool false, .bool false, .int .u64 0, .int .i64 0, .bool false, .bool false, .bool false, .int .u64 0, .int .i64 0]
theorem info_AN : (Try.prog.info? ANT).map (·.size) = some 42 := by kernel_rfl
theorem iAN (v : Int) : (Try.prog.info? ANT).map (·.size) = some (anB v).size := info_AN
theorem anB_one (v : Int) : (anB v).all (·.oneCell') = true := by
  rw [Array.all_eq_true_iff_forall_mem]
  intro x hx
  simp only [anB, List.mem_toArray, List.mem_cons, List.not_mem_nil, or_false] at hx
  rcases hx with rfl | hx
  · rfl
  · repeat (first | (subst hx; rfl) | (rcases hx with rfl | hx; · rfl))
theorem anB_set (v x : Int) : (anB v).setIfInBounds 0 (.int .u64 x) = anB x := rfl
theorem zero_an (W : World) : (zeroValue ANT).run Try.prog W = .ok (.agg (anB 0)) W := by kernel_rfl
namespace Bs
def goB (X : B) (h : Int) (a : Ak) : Bool := mayB X.n a && !(a.kind == 11 && !hasB X.n h)
def dv (X : B) (a : Ak) : Nat := dev X.n a.addr a.size
def told (X : B) (h : Int) (a : Ak) : Int := if a.kind = 9 then readB X (dv X a) (offD a.addr (dv X a)) a.size else if a.kind = 11 then lineB X h else 0
def step (X : B) (a : Ak) : B :=
  if a.kind = 9 then readX X (dv X a) (offD a.addr (dv X a)) a.size
  else if a.kind = 10 then writeX X (dv X a) (offD a.addr (dv X a)) a.size a.data
  else if a.kind = 18 then { X with c := Ct.tickC X.n X.c (wrap64 a.data) }
  else if a.kind = 19 then { X with u := Ut.inS X.u (a.data % 256) }
  else if a.kind = 20 then (if a.size = 10 then X else { X with p := Pc.wireW X.n X.p a.size a.live })
  else X
def wired (X : B) : B := { X with p := Pc.wireW X.n X.p 10 (Ut.cause X.u != 1) }
def doX (X : B) (h : Int) (a : Ak) : B := if goB X h a = true then wired (step X a) else X
def doV (X : B) (h : Int) (a : Ak) : Int := if goB X h a = true then told X h a else 0
end Bs
/-- While something is done: the blocks rb and tb hold answers, the ask lies in its box. -/
structure DoS (F : Nat → Prop) (w w2 W : World) (b rb tb : Nat) (a : Ak) (Y : Bs.B) (v : Int) : Prop where
  ex : ∃ G, Bu G W b Y ∧ ∀ k, G k → F k ∨ w2.heap.size ≤ k
  chg : Chg (fun k => F k ∨ k = b) w W
  ak : AkAt W w.heap.size a
  r : CsAt W rb ANT (anB 0)
  t : CsAt W tb ANT (anB v)
  le : w2.heap.size ≤ W.heap.size
/-- What holds of the blocks all the while. -/
structure DoK (F : Nat → Prop) (w w2 : World) (b rb tb : Nat) : Prop where
  lo : ∀ k, F k → k < w.heap.size
  b : b < w.heap.size
  r : w.heap.size < rb ∧ rb < w2.heap.size
  t : rb < tb ∧ tb < w2.heap.size
section
variable {F : Nat → Prop} {w w2 W W' : World} {b rb tb : Nat} {a : Ak} {X Y : Bs.B} {v : Int}
theorem DoS.far {t : TypeId} {cs : Array Value} {c : Nat} (k : DoK F w w2 b rb tb) (hc : CsAt W c t cs) (h1 : w.heap.size ≤ c) (h2 : c < w2.heap.size) {G : Nat → Prop} (hG : ∀ k, G k → F k ∨ w2.heap.size ≤ k) (q : Chg (fun k => G k ∨ k = b) W W') : CsAt W' c t cs :=
  q.cs hc (fun hk => by
    have := k.lo
    have := k.b
    rcases hk with hk | hk
    · rcases hG _ hk with hk | hk
      · have := k.lo _ hk; omega
      · omega
    · omega)
theorem DoS.by_ {G : Nat → Prop} (h : DoS F w w2 W b rb tb a X v) (k : DoK F w w2 b rb tb) (h2 : ∀ k, G k → F k ∨ w2.heap.size ≤ k) (Q : BuQ G W W' b Y) : DoS F w w2 W' b rb tb a Y v := by
  obtain ⟨⟨J, k1, k2⟩, k3⟩ := Q
  refine ⟨⟨J, k1, fun i hi => ?_⟩, h.chg.transN k3 (fun i hi => ?_), ⟨DoS.far k h.ak.cs (Nat.le_refl _) (by have := k.r; omega) h2 k3⟩, DoS.far k h.r (by have := k.r; omega) k.r.2 h2 k3, DoS.far k h.t (by have := k.r; have := k.t; omega) k.t.2 h2 k3, Nat.le_trans h.le k3.size⟩
  · rcases k2 i hi with hi | hi
    · exact h2 i hi
    · exact .inr (Nat.le_trans h.le hi)
  · rcases hi with hi | hi
    · rcases h2 i hi with hi | hi
      · exact .inl (.inl hi)
      · exact .inr (by have := k.r; omega)
    · exact .inl (.inr hi)
theorem DoS.n1 (h : DoS F w w2 W b rb tb a X v) : W.cell? ⟨b, 1, none⟩ = some (.int .i64 X.n) := by
  obtain ⟨G, h1, -⟩ := h.ex
  exact h1.n1
theorem DoS.cell (h : DoS F w w2 W b rb tb a X v) : W.cell? ⟨tb, 0, none⟩ = some (.int .u64 v) ∧ W.frozen? ⟨tb, 0, none⟩ = false := ⟨h.t.cell 0, h.t.frozen 0⟩
theorem DoS.low (h : DoS F w w2 W b rb tb a X v) (k : DoK F w w2 b rb tb) (hb : Below W.heap.size W W') : DoS F w w2 W' b rb tb a X v := by
  obtain ⟨G, h1, h2⟩ := h.ex
  exact h.by_ k h2 (h1.keepQ hb)
/-- A number stored into the answer that is told. -/
theorem DoS.tell (h : DoS F w w2 W b rb tb a X v) (k : DoK F w w2 b rb tb) (x : Int) : DoS F w w2 (W.setCell ⟨tb, 0, none⟩ (.int .u64 x)) b rb tb a X x := by
  obtain ⟨G, h1, h2⟩ := h.ex
  have kr := k.r
  have kt := k.t
  have kb := k.b
  have hc : Chg (fun i => i = tb) W (W.setCell ⟨tb, 0, none⟩ (.int .u64 x)) := Chg.of_cell (S := fun i => i = tb) (b := tb) rfl 0 _
  obtain ⟨g, g1, g2⟩ := h1.ex
  refine ⟨⟨G, ⟨⟨g, hc.cs g1 (by omega), g2.keep hc (fun i hi e => ?_)⟩, h1.nb, h1.okc, h1.okp⟩, h2⟩, h.chg.transN hc (fun i hi => .inr (by omega)), ⟨hc.cs h.ak.cs (by omega)⟩, hc.cs h.r (by omega), ?_, by simpa using h.le⟩
  · rcases h2 i hi with hi | hi
    · have := k.lo _ hi; omega
    · omega
  · unfold CsAt
    rw [heap_setCell_same W tb 0 _ ANT _ h.t, anB_set]
/-- The answer stored. -/
theorem DoS.done (h : DoS F w w2 W b rb tb a X v) (k : DoK F w w2 b rb tb) (cs : Array Value) : BuQ F w (W.setRow rb cs) b X := by
  obtain ⟨G, h1, h2⟩ := h.ex
  have kr := k.r
  have kb := k.b
  have hc : Chg (fun i => i = rb) W (W.setRow rb cs) := Chg.of_row (S := fun i => i = rb) (b := rb) rfl _
  obtain ⟨g, g1, g2⟩ := h1.ex
  refine ⟨⟨G, ⟨⟨g, hc.cs g1 (by omega), g2.keep hc (fun i hi e => ?_)⟩, h1.nb, h1.okc, h1.okp⟩, fun i hi => (h2 i hi).imp id (fun h => by omega)⟩, h.chg.transN hc (fun i hi => .inr (by omega))⟩
  rcases h2 i hi with hi | hi
  · have := k.lo _ hi; omega
  · omega
end
end Go.Proofs.Ytkknfhbaldeigaa
