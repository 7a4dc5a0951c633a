/-
  A port in memory; contracts of uart's latched, looped, why, receive, take, tellCause, tellLine.
-/
import Derived.Test.YtkknfhbaldeigaaUtA
import Derived.Test.YtkknfhbaldeigaaUtB
import Derived.Deep.MidRow
set_option maxRecDepth 20000
namespace Go.Proofs.Ytkknfhbaldeigaa
open Go.ChangeShapes Go.WideShapes Go.ChangeAt Go.RowKit

abbrev PoT : TypeId := 133
abbrev StT : TypeId := 131
abbrev U8 : TypeId := 5
abbrev U8S : TypeId := 40
def stV (s : Ut.S) : Array Value := #[.int .u8 s.ier, .int .u8 s.lcr, .int .u8 s.mcr, .int .u8 s.scr, .int .u8 s.dll, .int .u8 s.dlm, .bool s.fifo, .bool s.lost, .bool s.empty]
def ptV (s : Ut.S) (qv sv : Value) : Array Value := #[.int .u8 s.ier, .int .u8 s.lcr, .int .u8 s.mcr, .int .u8 s.scr, .int .u8 s.dll, .int .u8 s.dlm, .bool s.fifo, .bool s.lost, .bool s.empty, qv, sv]
theorem info_PoT : (Try.prog.info? PoT).map (·.size) = some 11 := by kernel_rfl
theorem info_StT : (Try.prog.info? StT).map (·.size) = some 9 := by kernel_rfl
/-- A port in a block; which blocks are its own: F. -/
structure PtS (F : Nat → Prop) (w : World) (b : Nat) (s : Ut.S) (qv sv : Value) : Prop where
  row : CsAt w b PoT (ptV s qv sv)
  q : w.ownsRow 0 U8 1 qv s.q.length (u8V s.q)
  o : w.ownsRow 0 U8 1 sv s.out.length (u8V s.out)
  fb : F b
  fq : ∀ k, qv.ownBlock = some k → F k ∧ k ≠ b
  fo : ∀ k, sv.ownBlock = some k → F k ∧ k ≠ b
  qo : ∀ k, qv.ownBlock = some k → sv.ownBlock ≠ some k
  lt : ∀ k, F k → k < w.heap.size
  ok : Ut.Ok s
def Pt (F : Nat → Prop) (w : World) (b : Nat) (s : Ut.S) : Prop := ∃ qv sv, PtS F w b s qv sv
/-- What is a port's when it has made something. -/
def Nw (F : Nat → Prop) (w w' : World) : Nat → Prop := fun k => F k ∨ (w.heap.size ≤ k ∧ k < w'.heap.size)
section
variable {F G : Nat → Prop} {w w' w1 : World} {b : Nat} {s t : Ut.S} {qv sv : Value}
theorem PtS.mono (h : PtS F w b s qv sv) (hG : ∀ k, F k → G k) (hl : ∀ k, G k → k < w.heap.size) : PtS G w b s qv sv :=
  ⟨h.row, h.q, h.o, hG b h.fb, fun k hk => ⟨hG k (h.fq k hk).1, (h.fq k hk).2⟩, fun k hk => ⟨hG k (h.fo k hk).1, (h.fo k hk).2⟩, h.qo, hl, h.ok⟩
/-- Nothing of its own changed. -/
theorem PtS.keep (h : PtS F w b s qv sv) (hc : Chg G w w') (hG : ∀ k, F k → ¬ G k) : PtS F w' b s qv sv :=
  ⟨hc.cs h.row (hG b h.fb), hc.own h.q (fun k hk => hG k (h.fq k hk).1), hc.own h.o (fun k hk => hG k (h.fo k hk).1), h.fb, h.fq, h.fo, h.qo, fun k hk => Nat.lt_of_lt_of_le (h.lt k hk) hc.size, h.ok⟩
theorem PtS.low (h : PtS F w b s qv sv) (hb : Below w.heap.size w w') : PtS F w' b s qv sv := h.keep (G := fun _ => False) (Chg.of_below hb) (fun _ _ h => h)
theorem Pt.keep (h : Pt F w b s) (hc : Chg G w w') (hG : ∀ k, F k → ¬ G k) : Pt F w' b s := by
  obtain ⟨qv, sv, h⟩ := h
  exact ⟨qv, sv, h.keep hc hG⟩
theorem Pt.low (h : Pt F w b s) (hb : Below w.heap.size w w') : Pt F w' b s := by
  obtain ⟨qv, sv, h⟩ := h
  exact ⟨qv, sv, h.low hb⟩
theorem Pt.mono (h : Pt F w b s) (hG : ∀ k, F k → G k) (hl : ∀ k, G k → k < w.heap.size) : Pt G w b s := by
  obtain ⟨qv, sv, h⟩ := h
  exact ⟨qv, sv, h.mono hG hl⟩
theorem Pt.lt (h : Pt F w b s) : ∀ k, F k → k < w.heap.size := by
  obtain ⟨qv, sv, h⟩ := h
  exact h.lt
theorem Pt.ok (h : Pt F w b s) : Ut.Ok s := by
  obtain ⟨qv, sv, h⟩ := h
  exact h.ok
theorem PtS.p (h : PtS F w b s qv sv) : Pt F w b s := ⟨qv, sv, h⟩
theorem PtS.cells (h : PtS F w b s qv sv) : w.cell? ⟨b, 0, none⟩ = some (.int .u8 s.ier) ∧ w.cell? ⟨b, 1, none⟩ = some (.int .u8 s.lcr) ∧ w.cell? ⟨b, 2, none⟩ = some (.int .u8 s.mcr) ∧ w.cell? ⟨b, 3, none⟩ = some (.int .u8 s.scr) ∧
    w.cell? ⟨b, 4, none⟩ = some (.int .u8 s.dll) ∧ w.cell? ⟨b, 5, none⟩ = some (.int .u8 s.dlm) ∧ w.cell? ⟨b, 6, none⟩ = some (.bool s.fifo) ∧ w.cell? ⟨b, 7, none⟩ = some (.bool s.lost) ∧ w.cell? ⟨b, 8, none⟩ = some (.bool s.empty) ∧
    w.cell? ⟨b, 9, none⟩ = some qv ∧ w.cell? ⟨b, 10, none⟩ = some sv :=
  ⟨h.row.cell 0, h.row.cell 1, h.row.cell 2, h.row.cell 3, h.row.cell 4, h.row.cell 5, h.row.cell 6, h.row.cell 7, h.row.cell 8, h.row.cell 9, h.row.cell 10⟩
theorem PtS.st (h : PtS F w b s qv sv) : w.rangeAt b 0 (stV s).toList := fun j v hj => by
  have hl : j < 9 := by
    have := (List.getElem?_eq_some_iff.1 hj).1
    simpa [stV] using this
  rw [h.row.cell, ← hj]
  obtain rfl | rfl | rfl | rfl | rfl | rfl | rfl | rfl | rfl : j = 0 ∨ j = 1 ∨ j = 2 ∨ j = 3 ∨ j = 4 ∨ j = 5 ∨ j = 6 ∨ j = 7 ∨ j = 8 := by omega
  all_goals rfl
/-- One of its cells is stored, none of the slices. -/
theorem PtS.upd (h : PtS F w b s qv sv) {i : Nat} {v : Value} (e : (ptV s qv sv).setIfInBounds i v = ptV t qv sv) (eq : t.q = s.q) (eo : t.out = s.out) (ok : Ut.Ok t) : PtS F (w.setCell ⟨b, i, none⟩ v) b t qv sv := by
  have hc : Chg (fun k => k = b) w (w.setCell ⟨b, i, none⟩ v) := Chg.of_cell (S := fun k => k = b) rfl i v
  refine ⟨?_, ?_, ?_, h.fb, h.fq, h.fo, h.qo, fun k hk => by simpa using h.lt k hk, ok⟩
  · unfold CsAt
    rw [heap_setCell_same w b i _ PoT _ h.row, e]
  · rw [eq]; exact hc.own h.q (fun k hk e => (h.fq k hk).2 e)
  · rw [eo]; exact hc.own h.o (fun k hk e => (h.fo k hk).2 e)
/-- The queue is another one. -/
theorem PtS.setQ (h : PtS F w b s qv sv) {v : Value} {xs : List Int} (ho : w.ownsRow 0 U8 1 v xs.length (u8V xs)) (hf : ∀ k, v.ownBlock = some k → F k ∧ k ≠ b ∧ sv.ownBlock ≠ some k) (ok : Ut.Ok { s with q := xs }) :
    PtS F (w.setCell ⟨b, 9, none⟩ v) b { s with q := xs } v sv := by
  have hc : Chg (fun k => k = b) w (w.setCell ⟨b, 9, none⟩ v) := Chg.of_cell (S := fun k => k = b) rfl 9 v
  refine ⟨?_, ?_, ?_, h.fb, fun k hk => ⟨(hf k hk).1, (hf k hk).2.1⟩, h.fo, fun k hk => (hf k hk).2.2, fun k hk => by simpa using h.lt k hk, ok⟩
  · unfold CsAt
    rw [heap_setCell_same w b 9 _ PoT _ h.row]
    rfl
  · exact hc.own ho (fun k hk e => (hf k hk).2.1 e)
  · exact hc.own h.o (fun k hk e => (h.fo k hk).2 e)
/-- What went out is another one. -/
theorem PtS.setO (h : PtS F w b s qv sv) {v : Value} {xs : List Int} (ho : w.ownsRow 0 U8 1 v xs.length (u8V xs)) (hf : ∀ k, v.ownBlock = some k → F k ∧ k ≠ b ∧ qv.ownBlock ≠ some k) (ok : Ut.Ok { s with out := xs }) :
    PtS F (w.setCell ⟨b, 10, none⟩ v) b { s with out := xs } qv v := by
  have hc : Chg (fun k => k = b) w (w.setCell ⟨b, 10, none⟩ v) := Chg.of_cell (S := fun k => k = b) rfl 10 v
  refine ⟨?_, ?_, ?_, h.fb, h.fq, fun k hk => ⟨(hf k hk).1, (hf k hk).2.1⟩, fun k hk e => (hf k e).2.2 hk, fun k hk => by simpa using h.lt k hk, ok⟩
  · unfold CsAt
    rw [heap_setCell_same w b 10 _ PoT _ h.row]
    rfl
  · exact hc.own h.q (fun k hk e => (h.fq k hk).2 e)
  · exact hc.own ho (fun k hk e => (hf k hk).2.1 e)
/-- What a call leaves: the port, and nothing else changed. -/
structure PtQ (F : Nat → Prop) (w w' : World) (b : Nat) (s : Ut.S) : Prop where
  pt : Pt (Nw F w w') w' b s
  chg : Chg F w w'
theorem PtQ.of (h : Pt F w' b s) (hc : Chg F w w') : PtQ F w w' b s := ⟨h.mono (fun _ hk => .inl hk) (fun k hk => hk.elim (h.lt k) (fun h2 => h2.2)), hc⟩
theorem PtQ.low (h : PtQ F w w' b s) (hb : Below w'.heap.size w' w1) : PtQ F w w1 b s :=
  ⟨(h.pt.low hb).mono (fun _ hk => hk.imp id (fun h2 => ⟨h2.1, Nat.lt_of_lt_of_le h2.2 hb.size⟩)) (fun _ hk => hk.elim (fun h2 => Nat.lt_of_lt_of_le (h.pt.lt _ (.inl h2)) hb.size) (fun h2 => h2.2)), h.chg.trans (Chg.of_below hb)⟩
/-- A call behind something that leaves the port alone. -/
theorem PtQ.seq (h : Chg F w w1) (k : PtQ F w1 w' b s) : PtQ F w w' b s :=
  ⟨k.pt.mono (fun _ hi => hi.imp id (fun h2 => ⟨Nat.le_trans h.size h2.1, h2.2⟩)) (fun i hi => hi.elim (fun h1 => k.pt.lt i (.inl h1)) (fun h2 => h2.2)), h.trans k.chg⟩
/-- A struct that is loaded out of a block, by an operation whose guard says yes. -/
theorem wpList_load_midW {P : Program} {ops : Array Oper} {rest : List Oper} {o : Oper} {a : Act} {w : World} {Q : Exit → Act → World → Prop} (hw : Region.wanted o (yielded ops a.tmps) = true) (ty : TypeId) (x : Operand) (ho : o.op = .load ty x)
    (b off : Nat) (hx : a.eval x = .pointer (some ⟨b, off, none⟩)) (cs : List Value) (d : TypeDesc) (hc : w.rangeAt b off cs)
    (hu : P.underlying ty = some d) (hd : d.isRow = true) (hi : (P.info? ty).map (·.size) = some cs.length)
    (h : wpList P ops Q rest (a.put o.dst (.agg cs.toArray)) w) : wpList P ops Q (o :: rest) a w :=
  wpList_step fun _ hK => by
    rw [if_pos hw]
    exact wp_load_mid ty x ho b off hx cs d hc hu hd hi (hK _ _ h)
/-- One call behind another one. -/
theorem PtQ.then (h : Chg F w w1) (k : PtQ (Nw F w w1) w1 w' b s) : PtQ F w w' b s :=
  ⟨k.pt.mono (fun i hi => by
      rcases hi with (h1 | h2) | h3
      · exact .inl h1
      · exact .inr ⟨h2.1, Nat.lt_of_lt_of_le h2.2 k.chg.size⟩
      · exact .inr ⟨Nat.le_trans h.size h3.1, h3.2⟩)
    (fun i hi => hi.elim (fun h1 => k.pt.lt i (.inl (.inl h1))) (fun h2 => h2.2)),
   h.transN k.chg (fun i hi => hi.elim .inl (fun h2 => .inr h2.1))⟩
/-- A byte more in the queue, or among what went out: the slice that an append has made, stored. -/
theorem PtS.push {i : Nat} (h : PtS F w b s qv sv) {x : Int} {v' : Value} (hq : i = 9 ∧ Ut.Ok { s with q := s.q ++ [x] } ∨ i = 10 ∧ Ut.Ok { s with out := s.out ++ [x] })
    (ho : w'.ownsRow 0 U8 1 v' ((if i = 9 then s.q else s.out).length + 1) (u8V (if i = 9 then s.q else s.out) ++ [.int .u8 x])) (hg : (w.alloc (.cells #[.int .u8 x] U8)).grownBy w' (if i = 9 then qv else sv).ownBlock)
    (hv : v'.ownBlock = (if i = 9 then qv else sv).ownBlock ∨ v'.ownBlock = some (w.heap.size + 1)) :
    PtQ F w (w'.setCell ⟨b, i, none⟩ v') b (if i = 9 then { s with q := s.q ++ [x] } else { s with out := s.out ++ [x] }) := by
  have ha : Below w.heap.size w (w.alloc (.cells #[.int .u8 x] U8)) := (Below.refl _ _).alloc (Nat.le_refl _) _
  have h1 := h.low ha
  have hsz : (w.alloc (.cells #[.int .u8 x] U8)).heap.size = w.heap.size + 1 := by simp
  have hgs := hg.size
  have hown : ∀ k, (if i = 9 then qv else sv).ownBlock = some k → F k ∧ k ≠ b := by
    intro k hk
    split at hk
    · exact h.fq k hk
    · exact h.fo k hk
  have hbl := h.lt b h.fb
  have hvl : ∀ k, v'.ownBlock = some k → Nw F w w' k ∧ k ≠ b := by
    intro k hk
    have hkl := ho.lt k hk
    rcases hv with e | e
    · rw [e] at hk
      exact ⟨.inl (hown k hk).1, (hown k hk).2⟩
    · rw [e] at hk
      simp only [Option.some.injEq] at hk
      exact ⟨.inr ⟨by omega, hkl.2⟩, by omega⟩
  have hcw : Chg F w w' := (Chg.of_below ha).trans (Chg.of_grown hg (fun _ hk => (hown _ hk).1))
  have hcw2 : Chg F w (w'.setCell ⟨b, i, none⟩ v') := hcw.trans (Chg.of_cell h.fb i v')
  have hrow : CsAt w' b PoT (ptV s qv sv) := (Chg.of_grown (S := fun k => (if i = 9 then qv else sv).ownBlock = some k) hg (fun k hk => hk)).cs h1.row (fun e => (hown b e).2 rfl)
  have hlt : ∀ k, Nw F w w' k → k < w'.heap.size := fun k hk => hk.elim (fun h2 => Nat.lt_of_lt_of_le (h.lt k h2) hcw.size) (fun h2 => h2.2)
  refine ⟨?_, hcw2⟩
  rw [show Nw F w (w'.setCell ⟨b, i, none⟩ v') = Nw F w w' by unfold Nw; simp]
  rcases hq with ⟨rfl, ok⟩ | ⟨rfl, ok⟩
  · simp only [if_pos] at ho hg hv hown hrow ⊢
    have hS : PtS (Nw F w w') w' b s v' sv → PtS (Nw F w w') w' b s v' sv := id
    have hc1 : w'.ownsRow 0 U8 1 sv s.out.length (u8V s.out) := (Chg.of_grown (S := fun k => qv.ownBlock = some k) hg (fun k hk => hk)).own h1.o (fun k hk e => h.qo k e hk)
    have hc : Chg (fun k => k = b) w' (w'.setCell ⟨b, 9, none⟩ v') := Chg.of_cell (S := fun k => k = b) rfl 9 v'
    refine ⟨v', sv, ?_, ?_, ?_, .inl h.fb, hvl, fun k hk => ⟨.inl (h.fo k hk).1, (h.fo k hk).2⟩, ?_, fun k hk => by simpa using hlt k hk, ok⟩
    · unfold CsAt
      rw [heap_setCell_same w' b 9 _ PoT _ hrow]
      rfl
    · have := hc.own ho (fun k hk e => (hvl k hk).2 e)
      simpa [u8V] using this
    · exact hc.own hc1 (fun k hk e => (h.fo k hk).2 e)
    · intro k hk e
      rcases hv with e2 | e2
      · rw [e2] at hk
        exact h.qo k hk e
      · rw [e2] at hk
        simp only [Option.some.injEq] at hk
        have := h.lt k (h.fo k e).1
        omega
  · rw [if_neg (by omega)] at ho hg hv
    simp only [show ¬ ((10 : Nat) = 9) by omega, if_false] at hown hrow ⊢
    have hc1 : w'.ownsRow 0 U8 1 qv s.q.length (u8V s.q) := (Chg.of_grown (S := fun k => sv.ownBlock = some k) hg (fun k hk => hk)).own h1.q (fun k hk e => h.qo k hk e)
    have hc : Chg (fun k => k = b) w' (w'.setCell ⟨b, 10, none⟩ v') := Chg.of_cell (S := fun k => k = b) rfl 10 v'
    refine ⟨qv, v', ?_, ?_, ?_, .inl h.fb, fun k hk => ⟨.inl (h.fq k hk).1, (h.fq k hk).2⟩, hvl, ?_, fun k hk => by simpa using hlt k hk, ok⟩
    · unfold CsAt
      rw [heap_setCell_same w' b 10 _ PoT _ hrow]
      rfl
    · exact hc.own hc1 (fun k hk e => (h.fq k hk).2 e)
    · have := hc.own ho (fun k hk e => (hvl k hk).2 e)
      simpa [u8V] using this
    · intro k hk e
      rcases hv with e2 | e2
      · rw [e2] at e
        exact h.qo k hk e
      · rw [e2] at e
        simp only [Option.some.injEq] at e
        have := h.lt k (h.fq k hk).1
        omega
end
/-! A byte's bits. -/
namespace Ut
theorem and_bit : ∀ x : Fin 256, ∀ i : Fin 8, (Go.bits .and .u8 ((x : Nat) : Int) ((2 ^ (i : Nat) : Nat) : Int) != 0) = bt ((x : Nat) : Int) i := by decide +kernel
theorem and_b {x : Int} (h : isB x) (i : Nat) (hi : i < 8) : (Go.bits .and .u8 x ((2 ^ i : Nat) : Int) != 0) = bt x i := by
  obtain ⟨n, rfl⟩ := Int.eq_ofNat_of_zero_le h.1
  have hn : n < 256 := by have := h.2; omega
  exact and_bit ⟨n, hn⟩ ⟨i, hi⟩
theorem and1 {x : Int} (h : isB x) : (Go.bits .and .u8 x 1 != 0) = bt x 0 := and_b h 0 (by omega)
theorem and2 {x : Int} (h : isB x) : (Go.bits .and .u8 x 2 != 0) = bt x 1 := and_b h 1 (by omega)
theorem and4 {x : Int} (h : isB x) : (Go.bits .and .u8 x 4 != 0) = bt x 2 := and_b h 2 (by omega)
theorem and16 {x : Int} (h : isB x) : (Go.bits .and .u8 x 16 != 0) = bt x 4 := and_b h 4 (by omega)
theorem and128 {x : Int} (h : isB x) : (Go.bits .and .u8 x 128 != 0) = bt x 7 := and_b h 7 (by omega)
theorem ier_b {s : S} (h : Ok s) : isB s.ier := ⟨h.ier.1, by have := h.ier.2; omega⟩
theorem mcr_b {s : S} (h : Ok s) : isB s.mcr := ⟨h.mcr.1, by have := h.mcr.2; omega⟩
end Ut
set_option maxHeartbeats 1000000 in
theorem latched_c (s : Ut.S) (ok : Ut.Ok s) (w : World) : Calls Try.prog 82 #[.agg (stV s)] w fun e w' => e = .returned (.bool (Ut.hi s)) ∧ Below w.heap.size w w' := by
  have HB := Lib.hid ((Below.refl w.heap.size w).alloc (Nat.le_refl _) (Obj.cells (stV s) StT))
  have e0 : (bits .and .u8 s.lcr 128 != 0) = Ut.hi s := Ut.and128 ok.lcr
  go_enter Try.func82, Try.ntmps82
  simp only [stV] at HB ⊢
  go_wp2_with fail
  go_ret
  exact ⟨rfl, HB.out⟩
set_option maxHeartbeats 1000000 in
theorem looped_c (s : Ut.S) (ok : Ut.Ok s) (w : World) : Calls Try.prog 66 #[.agg (stV s)] w fun e w' => e = .returned (.bool (Ut.lp s)) ∧ Below w.heap.size w w' := by
  have HB := Lib.hid ((Below.refl w.heap.size w).alloc (Nat.le_refl _) (Obj.cells (stV s) StT))
  have e0 : (bits .and .u8 s.mcr 16 != 0) = Ut.lp s := Ut.and16 (Ut.mcr_b ok)
  go_enter Try.func66, Try.ntmps66
  simp only [stV] at HB ⊢
  go_wp2_with fail
  go_ret
  exact ⟨rfl, HB.out⟩
end Go.Proofs.Ytkknfhbaldeigaa
