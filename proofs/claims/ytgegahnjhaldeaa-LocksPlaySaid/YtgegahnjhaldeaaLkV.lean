/-
  Contract of the law's step (LocksGoOn): a job's state, and what a step makes of it and of the locks.
-/
import Derived.Test.YtgegahnjhaldeaaLkU
namespace Go.Proofs.Ytgegahnjhaldeaa
open Go.ChangeShapes Go.WideShapes Go.ChangeAt Go.RowKit
variable {Z : Nat → Prop}

namespace Lk
/-- A job: what it needs, how many it took, how many it gave back, whether it is done. -/
structure JS where
  xs : List Int
  t : Nat
  g : Nat
  d : Bool
def JS.over (s : JS) : Bool := s.d && decide (s.g = s.xs.length)
def stR (R : Int → List Int) (n : Nat) (who : Int) (s : JS) : Int → List Int :=
  if s.over then R else if s.t < s.xs.length then take R n who (s.xs.getD s.t 0) else if s.d then drop R who (s.xs.getD (s.xs.length - (s.g + 1)) 0) else R
def stJ (R : Int → List Int) (n : Nat) (who : Int) (s : JS) : JS :=
  if s.over then s else if s.t < s.xs.length then (if takeT R n who (s.xs.getD s.t 0) then ⟨s.xs, s.t + 1, s.g, s.d⟩ else s) else if s.d then ⟨s.xs, s.t, s.g + 1, s.d⟩ else ⟨s.xs, s.t, s.g, true⟩
def stF (R : Int → List Int) (n : Nat) (who : Int) (s : JS) : Bool :=
  if s.over then true else if s.t < s.xs.length then true else if s.d then true else decide (which (holds who) R n = s.xs)
structure JsOk (s : JS) : Prop where
  g : s.g ≤ s.xs.length
  len : s.xs.length ≤ 1000
  rng : ∀ j, j < s.xs.length → InI (s.xs.getD j 0)
end Lk
theorem JobOnly.weak {Y : Nat → Prop} {b off : Nat} {w w' : World} (h : JobOnly Y b off w w') (hy : ∀ k, Z k → Y k) : JobOnly Z b off w w' := ⟨fun k hk hne => h.blk k (hy k hk) hne, h.cell, h.froz⟩
/-- What a step leaves. -/
structure StepQ (Z : Nat → Prop) (b off : Nat) (p : Option Addr) (cap base lp mb n : Nat) (w : World) (R : Int → List Int) (s : Lk.JS) (w' : World) : Prop where
  lk : LkAt Z w' base lp mb n R
  bel : Below base w w'
  only : JobOnly Z b off w w'
  job : JobAt w' b off (.slice p s.xs.length cap) s.t s.g s.d
theorem int_beq (a b : Nat) : (((a : Nat) : Int) == ((b : Nat) : Int)) = decide (a = b) := by
  by_cases h : a = b
  · subst h; simp
  · have : ((a : Nat) : Int) ≠ (b : Int) := by omega
    rw [decide_eq_false h]
    exact beq_eq_false_iff_ne.2 this
theorem Vw.far {w : World} {p : Option Addr} {xs : List Value} (h : Vw w p xs) {b i : Nat} (hp : ∀ pb po, p = some ⟨pb, po, none⟩ → pb ≠ b) (v : Value) : Vw (w.setCell ⟨b, i, none⟩ v) p xs := by
  rcases h with h | ⟨pb, po, rfl, hlt, hc⟩
  · exact .inl h
  · exact .inr ⟨pb, po, rfl, by rw [World.size_setCell]; exact hlt, fun j u hj => (World.cell?_of_block (w := w) (a := ⟨pb, po + j, none⟩) (heap_setCell_other w ⟨b, i, none⟩ pb v (hp pb po rfl))).trans (hc j u hj)⟩
theorem JobOnly.other {b off : Nat} {w : World} (c : Nat) (hc : ¬ Z c) (hb : b ≠ c) (v : Value) : JobOnly Z b off w (w.setCell ⟨c, 0, none⟩ v) :=
  ⟨fun k hk _ => heap_setCell_other w ⟨c, 0, none⟩ k v (show k ≠ c from fun e => hc (e ▸ hk)), fun _ _ _ _ => World.cell?_of_block (w := w) (heap_setCell_other w ⟨c, 0, none⟩ b v hb), fun _ => World.frozen?_setCell _ _ _ _⟩
set_option maxHeartbeats 4000000 in
theorem lstep_c (b off : Nat) (p : Option Addr) (cap base lp mb n : Nat) (R : Int → List Int) (s : Lk.JS) (who : Int) (w : World)
    (hL : LkAt Z w base lp mb n R) (hj : JobAt w b off (.slice p s.xs.length cap) s.t s.g s.d) (hs : Lk.JsOk s) (hz : Z b) (hbl : b ≠ lp) (hbb : base ≤ b) (hv : Vw w p (iV s.xs)) (hp : p = none ∧ cap = 0 ∨ ∃ b off, p = some ⟨b, off, none⟩) (hpb : ∀ pb po, p = some ⟨pb, po, none⟩ → pb ≠ b) :
    Calls Try.prog 31 #[.pointer (some ⟨lp, 0, none⟩), .pointer (some ⟨b, off, none⟩), .int .i64 who] w fun e w' =>
      e = .returned (.bool (Lk.stF R n who s)) ∧ StepQ Z b off p cap base lp mb n w (Lk.stR R n who s) (Lk.stJ R n who s) w' := by
  have hbase : base ≤ w.heap.size := by have := hL.b0; have := hL.lt; omega
  have hblt := hj.lt
  have hd0 : (s.d && ((s.g : Int) == ((s.xs.length : Nat) : Int))) = s.over := by unfold Lk.JS.over; rw [int_beq]
  refine lstep_to (some ⟨lp, 0, none⟩) b off who _ _ w fun W hW => ?_
  have hjW := hj.low hW.bel
  have hLW := hL.more hW.bel (Y := fun k => Z k ∨ (w.heap.size ≤ k ∧ k < W.heap.size)) (fun _ h => h)
  have hfl : w.heap.size + 1 + 1 + 1 < W.heap.size := hW.cf.lt
  have hne : w.heap.size + 1 + 1 + 1 ≠ b := by omega
  cases ho : s.over
  · rw [ho] at hd0
    by_cases ht : s.t < s.xs.length
    · -- a lock is taken
      have e1 : Lk.stR R n who s = Lk.take R n who (s.xs.getD s.t 0) := by unfold Lk.stR; simp [ho, ht]
      have e2 : Lk.stF R n who s = true := by unfold Lk.stF; simp [ho, ht]
      rw [e1, e2]
      refine step_take b off p _ cap s.t s.g who s.d _ _ _ W hjW hd0 (by omega) fun W2 hb2 => ?_
      have hl2 := hLW.low hb2
      have hbel := hW.bel.trans (hb2.mono hW.bel.size)
      refine (jtake_c b off p cap s.xs s.t s.g who s.d base lp mb n R W2 (hjW.low hb2) (.inl hz) hbl hbb ((hv.low hW.bel).low hb2) ht (hs.rng _ ht) (by have := hs.len; omega) hl2).mono ?_
      rintro e w3 ⟨rfl, k1, k2, k3, k4⟩
      refine ⟨_, rfl, ?_, k1.more (Below.refl _ _) (fun k hk => .inl (.inl hk)), (hbel.mono hbase).trans k2, (JobOnly.of_kept (KeptZ.below hL hbel) hz).trans (k3.weak fun k hk => .inl hk), ?_⟩
      · have := (show w3.heap[w.heap.size + 1 + 1 + 1]? = _ from (k3.blk _ (.inr ⟨by omega, hfl⟩) hne)).trans (hW.cf.low hb2)
        exact CsAt.cell (t := 4) (cs := #[.bool true]) this 0
      · unfold Lk.stJ
        simp only [ho, ht, if_true, Bool.false_eq_true, if_false]
        cases hq : Lk.takeT R n who (s.xs.getD s.t 0)
        · rw [hq] at k4; simpa using k4
        · rw [hq] at k4; simpa using k4
    · cases hd : s.d
      · -- what the job is for is done
        have e1 : Lk.stR R n who s = R := by unfold Lk.stR; simp [ho, ht, hd]
        have e2 : Lk.stF R n who s = decide (Lk.which (Lk.holds who) R n = s.xs) := by unfold Lk.stF; simp [ho, ht, hd]
        have e3 : Lk.stJ R n who s = ⟨s.xs, s.t, s.g, true⟩ := by unfold Lk.stJ; simp [ho, ht, hd]
        rw [e1, e2, e3]
        rw [hd] at hjW hj
        refine step_act b off p _ cap s.t s.g who _ _ _ W hjW (by omega) fun W2 hb2 => ?_
        have hl2 := hLW.low hb2
        have hj2 := hjW.low hb2
        have hbel := hW.bel.trans (hb2.mono hW.bel.size)
        have hl3 := hl2.far (b := b) (i := off + 3) (.inl hz) hbl (.bool true)
        have hj3 := hj2.did true
        have hv3 := ((hv.low hW.bel).low hb2).far (b := b) (i := off + 3) hpb (.bool true)
        have x1 := (hW.cl.low hb2).far (c := b) (i := off + 3) (by omega) (.bool true)
        have x2 := (hW.cj.low hb2).far (c := b) (i := off + 3) (by omega) (.bool true)
        have x3 := (hW.cw.low hb2).far (c := b) (i := off + 3) (by omega) (.bool true)
        have x4 := (hW.cf.low hb2).far (c := b) (i := off + 3) (by omega) (.bool true)
        have hs3 : (W2.setCell ⟨b, off + 3, none⟩ (.bool true)).heap.size = W2.heap.size := World.size_setCell ..
        have hlp : lp < w.heap.size := hL.lt
        refine (jact_c b off p _ cap s.t s.g false _ _ (fun w' => ∃ v, Below (W2.setCell ⟨b, off + 3, none⟩ (.bool true)).heap.size (W2.setCell ⟨b, off + 3, none⟩ (.bool true)) v ∧ w' = v.setCell ⟨w.heap.size + 1 + 1 + 1, 0, none⟩ (.bool (decide (Lk.which (Lk.holds who) R n = s.xs)))) W2 hj2
          (fine_c w.heap.size (w.heap.size + 1 + 1) (w.heap.size + 1) (w.heap.size + 1 + 1 + 1) (some ⟨lp, 0, none⟩) who n R b off p cap s.t s.g true true s.xs _ (x1.cell 0) (x3.cell 0) (x2.cell 0) (x4.cell 0) (x4.frozen 0) (.inr ⟨_, base, lp, mb, rfl, hl3⟩) hj3 hv3 hp (by have := hs.len; omega))
          (fun w' ⟨v, h1, h2⟩ => h2 ▸ (hj3.low h1).on (heap_setCell_other v ⟨w.heap.size + 1 + 1 + 1, 0, none⟩ b _ (show b ≠ w.heap.size + 1 + 1 + 1 by omega))) fine_en).mono ?_
        rintro e w5 ⟨rfl, w4, ⟨v, h1, rfl⟩, h2⟩
        have y4 := (x4.low h1).set1 (.bool (decide (Lk.which (Lk.holds who) R n = s.xs)))
        have hl4 := (hl3.low h1).far (b := w.heap.size + 1 + 1 + 1) (i := 0) (.inr ⟨by omega, hfl⟩) (by omega) (.bool (decide (Lk.which (Lk.holds who) R n = s.xs)))
        have hb4 : Below base w (v.setCell ⟨w.heap.size + 1 + 1 + 1, 0, none⟩ (.bool (decide (Lk.which (Lk.holds who) R n = s.xs)))) :=
          (((hbel.mono hbase).setCell (p := ⟨b, off + 3, none⟩) hbb (.bool true)).trans (h1.mono (by rw [hs3]; have := hbel.size; omega))).setCell (p := ⟨w.heap.size + 1 + 1 + 1, 0, none⟩) (show base ≤ w.heap.size + 1 + 1 + 1 by omega) _
        have hsz4 : w.heap.size ≤ (v.setCell ⟨w.heap.size + 1 + 1 + 1, 0, none⟩ (.bool (decide (Lk.which (Lk.holds who) R n = s.xs)))).heap.size := hb4.size
        have hnz : ¬ Z (w.heap.size + 1 + 1 + 1) := fun h => by have := (hL.flt _ h).1; omega
        have hlZ : LkAt Z (v.setCell ⟨w.heap.size + 1 + 1 + 1, 0, none⟩ (.bool (decide (Lk.which (Lk.holds who) R n = s.xs)))) base lp mb n R := hl4.more (Below.refl _ _) (fun k hk => .inl (.inl hk))
        have hl3Z : LkAt Z (W2.setCell ⟨b, off + 3, none⟩ (.bool true)) base lp mb n R := hl3.more (Below.refl _ _) (fun k hk => .inl (.inl hk))
        refine ⟨_, rfl, (y4.low h2).cell 0, hlZ.low h2, hb4.trans (h2.mono (by omega)), ?_, ?_⟩
        · exact ((((JobOnly.of_kept (KeptZ.below hL hbel) hz).trans (JobOnly.set (off + 3) (.inr (.inr rfl)) _)).trans (JobOnly.of_kept (KeptZ.below hl3Z h1) hz)).trans (JobOnly.other _ hnz (by omega) _)).trans (JobOnly.of_kept (KeptZ.below hlZ h2) hz)
        · exact ((hj3.low h1).on (heap_setCell_other v ⟨w.heap.size + 1 + 1 + 1, 0, none⟩ b _ (show b ≠ w.heap.size + 1 + 1 + 1 by omega))).low h2
      · -- a lock is given back
        have hg : s.g < s.xs.length := by
          have h1 := hs.g
          have h2 : s.g ≠ s.xs.length := fun e => by unfold Lk.JS.over at ho; rw [hd, decide_eq_true e] at ho; cases ho
          omega
        have e1 : Lk.stR R n who s = Lk.drop R who (s.xs.getD (s.xs.length - (s.g + 1)) 0) := by unfold Lk.stR; simp [ho, ht, hd]
        have e2 : Lk.stF R n who s = true := by unfold Lk.stF; simp [ho, ht, hd]
        have e3 : Lk.stJ R n who s = ⟨s.xs, s.t, s.g + 1, s.d⟩ := by unfold Lk.stJ; simp [ho, ht, hd]
        rw [e1, e2, e3]
        rw [hd] at hjW hj hd0
        obtain ⟨pb, po, rfl, hpl, hcell⟩ := hv.cells (by omega)
        refine step_give b off _ _ cap s.t s.g who _ _ _ W hjW hd0 (by omega) fun W2 hb2 => ?_
        have hl2 := hLW.low hb2
        have hbel := hW.bel.trans (hb2.mono hW.bel.size)
        refine (jgive_c b off pb po cap s.xs s.g s.t who base lp mb n R W2 (hjW.low hb2) (.inl hz) hbl hbb (hpb pb po rfl) (Nat.lt_of_lt_of_le hpl hbel.size) (fun j hj => (hbel.cell (p := ⟨pb, po + j, none⟩) hpl).trans (hcell j hj)) hg (hs.rng _ (by omega)) (by have := hs.len; omega) hl2).mono ?_
        rintro e w3 ⟨rfl, k1, k2, k3, k4⟩
        refine ⟨_, rfl, ?_, k1.more (Below.refl _ _) (fun k hk => .inl (.inl hk)), (hbel.mono hbase).trans k2, (JobOnly.of_kept (KeptZ.below hL hbel) hz).trans (k3.weak fun k hk => .inl hk), ?_⟩
        · have := (show w3.heap[w.heap.size + 1 + 1 + 1]? = _ from (k3.blk _ (.inr ⟨by omega, hfl⟩) hne)).trans (hW.cf.low hb2)
          exact CsAt.cell (t := 4) (cs := #[.bool true]) this 0
        · rw [hd]; simpa using k4
  · rw [ho] at hd0
    have e1 : Lk.stR R n who s = R := by unfold Lk.stR; simp [ho]
    have e2 : Lk.stF R n who s = true := by unfold Lk.stF; simp [ho]
    have e3 : Lk.stJ R n who s = s := by unfold Lk.stJ; simp [ho]
    rw [e1, e2, e3]
    refine (step_over b off p _ cap s.t s.g who s.d _ _ W hjW hd0).mono ?_
    rintro e w2 ⟨rfl, hb⟩
    have hbel := hW.bel.trans (hb.mono hW.bel.size)
    exact ⟨_, rfl, (hW.cf.low hb).cell 0, hL.low hbel, hbel.mono hbase, JobOnly.of_kept (KeptZ.below hL hbel) hz, hj.low hbel⟩
end Go.Proofs.Ytgegahnjhaldeaa
