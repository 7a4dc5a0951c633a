/-
  LocksGoOn: the eight jobs in memory beside the locks, and what a step leaves of them.
-/
import Derived.Test.YtgegahnjhaldeaaLkY
namespace Go.Proofs.Ytgegahnjhaldeaa
open Go.ChangeShapes Go.WideShapes Go.ChangeAt Go.RowKit

/-- What is none of the locks': the jobs' block, and the rows of what they need. -/
def ZJ (jb : Nat) (P : Nat → Option Addr × Nat) : Nat → Prop := fun k => k = jb ∨ ∃ i, i < 8 ∧ ∃ off, (P i).1 = some ⟨k, off, none⟩
structure GoAt (w W : World) (base lp mb jb : Nat) (P : Nat → Option Addr × Nat) (R : Int → List Int) (J : Nat → Lk.JS) : Prop where
  lk : LkAt (ZJ jb P) W base lp mb 10 R
  bel : Below w.heap.size w W
  jobs : ∀ i, i < 8 → JobAt W jb (4 * i) (.slice (P i).1 (J i).xs.length (P i).2) (J i).t (J i).g (J i).d
  rows : ∀ i, i < 8 → Vw W (P i).1 (iV (J i).xs)
  inv : Lk.Inv R 10 J
/-- What holds of the blocks throughout. -/
structure GoB (w : World) (base lp jb : Nat) (P : Nat → Option Addr × Nat) : Prop where
  hbase : w.heap.size ≤ base
  hjb : base ≤ jb
  hjl : jb ≠ lp
  nil : ∀ i, i < 8 → (P i).1 = none ∧ (P i).2 = 0 ∨ ∃ b off, (P i).1 = some ⟨b, off, none⟩
  apart : ∀ i, i < 8 → ∀ pb po, (P i).1 = some ⟨pb, po, none⟩ → pb ≠ jb
theorem stJ_xs (R : Int → List Int) (n : Nat) (who : Int) (s : Lk.JS) : (Lk.stJ R n who s).xs = s.xs := by
  unfold Lk.stJ
  split
  · rfl
  · split
    · split <;> rfl
    · split <;> rfl
theorem Vw.kept {w W : World} {p : Option Addr} {xs : List Value} (h : Vw w p xs) (hs : w.heap.size ≤ W.heap.size) (hp : ∀ b off, p = some ⟨b, off, none⟩ → W.heap[b]? = w.heap[b]?) : Vw W p xs := by
  rcases h with h | ⟨b, off, rfl, hlt, hc⟩
  · exact .inl h
  · exact .inr ⟨b, off, rfl, Nat.lt_of_lt_of_le hlt hs, fun j u hj => (World.cell?_of_block (w := w) (a := ⟨b, off + j, none⟩) (hp b off rfl)).trans (hc j u hj)⟩
theorem js_ok {R : Int → List Int} {n : Nat} {J : Nat → Lk.JS} (h : Lk.Inv R n J) (hn : n ≤ 128) {i : Nat} (hi : i < 8) (hl : (J i).xs.length ≤ 1000) : Lk.JsOk (J i) :=
  ⟨h.g i hi, hl, fun j hj => by
    have := h.rng i hi _ (Lk.getD_mem hj)
    unfold InI
    omega⟩
theorem GoAt.next {w W W' : World} {base lp mb jb : Nat} {P : Nat → Option Addr × Nat} {R : Int → List Int} {J : Nat → Lk.JS} (h : GoAt w W base lp mb jb P R J) (hB : GoB w base lp jb P) {k : Nat} (hk : k < 8)
    (q : StepQ (ZJ jb P) jb (4 * k) (P k).1 (P k).2 base lp mb 10 W (Lk.stR R 10 (k : Int) (J k)) (Lk.stJ R 10 (k : Int) (J k)) W') : GoAt w W' base lp mb jb P (Lk.stR R 10 (k : Int) (J k)) (Lk.setJ J k (Lk.stJ R 10 (k : Int) (J k))) := by
  refine ⟨q.lk, h.bel.trans (q.bel.mono hB.hbase), fun i hi => ?_, fun i hi => ?_, h.inv.step hk⟩
  · by_cases e : i = k
    · subst e
      rw [Lk.setJ_same]
      exact q.job
    · rw [Lk.setJ_other J _ e]
      have hj := h.jobs i hi
      exact ⟨(q.only.cell _ (by omega) (by omega) (by omega)).trans hj.c0, (q.only.cell _ (by omega) (by omega) (by omega)).trans hj.c1, (q.only.cell _ (by omega) (by omega) (by omega)).trans hj.c2, (q.only.cell _ (by omega) (by omega) (by omega)).trans hj.c3,
        (q.only.froz _).trans hj.f1, (q.only.froz _).trans hj.f2, (q.only.froz _).trans hj.f3⟩
  · have hx : (Lk.setJ J k (Lk.stJ R 10 (k : Int) (J k)) i).xs = (J i).xs := by
      by_cases e : i = k
      · subst e; rw [Lk.setJ_same, stJ_xs]
      · rw [Lk.setJ_other J _ e]
    rw [hx]
    exact (h.rows i hi).kept q.bel.size fun b off e => q.only.blk b (.inr ⟨i, hi, off, e⟩) (hB.apart i hi b off e)
/-- A step of job k, in the law's words. -/
theorem GoAt.step {w W : World} {base lp mb jb : Nat} {P : Nat → Option Addr × Nat} {R : Int → List Int} {J : Nat → Lk.JS} (h : GoAt w W base lp mb jb P R J) (hB : GoB w base lp jb P) {k : Nat} (hk : k < 8) (hl : (J k).xs.length ≤ 1000) :
    Calls Try.prog 31 #[.pointer (some ⟨lp, 0, none⟩), .pointer (some ⟨jb, 4 * k, none⟩), .int .i64 (k : Int)] W fun e W' => e = .returned (.bool true) ∧ GoAt w W' base lp mb jb P (Lk.stR R 10 (k : Int) (J k)) (Lk.setJ J k (Lk.stJ R 10 (k : Int) (J k))) := by
  refine (lstep_c jb (4 * k) (P k).1 (P k).2 base lp mb 10 R (J k) (k : Int) W h.lk (h.jobs k hk) (js_ok h.inv (by omega) hk hl) (.inl rfl) hB.hjl hB.hjb (h.rows k hk) (hB.nil k hk) (hB.apart k hk)).mono ?_
  rintro e W' ⟨rfl, q⟩
  rw [h.inv.fine hk]
  exact ⟨rfl, h.next hB hk q⟩
end Go.Proofs.Ytgegahnjhaldeaa
