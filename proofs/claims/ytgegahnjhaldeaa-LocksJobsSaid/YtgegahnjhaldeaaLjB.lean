/-
  What stands while the jobs of the law LocksJobs go on, beside the locks, and beside the reference's.
-/
import Derived.Test.YtgegahnjhaldeaaRlE
import Derived.Test.YtgegahnjhaldeaaRlF
import Derived.Test.YtgegahnjhaldeaaNdB
import Derived.Test.YtgegahnjhaldeaaLive12
import Derived.Test.YtgegahnjhaldeaaOpenLj
namespace Go.Proofs.Ytgegahnjhaldeaa
open Go.ChangeShapes Go.WideShapes Go.ChangeAt Go.RowKit

theorem Lk.stJ_need (R : Int → List Int) (n : Nat) (who : Int) (s : Lk.JS) : (Lk.stJ R n who s).xs = s.xs := by
  unfold Lk.stJ
  split
  · rfl
  · split
    · split <;> rfl
    · split <;> rfl
/-- A row that lies apart. -/
def Far (Z : Nat → Prop) (W : World) (jb qb rb : Nat) (p : Option Addr) (cap : Nat) (xs : List Int) : Prop :=
  Vw W p (iV xs) ∧ xs.length ≤ cap ∧ (p = none ∧ cap = 0 ∨ ∃ b, p = some ⟨b, 0, none⟩ ∧ Z b ∧ b < W.heap.size ∧ b ≠ jb ∧ b ≠ qb ∧ b ≠ rb)
theorem Far.keep {Z Y : Nat → Prop} {W W' : World} {jb qb rb : Nat} {p : Option Addr} {cap : Nat} {xs : List Int} (h : Far Z W jb qb rb p cap xs) (hs : W.heap.size ≤ W'.heap.size) (hk : ∀ b, Z b → b < W.heap.size → b ≠ jb → b ≠ qb → b ≠ rb → W'.heap[b]? = W.heap[b]?) (hy : ∀ k, Z k → Y k) : Far Y W' jb qb rb p cap xs := by
  obtain ⟨hv, hc, hp⟩ := h
  refine ⟨hv.keep2 hs fun b off e hlt => ?_, hc, hp.imp id fun ⟨b, e, a1, a2, a3⟩ => ⟨b, e, hy _ a1, Nat.lt_of_lt_of_le a2 hs, a3⟩⟩
  rcases hp with ⟨rfl, -⟩ | ⟨b', rfl, a1, a2, a3, a4, a5⟩
  · cases e
  · cases e; exact hk _ a1 a2 a3 a4 a5
structure LjB (w : World) (base lp rb jb qb : Nat) : Prop where
  b0 : w.heap.size ≤ base
  bj : base ≤ jb
  bq : base ≤ qb
  br : base ≤ rb
  jl : jb ≠ lp
  ql : qb ≠ lp
  rl : rb ≠ lp
  jr : jb ≠ rb
  qr : qb ≠ rb
  jq : jb ≠ qb
structure LjAt (Z ZR : Nat → Prop) (w W : World) (base lp mb rb jb qb : Nat) (P Pq : Nat → Option Addr × Nat) (X : Nat → List Int) (Rc Rr : Int → List Int) (J : Nat → Lk.JS) (S : Nat → Nat) : Prop where
  lk : LkAt Z W base lp mb 9 Rc
  rl : RlAt ZR W rb 9 Rr
  bel : Below w.heap.size w W
  zr : ∀ k, ZR k → Z k ∧ k ≠ jb ∧ k ≠ qb
  zj : Z jb
  zq : Z qb
  jobs : ∀ i, i < 2 → JobAt W jb (i * 4) (.slice (P i).1 (X i).length (P i).2) (J i).t (J i).g (J i).d
  xs : ∀ i, (J i).xs = X i
  jv : ∀ i, i < 2 → Lk.Jv (J i)
  prow : ∀ i, i < 2 → Far Z W jb qb rb (P i).1 (P i).2 (X i)
  qrow : ∀ i, i < 2 → Far Z W jb qb rb (Pq i).1 (Pq i).2 (X i)
  q0 : ∀ i, i < 2 → W.cell? ⟨qb, i * 2, none⟩ = some (.slice (Pq i).1 (X i).length (Pq i).2)
  q1 : ∀ i, i < 2 → W.cell? ⟨qb, i * 2 + 1, none⟩ = some (.int .i64 (S i : Int))
  qf : ∀ j, W.frozen? ⟨qb, j, none⟩ = false
section
variable {Z ZR : Nat → Prop} {w W W' : World} {base lp mb rb jb qb : Nat} {P Pq : Nat → Option Addr × Nat} {X : Nat → List Int} {Rc Rr : Int → List Int} {J : Nat → Lk.JS} {S : Nat → Nat}
theorem LjAt.qlt (h : LjAt Z ZR w W base lp mb rb jb qb P Pq X Rc Rr J S) : qb < W.heap.size := World.block_lt_of_cell? W _ (h.q0 0 (by omega))
theorem LjAt.jlt (h : LjAt Z ZR w W base lp mb rb jb qb P Pq X Rc Rr J S) : jb < W.heap.size := (h.jobs 0 (by omega)).lt
/-- New blocks, which may be anybody's. -/
theorem LjAt.more (h : LjAt Z ZR w W base lp mb rb jb qb P Pq X Rc Rr J S) (hb : Below W.heap.size W W') {Y : Nat → Prop} (hy : ∀ k, Y k → Z k ∨ (W.heap.size ≤ k ∧ k < W'.heap.size)) (hz : ∀ k, Z k → Y k) : LjAt Y ZR w W' base lp mb rb jb qb P Pq X Rc Rr J S :=
  ⟨h.lk.more hb hy, h.rl.low hb, h.bel.trans (hb.mono h.bel.size), fun k hk => ⟨hz _ (h.zr k hk).1, (h.zr k hk).2⟩, hz _ h.zj, hz _ h.zq, fun i hi => (h.jobs i hi).low hb, h.xs, h.jv,
    fun i hi => (h.prow i hi).keep hb.size (fun b _ hlt _ _ _ => hb.block b hlt) hz, fun i hi => (h.qrow i hi).keep hb.size (fun b _ hlt _ _ _ => hb.block b hlt) hz,
    fun i hi => (hb.cell (p := ⟨qb, i * 2, none⟩) h.qlt).trans (h.q0 i hi), fun i hi => (hb.cell (p := ⟨qb, i * 2 + 1, none⟩) h.qlt).trans (h.q1 i hi), fun j => (World.frozen?_of_block (a := ⟨qb, j, none⟩) (hb.block qb h.qlt)).trans (h.qf j)⟩
theorem LjAt.low (h : LjAt Z ZR w W base lp mb rb jb qb P Pq X Rc Rr J S) (hb : Below W.heap.size W W') : LjAt Z ZR w W' base lp mb rb jb qb P Pq X Rc Rr J S := h.more hb (fun _ h => .inl h) fun _ h => h
/-- A step of the project's job. -/
theorem LjAt.code {bd : Nat} (h : LjAt (fun k => Z k ∨ k = bd) ZR w W base lp mb rb jb qb P Pq X Rc Rr J S) (hB : LjB w base lp rb jb qb) {k : Nat} (hk : k < 2) (hzr : ∀ i, ZR i → i ≠ bd) (hzd : jb ≠ bd ∧ qb ≠ bd)
    (hrow : ∀ i, i < 2 → Far Z W jb qb rb (P i).1 (P i).2 (X i) ∧ Far Z W jb qb rb (Pq i).1 (Pq i).2 (X i)) {x : Int} {who : Int}
    (q : JdQ Z jb (k * 4) (P k).1 (P k).2 base lp mb 9 bd W (Lk.stR Rc 9 who (J k)) (Lk.stJ Rc 9 who (J k)) x W') (hxs : (Lk.stJ Rc 9 who (J k)).xs = X k) :
    LjAt (fun k => Z k ∨ k = bd) ZR w W' base lp mb rb jb qb P Pq X (Lk.stR Rc 9 who (J k)) Rr (Lk.updN J k (Lk.stJ Rc 9 who (J k))) S := by
  have hzj : Z jb := h.zj.resolve_right hzd.1
  have hzq : Z qb := h.zq.resolve_right hzd.2
  have hqb := q.only.blk qb hzq (Ne.symm hB.jq)
  have hsz := q.bel.size
  refine ⟨q.lk, h.rl.keep hsz (fun i hi _ => q.only.blk i ((h.zr i hi).1.resolve_right (hzr i hi)) (h.zr i hi).2.1) (fun _ h => h), h.bel.trans (q.bel.mono hB.b0), h.zr, h.zj, h.zq, fun i hi => ?_, fun i => ?_, fun i hi => ?_,
    fun i hi => (hrow i hi).1.keep hsz (fun b hb _ h1 _ _ => q.only.blk b hb h1) (fun _ h => .inl h), fun i hi => (hrow i hi).2.keep hsz (fun b hb _ h1 _ _ => q.only.blk b hb h1) (fun _ h => .inl h),
    fun i hi => (World.cell?_of_block (a := ⟨qb, i * 2, none⟩) hqb).trans (h.q0 i hi), fun i hi => (World.cell?_of_block (a := ⟨qb, i * 2 + 1, none⟩) hqb).trans (h.q1 i hi), fun j => (World.frozen?_of_block (a := ⟨qb, j, none⟩) hqb).trans (h.qf j)⟩
  · by_cases e : i = k
    · subst e
      rw [Lk.updN_same]
      have := q.job
      rwa [hxs] at this
    · rw [Lk.updN_other J _ e]
      have hj := h.jobs i hi
      exact ⟨(q.only.cell _ (by omega) (by omega) (by omega)).trans hj.c0, (q.only.cell _ (by omega) (by omega) (by omega)).trans hj.c1, (q.only.cell _ (by omega) (by omega) (by omega)).trans hj.c2, (q.only.cell _ (by omega) (by omega) (by omega)).trans hj.c3,
        (q.only.froz _).trans hj.f1, (q.only.froz _).trans hj.f2, (q.only.froz _).trans hj.f3⟩
  · by_cases e : i = k
    · subst e; rw [Lk.updN_same]; exact hxs
    · rw [Lk.updN_other J _ e]; exact h.xs i
  · by_cases e : i = k
    · subst e; rw [Lk.updN_same]; exact (h.jv i hi).step Rc 9 who
    · rw [Lk.updN_other J _ e]; exact h.jv i hi
/-- A step of the reference's. -/
theorem LjAt.ref (h : LjAt Z ZR w W base lp mb rb jb qb P Pq X Rc Rr J S) (hB : LjB w base lp rb jb qb) {R' : Int → List Int} (hr : RlAt (ZN ZR W W') W' rb 9 R') (ho : OneAt rb W W') :
    LjAt (ZN Z W W') (ZN ZR W W') w W' base lp mb rb jb qb P Pq X Rc R' J S := by
  have hjl := h.jlt
  have hql := h.qlt
  have hqb := ho.blk qb hql hB.qr
  have hbase : base ≤ W.heap.size := by have := h.lk.b0; have := h.lk.lt; omega
  refine ⟨h.lk.one (h.zr rb h.rl.zb).1 hB.rl ho, hr, h.bel.trans (ho.below (by have := hB.b0; have := hB.br; omega) h.bel.size), fun k hk => ?_, .inl h.zj, .inl h.zq, fun i hi => (h.jobs i hi).on (ho.blk jb hjl hB.jr), h.xs, h.jv,
    fun i hi => (h.prow i hi).keep ho.size (fun b _ hlt _ _ h3 => ho.blk b hlt h3) (fun _ h => .inl h), fun i hi => (h.qrow i hi).keep ho.size (fun b _ hlt _ _ h3 => ho.blk b hlt h3) (fun _ h => .inl h),
    fun i hi => (World.cell?_of_block (a := ⟨qb, i * 2, none⟩) hqb).trans (h.q0 i hi), fun i hi => (World.cell?_of_block (a := ⟨qb, i * 2 + 1, none⟩) hqb).trans (h.q1 i hi), fun j => (World.frozen?_of_block (a := ⟨qb, j, none⟩) hqb).trans (h.qf j)⟩
  rcases hk with hk | hk
  · exact ⟨.inl (h.zr k hk).1, (h.zr k hk).2⟩
  · exact ⟨.inr hk, by omega, by omega⟩
/-- What the reference's job is then, laid down. -/
theorem LjAt.lay (h : LjAt Z ZR w W base lp mb rb jb qb P Pq X Rc Rr J S) (hB : LjB w base lp rb jb qb) {k : Nat} (hk : k < 2) (m : Nat) :
    LjAt Z ZR w (W.setCells qb (k * 2) [.slice (Pq k).1 (X k).length (Pq k).2, .int .i64 (m : Int)]) base lp mb rb jb qb P Pq X Rc Rr J (Lk.updN S k m) := by
  have e : W.setCells qb (k * 2) [.slice (Pq k).1 (X k).length (Pq k).2, .int .i64 (m : Int)] = (W.setCell ⟨qb, k * 2, none⟩ (.slice (Pq k).1 (X k).length (Pq k).2)).setCell ⟨qb, k * 2 + 1, none⟩ (.int .i64 (m : Int)) := rfl
  rw [e]
  have hoth : ∀ b, b ≠ qb → ((W.setCell ⟨qb, k * 2, none⟩ (.slice (Pq k).1 (X k).length (Pq k).2)).setCell ⟨qb, k * 2 + 1, none⟩ (.int .i64 (m : Int))).heap[b]? = W.heap[b]? := fun b hb =>
    (heap_setCell_other _ ⟨qb, k * 2 + 1, none⟩ b _ hb).trans (heap_setCell_other W ⟨qb, k * 2, none⟩ b _ hb)
  have hsz : ((W.setCell ⟨qb, k * 2, none⟩ (.slice (Pq k).1 (X k).length (Pq k).2)).setCell ⟨qb, k * 2 + 1, none⟩ (.int .i64 (m : Int))).heap.size = W.heap.size := by rw [World.size_setCell, World.size_setCell]
  have hle : W.heap.size ≤ ((W.setCell ⟨qb, k * 2, none⟩ (.slice (Pq k).1 (X k).length (Pq k).2)).setCell ⟨qb, k * 2 + 1, none⟩ (.int .i64 (m : Int))).heap.size := by omega
  have hwq : w.heap.size ≤ qb := Nat.le_trans hB.b0 hB.bq
  refine ⟨(h.lk.far h.zq hB.ql _).far h.zq hB.ql _, h.rl.keep hle (fun b hb _ => hoth b (h.zr b hb).2.2) (fun _ h => h), (h.bel.setCell (p := ⟨qb, k * 2, none⟩) hwq _).setCell (p := ⟨qb, k * 2 + 1, none⟩) hwq _, h.zr, h.zj, h.zq, fun i hi => (h.jobs i hi).on (hoth jb hB.jq), h.xs, h.jv,
    fun i hi => (h.prow i hi).keep hle (fun b _ _ _ h2 _ => hoth b h2) (fun _ h => h), fun i hi => (h.qrow i hi).keep hle (fun b _ _ _ h2 _ => hoth b h2) (fun _ h => h), fun i hi => ?_, fun i hi => ?_, fun j => by rw [World.frozen?_setCell, World.frozen?_setCell]; exact h.qf j⟩
  · rw [cell_ne (by omega)]
    by_cases e : i = k
    · subst e; exact cell_eq (h.q0 i hi) _
    · rw [cell_ne (by omega)]; exact h.q0 i hi
  · by_cases e : i = k
    · subst e
      rw [Lk.updN_same]
      exact cell_eq (u := .int .i64 (S i : Int)) (by rw [cell_ne (by omega)]; exact h.q1 i hi) _
    · rw [Lk.updN_other S _ e, cell_ne (by omega), cell_ne (by omega)]
      exact h.q1 i hi
theorem LjAt.congr {S' : Nat → Nat} (h : LjAt Z ZR w W base lp mb rb jb qb P Pq X Rc Rr J S) (hs : ∀ i, i < 2 → S' i = S i) : LjAt Z ZR w W base lp mb rb jb qb P Pq X Rc Rr J S' :=
  ⟨h.lk, h.rl, h.bel, h.zr, h.zj, h.zq, h.jobs, h.xs, h.jv, h.prow, h.qrow, h.q0, fun i hi => by rw [hs i hi]; exact h.q1 i hi, h.qf⟩
end
end Go.Proofs.Ytgegahnjhaldeaa
