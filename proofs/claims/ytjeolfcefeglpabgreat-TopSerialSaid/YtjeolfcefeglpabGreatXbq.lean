/-
  A job's step in the law TopWhole: whatever it is, the number over the line's end stays one of those that were stored. A job's step in the law TopWhole, as one contract. What stands in a round of the law TopWhole.
-/
import Derived.Test.YtjeolfcefeglpabGreatXbp
set_option maxRecDepth 20000
namespace Go.Proofs.YtjeolfcefeglpabGreat
open Go.ChangeShapes Go.WideShapes Go.ChangeAt Go.RowKit Wd

/-- The locks stay where blocks that are none of theirs change. -/
theorem LkAt.but {Z S : Nat → Prop} {w w' : World} {base lp mb n : Nat} {R : Int → List Int} (h : LkAt Z w base lp mb n R) (hb : But S w w') (hS : ∀ k, S k → Z k ∧ k ≠ lp) : LkAt Z w' base lp mb n R := by
  obtain ⟨D, hs, hD, hF, hR, hX, hY⟩ := h.own
  have hlp : ¬ S lp := fun e => (hS lp e).2 rfl
  have hmb : ¬ S mb := fun e => (h.flt mb (hS mb e).1).2 rfl
  refine ⟨h.ok, h.n0, h.n1, (World.cell?_of_block (w := w) (a := ⟨lp, 0, none⟩) (hb.block lp h.lt hlp)).trans h.c0, (World.cell?_of_block (w := w) (a := ⟨lp, 1, none⟩) (hb.block lp h.lt hlp)).trans h.c1, h.b0, h.b1, Nat.lt_of_lt_of_le h.lt hb.size, h.ne,
    fun k hk => ⟨Nat.lt_of_lt_of_le (h.flt k hk).1 hb.size, (h.flt k hk).2⟩, D, hs, map_on hD (hb.block mb hD.lt hmb), hF, fun i hi => (hR i hi).keep fun b o m c he => ?_, hX, hY⟩
  have hlt : b < w.heap.size := by
    rcases hR i hi with ⟨e, -⟩ | ⟨b', o', c', e, hr⟩
    · rw [e] at he; cases he
    · rw [e] at he
      cases he
      exact hr.lt
  exact hb.block b hlt fun e => (hX i b o m c hi he).2.2 (hS b e).1
/-- A job's row, which lies apart. -/
structure RowT (Z : Nat → Prop) (jb : Nat) (S : Nat → Prop) (W : World) (p : Option Addr) (cap : Nat) (xs : List Int) : Prop where
  v : Vw W p (iV xs)
  f : p = none ∧ cap = 0 ∨ ∃ b off, p = some ⟨b, off, none⟩
  a : ∀ b off, p = some ⟨b, off, none⟩ → Z b ∧ b ≠ jb ∧ ¬ S b
theorem RowT.keep {Z S : Nat → Prop} {jb : Nat} {W W' : World} {p : Option Addr} {cap : Nat} {xs : List Int} (h : RowT Z jb S W p cap xs) (hk : ∀ b, b < W.heap.size → Z b → b ≠ jb → ¬ S b → W'.heap[b]? = W.heap[b]?) : RowT Z jb S W' p cap xs := by
  refine ⟨?_, h.f, h.a⟩
  rcases h.v with e | ⟨b, off, rfl, hlt, hc⟩
  · exact .inl e
  · obtain ⟨hz, hj, hs⟩ := h.a b off rfl
    have hblk := hk b hlt hz hj hs
    by_cases hx : iV xs = []
    · exact .inl hx
    · obtain ⟨u, l, hul⟩ : ∃ u l, iV xs = u :: l := by cases hh : iV xs with | nil => exact absurd hh hx | cons u l => exact ⟨u, l, rfl⟩
      have h0 := hc 0 u (by rw [hul]; rfl)
      have h0' := (World.cell?_of_block (w := W) (a := ⟨b, off + 0, none⟩) hblk).trans h0
      exact .inr ⟨b, off, rfl, World.block_lt_of_cell? W' _ h0', fun j v hj => (World.cell?_of_block (w := W) (a := ⟨b, off + j, none⟩) hblk).trans (hc j v hj)⟩
/-- Another job in the same array stays. -/
theorem job_oth {Z : Nat → Prop} {W W' : World} {jb k o : Nat} {v : Value} {t g : Int} {d : Bool} (h : JobAt W jb (o * 4) v t g d) (hj : JobOnly Z jb (k * 4) W W') (hko : k ≠ o) : JobAt W' jb (o * 4) v t g d := by
  have c : ∀ i u, i < 4 → W.cell? ⟨jb, o * 4 + i, none⟩ = some u → W'.cell? ⟨jb, o * 4 + i, none⟩ = some u := fun i u hi hv => (hj.cell (o * 4 + i) (by omega) (by omega) (by omega)).trans hv
  exact ⟨c 0 _ (by omega) h.c0, c 1 _ (by omega) h.c1, c 2 _ (by omega) h.c2, c 3 _ (by omega) h.c3, (hj.froz (o * 4 + 1)).trans h.f1, (hj.froz (o * 4 + 2)).trans h.f2, (hj.froz (o * 4 + 3)).trans h.f3⟩
/-- The blocks that the closure may change. -/
abbrev WhC (sb mb xb : Nat) : Nat → Prop := fun k => k = sb ∨ k = mb ∨ k = xb
/-- Those that no job's row lies in. -/
abbrev WhR (sb mb xb ub : Nat) : Nat → Prop := fun k => WhC sb mb xb k ∨ k = ub
/-- What holds beside the locks and the job whose step it is. -/
structure WhE (Z : Nat → Prop) (W : World) (sb rb mb bs jb ub xb hb ab : Nat) (at_ a b h : Int) (x : Ak) (u : Nat → Bool) (o : Nat) (Po : Option Addr × Nat) (so : Lk.JS) (Pk : Option Addr × Nat) (xk : List Int) : Prop where
  mem : ∃ B T v, WhS W sb rb mb bs ub xb B T v u ∧ (whN B at_ = 0 ∨ whN B at_ = a ∨ whN B at_ = b) ∧ (v = 0 ∨ v = a ∨ v = b)
  hb : W.cell? ⟨hb, 0, none⟩ = some (.int .i64 h)
  ab : AkAt W ab x
  oth : JobAt W jb (o * 4) (.slice Po.1 so.xs.length Po.2) so.t so.g so.d
  ro : RowT Z jb (WhR sb mb xb ub) W Po.1 Po.2 so.xs
  rk : RowT Z jb (WhR sb mb xb ub) W Pk.1 Pk.2 xk
  fz : ∀ j, W.frozen? ⟨jb, j, none⟩ = false
/-- Which blocks are none of the locks'. -/
structure WhZ (Z : Nat → Prop) (sb rb mb bs jb ub xb hb ab lp : Nat) : Prop where
  z : Z sb ∧ Z rb ∧ Z mb ∧ Z bs ∧ Z ub ∧ Z xb ∧ Z hb ∧ Z ab ∧ Z jb
  l : sb ≠ lp ∧ mb ≠ lp ∧ xb ≠ lp ∧ jb ≠ lp
  h : hb ≠ sb ∧ hb ≠ mb ∧ hb ≠ xb ∧ hb ≠ jb
  a : ab ≠ sb ∧ ab ≠ mb ∧ ab ≠ xb ∧ ab ≠ jb
section
variable {Z : Nat → Prop} {W W' : World} {sb rb mb bs jb ub xb hb ab lp : Nat} {at_ a b h : Int} {x : Ak} {u : Nat → Bool} {k o : Nat} {Po Pk : Option Addr × Nat} {so : Lk.JS} {xk : List Int}
theorem WhE.low (e : WhE Z W sb rb mb bs jb ub xb hb ab at_ a b h x u o Po so Pk xk) (hw : Below W.heap.size W W') : WhE Z W' sb rb mb bs jb ub xb hb ab at_ a b h x u o Po so Pk xk := by
  obtain ⟨B, T, v, h1, h2, h3⟩ := e.mem
  have hlt : jb < W.heap.size := e.oth.lt
  exact ⟨⟨B, T, v, h1.low hw, h2, h3⟩, (hw.cell (p := ⟨hb, 0, none⟩) (World.block_lt_of_cell? _ _ e.hb)).trans e.hb, e.ab.low hw, e.oth.low hw, e.ro.keep fun b hb _ _ _ => hw.block b hb, e.rk.keep fun b hb _ _ _ => hw.block b hb,
    fun j => (World.frozen?_of_block (w := W) (a := ⟨jb, j, none⟩) (hw.block jb hlt)).trans (e.fz j)⟩
theorem WhE.only (e : WhE Z W sb rb mb bs jb ub xb hb ab at_ a b h x u o Po so Pk xk) (hB : WhB sb rb mb bs jb ub xb) (hZ : WhZ Z sb rb mb bs jb ub xb hb ab lp) (hko : k ≠ o) (hj : JobOnly Z jb (k * 4) W W') : WhE Z W' sb rb mb bs jb ub xb hb ab at_ a b h x u o Po so Pk xk := by
  obtain ⟨B, T, v, h1, h2, h3⟩ := e.mem
  have hbj := hB.j
  have hz := hZ.z
  have hh := hZ.h
  have ha := hZ.a
  refine ⟨⟨B, T, v, h1.keep fun q hq => ?_, h2, h3⟩, (World.cell?_of_block (w := W) (a := ⟨hb, 0, none⟩) (hj.blk hb hz.2.2.2.2.2.2.1 hh.2.2.2)).trans e.hb, ⟨(hj.blk ab hz.2.2.2.2.2.2.2.1 ha.2.2.2).trans e.ab.cs⟩, ?_, e.ro.keep fun b _ hzb hbj _ => hj.blk b hzb hbj, e.rk.keep fun b _ hzb hbj _ => hj.blk b hzb hbj, fun j => (hj.froz j).trans (e.fz j)⟩
  · rcases hq with rfl | rfl | rfl | rfl | rfl | rfl
    · exact hj.blk _ hz.1 (by omega)
    · exact hj.blk _ hz.2.1 (by omega)
    · exact hj.blk _ hz.2.2.1 (by omega)
    · exact hj.blk _ hz.2.2.2.1 (by omega)
    · exact hj.blk _ hz.2.2.2.2.1 (by omega)
    · exact hj.blk _ hz.2.2.2.2.2.1 (by omega)
  · exact job_oth e.oth hj hko
end
end Go.Proofs.YtjeolfcefeglpabGreat
set_option maxRecDepth 20000
namespace Go.Proofs.YtjeolfcefeglpabGreat
open Go.ChangeShapes Go.WideShapes Go.ChangeAt Go.RowKit Wd

/-- The ask of a hart. -/
abbrev whAsk (at_ y h : Int) : Ak := if h = 0 then stT2 at_ y else ldT at_
theorem whAsk_in {at_ y h : Int} (hat : WhIn at_) (hy : 0 ≤ y ∧ y ≤ 18446744073709551615) : (whAsk at_ y h).In := by
  unfold whAsk
  split
  · exact stT2_in hat hy
  · exact ldT_in hat
theorem whstep_c {Z : Nat → Prop} {W : World} {sb rb mb bs jb ub xb hb ab lp lbase lmb : Nat} {at_ a b h y : Int} {u : Nat → Bool} {k o : Nat} {Po Pk : Option Addr × Nat} {so s : Lk.JS} {R : Int → List Int} (who : Int)
    (hat : WhIn at_) (hy : 0 ≤ y ∧ y ≤ 18446744073709551615) (hab : y = a ∨ y = b) (hh : h = 0 ∨ h = 1) (hB : WhB sb rb mb bs jb ub xb) (hZ : WhZ Z sb rb mb bs jb ub xb hb ab lp) (hko : k ≠ o) (hlo : lbase ≤ sb ∧ lbase ≤ mb ∧ lbase ≤ xb ∧ lbase ≤ jb)
    (hL : LkAt Z W lbase lp lmb 2 R) (hj : JobAt W jb (k * 4) (.slice Pk.1 s.xs.length Pk.2) s.t s.g s.d) (hs : Lk.JvT s) (he : WhE Z W sb rb mb bs jb ub xb hb ab at_ a b h (whAsk at_ y h) u o Po so Pk s.xs) :
    Calls Tryz.prog 11 #[.pointer (some ⟨jb, k * 4, none⟩), .pointer (some ⟨lp, 0, none⟩), .int .i64 who, .func (.func 21) #[] #[.pointer (some ⟨bs, 0, none⟩), .pointer (some ⟨hb, 0, none⟩), .pointer (some ⟨ab, 0, none⟩), .pointer (some ⟨xb, 0, none⟩)]] W fun e w' =>
      ∃ r, e = .returned (.int .i64 r) ∧ GsQ Z jb (k * 4) Pk.1 Pk.2 lbase lp lmb 2 W (Lk.stR R 2 who s) (Lk.stJ R 2 who s) (fun W' => WhE Z W' sb rb mb bs jb ub xb hb ab at_ a b h (whAsk at_ y h) u o Po so Pk s.xs) w' := by
  have hS : ∀ q, WhC sb mb xb q → Z q ∧ q ≠ lp := by
    intro q hq
    have hz := hZ.z
    have hl := hZ.l
    rcases hq with rfl | rfl | rfl
    · exact ⟨hz.1, hl.1⟩
    · exact ⟨hz.2.2.1, hl.2.1⟩
    · exact ⟨hz.2.2.2.2.2.1, hl.2.2.1⟩
  have hSlo : ∀ q, WhC sb mb xb q → lbase ≤ q := by
    intro q hq
    rcases hq with rfl | rfl | rfl
    · exact hlo.1
    · exact hlo.2.1
    · exact hlo.2.2.1
  have njb : ¬ WhC sb mb xb jb := by have := hB.j; rintro (e | e | e) <;> omega
  have nhb : ¬ WhC sb mb xb hb := by have := hZ.h; rintro (e | e | e) <;> omega
  have nab : ¬ WhC sb mb xb ab := by have := hZ.a; rintro (e | e | e) <;> omega
  refine (gstep_c jb (k * 4) Pk.1 Pk.2 lbase lp lmb 2 R s who W 21 _ (fun W' => WhE Z W' sb rb mb bs jb ub xb hb ab at_ a b h (whAsk at_ y h) u o Po so Pk s.xs) (fun W' => WhE Z W' sb rb mb bs jb ub xb hb ab at_ a b h (whAsk at_ y h) u o Po so Pk s.xs)
    hL hj hs hZ.z.2.2.2.2.2.2.2.2 hZ.l.2.2.2 hlo.2.2.2 he.rk.v he.rk.f (fun pb po e => (he.rk.a pb po e).2.1) he (fun p q hp hq => hp.only hB hZ hko hq) (fun p q hp hq => hp.low hq) enters_whole ?_).mono ?_
  · intro W1 e1 l1 j1 b1
    obtain ⟨B, T, v, m1, m2, m3⟩ := e1.mem
    refine (whole1_c bs hb ab xb (whAsk at_ y h) (whAsk_in hat hy) h v W1 m1.sh m1.s0 e1.hb e1.ab m1.seen ⟨hZ.h.1, hZ.h.2.1⟩ hB.x).mono ?_
    rintro e w' ⟨rfl, ⟨d, g, ok, B', T', s1, s2, s3, s4, -⟩, hbut⟩
    obtain ⟨q1, q2⟩ := whole_kept hat m1.sh.ram.ok m2 m3 hab hy hh s3 s4
    have hjb := hbut.block jb j1.lt njb
    refine ⟨rfl, ⟨⟨B', T', _, m1.did hB s1 s2 hbut, q1, q2⟩, (World.cell?_of_block (w := W1) (a := ⟨hb, 0, none⟩) (hbut.block hb (World.block_lt_of_cell? _ _ e1.hb) nhb)).trans e1.hb, ⟨(hbut.block ab e1.ab.cs.lt nab).trans e1.ab.cs⟩, e1.oth.on hjb, e1.ro.keep fun b hb _ _ hs => hbut.block b hb fun e => hs (.inl e), e1.rk.keep fun b hb _ _ hs => hbut.block b hb fun e => hs (.inl e),
      fun j => (World.frozen?_of_block (w := W1) (a := ⟨jb, j, none⟩) hjb).trans (e1.fz j)⟩, l1.but hbut hS, j1.on hjb, b1.trans (hbut.below (by have := b1.size; have := hL.b0; have := hL.lt; omega) hSlo)⟩
  · rintro e w' ⟨r, rfl, hq⟩
    refine ⟨r, rfl, hq.lk, hq.bel, hq.job, ?_⟩
    have := hq.env
    split at this
    · exact this
    · exact this
end Go.Proofs.YtjeolfcefeglpabGreat
set_option maxRecDepth 20000
namespace Go.Proofs.YtjeolfcefeglpabGreat
open Go.ChangeShapes Go.WideShapes Go.ChangeAt Go.RowKit Wd

/-- What stands in a round: memory, the locks, both jobs. -/
structure WhL (Z : Nat → Prop) (w W : World) (sb rb mb bs jb ub xb lp lbase lmb : Nat) (R : Int → List Int) (at_ a b : Int) (u : Nat → Bool) (P : Nat → Option Addr × Nat) (J : Nat → Lk.JS) : Prop where
  mem : ∃ B T v, WhS W sb rb mb bs ub xb B T v u ∧ (whN B at_ = 0 ∨ whN B at_ = a ∨ whN B at_ = b) ∧ (v = 0 ∨ v = a ∨ v = b)
  lk : LkAt Z W lbase lp lmb 2 R
  jobs : ∀ i, i < 2 → JobAt W jb (i * 4) (.slice (P i).1 (J i).xs.length (P i).2) (J i).t (J i).g (J i).d
  jv : ∀ i, i < 2 → Lk.JvT (J i)
  rows : ∀ i, i < 2 → RowT Z jb (WhR sb mb xb ub) W (P i).1 (P i).2 (J i).xs
  fz : ∀ j, W.frozen? ⟨jb, j, none⟩ = false
  bel : Below w.heap.size w W
  B : WhB sb rb mb bs jb ub xb
  z : Z sb ∧ Z rb ∧ Z mb ∧ Z bs ∧ Z ub ∧ Z xb ∧ Z jb
  l : sb ≠ lp ∧ mb ≠ lp ∧ xb ≠ lp ∧ jb ≠ lp ∧ ub ≠ lp
  lo : lbase ≤ sb ∧ lbase ≤ mb ∧ lbase ≤ xb ∧ lbase ≤ jb ∧ w.heap.size ≤ lbase ∧ w.heap.size ≤ ub
theorem RowT.more {Z Y S : Nat → Prop} {jb : Nat} {W : World} {p : Option Addr} {cap : Nat} {xs : List Int} (h : RowT Z jb S W p cap xs) (hz : ∀ k, Z k → Y k) : RowT Y jb S W p cap xs := ⟨h.v, h.f, fun b off e => ⟨hz _ (h.a b off e).1, (h.a b off e).2⟩⟩
section
variable {Z Y : Nat → Prop} {w W W' : World} {sb rb mb bs jb ub xb lp lbase lmb : Nat} {R : Int → List Int} {at_ a b : Int} {u : Nat → Bool} {P : Nat → Option Addr × Nat} {J : Nat → Lk.JS}
theorem WhL.jlt (h : WhL Z w W sb rb mb bs jb ub xb lp lbase lmb R at_ a b u P J) : jb < W.heap.size := (h.jobs 0 (by omega)).lt
/-- New blocks, which may be anybody's. -/
theorem WhL.more (h : WhL Z w W sb rb mb bs jb ub xb lp lbase lmb R at_ a b u P J) (hb : Below W.heap.size W W') (hy : ∀ k, Y k → Z k ∨ (W.heap.size ≤ k ∧ k < W'.heap.size)) (hz : ∀ k, Z k → Y k) : WhL Y w W' sb rb mb bs jb ub xb lp lbase lmb R at_ a b u P J := by
  obtain ⟨B, T, v, m1, m2, m3⟩ := h.mem
  obtain ⟨z1, z2, z3, z4, z5, z6, z7⟩ := h.z
  exact ⟨⟨B, T, v, m1.low hb, m2, m3⟩, h.lk.more hb hy, fun i hi => (h.jobs i hi).low hb, h.jv, fun i hi => ((h.rows i hi).keep fun b hlt _ _ _ => hb.block b hlt).more hz, fun j => (World.frozen?_of_block (w := W) (a := ⟨jb, j, none⟩) (hb.block jb h.jlt)).trans (h.fz j),
    h.bel.trans (hb.mono h.bel.size), h.B, ⟨hz _ z1, hz _ z2, hz _ z3, hz _ z4, hz _ z5, hz _ z6, hz _ z7⟩, h.l, h.lo⟩
theorem WhL.low (h : WhL Z w W sb rb mb bs jb ub xb lp lbase lmb R at_ a b u P J) (hb : Below W.heap.size W W') : WhL Z w W' sb rb mb bs jb ub xb lp lbase lmb R at_ a b u P J := h.more hb (fun _ hk => .inl hk) fun _ hk => hk
/-- A bool of busy, laid. -/
theorem WhL.mark (h : WhL Z w W sb rb mb bs jb ub xb lp lbase lmb R at_ a b u P J) {k : Nat} (hk : k < 2) (q : Bool) : WhL Z w (W.setCell ⟨ub, k, none⟩ (.bool q)) sb rb mb bs jb ub xb lp lbase lmb R at_ a b (fun i => if i = k then q else u i) P J := by
  obtain ⟨B, T, v, m1, m2, m3⟩ := h.mem
  have hj := h.B.j
  have hu := h.B.u
  have oth : ∀ c, c ≠ ub → (W.setCell ⟨ub, k, none⟩ (.bool q)).heap[c]? = W.heap[c]? := fun c hc => heap_setCell_other W ⟨ub, k, none⟩ c _ hc
  have hbu : CsAt (W.setCell ⟨ub, k, none⟩ (.bool q)) ub 81 #[.bool (if 0 = k then q else u 0), .bool (if 1 = k then q else u 1)] := by
    have e := setAn m1.busy k (.bool q)
    obtain rfl | rfl : k = 0 ∨ k = 1 := by omega
    · exact e
    · exact e
  have o1 := oth sb (Ne.symm hu.1)
  have o2 := oth rb (Ne.symm hu.2.1)
  have o3 := oth mb (Ne.symm hu.2.2.1)
  have o4 := oth bs (Ne.symm hu.2.2.2.2)
  have o5 := oth xb (Ne.symm hu.2.2.2.1)
  have o6 := oth jb hj.2.2.2.2.1
  exact ⟨⟨B, T, v, ⟨m1.sh.keep o1 o2 o3, (World.cell?_of_block (w := W) (a := ⟨bs, 0, none⟩) o4).trans m1.s0, o5.trans m1.seen, hbu⟩, m2, m3⟩, h.lk.far h.z.2.2.2.2.1 h.l.2.2.2.2 _, fun i hi => (h.jobs i hi).on o6, h.jv, fun i hi => (h.rows i hi).keep fun b _ _ _ hs => oth b fun e => hs (.inr e),
    fun j => (World.frozen?_of_block (w := W) (a := ⟨jb, j, none⟩) o6).trans (h.fz j), h.bel.setCell (p := ⟨ub, k, none⟩) h.lo.2.2.2.2.2 _, h.B, h.z, h.l, h.lo⟩
/-- A job, laid. -/
theorem WhL.lay (h : WhL Z w W sb rb mb bs jb ub xb lp lbase lmb R at_ a b u P J) {k : Nat} (hk : k < 2) {p : Option Addr} {cap : Nat} {xs : List Int} (hs : Lk.JvT ⟨xs, 0, 0, false⟩) (hr : RowT Z jb (WhR sb mb xb ub) W p cap xs) :
    WhL Z w (W.setCells jb (k * 4) [.slice p xs.length cap, .int .i64 0, .int .i64 0, .bool false]) sb rb mb bs jb ub xb lp lbase lmb R at_ a b u (fun i => if i = k then (p, cap) else P i) (fun i => if i = k then ⟨xs, 0, 0, false⟩ else J i) := by
  obtain ⟨B, T, v, m1, m2, m3⟩ := h.mem
  have hj := h.B.j
  have e : W.setCells jb (k * 4) [.slice p xs.length cap, .int .i64 0, .int .i64 0, .bool false] = (((W.setCell ⟨jb, k * 4, none⟩ (.slice p xs.length cap)).setCell ⟨jb, k * 4 + 1, none⟩ (.int .i64 0)).setCell ⟨jb, k * 4 + 2, none⟩ (.int .i64 0)).setCell ⟨jb, k * 4 + 3, none⟩ (.bool false) := rfl
  rw [e]
  have oth : ∀ c, c ≠ jb → ((((W.setCell ⟨jb, k * 4, none⟩ (.slice p xs.length cap)).setCell ⟨jb, k * 4 + 1, none⟩ (.int .i64 0)).setCell ⟨jb, k * 4 + 2, none⟩ (.int .i64 0)).setCell ⟨jb, k * 4 + 3, none⟩ (.bool false)).heap[c]? = W.heap[c]? := fun c hc =>
    (((heap_setCell_other _ ⟨jb, k * 4 + 3, none⟩ c _ hc).trans (heap_setCell_other _ ⟨jb, k * 4 + 2, none⟩ c _ hc)).trans (heap_setCell_other _ ⟨jb, k * 4 + 1, none⟩ c _ hc)).trans (heap_setCell_other W ⟨jb, k * 4, none⟩ c _ hc)
  have fr : ∀ j, ((((W.setCell ⟨jb, k * 4, none⟩ (.slice p xs.length cap)).setCell ⟨jb, k * 4 + 1, none⟩ (.int .i64 0)).setCell ⟨jb, k * 4 + 2, none⟩ (.int .i64 0)).setCell ⟨jb, k * 4 + 3, none⟩ (.bool false)).frozen? ⟨jb, j, none⟩ = false := fun j => by
    rw [World.frozen?_setCell, World.frozen?_setCell, World.frozen?_setCell, World.frozen?_setCell]; exact h.fz j
  have hwj : w.heap.size ≤ jb := Nat.le_trans h.lo.2.2.2.2.1 h.lo.2.2.2.1
  have hk0 := h.jobs k hk
  have rows : ∀ {p' : Option Addr} {cap' : Nat} {xs' : List Int}, RowT Z jb (WhR sb mb xb ub) W p' cap' xs' → RowT Z jb (WhR sb mb xb ub) ((((W.setCell ⟨jb, k * 4, none⟩ (.slice p xs.length cap)).setCell ⟨jb, k * 4 + 1, none⟩ (.int .i64 0)).setCell ⟨jb, k * 4 + 2, none⟩ (.int .i64 0)).setCell ⟨jb, k * 4 + 3, none⟩ (.bool false)) p' cap' xs' := fun hh => hh.keep fun b _ _ hb _ => oth b hb
  refine ⟨⟨B, T, v, m1.keep fun c hc => oth c ?_, m2, m3⟩, (((h.lk.far h.z.2.2.2.2.2.2 h.l.2.2.2.1 _).far h.z.2.2.2.2.2.2 h.l.2.2.2.1 _).far h.z.2.2.2.2.2.2 h.l.2.2.2.1 _).far h.z.2.2.2.2.2.2 h.l.2.2.2.1 _, fun i hi => ?_, fun i hi => ?_, fun i hi => ?_, fr,
    (((h.bel.setCell (p := ⟨jb, k * 4, none⟩) hwj _).setCell (p := ⟨jb, k * 4 + 1, none⟩) hwj _).setCell (p := ⟨jb, k * 4 + 2, none⟩) hwj _).setCell (p := ⟨jb, k * 4 + 3, none⟩) hwj _, h.B, h.z, h.l, h.lo⟩
  · rcases hc with rfl | rfl | rfl | rfl | rfl | rfl
    · exact Ne.symm hj.1
    · exact Ne.symm hj.2.1
    · exact Ne.symm hj.2.2.1
    · exact Ne.symm hj.2.2.2.1
    · exact Ne.symm hj.2.2.2.2.1
    · exact Ne.symm hj.2.2.2.2.2
  · by_cases ei : i = k
    · subst ei
      simp only [if_true]
      refine ⟨?_, ?_, ?_, ?_, fr _, fr _, fr _⟩
      · rw [cell_ne (by omega), cell_ne (by omega), cell_ne (by omega)]
        exact cell_eq hk0.c0 _
      · rw [cell_ne (by omega), cell_ne (by omega)]
        exact cell_eq (by rw [cell_ne (by omega)]; exact hk0.c1) _
      · rw [cell_ne (by omega)]
        exact cell_eq (by rw [cell_ne (by omega), cell_ne (by omega)]; exact hk0.c2) _
      · exact cell_eq (by rw [cell_ne (by omega), cell_ne (by omega), cell_ne (by omega)]; exact hk0.c3) _
    · simp only [if_neg ei]
      have hi0 := h.jobs i hi
      refine ⟨?_, ?_, ?_, ?_, fr _, fr _, fr _⟩
      · rw [cell_ne (by omega), cell_ne (by omega), cell_ne (by omega), cell_ne (by omega)]; exact hi0.c0
      · rw [cell_ne (by omega), cell_ne (by omega), cell_ne (by omega), cell_ne (by omega)]; exact hi0.c1
      · rw [cell_ne (by omega), cell_ne (by omega), cell_ne (by omega), cell_ne (by omega)]; exact hi0.c2
      · rw [cell_ne (by omega), cell_ne (by omega), cell_ne (by omega), cell_ne (by omega)]; exact hi0.c3
  · by_cases ei : i = k
    · simp only [if_pos ei]; exact hs
    · simp only [if_neg ei]; exact h.jv i hi
  · by_cases ei : i = k
    · simp only [if_pos ei]; exact rows hr
    · simp only [if_neg ei]; exact rows (h.rows i hi)
end
end Go.Proofs.YtjeolfcefeglpabGreat
