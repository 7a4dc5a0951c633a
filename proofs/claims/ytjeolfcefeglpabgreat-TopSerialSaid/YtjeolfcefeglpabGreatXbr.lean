/-
  A round of the law TopWhole: a job's step between what stood before and what stands behind it. The law TopWhole: what its walk begins with. Plain: jobs that take rising locks: what always holds, and that nobody is stuck.
-/
import Derived.Test.YtjeolfcefeglpabGreatXbq
import Derived.Test.YtjeolfcefeglpabGreatXbk
import Derived.Test.YtjeolfcefeglpabGreatXbm
import Derived.Deep.MidRow
import Derived.Test.YtjeolfcefeglpabGreatXbo
set_option maxRecDepth 20000
namespace Go.Proofs.YtjeolfcefeglpabGreat
open Go.ChangeShapes Go.WideShapes Go.ChangeAt Go.RowKit Wd

namespace Lk
theorem JvT.step {s : JS} (h : JvT s) (R : Int → List Int) (n : Nat) (who : Int) : JvT (stJ R n who s) := by
  unfold stJ
  cases ho : s.over
  · rw [if_neg (by simp)]
    by_cases ht : s.t < s.xs.length
    · rw [if_pos ht]
      have hd : s.d = false := by
        cases hd : s.d
        · rfl
        · have := h.dt hd; omega
      by_cases hT : takeT R n who (s.xs.getD s.t 0) = true
      · rw [if_pos hT]
        exact ⟨ht, h.g, fun e => (by rw [hd] at e; cases e), h.dg, h.len, h.rng⟩
      · rw [if_neg hT]; exact h
    · rw [if_neg ht]
      cases hd : s.d
      · rw [if_neg (by simp)]
        have := h.dg hd
        exact ⟨h.t, h.g, fun _ => (by have := h.t; show s.t = s.xs.length; omega), fun e => (by cases e), h.len, h.rng⟩
      · rw [if_pos rfl]
        have hg : s.g ≠ s.xs.length := fun e => by unfold JS.over at ho; rw [hd, decide_eq_true e] at ho; cases ho
        exact ⟨h.t, (by have := h.g; show s.g + 1 ≤ s.xs.length; omega), fun _ => h.dt hd, fun e => (by cases e), h.len, h.rng⟩
  · rw [if_pos rfl]; exact h
theorem stJ_needT (R : Int → List Int) (n : Nat) (who : Int) (s : JS) : (stJ R n who s).xs = s.xs := by
  unfold stJ
  split
  · rfl
  · split
    · split <;> rfl
    · split <;> rfl
/-- A job that hasn't begun. -/
theorem JvT.new {xs : List Int} (hl : xs.length ≤ 1000) (hr : ∀ x ∈ xs, InI x) : JvT ⟨xs, 0, 0, false⟩ := ⟨Nat.zero_le _, Nat.zero_le _, fun e => (by cases e), fun _ => rfl, hl, hr⟩
end Lk
section
variable {Z : Nat → Prop} {w W W' : World} {sb rb mb bs jb ub xb lp lbase lmb hb ab : Nat} {R : Int → List Int} {at_ a b h : Int} {x : Ak} {u : Nat → Bool} {P : Nat → Option Addr × Nat} {J : Nat → Lk.JS} {k o : Nat}
theorem WhL.env (hl : WhL Z w W sb rb mb bs jb ub xb lp lbase lmb R at_ a b u P J) (hk : k < 2) (ho : o < 2) (hh : W.cell? ⟨hb, 0, none⟩ = some (.int .i64 h)) (ha : AkAt W ab x) : WhE Z W sb rb mb bs jb ub xb hb ab at_ a b h x u o (P o) (J o) (P k) (J k).xs :=
  ⟨hl.mem, hh, ha, hl.jobs o ho, hl.rows o ho, hl.rows k hk, hl.fz⟩
theorem WhL.stepped (hl : WhL Z w W sb rb mb bs jb ub xb lp lbase lmb R at_ a b u P J) (hk : k < 2) (hko : k ≠ o) (ho : o < 2) (who : Int)
    (q : GsQ Z jb (k * 4) (P k).1 (P k).2 lbase lp lmb 2 W (Lk.stR R 2 who (J k)) (Lk.stJ R 2 who (J k)) (fun W' => WhE Z W' sb rb mb bs jb ub xb hb ab at_ a b h x u o (P o) (J o) (P k) (J k).xs) W') :
    WhL Z w W' sb rb mb bs jb ub xb lp lbase lmb (Lk.stR R 2 who (J k)) at_ a b u P (fun i => if i = k then Lk.stJ R 2 who (J k) else J i) := by
  have e := q.env
  refine ⟨e.mem, q.lk, fun i hi => ?_, fun i hi => ?_, fun i hi => ?_, e.fz, hl.bel.trans (q.bel.mono hl.lo.2.2.2.2.1), hl.B, hl.z, hl.l, hl.lo⟩
  · by_cases ei : i = k
    · subst ei
      simp only [if_true]
      exact q.job
    · simp only [if_neg ei]
      obtain rfl : i = o := by omega
      exact e.oth
  · by_cases ei : i = k
    · simp only [if_pos ei]
      exact (hl.jv k hk).step R 2 who
    · simp only [if_neg ei]
      exact hl.jv i hi
  · by_cases ei : i = k
    · subst ei
      simp only [if_true]
      rw [Lk.stJ_needT]
      exact e.rk
    · simp only [if_neg ei]
      obtain rfl : i = o := by omega
      exact e.ro
end
end Go.Proofs.YtjeolfcefeglpabGreat
set_option maxRecDepth 20000
namespace Go.Proofs.YtjeolfcefeglpabGreat
open Go.ChangeShapes Go.WideShapes Go.ChangeAt Go.RowKit Wd

theorem RwS.lower {w : World} {base b' b o c : Nat} {xs : List Int} (h : RwS w base b o c xs) (hb : b' ≤ base) : RwS w b' b o c xs := ⟨h.pos, h.le, h.max, Nat.le_trans hb h.base, h.lt, h.cell, h.spare, h.froz, h.ty⟩
/-- A lower base; blocks that are older than the locks are none of theirs. -/
theorem LkAt.wide {Z Y : Nat → Prop} {w : World} {base b' lp mb n : Nat} {R : Int → List Int} (h : LkAt Z w base lp mb n R) (hb : b' ≤ base) (hy : ∀ k, Y k → Z k ∨ k < base) : LkAt Y w b' lp mb n R := by
  obtain ⟨D, hs, hD, hF, hR, hX, hY⟩ := h.own
  refine ⟨h.ok, h.n0, h.n1, h.c0, h.c1, Nat.le_trans hb h.b0, Nat.le_trans hb h.b1, h.lt, h.ne, fun k hk => ?_, D, hs, hD, hF, fun i hi => ?_, fun i b o m c hi e => ?_, hY⟩
  · rcases hy k hk with hz | hlt
    · exact h.flt k hz
    · have h1 := h.b0
      have h2 := h.b1
      have h3 := h.lt
      exact ⟨by omega, by omega⟩
  · rcases hR i hi with hn | ⟨b, o, c, e, hS⟩
    · exact .inl hn
    · exact .inr ⟨b, o, c, e, hS.lower hb⟩
  · obtain ⟨x1, x2, x3⟩ := hX i b o m c hi e
    refine ⟨x1, x2, fun hyb => ?_⟩
    rcases hy b hyb with hz | hlt
    · exact x3 hz
    · rcases hR i hi with ⟨e2, -⟩ | ⟨b1, o1, c1, e2, hS⟩
      · rw [e2] at e; cases e
      · rw [e2] at e
        cases e
        have := hS.base
        omega
theorem exec_store_mid {P : Program} {o : Oper} {a : Act} {w : World} (ty : TypeId) (x y : Operand) (ho : o.op = .store ty x y) (b off : Nat) (cells : Array Value) (hx : a.eval x = .pointer (some ⟨b, off, none⟩)) (hy : a.eval y = .agg cells)
    (ht : w.there b off cells.size) (hi : (P.info? ty).map (·.size) = some cells.size) (h1 : cells.all (·.oneCell') = true) : (execOp a.eval o).run P w = .ok .skip (w.setCells b off cells.toList) := by
  unfold execOp
  simp only [ho, hx, hy, Instr.storeAt, Instr.sureAddr, Sem.run_bind, Sem.run_pure, Result.andThen_ok, run_storeVar_mid w b off ty cells ht hi h1]
theorem need_len4 {c : Cf} {a : Ak} {ns : List Int} (h : Sh.needS c a = ns) : ns.length ≤ 4 := by
  rw [← h]
  unfold Sh.needS
  split
  · have h1 := Srt.set_len (stL (Sh.pcs a) c.stripes)
    have h2 : (Sh.pcs a).length ≤ 4 := Sp.pieces_len a.addr a.next a.cut a.size
    rw [stL_len] at h1
    omega
  · simp
theorem need_rng {c : Cf} {a : Ak} (ha : a.In) : ∀ x ∈ Sh.needS c a, InI x := by
  intro x hx
  unfold Sh.needS at hx
  split at hx
  · rw [Srt.set_mem] at hx
    obtain ⟨p, hp, rfl⟩ := List.mem_map.1 hx
    have h := Sp.pieces_ok (c := a.cut) (n := a.size) (a := a.addr) (b := a.next) (by have := ha.addr; omega) (by have := ha.next; omega) p hp
    have h2 := Sp.stripe_range (n := c.stripes) h.a0 h.a1
    unfold InI
    omega
  · simp at hx
theorem whB_of {sb rb mb bs jb ub xb : Nat} (h1 : sb < bs) (h2 : rb < bs) (h3 : mb < bs) (h4 : bs < jb) (h5 : jb < ub) (h6 : ub < xb) : WhB sb rb mb bs jb ub xb :=
  ⟨⟨by omega, by omega, by omega⟩, ⟨by omega, by omega, by omega⟩, ⟨by omega, by omega, by omega, by omega, by omega⟩, ⟨by omega, by omega, by omega, by omega, by omega, by omega⟩⟩
abbrev jobs0 : Array Value := #[.slice none 0 0, .int .i64 0, .int .i64 0, .bool false, .slice none 0 0, .int .i64 0, .int .i64 0, .bool false]
abbrev J0 : Lk.JS := ⟨[], 0, 0, false⟩
/-- What stands before the first round. -/
theorem whl_new {w w2 w3 w4 w7 : World} {sb rb mb jb ub xb : Nat} {at_ a b : Int} (hs : ShAt w2 sb rb mb two14 (Rm.nought two14.lines.toNat) Rv.none_) (g1 : w.heap.size ≤ sb) (g2 : w.heap.size ≤ mb) (_g3 : w.heap.size ≤ rb) (b2 : Below w.heap.size w w2)
    (s0 : w3.cell? ⟨w2.heap.size, 0, none⟩ = some (.pointer (some ⟨sb, 0, none⟩))) (b3 : Below w2.heap.size w2 w3) (hl : LkAt (fun _ => False) w4 w3.heap.size (w3.heap.size + 1) w3.heap.size 2 (fun _ => [])) (b4 : Below w3.heap.size w3 w4) (b7 : Below w4.heap.size w4 w7)
    (lt3 : w2.heap.size < w3.heap.size) (e1 : jb = w4.heap.size) (e2 : ub = w4.heap.size + 1) (e3 : xb = w4.heap.size + 2) (hj : CsAt w7 jb 80 jobs0) (hu : CsAt w7 ub 81 #[.bool false, .bool false]) (hx : CsAt w7 xb 38 #[.int .u64 0]) :
    WhL (fun k => k < w3.heap.size ∨ (w4.heap.size ≤ k ∧ k < w7.heap.size)) w w7 sb rb mb w2.heap.size jb ub xb (w3.heap.size + 1) w.heap.size w3.heap.size (fun _ => []) at_ a b (fun _ => false) (fun _ => (none, 0)) (fun _ => J0) := by
  have l1 := hs.slt
  have l2 := hs.ram.lt
  have l3 := hs.ram.mlt
  have l4 := hl.lt
  have lj := hj.lt
  have lu := hu.lt
  have lx := hx.lt
  have s2 := b2.size
  have b24 : Below w2.heap.size w2 w4 := b3.trans (b4.mono b3.size)
  have b27 : Below w2.heap.size w2 w7 := b24.trans (b7.mono b24.size)
  have b37 : Below w3.heap.size w3 w7 := b4.trans (b7.mono b4.size)
  refine ⟨⟨Rm.nought two14.lines.toNat, Rv.none_, 0, ⟨hs.low b27, (b37.cell (p := ⟨w2.heap.size, 0, none⟩) lt3).trans s0, hx, hu⟩, .inl (wh_0 at_), .inl rfl⟩, (hl.wide (b' := w.heap.size) (by have := b3.size; omega) (Y := fun k => k < w3.heap.size) fun k hk => .inr hk).more b7 fun k hk => hk, fun i hi => ?_, fun i hi => Lk.JvT.new (Nat.zero_le _) (fun x hx => by cases hx),
    fun i hi => ⟨.inl rfl, .inl ⟨rfl, rfl⟩, fun b off e => by cases e⟩, fun j => hj.frozen j, b2.trans (b27.mono s2), whB_of (by omega) (by omega) (by omega) (by omega) (by omega) (by omega), ⟨.inl (by omega), .inl (by omega), .inl (by omega), .inl lt3, .inr ⟨by omega, by omega⟩, .inr ⟨by omega, by omega⟩, .inr ⟨by omega, by omega⟩⟩, ⟨by omega, by omega, by omega, by omega, by omega⟩, ⟨g1, g2, by omega, by omega, Nat.le_refl _, by omega⟩⟩
  obtain rfl | rfl : i = 0 ∨ i = 1 := by omega
  · exact ⟨hj.cell 0, hj.cell 1, hj.cell 2, hj.cell 3, hj.frozen _, hj.frozen _, hj.frozen _⟩
  · exact ⟨hj.cell 4, hj.cell 5, hj.cell 6, hj.cell 7, hj.frozen _, hj.frozen _, hj.frozen _⟩
/-- A slice that the call owns: where it lies. -/
theorem own_formT {w : World} {base : Nat} {e : TypeId} {size : Nat} {v : Value} {n : Nat} {xs : List Value} (h : w.ownsRow base e size v n xs) : ∃ p cap, v = .slice p n cap ∧ Vw w p xs ∧ (p = none ∧ cap = 0 ∨ ∃ b, p = some ⟨b, 0, none⟩ ∧ base ≤ b ∧ b < w.heap.size) ∧ n ≤ cap := by
  obtain ⟨p, cap, rfl, hv, hc, -⟩ := own_form2 h
  refine ⟨p, cap, rfl, hv, ?_, hc⟩
  rcases h.2 with ⟨e, -⟩ | ⟨g, cap', cur, e, hb, hg, -⟩
  · cases e; exact .inl ⟨rfl, rfl⟩
  · cases e; exact .inr ⟨g, rfl, hb, (Array.getElem?_eq_some_iff.1 hg).1⟩
theorem whAsk_0 {at_ y : Int} : whAsk at_ y 0 = stT2 at_ y := if_pos rfl
theorem whAsk_1 {at_ y : Int} : whAsk at_ y 1 = ldT at_ := if_neg (by omega)
theorem ask_b {at_ a b : Int} {w : World} {ab : Nat} (h : AkAt w ab (stT2 at_ a)) : AkAt (w.setCell ⟨ab, 6, none⟩ (.int .u64 b)) ab (stT2 at_ b) := ⟨setAn h.cs 6 (.int .u64 b)⟩
theorem one_set {w : World} {b : Nat} {t : TypeId} {u : Value} (h : CsAt w b t #[u]) (v : Value) : CsAt (w.setCell ⟨b, 0, none⟩ v) b t #[v] := setAn h 0 v
theorem cell_far {w : World} {b c i : Nat} {u : Value} (h : w.cell? ⟨b, 0, none⟩ = some u) (hne : b ≠ c) (v : Value) : (w.setCell ⟨c, i, none⟩ v).cell? ⟨b, 0, none⟩ = some u :=
  (World.cell?_of_block (w := w) (a := ⟨b, 0, none⟩) (heap_setCell_other w ⟨c, i, none⟩ b v hne)).trans h
theorem cell_low {w w' : World} {b : Nat} {u : Value} (h : w.cell? ⟨b, 0, none⟩ = some u) (hb : Below w.heap.size w w') : w'.cell? ⟨b, 0, none⟩ = some u := (hb.cell (p := ⟨b, 0, none⟩) (World.block_lt_of_cell? _ _ h)).trans h
/-- What stands while a round goes on: the hart, its ask. -/
structure WhK (Z : Nat → Prop) (w W : World) (sb rb mb bs jb ub xb lp lbase lmb : Nat) (R : Int → List Int) (at_ a b : Int) (u : Nat → Bool) (P : Nat → Option Addr × Nat) (J : Nat → Lk.JS) (hb ab q : Nat) (y : Int) : Prop where
  l : WhL Z w W sb rb mb bs jb ub xb lp lbase lmb R at_ a b u P J
  zh : Z hb
  za : Z ab
  h : W.cell? ⟨hb, 0, none⟩ = some (.int .i64 (q : Int))
  a : AkAt W ab (whAsk at_ y (q : Int))
  lt : sb < hb ∧ rb < hb ∧ mb < hb ∧ bs < hb ∧ jb < hb ∧ ub < hb ∧ xb < hb ∧ lp < hb ∧ hb < ab
section
variable {Z Y : Nat → Prop} {w W W' : World} {sb rb mb bs jb ub xb lp lbase lmb hb ab q : Nat} {R : Int → List Int} {at_ a b y : Int} {u : Nat → Bool} {P : Nat → Option Addr × Nat} {J : Nat → Lk.JS}
theorem WhL.lts (h : WhL Z w W sb rb mb bs jb ub xb lp lbase lmb R at_ a b u P J) : sb < W.heap.size ∧ rb < W.heap.size ∧ mb < W.heap.size ∧ bs < W.heap.size ∧ jb < W.heap.size ∧ ub < W.heap.size ∧ xb < W.heap.size ∧ lp < W.heap.size :=
  have f := fun k hk => (h.lk.flt k hk).1
  ⟨f _ h.z.1, f _ h.z.2.1, f _ h.z.2.2.1, f _ h.z.2.2.2.1, f _ h.z.2.2.2.2.2.2, f _ h.z.2.2.2.2.1, f _ h.z.2.2.2.2.2.1, h.lk.lt⟩
theorem WhK.low (h : WhK Z w W sb rb mb bs jb ub xb lp lbase lmb R at_ a b u P J hb ab q y) (hb' : Below W.heap.size W W') : WhK Z w W' sb rb mb bs jb ub xb lp lbase lmb R at_ a b u P J hb ab q y := ⟨h.l.low hb', h.zh, h.za, cell_low h.h hb', h.a.low hb', h.lt⟩
theorem WhK.more (h : WhK Z w W sb rb mb bs jb ub xb lp lbase lmb R at_ a b u P J hb ab q y) (hb' : Below W.heap.size W W') : WhK (fun k => Z k ∨ (W.heap.size ≤ k ∧ k < W'.heap.size)) w W' sb rb mb bs jb ub xb lp lbase lmb R at_ a b u P J hb ab q y :=
  ⟨h.l.more hb' (fun _ hk => hk) (fun _ hk => .inl hk), .inl h.zh, .inl h.za, cell_low h.h hb', h.a.low hb', h.lt⟩
theorem WhK.mark (h : WhK Z w W sb rb mb bs jb ub xb lp lbase lmb R at_ a b u P J hb ab q y) (hq : q < 2) (v : Bool) : WhK Z w (W.setCell ⟨ub, q, none⟩ (.bool v)) sb rb mb bs jb ub xb lp lbase lmb R at_ a b (fun i => if i = q then v else u i) P J hb ab q y :=
  ⟨h.l.mark hq v, h.zh, h.za, cell_far h.h (by have := h.lt; omega) _, ⟨h.a.cs.far (by have := h.lt; omega) _⟩, h.lt⟩
theorem WhK.lay (h : WhK Z w W sb rb mb bs jb ub xb lp lbase lmb R at_ a b u P J hb ab q y) (hq : q < 2) {p : Option Addr} {cap : Nat} {xs : List Int} (hs : Lk.JvT ⟨xs, 0, 0, false⟩) (hr : RowT Z jb (WhR sb mb xb ub) W p cap xs) :
    WhK Z w (W.setCells jb (q * 4) [.slice p xs.length cap, .int .i64 0, .int .i64 0, .bool false]) sb rb mb bs jb ub xb lp lbase lmb R at_ a b u (fun i => if i = q then (p, cap) else P i) (fun i => if i = q then ⟨xs, 0, 0, false⟩ else J i) hb ab q y := by
  have e : W.setCells jb (q * 4) [.slice p xs.length cap, .int .i64 0, .int .i64 0, .bool false] = (((W.setCell ⟨jb, q * 4, none⟩ (.slice p xs.length cap)).setCell ⟨jb, q * 4 + 1, none⟩ (.int .i64 0)).setCell ⟨jb, q * 4 + 2, none⟩ (.int .i64 0)).setCell ⟨jb, q * 4 + 3, none⟩ (.bool false) := rfl
  have n1 : hb ≠ jb := by have := h.lt; omega
  have n2 : ab ≠ jb := by have := h.lt; omega
  refine ⟨h.l.lay hq hs hr, h.zh, h.za, ?_, ?_, h.lt⟩
  · rw [e]
    exact cell_far (cell_far (cell_far (cell_far h.h n1 _) n1 _) n1 _) n1 _
  · rw [e]
    exact ⟨(((h.a.cs.far n2 _).far n2 _).far n2 _).far n2 _⟩
theorem WhK.there (h : WhK Z w W sb rb mb bs jb ub xb lp lbase lmb R at_ a b u P J hb ab q y) (hq : q < 2) : W.there jb (q * 4) 4 := fun j hj => by
  have hjq := h.l.jobs q hq
  refine ⟨?_, h.l.fz _⟩
  obtain rfl | rfl | rfl | rfl : j = 0 ∨ j = 1 ∨ j = 2 ∨ j = 3 := by omega
  · rw [Nat.add_zero, hjq.c0]; rfl
  · rw [hjq.c1]; rfl
  · rw [hjq.c2]; rfl
  · rw [hjq.c3]; rfl
theorem WhK.wz (h : WhK Z w W sb rb mb bs jb ub xb lp lbase lmb R at_ a b u P J hb ab q y) : WhZ Z sb rb mb bs jb ub xb hb ab lp := by
  have l := h.lt
  obtain ⟨z1, z2, z3, z4, z5, z6, z7⟩ := h.l.z
  obtain ⟨l1, l2, l3, l4, -⟩ := h.l.l
  exact ⟨⟨z1, z2, z3, z4, z5, z6, h.zh, h.za, z7⟩, ⟨l1, l2, l3, l4⟩, ⟨by omega, by omega, by omega, by omega⟩, ⟨by omega, by omega, by omega, by omega⟩⟩
theorem WhK.busy (h : WhK Z w W sb rb mb bs jb ub xb lp lbase lmb R at_ a b u P J hb ab q y) (hq : q < 2) : W.cell? ⟨ub, q, none⟩ = some (.bool (u q)) ∧ W.frozen? ⟨ub, q, none⟩ = false := by
  obtain ⟨B, T, v, m1, -, -⟩ := h.l.mem
  refine ⟨?_, m1.busy.frozen q⟩
  rw [m1.busy.cell]
  obtain rfl | rfl : q = 0 ∨ q = 1 := by omega
  · rfl
  · rfl
/-- A job's step, between what stood before and what stands behind it. -/
theorem WhK.step_c (h : WhK Z w W sb rb mb bs jb ub xb lp lbase lmb R at_ a b u P J hb ab q y) (hq : q < 2) (hat : WhIn at_) (hy : 0 ≤ y ∧ y ≤ 18446744073709551615) (hab : y = a ∨ y = b) :
    Calls Tryz.prog 11 #[.pointer (some ⟨jb, q * 4, none⟩), .pointer (some ⟨lp, 0, none⟩), .int .i64 (q : Int), .func (.func 21) #[] #[.pointer (some ⟨bs, 0, none⟩), .pointer (some ⟨hb, 0, none⟩), .pointer (some ⟨ab, 0, none⟩), .pointer (some ⟨xb, 0, none⟩)]] W fun e w' =>
      ∃ r R' J', e = .returned (.int .i64 r) ∧ WhK Z w w' sb rb mb bs jb ub xb lp lbase lmb R' at_ a b u P J' hb ab q y := by
  obtain ⟨o, ho, hqo⟩ : ∃ o, o < 2 ∧ q ≠ o := ⟨1 - q, by omega, by omega⟩
  refine (whstep_c (q : Int) hat hy hab (by omega) h.l.B h.wz hqo ⟨h.l.lo.1, h.l.lo.2.1, h.l.lo.2.2.1, h.l.lo.2.2.2.1⟩ h.l.lk (h.l.jobs q hq) (h.l.jv q hq) (h.l.env hq ho h.h h.a)).mono ?_
  rintro e w' ⟨r, rfl, hg⟩
  have hk := hg.env
  exact ⟨r, _, _, rfl, h.l.stepped hq hqo ho (q : Int) hg, h.zh, h.za, hk.hb, hk.ab, h.lt⟩
end
end Go.Proofs.YtjeolfcefeglpabGreat
namespace Go.Proofs.YtjeolfcefeglpabGreat.Lk

/-- One is in a row ahead of all others. -/
def heads (R : Int → List Int) (L : Int) (i : Int) : Prop := (R L).head? = some i
/-- What always holds of eight jobs and their n locks. -/
structure Inv (R : Int → List Int) (n : Nat) (J : Nat → JS) : Prop where
  ok : Ok R n
  rise : ∀ i : Nat, i < 8 → (J i).xs.Pairwise (· < ·)
  rng : ∀ i : Nat, i < 8 → ∀ x ∈ (J i).xs, 0 ≤ x ∧ x < (n : Int)
  t : ∀ i : Nat, i < 8 → (J i).t ≤ (J i).xs.length
  g : ∀ i : Nat, i < 8 → (J i).g ≤ (J i).xs.length
  dt : ∀ i : Nat, i < 8 → (J i).d = true → (J i).t = (J i).xs.length
  dg : ∀ i : Nat, i < 8 → (J i).d = false → (J i).g = 0
  hold : ∀ i : Nat, i < 8 → ∀ j, j < (J i).t - (J i).g → heads R ((J i).xs.getD j 0) (i : Int)
  mem : ∀ i : Nat, i < 8 → ∀ L, (i : Int) ∈ R L → (∃ j, j < (J i).t - (J i).g ∧ (J i).xs.getD j 0 = L) ∨ ((J i).t < (J i).xs.length ∧ (J i).xs.getD (J i).t 0 = L)
theorem rise_lt {xs : List Int} (h : xs.Pairwise (· < ·)) {i j : Nat} (hij : i < j) (hj : j < xs.length) : xs.getD i 0 < xs.getD j 0 := by
  rw [List.getD, List.getD, List.getElem?_eq_getElem hj, List.getElem?_eq_getElem (by omega)]
  exact List.pairwise_iff_getElem.1 h i j (by omega) hj hij
/-- Of some that each wait, not first, at a lock that one of them heads there are none. -/
theorem closed_none {R : Int → List Int} {n : Nat} {J : Nat → JS} (h : Inv R n J) (S : Nat → Prop) (hS : ∀ i, S i → i < 8 ∧ ∃ L h', (i : Int) ∈ R L ∧ ¬ heads R L (i : Int) ∧ heads R L ((h' : Nat) : Int) ∧ S h') : ∀ i, ¬ S i := by
  have key : ∀ m : Nat, ∀ i, S i → (n : Int) - (J i).xs.getD (J i).t 0 ≤ m → False := by
    intro m
    induction m with
    | zero =>
      intro i hi hm
      obtain ⟨h8, L, h', hin, hnh, -, -⟩ := hS i hi
      rcases h.mem i h8 L hin with ⟨j, hj, rfl⟩ | ⟨ht, rfl⟩
      · exact hnh (h.hold i h8 j hj)
      · have := h.rng i h8 ((J i).xs.getD (J i).t 0) (by rw [List.getD, List.getElem?_eq_getElem ht]; exact List.getElem_mem ht)
        omega
    | succ m ih =>
      intro i hi hm
      obtain ⟨h8, L, k, hin, hnh, hk, hSk⟩ := hS i hi
      rcases h.mem i h8 L hin with ⟨j, hj, rfl⟩ | ⟨ht, rfl⟩
      · exact hnh (h.hold i h8 j hj)
      · obtain ⟨k8, L', k', kin, knh, -, -⟩ := hS k hSk
        have kmem : (k : Int) ∈ R ((J i).xs.getD (J i).t 0) := List.mem_of_mem_head? hk
        rcases h.mem k k8 L' kin with ⟨j, hj, rfl⟩ | ⟨kt, rfl⟩
        · exact knh (h.hold k k8 j hj)
        · rcases h.mem k k8 _ kmem with ⟨j, hj, e⟩ | ⟨-, e⟩
          · refine ih k hSk ?_
            have := rise_lt (h.rise k k8) (show j < (J k).t by omega) kt
            rw [e] at this
            omega
          · rw [e] at knh
            exact knh hk
  intro i hi
  exact key ((n : Int) - (J i).xs.getD (J i).t 0).toNat i hi (by omega)
/-- A number's place in a row. -/
theorem idx_first {x : Int} {row : List Int} (h : row.head? = some x) : idx (fun y => x == y) row = 0 := by
  cases row with
  | nil => cases h
  | cons y l =>
    obtain rfl : y = x := by simpa using h
    simp [idx, idxF]
theorem holds_iff (x : Int) (row : List Int) : holds x row = true ↔ row.head? = some x := by
  constructor
  · intro h
    cases row with
    | nil => simp [holds, idx, idxF] at h
    | cons y l =>
      by_cases e : x = y
      · subst e; rfl
      · have h1 : (x == y) = false := by simpa using e
        have hr := idxF_range (fun y => x == y) l 1
        simp [holds, idx, idxF, h1] at h
        omega
  · intro h
    simp [holds, idx_first h]
theorem waits_mem {x : Int} {row : List Int} (h : waits x row = true) : x ∈ row ∧ row.head? ≠ some x := by
  have h1 : idx (fun y => x == y) row > 0 := by simpa [waits] using h
  refine ⟨?_, fun e => by rw [idx_first e] at h1; omega⟩
  have := idx_any (fun y => x == y) row
  rw [decide_eq_true (show idx (fun y => x == y) row ≥ 0 by omega)] at this
  exact (any_mem x row).1 this.symm
theorem stuckF_fix (R : Int → List Int) (n : Nat) (P : Int → Prop) : ∀ k ss, ss.length < k → (∀ x ∈ ss, P x) → ∃ S, stuckF R n k ss = step R n S ∧ (step R n S).length = S.length ∧ ∀ x ∈ S, P x
  | 0, ss, h, _ => by omega
  | k + 1, ss, h, hP => by
    by_cases e : (step R n ss).length = ss.length
    · exact ⟨ss, by show (if _ then _ else _) = _; rw [if_pos e], e, hP⟩
    · have hle := step_le R n ss
      obtain ⟨S, h1, h2, h3⟩ := stuckF_fix R n P k (step R n ss) (by omega) (fun x hx => hP x (List.mem_filter.1 hx).1)
      exact ⟨S, by rw [← h1]; show (if _ then _ else _) = _; rw [if_neg e], h2, h3⟩
/-- NOBODY IS STUCK. -/
theorem stuck_none {R : Int → List Int} {n : Nat} {J : Nat → JS} (h : Inv R n J) : stuck R n = [] := by
  obtain ⟨S, h1, h2, h3⟩ := stuckF_fix R n (fun x => 0 ≤ x ∧ x < 8) 9 (iota 8) (by decide) (fun x hx => by
    simp only [iota, List.mem_map, List.mem_range] at hx
    obtain ⟨k, hk, rfl⟩ := hx
    exact ⟨Int.natCast_nonneg k, by show (k : Int) < 8; omega⟩)
  have hall : ∀ x ∈ S, waitsFor R n x S = true := by
    have := (List.length_filter_eq_length_iff).1 h2
    intro x hx
    simpa using this x hx
  have hnone := closed_none h (fun i => (i : Int) ∈ S) (fun i hi => by
    have hb := h3 _ hi
    refine ⟨by omega, ?_⟩
    have hw := hall _ hi
    unfold waitsFor at hw
    obtain ⟨L, hL, hy⟩ := List.any_eq_true.1 hw
    obtain ⟨y, hy1, hy2⟩ := List.any_eq_true.1 hy
    obtain ⟨q1, q2, q3⟩ := (which_mem _ _ _ _).1 hL
    obtain ⟨w1, w2⟩ := waits_mem q3
    obtain rfl : (R L).getD 0 0 = y := by simpa using hy2
    have hb2 := h3 _ hy1
    refine ⟨L, ((R L).getD 0 0).toNat, w1, w2, ?_, ?_⟩
    · rw [Int.toNat_of_nonneg hb2.1]
      unfold heads
      cases hrow : R L with
      | nil => rw [hrow] at w1; simp at w1
      | cons a l => rfl
    · rw [Int.toNat_of_nonneg hb2.1]; exact hy1)
  have hS : S = [] := by
    cases S with
    | nil => rfl
    | cons x l =>
      have hb := h3 x (by simp)
      exact absurd (by rw [Int.toNat_of_nonneg hb.1]; simp) (hnone x.toNat)
  unfold stuck
  rw [h1, hS]
  rfl
end Go.Proofs.YtjeolfcefeglpabGreat.Lk
