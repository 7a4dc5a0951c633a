/-
  A slice that a call owns: one element more at its end; what later steps leave of it; a slice that is only read. A region that draws its order, and whose operations each leave one known value in every world that meets a condition S, and leave S: it is walked once, in the order of the text; its last operations, if they wait for all others, one behind the other. Contracts of package split (layer 11): run, Pieces.
-/
import Derived.Test.YtjeolfcefeglpabGreatXaa
import Derived.Laws.CopyOwn
import Derived.OwnWalk
import Derived.Deep.MidRow
import Derived.Laws.ResultCell
import Derived.ProofKit
import Derived.OpenShut
import Derived.Deep.DeepCutAuto
import Derived.Deep.QuietTactic
import Derived.BigQuiet
import Derived.Test.YtjeolfcefeglpabGreatRows
import Derived.StillTail
import Derived.WalkKit
import Derived.Laws.Rows
import Derived.Laws.Tables
import Derived.Laws.StructEq
import Derived.Deep.RegionHeld3
import Derived.Test.YtjeolfcefeglpabGreatXac
set_option maxRecDepth 20000
namespace Go.Proofs.YtjeolfcefeglpabGreat
open Go.ChangeShapes Go.WideShapes Go.ChangeAt Go.RowKit

/-- A slice whose cells can be read. -/
def Vw (w : World) (p : Option Addr) (cs : List Value) : Prop :=
  cs = [] ∨ ∃ b off, p = some ⟨b, off, none⟩ ∧ b < w.heap.size ∧ ∀ j u, cs[j]? = some u → w.cell? ⟨b, off + j, none⟩ = some u
theorem Vw.low {w w' : World} {p : Option Addr} {cs : List Value} (h : Vw w p cs) (hb : Below w.heap.size w w') : Vw w' p cs :=
  h.imp id fun ⟨b, off, hp, hlt, hc⟩ => ⟨b, off, hp, Nat.lt_of_lt_of_le hlt hb.size, fun j u hj => (hb.cell (p := ⟨b, off + j, none⟩) hlt).trans (hc j u hj)⟩
section
variable {w w' : World} {base : Nat} {e : TypeId} {size : Nat} {v : Value} {n : Nat} {xs : List Value}
theorem own_len (h : w.ownsRow base e size v n xs) : xs.length = n * size := h.1
theorem own_on {B : Nat} (h : w.ownsRow base e size v n xs) (hb : Below B w w') (hB : ∀ k, v.ownBlock = some k → k < B) : w'.ownsRow base e size v n xs := by
  refine ⟨h.1, h.2.imp id ?_⟩
  rintro ⟨g, cap, cur, rfl, h1, h2, h3⟩
  exact ⟨g, cap, cur, rfl, h1, (hb.block g (hB g rfl)).trans h2, h3⟩
theorem own_low (h : w.ownsRow base e size v n xs) (hb : Below w.heap.size w w') : w'.ownsRow base e size v n xs := own_on h hb fun k hk => (h.lt k hk).2
theorem own_mono {b : Nat} (h : w.ownsRow base e size v n xs) (hb : b ≤ base) : w.ownsRow b e size v n xs := by
  refine ⟨h.1, h.2.imp id ?_⟩
  rintro ⟨g, cap, cur, rfl, h1, h2⟩
  exact ⟨g, cap, cur, rfl, Nat.le_trans hb h1, h2⟩
/-- How such a slice looks. -/
theorem own_form (h : w.ownsRow base e size v n xs) : ∃ p cap, v = .slice p n cap ∧ Vw w p xs ∧ n ≤ cap ∧ cap ≤ maxLen := by
  rcases h.2 with ⟨rfl, rfl⟩ | ⟨g, cap, cur, rfl, hb, hg, hc, hm, hs, ht⟩
  · refine ⟨none, 0, rfl, .inl ?_, Nat.le_refl _, Nat.zero_le _⟩
    have := h.1
    simpa using this
  · refine ⟨_, cap, rfl, .inr ⟨g, 0, rfl, (Array.getElem?_eq_some_iff.1 hg).1, fun j u hj => ?_⟩, hc, hm⟩
    have hl : j < n * size := by
      have := (List.getElem?_eq_some_iff.1 hj).1
      rwa [h.1] at this
    rw [Nat.zero_add, h.cellAt j hl, hj]
theorem own_pos (h : w.ownsRow base e size v n xs) (hn : 0 < n) : ∃ g cap, v = .slice (some ⟨g, 0, none⟩) n cap ∧ base ≤ g ∧ g < w.heap.size ∧ n ≤ cap := by
  rcases h.2 with ⟨rfl, rfl⟩ | ⟨g, cap, cur, rfl, hb, hg, hc, hm, hs, ht⟩
  · omega
  · exact ⟨g, cap, rfl, hb, (Array.getElem?_eq_some_iff.1 hg).1, hc⟩
end
theorem CsAt.far {w : World} {b : Nat} {t : TypeId} {cs : Array Value} (h : CsAt w b t cs) {c i : Nat} (hne : b ≠ c) (v : Value) : CsAt (w.setCell ⟨c, i, none⟩ v) b t cs := (heap_setCell_other w ⟨c, i, none⟩ b v hne).trans h
theorem add_plain (b off j : Nat) : (⟨b, off, none⟩ : Addr).add j = ⟨b, off + j, none⟩ := by unfold Addr.add; split <;> simp_all
variable {P : Program}
/-- An element more: its cells lie in the block that was made last. -/
theorem wpList_push {ops : Array Oper} {rest : List Oper} {o : Oper} {a : Act} {Q : Exit → Act → World → Prop} {w1 : World} (hgd : o.guard = none) (s x : Operand) (t : TypeId)
    (ho : o.op = .call { callee := .builtin .append, args := #[s, x], argTypes := #[t, t] })
    (base : Nat) (e : TypeId) (z : Value) (size bytes : Nat) (ht : P.underlying t = some (.slice e)) (hi : (P.info? e).map (fun i => (i.zero, i.size, i.bytes)) = some (some z, size, bytes))
    (hzs : z.cells.size = size) (hsz : 0 < size) (hby : bytes ≤ 64)
    (v : Value) (n : Nat) (xs : List Value) (hs : a.eval s = v) (hown : w1.ownsRow base e size v n xs) (cs : Array Value) (hcs : cs.size = size) (h1 : cs.all (·.oneCell') = true)
    (b : Nat) (hx : a.eval x = .slice (some ⟨b, 0, none⟩) 1 1) (hb : b = w1.heap.size) (hn : n < 1000000) (hbase : base ≤ w1.heap.size)
    (h : ∀ v' w', w'.ownsRow base e size v' (n + 1) (xs ++ cs.toList) → Below base w1 w' → wpList P ops Q rest (a.put o.dst v') w') : wpList P ops Q (o :: rest) a (w1.alloc (.cells cs e)) := by
  subst hb
  obtain ⟨i, hi, hz⟩ := Option.map_eq_some_iff.1 hi
  simp only [Prod.mk.injEq] at hz
  refine wpList_append_own _ hgd s x t ho base e i z size bytes ht hi hz.1 hz.2.1 hz.2.2 hzs hsz v n xs hs (hown.alloc _) ⟨w1.heap.size, 0, none⟩ 1 1 cs.toList hx (by simpa using hcs) ?_ ?_ (by unfold maxLen; omega) ?_ (by simp; omega) ?_
  · intro j u hj
    rw [add_plain, Nat.zero_add, (CsAt.new w1 e cs).cell]
    simpa using hj
  · intro u hu
    exact (Array.all_eq_true_iff_forall_mem.1 h1) u (by simpa using hu)
  · have : (n + 1) * bytes ≤ 1000000 * 64 := Nat.mul_le_mul (by omega) hby
    omega
  · intro v' w' hown' hg _
    refine h v' w' hown' ?_
    exact ((Below.refl base w1).alloc hbase _).grown hg (by simp; omega) (fun r hr => (hown.lt r hr).1)
/-- Nothing is appended: a nil slice. -/
theorem run_append_none (w : World) (base : Nat) (t ty e : TypeId) (i : TypeInfo) (size : Nat) (ht : P.underlying t = some (.slice e)) (hi : P.info? e = some i)
    (v : Value) (n : Nat) (xs : List Value) (hown : w.ownsRow base e size v n xs) (hn : n < 1000000) (c : Nat) : (Builtin.append_ #[t, t] ty #[v, .slice none 0 c]).run P w = .ok v w := by
  rcases hown.2 with ⟨rfl, rfl⟩ | ⟨g, cap, cur, rfl, hb, hg, hc, hm, hs, hk⟩
  · simp [Builtin.append_, run_underlying ht, sizeOf, typeInfo, hi, Builtin.lenOf, Builtin.firstCells]
  · have : n ≤ maxLen := by unfold maxLen; omega
    simp [Builtin.append_, run_underlying ht, sizeOf, typeInfo, hi, Builtin.lenOf, Builtin.firstCells, loadCells, hc, storeCells]
/-- A slice at the end of one that the call owns. -/
theorem wp_cat {o : Oper} {a : Act} {w : World} {K : Act → World → Prop} {Q : Exit → Act → World → Prop} (s x : Operand) (t : TypeId)
    (ho : o.op = .call { callee := .builtin .append, args := #[s, x], argTypes := #[t, t] })
    (base : Nat) (e : TypeId) (z : Value) (size bytes : Nat) (ht : P.underlying t = some (.slice e)) (hi : (P.info? e).map (fun i => (i.zero, i.size, i.bytes)) = some (some z, size, bytes))
    (hzs : z.cells.size = size) (hsz : 0 < size) (hby : bytes ≤ 64)
    (v : Value) (n : Nat) (xs : List Value) (hs : a.eval s = v) (hown : w.ownsRow base e size v n xs)
    (p : Option Addr) (m c : Nat) (news : List Value) (hx : a.eval x = .slice p m c) (hv : Vw w p news) (hl : news.length = m * size) (h1 : ∀ u ∈ news, u.oneCell' = true)
    (hn : n + m < 1000000) (hbase : base ≤ w.heap.size)
    (h : ∀ v' w', w'.ownsRow base e size v' (n + m) (xs ++ news) → Below base w w' → K (a.put o.dst v') w') : o.wp P a w K Q := by
  obtain ⟨i, hi, hz⟩ := Option.map_eq_some_iff.1 hi
  simp only [Prod.mk.injEq] at hz
  by_cases hp : p = none
  · subst hp
    have hnil : news = [] := hv.resolve_right (fun ⟨_, _, h, _⟩ => by cases h)
    subst hnil
    have hm : m = 0 := by
      have : m * size = 0 := hl.symm
      rcases Nat.mul_eq_zero.1 this with h | h
      · exact h
      · omega
    subst hm
    have hr := run_append_none (P := P) w base t o.type e i size ht hi v n xs hown (by omega) c
    unfold Oper.wp execOp
    simp only [ho, resolve, invoke, builtin, Sem.run_bind, Sem.run_pure, Result.andThen_ok, List.map_toArray, List.map_cons, List.map_nil, hs, hx, hr]
    exact h v w (by simpa using hown) (Below.refl _ _)
  · obtain ⟨ad, rfl⟩ := Option.ne_none_iff_exists'.1 hp
    refine wp_append_own w s x t ho base e i z size bytes ht hi hz.1 hz.2.1 hz.2.2 hzs hsz v n xs hs hown ad m c news hx hl ?_ h1 (by unfold maxLen; omega) ?_ hbase ?_
    · intro j u hj
      rcases hv with rfl | ⟨b, off, hb, hlt, hc⟩
      · cases hj
      · cases hb
        rw [add_plain]
        exact hc j u hj
    · have : (n + m) * bytes ≤ 1000000 * 64 := Nat.mul_le_mul (by omega) hby
      omega
    · intro v' w' hown' hg _
      exact h v' w' hown' ((Below.refl base w).grown hg hbase (fun r hr => (hown.lt r hr).1))
theorem wpList_cat {ops : Array Oper} {rest : List Oper} {o : Oper} {a : Act} {w : World} {Q : Exit → Act → World → Prop} (hgd : o.guard = none) (s x : Operand) (t : TypeId)
    (ho : o.op = .call { callee := .builtin .append, args := #[s, x], argTypes := #[t, t] })
    (base : Nat) (e : TypeId) (z : Value) (size bytes : Nat) (ht : P.underlying t = some (.slice e)) (hi : (P.info? e).map (fun i => (i.zero, i.size, i.bytes)) = some (some z, size, bytes))
    (hzs : z.cells.size = size) (hsz : 0 < size) (hby : bytes ≤ 64)
    (v : Value) (n : Nat) (xs : List Value) (hs : a.eval s = v) (hown : w.ownsRow base e size v n xs)
    (p : Option Addr) (m c : Nat) (news : List Value) (hx : a.eval x = .slice p m c) (hv : Vw w p news) (hl : news.length = m * size) (h1 : ∀ u ∈ news, u.oneCell' = true)
    (hn : n + m < 1000000) (hbase : base ≤ w.heap.size)
    (h : ∀ v' w', w'.ownsRow base e size v' (n + m) (xs ++ news) → Below base w w' → wpList P ops Q rest (a.put o.dst v') w') : wpList P ops Q (o :: rest) a w :=
  wpList_plain hgd fun _ hK => wp_cat s x t ho base e z size bytes ht hi hzs hsz hby v n xs hs hown p m c news hx hv hl h1 hn hbase fun v' w' h2 h3 => hK _ _ (h v' w' h2 h3)
/-! Steps of a region that draws its order. -/
theorem wpOp_wpX {ops : Array Oper} {Q : Exit → Act → World → Prop} {i : Nat} {o : Oper} {a : Act} {w : World} {K : Act → World → Prop} (hi : ops[i]? = some o) (hw : Region.wanted o (yielded ops a.tmps) = true) (h : o.wp P a w K Q) : Go.wpOp P ops Q i K a w := by
  unfold Go.wpOp
  simp only [hi, hw, if_true]
  exact .inl h
theorem wpOp_callX {ops : Array Oper} {Q : Exit → Act → World → Prop} {i : Nat} {o : Oper} {a : Act} {w : World} {K : Act → World → Prop} (f : FuncId) (args : Array Value) (hi : ops[i]? = some o) (hw : Region.wanted o (yielded ops a.tmps) = true) (hr : (execOp a.eval o).run P w = .ok (.enter f args) w)
    (h : Calls P f args w fun e w'' => ∃ v, e = .returned v ∧ K (a.put o.dst v) w'') : Go.wpOp P ops Q i K a w := by
  refine wpOp_wpX hi hw ?_
  unfold Oper.wp
  rw [hr]
  simp only [Oper.upon]
  exact h.mono fun e w'' ⟨v, he, hk⟩ => by subst he; exact hk
/-- A literal of one element. -/
theorem own_one (w : World) (e : TypeId) (cs : Array Value) (size : Nat) (hs : cs.size = size) : (w.alloc (.cells cs e)).ownsRow w.heap.size e size (.slice (some ⟨w.heap.size, 0, none⟩) 1 1) 1 cs.toList :=
  World.ownsRow_lit w cs 1 (Nat.le_refl _) (by unfold maxLen; omega) (by omega)
end Go.Proofs.YtjeolfcefeglpabGreat
set_option maxRecDepth 20000
namespace Go.Proofs.YtjeolfcefeglpabGreat
open Go.RowKit
section
variable {P : Program} {ops : Array Oper} {md : Region.Mode} {S : World → Prop}

/-- In every world that meets S the operation leaves v, and S holds behind it. -/
def YieldsS (P : Program) (ops : Array Oper) (S : World → Prop) (o : Oper) (v : Value) (a : Act) : Prop :=
  (Region.wanted o (yielded ops a.tmps) = true ∧ ∀ w, S w →
    ((∃ w', (execOp a.eval o).run P w = .ok (.value v) w' ∧ S w') ∨ (∃ w', (execOp a.eval o).run P w = .ok .skip w' ∧ v = undef ∧ S w') ∨
      ∃ f args w', (execOp a.eval o).run P w = .ok (.enter f args) w' ∧ Calls P f args w' (fun e w'' => e = .returned v ∧ S w''))) ∨
  (Region.wanted o (yielded ops a.tmps) = false ∧ v = undef)
theorem YieldsS.of_same {o : Oper} {v : Value} {a a' : Act} (hy : YieldsS P ops S o v a) (he : execOp a'.eval o = execOp a.eval o)
    (hw : Region.wanted o (yielded ops a'.tmps) = Region.wanted o (yielded ops a.tmps)) : YieldsS P ops S o v a' := by
  unfold YieldsS at *
  rw [he, hw]
  exact hy
theorem YieldsS.wpOp {Q : Exit → Act → World → Prop} {i : Nat} {o : Oper} {v : Value} {a : Act} (hi : ops[i]? = some o) (hy : YieldsS P ops S o v a) {K : Act → World → Prop} {w : World} (hS : S w)
    (h : ∀ w', S w' → K (a.put o.dst v) w') : Go.wpOp P ops Q i K a w := by
  unfold Go.wpOp
  simp only [hi]
  rcases hy with ⟨hw, hv⟩ | ⟨hw, rfl⟩
  · simp only [hw, if_true]
    refine .inl ?_
    unfold Oper.wp
    rcases hv w hS with ⟨w', hr, hS'⟩ | ⟨w', hr, rfl, hS'⟩ | ⟨f, args, w', hr, hc⟩
    · rw [hr]; exact h _ hS'
    · rw [hr]; exact h _ hS'
    · rw [hr]
      simp only [Oper.upon]
      exact hc.mono fun e w'' ⟨he, hs⟩ => by subst he; exact h _ hs
  · simp only [hw, Bool.false_eq_true, if_false]; exact h _ hS
/-- The walk in the order of the text. -/
def wpSteady (P : Program) (ops : Array Oper) (S : World → Prop) (Q : Act → Prop) : List Oper → Act → Prop
  | [], a => Q a
  | o :: rest, a => ∃ v, YieldsS P ops S o v a ∧ wpSteady P ops S Q rest (a.put o.dst v)
def wpAnyT (P : Program) (md : Region.Mode) (ops : Array Oper) (S : World → Prop) (n : Nat) (L : Array Bool → Act → Prop) : Nat → Array Bool → Act → Prop
  | 0, listed, a => L listed a
  | f + 1, listed, a => Region.ready md ops listed ≠ [] ∧ ∀ i ∈ Region.ready md ops listed, i < n ∧ ∃ o v, ops[i]? = some o ∧ YieldsS P ops S o v a ∧ wpAnyT P md ops S n L f (listed.setIfInBounds i true) (a.put o.dst v)
theorem wpAny_of_T {n g : Nat} {L : Array Bool → Act → Prop} {Q' : Exit → Act → World → Prop} (hL : ∀ listed a w, S w → L listed a → wpAny P md ops Q' g listed a w) :
    ∀ (f : Nat) (listed : Array Bool) (a : Act) (w : World), S w → wpAnyT P md ops S n L f listed a → wpAny P md ops Q' (f + g) listed a w
  | 0, listed, a, w, hS, h => by rw [Nat.zero_add]; exact hL _ _ _ hS h
  | f + 1, listed, a, w, hS, h => by
    rw [show f + 1 + g = (f + g) + 1 by omega]
    refine ⟨fun h0 => absurd h0 h.1, fun i hi => ?_⟩
    obtain ⟨-, o, v, ho, hy, hn⟩ := h.2 i hi
    exact hy.wpOp ho hS fun w' hS' => wpAny_of_T hL f _ _ w' hS' hn
theorem wpAnyT_first {n i : Nat} {oi : Oper} {v : Value} {L : Array Bool → Act → Prop} (hi : ops[i]? = some oi) (hsel : ∀ (j : Nat) (o : Oper) cs b, ops[j]? = some o → o.op ≠ .select cs b) (hin : i < n)
    (hlt : ∀ listed, HeadInv md ops n listed → (∃ k, k < n ∧ listed.getD k true = false) → ∀ t ∈ Region.ready md ops listed, t < n)
    (hdone : ∀ listed a, L listed a → ∀ j ∈ Region.ready md ops listed, n ≤ j) :
    ∀ (f : Nat) (listed : Array Bool) (a : Act), HeadInv md ops n listed →
      (∀ j oj, ops[j]? = some oj → j ≠ i → listed.getD j true = false → (∀ e ∈ oj.after, Region.binds md e = true → e.on ≠ i) → oi.apart ops oj = true) →
      i ∈ Region.ready md ops listed → YieldsS P ops S oi v a →
      wpAnyT P md ops S n L f (listed.setIfInBounds i true) (a.put oi.dst v) → wpAnyT P md ops S n L (f + 1) listed a := by
  intro f
  induction f with
  | zero =>
    intro listed a inv _ hr hy H
    have hun := (mem_ready.1 hr).1
    refine ⟨fun h => (by rw [h] at hr; cases hr), fun j hj => ?_⟩
    have hjn : j < n := hlt listed inv ⟨i, hin, hun⟩ j hj
    by_cases hji : j = i
    · subst hji; exact ⟨hjn, oi, v, hi, hy, H⟩
    · have := hdone _ _ H j (ready_mono hj hji)
      omega
  | succ f ih =>
    intro listed a inv hfree hr hy H
    have hun := (mem_ready.1 hr).1
    refine ⟨fun h => (by rw [h] at hr; cases hr), fun j hj => ?_⟩
    have hjn : j < n := hlt listed inv ⟨i, hin, hun⟩ j hj
    by_cases hji : j = i
    · subst hji; exact ⟨hjn, oi, v, hi, hy, H⟩
    · obtain ⟨-, oj', u, hoj', hyj, hn⟩ := H.2 j (ready_mono hj hji)
      obtain ⟨hjun, oj, hoj, hall⟩ := mem_ready.1 hj
      obtain rfl : oj' = oj := Option.some.inj (hoj'.symm.trans hoj)
      have hnot : ∀ e ∈ oj'.after, Region.binds md e = true → e.on ≠ i := fun e he hb heq => by
        have h1 := hall e he hb
        rw [heq, getD_both hun] at h1
        cases h1
      obtain ⟨h1, h2, h3⟩ := Oper.apart_spec (hfree j oj' hoj hji hjun hnot)
      have hyj' : YieldsS P ops S oj' u a := hyj.of_same (execOp_put oj' (fun cs b => hsel j oj' cs b hoj) a oi.dst v h1).symm (wanted_put oj' a oi.dst v h1).symm
      have hyi : YieldsS P ops S oi v (a.put oj'.dst u) := hy.of_same (execOp_put oi (fun cs b => hsel i oi cs b hi) a oj'.dst u h3) (wanted_put oi a oj'.dst u h3)
      have hfree' : ∀ k ok, ops[k]? = some ok → k ≠ i → (listed.setIfInBounds j true).getD k true = false →
          (∀ e ∈ ok.after, Region.binds md e = true → e.on ≠ i) → oi.apart ops ok = true := fun k ok hk hki hun hno => by
        refine hfree k ok hk hki ?_ hno
        by_cases hjk : j = k
        · subst hjk; exact hjun
        · rw [getD_set_ne true hjk] at hun; exact hun
      refine ⟨hjn, oj', u, hoj, hyj', ih (listed.setIfInBounds j true) _ (inv.set hj hjn) hfree' (ready_mono hr (Ne.symm hji)) hyi ?_⟩
      rw [Array.setIfInBounds_comm _ _ hji, ← Act.put_comm a v u h2]
      exact hn
theorem headInv0 (n : Nat) : HeadInv md ops n (Array.replicate ops.size false) :=
  ⟨by simp, fun j oj _ hl => (by rw [getD_replicate_false] at hl; cases hl), fun t _ ht => getD_in (by simpa using ht) (getD_replicate_false _ _)⟩
theorem wpAnyT_lex {n g : Nat} {Lq : Act → Prop} (hsel : Region.noSelect ops = true) (hs : Region.sinkB md ops n = true) (hc : Region.chainB md ops n = true) (hn : n < ops.size) :
    ∀ (l : List Oper) (k : Nat) (listed : Array Bool) (a : Act), (∀ j, j < l.length → l[j]? = ops[k + j]?) → k + l.length = n → HeadInv md ops n listed →
    Region.lexHead md ops g l.length k listed = true → wpSteady P ops S Lq l a →
    wpAnyT P md ops S n (fun listed' a' => Region.seqB md ops g n listed' = true ∧ Lq a') l.length listed a
  | [], k, listed, a, _, hk, _, hB, h => by
    have : k = n := by simpa using hk
    subst this
    exact ⟨by simpa [Region.lexHead] using hB, h⟩
  | o :: l, k, listed, a, hl, hk, inv, hB, h => by
    have h0 : ops[k]? = some o := by simpa using (hl 0 (by simp)).symm
    simp only [List.length_cons, Region.lexHead, Bool.and_eq_true] at hB
    obtain ⟨⟨hr, hf⟩, hB'⟩ := hB
    have hkn : k < n := by simp only [List.length_cons] at hk; omega
    have hr' : k ∈ Region.ready md ops listed := by simpa using hr
    obtain ⟨v, hy, hK⟩ := h
    exact wpAnyT_first h0 (Region.noSelect_spec hsel) hkn (fun listed' inv' ⟨i, hi, hun⟩ t ht => Nat.lt_of_not_le fun hge => tail_waits hs hc hn inv' _ i rfl hi hun t hge ht)
      (fun listed' a' hL => seqB_ready hL.1) l.length listed a inv (Region.free_spec h0 hf) hr' hy
      (wpAnyT_lex hsel hs hc hn l (k + 1) _ _ (fun j hj => by have := hl (j + 1) (by simp; omega); simpa [Nat.add_assoc, Nat.add_comm 1 j] using this) (by simp only [List.length_cons] at hk; omega) (inv.set hr' hkn) hB' hK)
/-- The first n operations in whatever order, then the rest, one behind the other. -/
theorem wp_region_steady_tail {id : Nat} {Q : Exit → Act → World → Prop} {a : Act} {w : World} {l : List Oper} (S : World → Prop) (n : Nat) (hm : P.follows .mixedOrders = true) (hB : Region.lexTailB .any l.toArray n = true) (hS : S w.drew)
    (h : wpSteady P l.toArray S (fun a' => ∀ w', S w' → wpList P l.toArray Q (l.drop n) a' w') (l.take n) a) : (Code.region id l.toArray true).wp P Q a w := by
  simp only [Region.lexTailB, Bool.and_eq_true, decide_eq_true_eq] at hB
  obtain ⟨⟨⟨⟨hsel, hn⟩, hs⟩, hc⟩, hlex⟩ := hB
  have hn' : n < l.length := by simpa using hn
  have htl : (l.take n).length = n := by simp; omega
  have hdl : (l.drop n).length = l.toArray.size - n := by simp
  have H := wpAnyT_lex (md := .any) (g := l.toArray.size - n) hsel hs hc hn (l.take n) 0 _ a (fun j hj => by
    have hj' : j < n := by rw [htl] at hj; exact hj
    simp [hj']) (by simpa using htl) (headInv0 n) (by rw [htl]; exact hlex) h
  refine wp_region_any hm ?_
  have := wpAny_of_T (Q' := Q) (g := l.toArray.size - n) (fun listed a' w' hS' hL => by
    have := wpAny_of_seq (md := .any) (Q' := Q) (l.drop n) n listed a' w' (fun j => by simp [List.getElem?_drop]) (by rw [hdl]; exact hL.1) (hL.2 w' hS')
    rwa [hdl] at this) _ _ _ w.drew hS H
  rw [htl, show n + (l.toArray.size - n) = l.toArray.size by omega] at this
  exact this
theorem wpAnyT_whole {Lq : Act → Prop} (hsel : Region.noSelect ops = true) :
    ∀ (l : List Oper) (k : Nat) (listed : Array Bool) (a : Act), (∀ j, l[j]? = ops[k + j]?) → HeadInv md ops ops.size listed →
    Region.lexFrom md ops l.length k listed = true → wpSteady P ops S Lq l a →
    wpAnyT P md ops S ops.size (fun listed' a' => Region.ready md ops listed' = [] ∧ Lq a') l.length listed a
  | [], k, listed, a, _, _, hB, h => ⟨by simpa [Region.lexFrom] using hB, h⟩
  | o :: l, k, listed, a, hl, inv, hB, h => by
    have h0 : ops[k]? = some o := by simpa using (hl 0).symm
    simp only [List.length_cons, Region.lexFrom, Bool.and_eq_true] at hB
    obtain ⟨⟨hr, hf⟩, hB'⟩ := hB
    have hr' : k ∈ Region.ready md ops listed := by simpa using hr
    have hkn : k < ops.size := (Array.getElem?_eq_some_iff.1 h0).1
    obtain ⟨v, hy, hK⟩ := h
    exact wpAnyT_first h0 (Region.noSelect_spec hsel) hkn (fun listed' _ _ t ht => by obtain ⟨_, ot, hot, _⟩ := mem_ready.1 ht; exact (Array.getElem?_eq_some_iff.1 hot).1)
      (fun listed' a' hL j hj => by rw [hL.1] at hj; cases hj) l.length listed a inv (Region.free_spec h0 hf) hr' hy
      (wpAnyT_whole hsel l (k + 1) _ _ (fun j => by have := hl (j + 1); simpa [Nat.add_assoc, Nat.add_comm 1 j] using this) (inv.set hr' hkn) hB' hK)
/-- All operations in whatever order. -/
theorem wp_region_steady {id : Nat} {Q : Exit → Act → World → Prop} {a : Act} {w : World} {l : List Oper} (S : World → Prop) (hm : P.follows .mixedOrders = true) (hB : Region.lexB .any l.toArray = true) (hS : S w.drew)
    (h : wpSteady P l.toArray S (fun a' => ∀ w', S w' → Q .normal a' w') l a) : (Code.region id l.toArray true).wp P Q a w := by
  simp only [Region.lexB, Bool.and_eq_true] at hB
  have H := wpAnyT_whole (md := .any) hB.1 l 0 (Array.replicate l.toArray.size false) a (by simp) (headInv0 _) (by simpa using hB.2) h
  refine wp_region_any hm ?_
  have := wpAny_of_T (Q' := Q) (g := 0) (fun listed a' w' hS' hL => ⟨hL.1, hL.2 w' hS'⟩) _ _ _ w.drew hS H
  simpa using this
/-! The steps. -/
theorem steady_nil {Q : Act → Prop} {a : Act} (h : Q a) : wpSteady P ops S Q [] a := h
theorem steady_value {Q : Act → Prop} {a : Act} {o : Oper} {rest : List Oper} (v : Value) (hw : Region.wanted o (yielded ops a.tmps) = true) (hv : ∀ w, S w → (execOp a.eval o).run P w = .ok (.value v) w)
    (h : wpSteady P ops S Q rest (a.put o.dst v)) : wpSteady P ops S Q (o :: rest) a := ⟨v, .inl ⟨hw, fun w hS => .inl ⟨w, hv w hS, hS⟩⟩, h⟩
theorem steady_val {Q : Act → Prop} {a : Act} {o : Oper} {rest : List Oper} (v : Value) (b : Act) (hw : Region.wanted o (yielded ops a.tmps) = true) (hv : ∀ w, S w → (execOp a.eval o).run P w = .ok (.value v) w) (hb : a.put o.dst v = b)
    (h : wpSteady P ops S Q rest b) : wpSteady P ops S Q (o :: rest) a := steady_value v hw hv (hb ▸ h)
theorem steady_enter {Q : Act → Prop} {a : Act} {o : Oper} {rest : List Oper} (v : Value) (f : FuncId) (args : Array Value) (b : Act) (hw : Region.wanted o (yielded ops a.tmps) = true) (hv : ∀ w, S w → (execOp a.eval o).run P w = .ok (.enter f args) w)
    (hc : ∀ w, S w → Calls P f args w (fun e w'' => e = .returned v ∧ S w'')) (hb : a.put o.dst v = b)
    (h : wpSteady P ops S Q rest b) : wpSteady P ops S Q (o :: rest) a := ⟨v, .inl ⟨hw, fun w hS => .inr (.inr ⟨f, args, w, hv w hS, hc w hS⟩)⟩, hb ▸ h⟩
theorem steady_skip {Q : Act → Prop} {a : Act} {o : Oper} {rest : List Oper} (hw : Region.wanted o (yielded ops a.tmps) = false)
    (h : wpSteady P ops S Q rest (a.put o.dst undef)) : wpSteady P ops S Q (o :: rest) a := ⟨undef, .inr ⟨hw, rfl⟩, h⟩
theorem steady_call {Q : Act → Prop} {a : Act} {o : Oper} {rest : List Oper} (v : Value) (f : FuncId) (args : Array Value) (hw : Region.wanted o (yielded ops a.tmps) = true) (hv : ∀ w, S w → (execOp a.eval o).run P w = .ok (.enter f args) w)
    (hc : ∀ w, S w → Calls P f args w (fun e w'' => e = .returned v ∧ S w''))
    (h : wpSteady P ops S Q rest (a.put o.dst v)) : wpSteady P ops S Q (o :: rest) a := ⟨v, .inl ⟨hw, fun w hS => .inr (.inr ⟨f, args, w, hv w hS, hc w hS⟩)⟩, h⟩
/-! Operations on whole rows, run. -/
theorem exec_load_row {o : Oper} {a : Act} {w : World} (ty : TypeId) (x : Operand) (ho : o.op = .load ty x) (g : Nat) (hx : a.eval x = .pointer (some ⟨g, 0, none⟩)) (t : TypeId) (cs : Array Value) (d : TypeDesc) (hg : w.heap[g]? = some (.cells cs t (0, 0)))
    (hu : P.underlying ty = some d) (hd : (match d with | .struct _ | .array _ _ => true | _ => false) = true) (hi : (P.info? ty).map (·.size) = some cs.size) : (execOp a.eval o).run P w = .ok (.value (.agg cs)) w := by
  unfold execOp
  simp only [ho, hx, Instr.loadAt, Instr.sureAddr, Sem.run_bind, Sem.run_pure, Result.andThen_ok, run_loadVar_row w g t ty cs (0, 0) d hg hu hd hi]
theorem exec_store_row {o : Oper} {a : Act} {w : World} (ty : TypeId) (x y : Operand) (ho : o.op = .store ty x y) (g : Nat) (cells : Array Value) (hx : a.eval x = .pointer (some ⟨g, 0, none⟩)) (hy : a.eval y = .agg cells)
    (t : TypeId) (old : Array Value) (hg : w.heap[g]? = some (.cells old t (0, 0))) (hi : (P.info? ty).map (·.size) = some cells.size) (hold : old.size = cells.size) (h1 : cells.all (·.oneCell') = true) : (execOp a.eval o).run P w = .ok .skip (w.setRow g cells) := by
  unfold execOp
  simp only [ho, hx, hy, Instr.storeAt, Instr.sureAddr, Sem.run_bind, Sem.run_pure, Result.andThen_ok, run_storeVar_row w g t ty old cells hg hi hold h1]
theorem exec_alloc {o : Oper} {a : Act} {w : World} (ty : TypeId) (ho : o.op = .alloc ty) (z : Value) (hz : (zeroValue ty).run P w = .ok z w) : (execOp a.eval o).run P w = .ok (.value (.pointer (some ⟨w.heap.size, 0, none⟩))) (w.alloc (.cells z.cells ty)) := by
  unfold execOp
  simp [ho, Instr.alloc, hz, newVar, newRow, newObj, go_sem]
  rfl
theorem exec_cmp {o : Oper} {a : Act} {w : World} (op : BinOp) (t t2 : TypeId) (x y : Operand) (ho : o.op = .binOp op t x y t2) (xs ys : Array Value) (hx : a.eval x = .agg xs) (hy : a.eval y = .agg ys) (hm : P.eqGuardType P.depth t = false) (r : Value)
    (hr : (binOp op t (.agg xs) (.agg ys)).run P w = .ok r w) : (execOp a.eval o).run P w = .ok (.value r) w := by
  unfold execOp
  simp only [ho, hx, hy, Sem.run_bind, run_eqGuard_agg w op t x y xs ys hm, hr, Result.andThen_ok, Sem.run_pure]
theorem wpOp_val {Q : Exit → Act → World → Prop} {i : Nat} {o : Oper} {a : Act} {w : World} {K : Act → World → Prop} (v : Value) (w' : World) (hi : ops[i]? = some o) (hw : Region.wanted o (yielded ops a.tmps) = true) (hr : (execOp a.eval o).run P w = .ok (.value v) w') (h : K (a.put o.dst v) w') : Go.wpOp P ops Q i K a w := by
  unfold Go.wpOp
  simp only [hi, hw, if_true]
  refine .inl ?_
  unfold Oper.wp
  rw [hr]; exact h
theorem wpOp_valB {Q : Exit → Act → World → Prop} {i : Nat} {o : Oper} {a : Act} {w : World} {K : Act → World → Prop} (v : Value) (w' : World) (b : Act) (hi : ops[i]? = some o) (hw : Region.wanted o (yielded ops a.tmps) = true) (hr : (execOp a.eval o).run P w = .ok (.value v) w') (hb : a.put o.dst v = b) (h : K b w') : Go.wpOp P ops Q i K a w :=
  wpOp_val v w' hi hw hr (hb ▸ h)
theorem takeH {Q : Exit → Act → World → Prop} {i : Nat} {oi : Oper} {fuel : Nat} {listed : Array Bool} {a : Act} {w : World} (v : Value) (b : Act) (hi : ops[i]? = some oi) (hs : Region.noSelect ops = true) (hf : Region.free md ops listed i = true) (hr : (Region.ready md ops listed).contains i = true)
    (hQ : ∀ c a w, Q (.panic c) (a.put oi.dst v) w → Q (.panic c) a w) (hw : Region.wanted oi (yielded ops a.tmps) = true) (hv : ∀ w, S w → (execOp a.eval oi).run P w = .ok (.value v) w) (hS : S w) (hb : a.put oi.dst v = b)
    (h : wpAnyH P md ops Q S fuel (listed.setIfInBounds i true) b w) : wpAnyH P md ops Q S (fuel + 1) listed a w :=
  wpAnyH_take hi hs hf hr hQ (Or.inl ⟨hw, hv⟩) hS (hb ▸ h)
theorem wpOp_callB {Q : Exit → Act → World → Prop} {i : Nat} {o : Oper} {a : Act} {w : World} {K : Act → World → Prop} (f : FuncId) (args : Array Value) (v : Value) (b : Act) (hi : ops[i]? = some o) (hw : Region.wanted o (yielded ops a.tmps) = true) (hr : (execOp a.eval o).run P w = .ok (.enter f args) w)
    (hb : a.put o.dst v = b) (h : Calls P f args w fun e w'' => e = .returned v ∧ K b w'') : Go.wpOp P ops Q i K a w := by
  subst hb
  unfold Go.wpOp
  simp only [hi, hw, if_true]
  refine .inl ?_
  unfold Oper.wp
  rw [hr]
  simp only [Oper.upon]
  exact h.mono fun e w'' ⟨he, hk⟩ => by subst he; exact hk
theorem wpOp_unit {Q : Exit → Act → World → Prop} {i : Nat} {o : Oper} {a : Act} {w : World} {K : Act → World → Prop} (w' : World) (hi : ops[i]? = some o) (hw : Region.wanted o (yielded ops a.tmps) = true) (hr : (execOp a.eval o).run P w = .ok .skip w') (h : K (a.put o.dst undef) w') : Go.wpOp P ops Q i K a w := by
  unfold Go.wpOp
  simp only [hi, hw, if_true]
  refine .inl ?_
  unfold Oper.wp
  rw [hr]; exact h
theorem wpOp_unitB {Q : Exit → Act → World → Prop} {i : Nat} {o : Oper} {a : Act} {w : World} {K : Act → World → Prop} (w' : World) (b : Act) (hi : ops[i]? = some o) (hw : Region.wanted o (yielded ops a.tmps) = true) (hr : (execOp a.eval o).run P w = .ok .skip w') (hb : a.put o.dst undef = b) (h : K b w') : Go.wpOp P ops Q i K a w :=
  wpOp_unit w' hi hw hr (hb ▸ h)
end
end Go.Proofs.YtjeolfcefeglpabGreat
set_option maxRecDepth 20000
namespace Go.Proofs.YtjeolfcefeglpabGreat
open Go.ChangeShapes Go.WideShapes Go.ChangeAt Go.RowKit Wd

theorem info_pc : (Tryz.prog.info? 142).map (fun i => (i.zero, i.size, i.bytes)) = some (some (.agg #[.int .u64 0, .int .i64 0, .int .i64 0]), 3, 24) := by kernel_rfl
theorem pc_one (a n s : Int) : (#[Value.int .u64 a, .int .i64 n, .int .i64 s] : Array Value).all (·.oneCell') = true := by simp [Value.oneCell']
set_option maxHeartbeats 1000000 in
theorem run_c (a n f : Int) (w : World) (h0 : 0 ≤ a) (h1 : a < 18446744073709551616) (hn : 1 ≤ n) (hn8 : n ≤ 8) (hf : 0 ≤ f) (hf8 : f ≤ 8) :
    Calls Tryz.prog 66 #[.int .u64 a, .int .i64 n, .int .i64 f] w fun e w' => ∃ v, e = .returned v ∧ w'.ownsRow w.heap.size 142 3 v (Sp.run a n f).length (Sp.cellsOf (Sp.run a n f)) ∧ Below w.heap.size w w' := by
  have hm0 := Int.emod_nonneg a (show (64 : Int) ≠ 0 by omega)
  have hm1 := Int.emod_lt_of_pos a (show (0 : Int) < 64 by omega)
  by_cases h : 64 - a % 64 < n
  · have HR := Lib.hid (show Sp.run a n f = [⟨a, 64 - a % 64, 8 * f⟩, ⟨(a + (64 - a % 64)) % 18446744073709551616, n - (64 - a % 64), 8 * (f + (64 - a % 64))⟩] by unfold Sp.run; rw [if_pos h])
    go_enter Tryz.func66, Tryz.ntmps66
    go_wp2_with fail
    refine (left_c _ _ _ h0 h1 (by omega) (by omega)).mono ?_
    rintro e w1 ⟨rfl, rfl⟩
    generalize hd : 64 - a % 64 = d at *
    have d0 : 1 ≤ d := by omega
    have d8 : d ≤ 8 := by omega
    clear hd hm0 hm1
    have e1 : IntKind.u64.wrap d = d := by rw [IntKind.wrap_u64]; omega
    have e2 : IntKind.u64.wrap (a + d) = (a + d) % 18446744073709551616 := by rw [IntKind.wrap_u64]
    generalize (a + d) % 18446744073709551616 = x at *
    have HO := Lib.hid (own_one w 142 #[.int .u64 a, .int .i64 d, .int .i64 (8 * f)] 3 rfl)
    have HB := Lib.hid ((Below.refl w.heap.size w).alloc (Nat.le_refl _) (.cells #[.int .u64 a, .int .i64 d, .int .i64 (8 * f)] 142))
    have hsz : w.heap.size ≤ (w.alloc (.cells #[.int .u64 a, .int .i64 d, .int .i64 (8 * f)] 142)).heap.size := HB.out.size
    have HZ := Lib.hid hsz
    clear hsz
    go_wp2_with (at_builtin; refine wpList_push rfl _ _ 111 rfl w.heap.size 142 _ 3 24 Tryz.underlying111 info_pc rfl (by omega) (by omega) _ 1 _ rfl HO.out #[.int .u64 x, .int .i64 (n - d), .int .i64 (8 * (f + d))] rfl (pc_one _ _ _) _ rfl (by simp) (by omega) HZ.out ?_)
    intro v' w' hown hb
    have HV := Lib.hid hown
    have HB' := Lib.hid (HB.out.trans hb)
    clear hown hb
    go_wp2_with fail
    go_ret
    refine ⟨_, rfl, ?_, HB'.out⟩
    rw [HR.out]
    exact HV.out
  · have HR := Lib.hid (show Sp.run a n f = [⟨a, n, 8 * f⟩] by unfold Sp.run; rw [if_neg h])
    go_enter Tryz.func66, Tryz.ntmps66
    go_wp2_with fail
    refine (left_c _ _ _ h0 h1 (by omega) (by omega)).mono ?_
    rintro e w1 ⟨rfl, rfl⟩
    generalize hd : 64 - a % 64 = d at *
    go_wp2_with fail
    go_ret
    refine ⟨_, rfl, ?_, (Below.refl w.heap.size w).alloc (Nat.le_refl _) _⟩
    rw [HR.out]
    exact own_one w 142 #[.int .u64 a, .int .i64 n, .int .i64 (8 * f)] 3 rfl
/-- What stands while the pieces are made. -/
def PcS (w : World) (a b c n : Int) (W : World) : Prop :=
  Below w.heap.size w W ∧ W.cell? ⟨w.heap.size, 0, none⟩ = some (.int .u64 a) ∧ W.cell? ⟨w.heap.size, 1, none⟩ = some (.int .u64 b) ∧ W.cell? ⟨w.heap.size, 2, none⟩ = some (.int .i64 c) ∧ W.cell? ⟨w.heap.size, 3, none⟩ = some (.int .i64 n)
theorem PcS.low {w W W' : World} {a b c n : Int} (h : PcS w a b c n W) (hb : Below W.heap.size W W') : PcS w a b c n W' := by
  obtain ⟨h0, h1, h2, h3, h4⟩ := h
  have hl : w.heap.size < W.heap.size := World.block_lt_of_cell? W _ h1
  exact ⟨h0.trans (hb.mono h0.size), (hb.cell (p := ⟨w.heap.size, 0, none⟩) hl).trans h1, (hb.cell (p := ⟨w.heap.size, 1, none⟩) hl).trans h2, (hb.cell (p := ⟨w.heap.size, 2, none⟩) hl).trans h3, (hb.cell (p := ⟨w.heap.size, 3, none⟩) hl).trans h4⟩
theorem PcS.drew {w W : World} {a b c n : Int} (h : PcS w a b c n W) : PcS w a b c n W.drew := h.low ⟨rfl, rfl, rfl, Nat.le_refl _, fun _ _ => rfl⟩
set_option maxHeartbeats 1000000 in
theorem pieces_c (a b c n : Int) (w : World) (ha : 0 ≤ a ∧ a < 18446744073709551616) (hb : 0 ≤ b ∧ b < 18446744073709551616) :
    Calls Tryz.prog 36 #[.agg (axV a b c n)] w fun e w' => ∃ v, e = .returned v ∧ w'.ownsRow w.heap.size 142 3 v (Sp.pieces a b c n).length (Sp.cellsOf (Sp.pieces a b c n)) ∧ Below w.heap.size w w' := by
  have HB := Lib.hid ((Below.refl w.heap.size w).alloc (Nat.le_refl _) (.cells (axV a b c n) 104))
  have HC := Lib.hid (CsAt.new w 104 (axV a b c n))
  go_enter Tryz.func36, Tryz.ntmps36
  go_upto_region 1 with (fail)
  generalize w.alloc (.cells (axV a b c n) 104) = w1 at *
  go_wp2_with (refine wpList_load_row rfl 104 _ rfl w.heap.size rfl 104 _ (0, 0) _ HC.out Tryz.underlying104 rfl (by kernel_rfl) ?_)
  refine (may_c _ _ _ _ _).mono ?_
  rintro e w2 ⟨rfl, hb2⟩
  have HS2 := Lib.hid (show PcS w a b c n w2 from PcS.low (W := w1) ⟨HB.out, HC.out.cell 0, HC.out.cell 1, HC.out.cell 2, HC.out.cell 3⟩ hb2)
  clear hb2 HC HB
  cases hok : Sp.okA c n
  · have HP := Lib.hid (show Sp.pieces a b c n = [] by unfold Sp.pieces; simp [hok])
    go_wp2_with fail
    go_ret
    refine ⟨_, rfl, ?_, HS2.out.1⟩
    rw [HP.out]
    exact World.ownsRow_nil _ _ _ _
  · obtain ⟨k1, k2, k3, k4⟩ := Sp.okA_iff.1 hok
    obtain ⟨-, c0, c1, c2, c3⟩ := HS2.out
    by_cases hc : c = 0
    · subst hc
      have HP := Lib.hid (show Sp.pieces a b 0 n = Sp.run a n 0 by unfold Sp.pieces; simp [hok])
      clear hok
      go_wp2_with fail
      refine (run_c a n 0 _ ha.1 ha.2 k1 k2 (by omega) (by omega)).mono ?_
      rintro e w3 ⟨v, rfl, hown, hb3⟩
      have HV := Lib.hid (own_mono hown HS2.out.1.size)
      have HB3 := Lib.hid (HS2.out.low hb3).1
      clear hown hb3
      go_wp2_with fail
      go_ret
      refine ⟨_, rfl, ?_, HB3.out⟩
      rw [HP.out]
      exact HV.out
    · have HP := Lib.hid (show Sp.pieces a b c n = Sp.run a c 0 ++ Sp.run b (n - c) c by unfold Sp.pieces; simp [hok, hc])
      have g : (c == 0) = false := by simpa using hc
      have hw : IntKind.i64.wrap (n - c) = n - c := by rw [IntKind.wrap_i64]; omega
      clear hok
      go_upto_region 5 with fail
      refine wp_region_noPanic ?_
      refine wp_region_held (S := PcS w a b c n) (by kernel_rfl) ?_
      have hS0 : PcS w a b c n w2.drew := HS2.out.drew
      clear c0 c1 c2 c3
      refine takeH (fuel := 16) (i := 0) (.pointer (some ⟨w.heap.size, 0, none⟩)) ?_ rfl (by kernel_rfl) (by kernel_rfl) (by kernel_rfl) (fun _ _ _ h => h) (by kernel_rfl) (fun W hS => by obtain ⟨-, c0, c1, c2, c3⟩ := hS; go_simp) hS0 ?_ ?_
      rotate_left 1
      · go_simp
        exact rfl
      refine takeH (fuel := 15) (i := 1) (.int .u64 a) ?_ rfl (by kernel_rfl) (by kernel_rfl) (by kernel_rfl) (fun _ _ _ h => h) (by kernel_rfl) (fun W hS => by obtain ⟨-, c0, c1, c2, c3⟩ := hS; go_simp) hS0 ?_ ?_
      rotate_left 1
      · go_simp
        exact rfl
      refine takeH (fuel := 14) (i := 2) (.pointer (some ⟨w.heap.size, 2, none⟩)) ?_ rfl (by kernel_rfl) (by kernel_rfl) (by kernel_rfl) (fun _ _ _ h => h) (by kernel_rfl) (fun W hS => by obtain ⟨-, c0, c1, c2, c3⟩ := hS; go_simp) hS0 ?_ ?_
      rotate_left 1
      · go_simp
        exact rfl
      refine takeH (fuel := 13) (i := 3) (.int .i64 c) ?_ rfl (by kernel_rfl) (by kernel_rfl) (by kernel_rfl) (fun _ _ _ h => h) (by kernel_rfl) (fun W hS => by obtain ⟨-, c0, c1, c2, c3⟩ := hS; go_simp) hS0 ?_ ?_
      rotate_left 1
      · go_simp
        exact rfl
      refine takeH (fuel := 12) (i := 5) (.pointer (some ⟨w.heap.size, 1, none⟩)) ?_ rfl (by kernel_rfl) (by kernel_rfl) (by kernel_rfl) (fun _ _ _ h => h) (by kernel_rfl) (fun W hS => by obtain ⟨-, c0, c1, c2, c3⟩ := hS; go_simp) hS0 ?_ ?_
      rotate_left 1
      · go_simp
        exact rfl
      refine takeH (fuel := 11) (i := 6) (.int .u64 b) ?_ rfl (by kernel_rfl) (by kernel_rfl) (by kernel_rfl) (fun _ _ _ h => h) (by kernel_rfl) (fun W hS => by obtain ⟨-, c0, c1, c2, c3⟩ := hS; go_simp) hS0 ?_ ?_
      rotate_left 1
      · go_simp
        exact rfl
      refine takeH (fuel := 10) (i := 7) (.pointer (some ⟨w.heap.size, 3, none⟩)) ?_ rfl (by kernel_rfl) (by kernel_rfl) (by kernel_rfl) (fun _ _ _ h => h) (by kernel_rfl) (fun W hS => by obtain ⟨-, c0, c1, c2, c3⟩ := hS; go_simp) hS0 ?_ ?_
      rotate_left 1
      · go_simp
        exact rfl
      refine takeH (fuel := 9) (i := 8) (.int .i64 n) ?_ rfl (by kernel_rfl) (by kernel_rfl) (by kernel_rfl) (fun _ _ _ h => h) (by kernel_rfl) (fun W hS => by obtain ⟨-, c0, c1, c2, c3⟩ := hS; go_simp) hS0 ?_ ?_
      rotate_left 1
      · go_simp
        exact rfl
      refine takeH (fuel := 8) (i := 9) (.pointer (some ⟨w.heap.size, 2, none⟩)) ?_ rfl (by kernel_rfl) (by kernel_rfl) (by kernel_rfl) (fun _ _ _ h => h) (by kernel_rfl) (fun W hS => by obtain ⟨-, c0, c1, c2, c3⟩ := hS; go_simp) hS0 ?_ ?_
      rotate_left 1
      · go_simp
        exact rfl
      refine takeH (fuel := 7) (i := 10) (.int .i64 c) ?_ rfl (by kernel_rfl) (by kernel_rfl) (by kernel_rfl) (fun _ _ _ h => h) (by kernel_rfl) (fun W hS => by obtain ⟨-, c0, c1, c2, c3⟩ := hS; go_simp) hS0 ?_ ?_
      rotate_left 1
      · go_simp
        exact rfl
      refine takeH (fuel := 6) (i := 11) (.int .i64 (n - c)) ?_ rfl (by kernel_rfl) (by kernel_rfl) (by kernel_rfl) (fun _ _ _ h => h) (by kernel_rfl) (fun W hS => by obtain ⟨-, c0, c1, c2, c3⟩ := hS; go_simp) hS0 ?_ ?_
      rotate_left 1
      · go_simp
        exact rfl
      refine takeH (fuel := 5) (i := 12) (.pointer (some ⟨w.heap.size, 2, none⟩)) ?_ rfl (by kernel_rfl) (by kernel_rfl) (by kernel_rfl) (fun _ _ _ h => h) (by kernel_rfl) (fun W hS => by obtain ⟨-, c0, c1, c2, c3⟩ := hS; go_simp) hS0 ?_ ?_
      rotate_left 1
      · go_simp
        exact rfl
      refine takeH (fuel := 4) (i := 13) (.int .i64 c) ?_ rfl (by kernel_rfl) (by kernel_rfl) (by kernel_rfl) (fun _ _ _ h => h) (by kernel_rfl) (fun W hS => by obtain ⟨-, c0, c1, c2, c3⟩ := hS; go_simp) hS0 ?_ ?_
      rotate_left 1
      · go_simp
        exact rfl
      have hlt : w.heap.size < w2.drew.heap.size := World.block_lt_of_cell? _ _ hS0.2.1
      change wpAnyH _ _ _ _ _ _ _ _ w2.drew
      generalize w2.drew = W0 at *
      refine wpAnyH_all (fuel := 3) (rs := [4]) (by kernel_rfl) (by decide) ?_
      intro i hi
      obtain rfl : i = 4 := by simpa using hi
      refine wpOp_callX 66 #[.int .u64 a, .int .i64 c, .int .i64 0] rfl (by kernel_rfl) (by go_simp) ?_
      refine (run_c a c 0 _ ha.1 ha.2 (by omega) (by omega) (by omega) (by omega)).mono ?_
      rintro e w3 ⟨v3, rfl, hown3, hb3⟩
      refine ⟨v3, rfl, hS0.low hb3, ?_⟩
      refine wpAnyH_all (fuel := 2) (rs := [14]) (by kernel_rfl) (by decide) ?_
      intro i hi
      obtain rfl : i = 14 := by simpa using hi
      refine wpOp_callX 66 #[.int .u64 b, .int .i64 (n - c), .int .i64 c] rfl (by kernel_rfl) (by go_simp) ?_
      refine (run_c b (n - c) c _ hb.1 hb.2 (by omega) (by omega) (by omega) (by omega)).mono ?_
      rintro e w4 ⟨v4, rfl, hown4, hb4⟩
      refine ⟨v4, rfl, (hS0.low hb3).low hb4, ?_⟩
      refine wpAnyH_all (fuel := 1) (rs := [15]) (by kernel_rfl) (by decide) ?_
      intro i hi
      obtain rfl : i = 15 := by simpa using hi
      obtain ⟨p4, cap4, rfl, hv4, -, -⟩ := own_form hown4
      have hs0 := hS0.low hb3 |>.low hb4
      have hown3' := own_low hown3 hb4
      have hsz4 := Nat.le_trans hb3.size hb4.size
      refine wpOp_wpX rfl (by kernel_rfl) ?_
      refine wp_cat _ _ 111 rfl W0.heap.size 142 _ 3 24 Tryz.underlying111 info_pc rfl (by omega) (by omega) v3 _ _ rfl hown3' p4 _ cap4 _ rfl hv4 (own_len hown4) (Sp.cellsOf_oneC _) ?_ hsz4 ?_
      · have := Sp.run_len a c 0
        have := Sp.run_len b (n - c) c
        omega
      intro v5 w5 hown5 hb5
      have hs5 := PcS.low (W := W0) hS0 ((hb3.trans (hb4.mono hb3.size)).trans hb5)
      refine ⟨hs5, ?_⟩
      refine wpAnyH_all (fuel := 0) (rs := [16]) (by kernel_rfl) (by decide) ?_
      intro i hi
      obtain rfl : i = 16 := by simpa using hi
      refine wpOp_valB v5 w5 _ rfl (by kernel_rfl) (by go_simp) rfl ⟨hs5, ?_⟩
      refine wpAnyH_done (by kernel_rfl) ?_ _
      refine NoPanic.normal ?_
      go_wp2_with fail
      refine bodyPost_ret (v := v5) (by simp [results, Tryz.results36, go_sem]) rfl ⟨_, rfl, ?_, hs5.1⟩
      rw [HP.out, List.length_append, Sp.cellsOf_append]
      exact own_mono hown5 (Nat.le_of_lt hlt)
end Go.Proofs.YtjeolfcefeglpabGreat
