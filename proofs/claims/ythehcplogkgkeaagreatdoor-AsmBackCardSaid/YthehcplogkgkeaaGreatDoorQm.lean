/-
  Arrays of integers as whole rows: a block that holds them; what is loaded, stored and compared; how the program's other steps leave them. A region that draws its order, and whose operations each leave one known value in every world that meets a condition S, and leave S: it is walked once, in the order of the text; its last operations, if they wait for all others, one behind the other. Contracts of regs.exists, Of, Get, Set, Words and of the reference's Set, over arrays as whole rows. The names of registers; their numbers' digits: contracts of strconv.Itoa below 32, of the reference's Digits and Names, of regs.Name. Contracts of regs.Find and of the reference's Find.
-/
import Derived.Test.YthehcplogkgkeaaGreatDoorRows
import Derived.Laws.Rows
import Derived.Laws.Tables
import Derived.Deep.WholeRow
import Derived.Laws.StructEq
import Derived.Laws.CopyOwn
import Derived.Laws.CopyRow
import Derived.Below
import Derived.Great.BuildSlice
import Derived.WalkKit
import Derived.Lib.Hide
import Derived.StillTail
import Derived.Deep.RegionHeld3
import Derived.ProofKit
import Derived.WalkLawsBesides
import Derived.Deep.DeepCutAuto
import Derived.WalkSpells
import Derived.Deep.QuietTactic
import Derived.BigQuiet
import Derived.StillTactics
import Derived.IntWalk
set_option maxRecDepth 4000
namespace Go.Proofs.YthehcplogkgkeaaGreatDoor
open Go.RowKit

/-- The cells of an array of integers. -/
def aV (k : IntKind) (ws : List Int) : Array Value := (ws.map (Value.int k)).toArray
theorem aV_size (k : IntKind) (ws : List Int) : (aV k ws).size = ws.length := by simp [aV]
theorem aV_get (k : IntKind) (ws : List Int) (i : Nat) : (aV k ws)[i]? = (ws[i]?).map (Value.int k) := by simp [aV]
theorem aV_set (k : IntKind) (ws : List Int) (i : Nat) (x : Int) : (aV k ws).setIfInBounds i (.int k x) = aV k (ws.set i x) := by
  simp [aV, List.map_set]
theorem aV_one (k : IntKind) (ws : List Int) : (aV k ws).all (·.oneCell') = true := by
  rw [Array.all_eq_true_iff_forall_mem]
  intro v hv
  simp [aV] at hv
  obtain ⟨a, -, rfl⟩ := hv
  rfl
/-- A block that holds an array of integers. -/
def RowAt (k : IntKind) (w : World) (b : Nat) (t : TypeId) (ws : List Int) : Prop := w.heap[b]? = some (.cells (aV k ws) t (0, 0))
theorem RowAt.lt {k : IntKind} {w : World} {b : Nat} {t : TypeId} {ws : List Int} (h : RowAt k w b t ws) : b < w.heap.size := (Array.getElem?_eq_some_iff.1 h).1
theorem RowAt.on {k : IntKind} {w w' : World} {B b : Nat} {t : TypeId} {ws : List Int} (h : RowAt k w b t ws) (hb : Below B w w') (hB : b < B) : RowAt k w' b t ws := (hb.block b hB).trans h
theorem RowAt.low {k : IntKind} {w w' : World} {b : Nat} {t : TypeId} {ws : List Int} (h : RowAt k w b t ws) (hb : Below w.heap.size w w') : RowAt k w' b t ws := h.on hb h.lt
theorem RowAt.alloc {k : IntKind} {w : World} {b : Nat} {t : TypeId} {ws : List Int} (h : RowAt k w b t ws) (o : Obj) : RowAt k (w.alloc o) b t ws := (Below.heap_alloc w o b h.lt).trans h
theorem RowAt.drew {k : IntKind} {w : World} {b : Nat} {t : TypeId} {ws : List Int} (h : RowAt k w b t ws) : RowAt k w.drew b t ws := h
theorem RowAt.new (k : IntKind) (w : World) (t : TypeId) (ws : List Int) : RowAt k (w.alloc (.cells (aV k ws) t)) w.heap.size t ws := by show (w.heap.push _)[w.heap.size]? = _; simp
theorem RowAt.cell {k : IntKind} {w : World} {b : Nat} {t : TypeId} {ws : List Int} (h : RowAt k w b t ws) (i : Nat) (hi : i < ws.length) : w.cell? ⟨b, i, none⟩ = some (.int k (ws.getD i 0)) := by
  rw [cell_of_row w b i _ t _ h, aV_get, List.getD, List.getElem?_eq_getElem hi]
  rfl
theorem RowAt.frozen {k : IntKind} {w : World} {b : Nat} {t : TypeId} {ws : List Int} (h : RowAt k w b t ws) (i : Nat) : w.frozen? ⟨b, i, none⟩ = false := frozen_of_row w b i _ t h
theorem RowAt.set {k : IntKind} {w : World} {b : Nat} {t : TypeId} {ws : List Int} (h : RowAt k w b t ws) (i : Nat) (x : Int) : RowAt k (w.setCell ⟨b, i, none⟩ (.int k x)) b t (ws.set i x) := by
  unfold RowAt
  rw [heap_setCell_same w b i _ t _ h, aV_set]
theorem RowAt.far {k : IntKind} {w : World} {b : Nat} {t : TypeId} {ws : List Int} (h : RowAt k w b t ws) {c i : Nat} (hne : b ≠ c) (v : Value) : RowAt k (w.setCell ⟨c, i, none⟩ v) b t ws :=
  (heap_setCell_other w ⟨c, i, none⟩ b v hne).trans h
theorem RowAt.row {k : IntKind} {w : World} {b : Nat} {t : TypeId} {ws : List Int} (h : RowAt k w b t ws) (vs : List Int) : RowAt k (w.setRow b (aV k vs)) b t vs := setRow_heap w b _ _ t _ h
theorem RowAt.rowFar {k : IntKind} {w : World} {b : Nat} {t : TypeId} {ws : List Int} (h : RowAt k w b t ws) {c : Nat} (hne : b ≠ c) (cs : Array Value) : RowAt k (w.setRow c cs) b t ws := (setRow_other w c b cs hne).trans h
theorem RowAt.setEq {k : IntKind} {w : World} {b : Nat} {t : TypeId} {ws : List Int} (h : RowAt k w b t ws) (i : Nat) (x : Int) : w.setCell ⟨b, i, none⟩ (.int k x) = w.setRow b (aV k (ws.set i x)) := by
  rw [setCell_eq_setRow w b i _ t _ _ h, aV_set]
theorem RowAt.self {k : IntKind} {w : World} {b : Nat} {t : TypeId} {ws : List Int} (h : RowAt k w b t ws) : w.setRow b (aV k ws) = w := setRow_self w b _ t _ h

theorem ints_range_eq : ∀ (xs ys : List Int), xs.length = ys.length → ((List.range xs.length).all fun i => xs.getD i 0 == ys.getD i 0) = (xs == ys)
  | [], [], _ => rfl
  | x :: xs, y :: ys, h => by
    have ih := ints_range_eq xs ys (by simpa using h)
    rw [List.length_cons, List.range_succ_eq_map, List.all_cons, List.all_map]
    simp only [List.getD_cons_zero, Function.comp_def, List.getD_cons_succ, ih]
    simp [List.cons_beq_cons]
  | [], _ :: _, h => by simp at h
  | _ :: _, [], h => by simp at h
section
variable {P : Program} (w : World)
theorem run_equalIn_ints (d : Nat) (t e : TypeId) (n : Nat) (k : IntKind) (ht : P.underlying t = some (.array n e)) (he : P.underlying e = some (.int k)) (hsz : ∀ w, (sizeOf e).run P w = .ok 1 w)
    (xs ys : List Int) (hx : xs.length = n) (hy : ys.length = n) :
    (Op.equalIn (d + 2) t (.agg (aV k xs)) (.agg (aV k ys))).run P w = .ok (xs == ys) w := by
  rw [← ints_range_eq xs ys (hx.trans hy.symm), hx, List.range_eq_range', Op.equalIn]
  simp only [Sem.run_bind, run_underlying ht, Result.andThen_ok, hsz, Std.Legacy.Range.forIn_eq_forIn_range', Std.Legacy.Range.size, Nat.sub_zero, Nat.add_sub_cancel, Nat.div_one]
  have hl : ∀ i ∈ List.range' 0 n 1, i < n := fun i hi => by simpa using (List.mem_range'_1.1 hi).2
  generalize List.range' 0 n 1 = l at hl ⊢
  induction l with
  | nil => simp
  | cons i l ih =>
    have hi : i < n := hl i (by simp)
    have px : (part e (aV k xs) (i * 1)).run P w = .ok (.int k (xs.getD i 0)) w := by
      simp [part, isAgg, run_underlying he, aV, List.getD, List.getElem?_eq_getElem (show i < xs.length by omega)]
    have py : (part e (aV k ys) (i * 1)).run P w = .ok (.int k (ys.getD i 0)) w := by
      simp [part, isAgg, run_underlying he, aV, List.getD, List.getElem?_eq_getElem (show i < ys.length by omega)]
    have pe : (Op.equalIn (d + 1) e (.int k (xs.getD i 0)) (.int k (ys.getD i 0))).run P w = .ok (xs.getD i 0 == ys.getD i 0) w := run_equalIn_int w d e k k _ _ he
    simp only [List.forIn_cons, Sem.run_bind, px, py, pe, Result.andThen_ok, List.all_cons]
    cases hb : (xs.getD i 0 == ys.getD i 0)
    · simp
    · simp only [Bool.not_true, Bool.false_eq_true, if_false, Sem.run_pure, Result.andThen_ok, Bool.true_and]
      exact ih fun j hj => hl j (by simp [hj])
theorem run_eql_ints (t e : TypeId) (n : Nat) (k : IntKind) (ht : P.underlying t = some (.array n e)) (he : P.underlying e = some (.int k)) (hsz : ∀ w, (sizeOf e).run P w = .ok 1 w)
    (xs ys : List Int) (hx : xs.length = n) (hy : ys.length = n) : (binOp .eql t (.agg (aV k xs)) (.agg (aV k ys))).run P w = .ok (.bool (xs == ys)) w := by
  rw [run_eql_struct, run_equalIn_ints w 9998 t e n k ht he hsz xs ys hx hy]
  rfl
theorem run_neq_ints (t e : TypeId) (n : Nat) (k : IntKind) (ht : P.underlying t = some (.array n e)) (he : P.underlying e = some (.int k)) (hsz : ∀ w, (sizeOf e).run P w = .ok 1 w)
    (xs ys : List Int) (hx : xs.length = n) (hy : ys.length = n) : (binOp .neq t (.agg (aV k xs)) (.agg (aV k ys))).run P w = .ok (.bool (!(xs == ys))) w := by
  rw [run_neq_struct, run_equalIn_ints w 9998 t e n k ht he hsz xs ys hx hy]
  rfl
/-- A whole array into the block that was made last. -/
theorem wpList_storeNew {ops : Array Oper} {rest : List Oper} {o : Oper} {a : Act} {w0 : World} {Q : Exit → Act → World → Prop} (hgd : o.guard = none) (ty : TypeId) (x y : Operand) (ho : o.op = .store ty x y)
    (c cells : Array Value) (t : TypeId) (hx : a.eval x = .pointer (some ⟨w0.heap.size, 0, none⟩)) (hy : a.eval y = .agg cells) (hi : (P.info? ty).map (·.size) = some cells.size) (hold : c.size = cells.size) (h1 : cells.all (·.oneCell') = true)
    (h : wpList P ops Q rest (a.put o.dst undef) (w0.alloc (.cells cells t))) : wpList P ops Q (o :: rest) a (w0.alloc (.cells c t)) := by
  refine wpList_store_row hgd ty x y ho w0.heap.size cells hx hy t c (heap_alloc_last w0 _) hi hold h1 ?_
  rw [World.setRow_alloc_new]
  exact h
theorem foldl_fill : ∀ (l : List Value) (i : Nat) (acc : Array Value), acc.size = i + l.length → (l.zipIdx i).foldl (fun (cs : Array Value) (x : Value × Nat) => cs.setIfInBounds (0 + x.2) x.1) acc = (acc.toList.take i ++ l).toArray
  | [], i, acc, h => by
    have : acc.toList.take i = acc.toList := List.take_of_length_le (by simp at h ⊢; omega)
    simp [this]
  | v :: l, i, acc, h => by
    rw [List.zipIdx_cons, List.foldl_cons, foldl_fill l (i + 1) _ (by simp at h ⊢; omega)]
    congr 1
    apply List.ext_getElem?
    intro k
    have hi : i < acc.size := by simp at h; omega
    simp only [Nat.zero_add, Array.toList_setIfInBounds, List.getElem?_append, List.length_take, List.length_set, Array.length_toList]
    by_cases hk : k < i
    · simp [hk, show k < i + 1 by omega, show min (i + 1) acc.size = i + 1 by omega, show min i acc.size = i by omega, show i ≠ k by omega]
    · by_cases hk2 : k = i
      · subst hk2
        simp [show min (k + 1) acc.size = k + 1 by omega, show min k acc.size = k by omega]
      · simp [hk, show ¬ k < i + 1 by omega, show min (i + 1) acc.size = i + 1 by omega, show min i acc.size = i by omega, show k - i = (k - (i + 1)) + 1 by omega]
/-- One part that fills the whole. -/
theorem fill_whole (place : Nat → Option (Nat × Nat)) (z cs : Array Value) (hp : place 0 = some (0, cs.size)) (hz : z.size = cs.size) : Instr.fill place z [(0, .agg cs)] = some cs := by
  have hc : (Value.agg cs).cells = cs := rfl
  simp only [Instr.fill, hp, hc]
  have e := foldl_fill cs.toList 0 z (by simp [hz])
  simp only [List.take_zero, List.nil_append, Array.toArray_toList] at e
  rw [if_neg (by simp; omega)]
  rw [← Array.foldl_toList, Array.toList_zipIdx]
  exact congrArg some e
/-- A whole built of one part. -/
theorem wpList_buildOne {ops : Array Oper} {rest : List Oper} {o : Oper} {a : Act} {w : World} {Q : Exit → Act → World → Prop} (hg : o.guard = none) (t : TypeId) (i : Nat) (x : Operand) (ho : o.op = .build t #[(i, x)])
    (src cells : Array Value) (hx : a.eval x = .agg src) (hf : P.built t [(i, .agg src)] = some cells)
    (h : wpList P ops Q rest (a.put o.dst (.agg cells)) w) : wpList P ops Q (o :: rest) a w :=
  wpList_buildTo hg t _ ho _ rfl cells (by simpa [hx] using hf) h
/-- Two aggregates compared. -/
theorem wpList_cmp {ops : Array Oper} {rest : List Oper} {o : Oper} {a : Act} {w : World} {Q : Exit → Act → World → Prop} (hg : o.guard = none) (op : BinOp) (t t2 : TypeId) (x y : Operand) (ho : o.op = .binOp op t x y t2)
    (xs ys : Array Value) (hx : a.eval x = .agg xs) (hy : a.eval y = .agg ys) (hm : P.eqGuardType P.depth t = false) (r : Value) (hr : (binOp op t (.agg xs) (.agg ys)).run P w = .ok r w)
    (h : wpList P ops Q rest (a.put o.dst r) w) : wpList P ops Q (o :: rest) a w :=
  wpList_plain hg fun _ hK => by
    unfold Oper.wp execOp
    simp only [ho, hx, hy, Sem.run_bind, run_eqGuard_agg w op t x y xs ys hm, hr, Result.andThen_ok, Sem.run_pure]
    exact hK _ _ h
/-- The same of an operation whose guard says yes. -/
theorem wpList_cmpW {ops : Array Oper} {rest : List Oper} {o : Oper} {a : Act} {w : World} {Q : Exit → Act → World → Prop} (hw : Region.wanted o (yielded ops a.tmps) = true) (op : BinOp) (t t2 : TypeId) (x y : Operand) (ho : o.op = .binOp op t x y t2)
    (xs ys : Array Value) (hx : a.eval x = .agg xs) (hy : a.eval y = .agg ys) (hm : P.eqGuardType P.depth t = false) (r : Value) (hr : (binOp op t (.agg xs) (.agg ys)).run P w = .ok r w)
    (h : wpList P ops Q rest (a.put o.dst r) w) : wpList P ops Q (o :: rest) a w :=
  wpList_step fun _ hK => by
    rw [if_pos hw]
    unfold Oper.wp execOp
    simp only [ho, hx, hy, Sem.run_bind, run_eqGuard_agg w op t x y xs ys hm, hr, Result.andThen_ok, Sem.run_pure]
    exact hK _ _ h
/-- A struct of one field, an array of integers, compared. -/
theorem run_eql_one (t u e : TypeId) (n : Nat) (k : IntKind) (f : Field) (hf : (P.fieldsOf t).toList = [f]) (ht : P.underlying t = some (.struct (P.fieldsOf t))) (hp : P.stoodInHeld t = false) (hn : (f.name != "_") = true) (ho : f.offset = 0) (hu : f.type = u)
    (hu2 : P.underlying u = some (.array n e)) (he : P.underlying e = some (.int k)) (hsz : ∀ w, (sizeOf e).run P w = .ok 1 w) (hsu : ∀ w, (sizeOf u).run P w = .ok n w)
    (xs ys : List Int) (hx : xs.length = n) (hy : ys.length = n) : (binOp .eql t (.agg (aV k xs)) (.agg (aV k ys))).run P w = .ok (.bool (xs == ys)) w := by
  rw [run_eql_struct, run_equalIn_agg w 9999 t _ _ ht hp, hf]
  have p1 : ∀ zs : List Int, zs.length = n → (part u (aV k zs) 0).run P w = .ok (.agg (aV k zs)) w := fun zs hz => by
    have e1 : (aV k zs).extract 0 n = aV k zs := by rw [← hz, ← aV_size k zs]; exact Array.extract_size
    simp [part, isAgg, run_underlying hu2, hsu, e1]
  have hn' : f.name ≠ "_" := by simpa using hn
  have q := run_equalIn_ints w 9997 u e n k hu2 he hsz xs ys hx hy
  have q' : (Op.equalIn 9999 u (.agg (aV k xs)) (.agg (aV k ys))).run P w = .ok (xs == ys) w := q
  simp only [Op.eqFields, if_pos hn', Sem.run_bind, ho, hu, p1 xs hx, p1 ys hy, Result.andThen_ok, q']
  cases hb : (xs == ys) <;> simp
end
/-- A block that holds the cells of an aggregate. -/
def CsAt (w : World) (b : Nat) (t : TypeId) (cs : Array Value) : Prop := w.heap[b]? = some (.cells cs t (0, 0))
theorem CsAt.lt {w : World} {b : Nat} {t : TypeId} {cs : Array Value} (h : CsAt w b t cs) : b < w.heap.size := (Array.getElem?_eq_some_iff.1 h).1
theorem CsAt.on {w w' : World} {B b : Nat} {t : TypeId} {cs : Array Value} (h : CsAt w b t cs) (hb : Below B w w') (hB : b < B) : CsAt w' b t cs := (hb.block b hB).trans h
theorem CsAt.low {w w' : World} {b : Nat} {t : TypeId} {cs : Array Value} (h : CsAt w b t cs) (hb : Below w.heap.size w w') : CsAt w' b t cs := h.on hb h.lt
theorem CsAt.alloc {w : World} {b : Nat} {t : TypeId} {cs : Array Value} (h : CsAt w b t cs) (o : Obj) : CsAt (w.alloc o) b t cs := (Below.heap_alloc w o b h.lt).trans h
theorem CsAt.new (w : World) (t : TypeId) (cs : Array Value) : CsAt (w.alloc (.cells cs t)) w.heap.size t cs := by show (w.heap.push _)[w.heap.size]? = _; simp
theorem CsAt.cell {w : World} {b : Nat} {t : TypeId} {cs : Array Value} (h : CsAt w b t cs) (i : Nat) : w.cell? ⟨b, i, none⟩ = cs[i]? := cell_of_row w b i _ t _ h
theorem CsAt.frozen {w : World} {b : Nat} {t : TypeId} {cs : Array Value} (h : CsAt w b t cs) (i : Nat) : w.frozen? ⟨b, i, none⟩ = false := frozen_of_row w b i _ t h
theorem CsAt.row {w : World} {b : Nat} {t : TypeId} {cs : Array Value} (h : CsAt w b t cs) (ds : Array Value) : CsAt (w.setRow b ds) b t ds := setRow_heap w b _ _ t _ h
theorem CsAt.rowFar {w : World} {b : Nat} {t : TypeId} {cs : Array Value} (h : CsAt w b t cs) {c : Nat} (hne : b ≠ c) (ds : Array Value) : CsAt (w.setRow c ds) b t cs := (setRow_other w c b ds hne).trans h
end Go.Proofs.YthehcplogkgkeaaGreatDoor
set_option maxRecDepth 4000
namespace Go.Proofs.YthehcplogkgkeaaGreatDoor
open Go.RowKit
section
variable {P : Program} {ops : Array Oper} {md : Region.Mode} {S : World → Prop}

/-- In every world that meets S the operation leaves v, and S holds behind it. -/
def YieldsS (P : Program) (ops : Array Oper) (S : World → Prop) (o : Oper) (v : Value) (a : Act) : Prop :=
  (Region.wanted o (yielded ops a.tmps) = true ∧ ∀ w, S w →
    ((∃ w', (execOp a.eval o).run P w = .ok (.value v) w' ∧ S w') ∨ (∃ w', (execOp a.eval o).run P w = .ok .skip w' ∧ v = undef ∧ S w') ∨
      ∃ f args w', (execOp a.eval o).run P w = .ok (.enter f args) w' ∧ Calls P f args w' (fun e w'' => e = .returned v ∧ S w''))) ∨
  (Region.wanted o (yielded ops a.tmps) = false ∧ v = undef)
theorem YieldsS.of_same {o : Oper} {v : Value} {a a' : Act} (hy : YieldsS P ops S o v a) (he : execOp a'.eval o = execOp a.eval o)
    (hw : Region.wanted o (yielded ops a'.tmps) = Region.wanted o (yielded ops a.tmps)) : YieldsS P ops S o v a' := by
  unfold YieldsS at *
  rw [he, hw]
  exact hy
theorem YieldsS.wpOp {Q : Exit → Act → World → Prop} {i : Nat} {o : Oper} {v : Value} {a : Act} (hi : ops[i]? = some o) (hy : YieldsS P ops S o v a) {K : Act → World → Prop} {w : World} (hS : S w)
    (h : ∀ w', S w' → K (a.put o.dst v) w') : Go.wpOp P ops Q i K a w := by
  unfold Go.wpOp
  simp only [hi]
  rcases hy with ⟨hw, hv⟩ | ⟨hw, rfl⟩
  · simp only [hw, if_true]
    refine .inl ?_
    unfold Oper.wp
    rcases hv w hS with ⟨w', hr, hS'⟩ | ⟨w', hr, rfl, hS'⟩ | ⟨f, args, w', hr, hc⟩
    · rw [hr]; exact h _ hS'
    · rw [hr]; exact h _ hS'
    · rw [hr]
      simp only [Oper.upon]
      exact hc.mono fun e w'' ⟨he, hs⟩ => by subst he; exact h _ hs
  · simp only [hw, Bool.false_eq_true, if_false]; exact h _ hS
/-- The walk in the order of the text. -/
def wpSteady (P : Program) (ops : Array Oper) (S : World → Prop) (Q : Act → Prop) : List Oper → Act → Prop
  | [], a => Q a
  | o :: rest, a => ∃ v, YieldsS P ops S o v a ∧ wpSteady P ops S Q rest (a.put o.dst v)
def wpAnyT (P : Program) (md : Region.Mode) (ops : Array Oper) (S : World → Prop) (n : Nat) (L : Array Bool → Act → Prop) : Nat → Array Bool → Act → Prop
  | 0, listed, a => L listed a
  | f + 1, listed, a => Region.ready md ops listed ≠ [] ∧ ∀ i ∈ Region.ready md ops listed, i < n ∧ ∃ o v, ops[i]? = some o ∧ YieldsS P ops S o v a ∧ wpAnyT P md ops S n L f (listed.setIfInBounds i true) (a.put o.dst v)
theorem wpAny_of_T {n g : Nat} {L : Array Bool → Act → Prop} {Q' : Exit → Act → World → Prop} (hL : ∀ listed a w, S w → L listed a → wpAny P md ops Q' g listed a w) :
    ∀ (f : Nat) (listed : Array Bool) (a : Act) (w : World), S w → wpAnyT P md ops S n L f listed a → wpAny P md ops Q' (f + g) listed a w
  | 0, listed, a, w, hS, h => by rw [Nat.zero_add]; exact hL _ _ _ hS h
  | f + 1, listed, a, w, hS, h => by
    rw [show f + 1 + g = (f + g) + 1 by omega]
    refine ⟨fun h0 => absurd h0 h.1, fun i hi => ?_⟩
    obtain ⟨-, o, v, ho, hy, hn⟩ := h.2 i hi
    exact hy.wpOp ho hS fun w' hS' => wpAny_of_T hL f _ _ w' hS' hn
theorem wpAnyT_first {n i : Nat} {oi : Oper} {v : Value} {L : Array Bool → Act → Prop} (hi : ops[i]? = some oi) (hsel : ∀ (j : Nat) (o : Oper) cs b, ops[j]? = some o → o.op ≠ .select cs b) (hin : i < n)
    (hlt : ∀ listed, HeadInv md ops n listed → (∃ k, k < n ∧ listed.getD k true = false) → ∀ t ∈ Region.ready md ops listed, t < n)
    (hdone : ∀ listed a, L listed a → ∀ j ∈ Region.ready md ops listed, n ≤ j) :
    ∀ (f : Nat) (listed : Array Bool) (a : Act), HeadInv md ops n listed →
      (∀ j oj, ops[j]? = some oj → j ≠ i → listed.getD j true = false → (∀ e ∈ oj.after, Region.binds md e = true → e.on ≠ i) → oi.apart ops oj = true) →
      i ∈ Region.ready md ops listed → YieldsS P ops S oi v a →
      wpAnyT P md ops S n L f (listed.setIfInBounds i true) (a.put oi.dst v) → wpAnyT P md ops S n L (f + 1) listed a := by
  intro f
  induction f with
  | zero =>
    intro listed a inv _ hr hy H
    have hun := (mem_ready.1 hr).1
    refine ⟨fun h => (by rw [h] at hr; cases hr), fun j hj => ?_⟩
    have hjn : j < n := hlt listed inv ⟨i, hin, hun⟩ j hj
    by_cases hji : j = i
    · subst hji; exact ⟨hjn, oi, v, hi, hy, H⟩
    · have := hdone _ _ H j (ready_mono hj hji)
      omega
  | succ f ih =>
    intro listed a inv hfree hr hy H
    have hun := (mem_ready.1 hr).1
    refine ⟨fun h => (by rw [h] at hr; cases hr), fun j hj => ?_⟩
    have hjn : j < n := hlt listed inv ⟨i, hin, hun⟩ j hj
    by_cases hji : j = i
    · subst hji; exact ⟨hjn, oi, v, hi, hy, H⟩
    · obtain ⟨-, oj', u, hoj', hyj, hn⟩ := H.2 j (ready_mono hj hji)
      obtain ⟨hjun, oj, hoj, hall⟩ := mem_ready.1 hj
      obtain rfl : oj' = oj := Option.some.inj (hoj'.symm.trans hoj)
      have hnot : ∀ e ∈ oj'.after, Region.binds md e = true → e.on ≠ i := fun e he hb heq => by
        have h1 := hall e he hb
        rw [heq, getD_both hun] at h1
        cases h1
      obtain ⟨h1, h2, h3⟩ := Oper.apart_spec (hfree j oj' hoj hji hjun hnot)
      have hyj' : YieldsS P ops S oj' u a := hyj.of_same (execOp_put oj' (fun cs b => hsel j oj' cs b hoj) a oi.dst v h1).symm (wanted_put oj' a oi.dst v h1).symm
      have hyi : YieldsS P ops S oi v (a.put oj'.dst u) := hy.of_same (execOp_put oi (fun cs b => hsel i oi cs b hi) a oj'.dst u h3) (wanted_put oi a oj'.dst u h3)
      have hfree' : ∀ k ok, ops[k]? = some ok → k ≠ i → (listed.setIfInBounds j true).getD k true = false →
          (∀ e ∈ ok.after, Region.binds md e = true → e.on ≠ i) → oi.apart ops ok = true := fun k ok hk hki hun hno => by
        refine hfree k ok hk hki ?_ hno
        by_cases hjk : j = k
        · subst hjk; exact hjun
        · rw [getD_set_ne true hjk] at hun; exact hun
      refine ⟨hjn, oj', u, hoj, hyj', ih (listed.setIfInBounds j true) _ (inv.set hj hjn) hfree' (ready_mono hr (Ne.symm hji)) hyi ?_⟩
      rw [Array.setIfInBounds_comm _ _ hji, ← Act.put_comm a v u h2]
      exact hn
theorem headInv0 (n : Nat) : HeadInv md ops n (Array.replicate ops.size false) :=
  ⟨by simp, fun j oj _ hl => (by rw [getD_replicate_false] at hl; cases hl), fun t _ ht => getD_in (by simpa using ht) (getD_replicate_false _ _)⟩
theorem wpAnyT_lex {n g : Nat} {Lq : Act → Prop} (hsel : Region.noSelect ops = true) (hs : Region.sinkB md ops n = true) (hc : Region.chainB md ops n = true) (hn : n < ops.size) :
    ∀ (l : List Oper) (k : Nat) (listed : Array Bool) (a : Act), (∀ j, j < l.length → l[j]? = ops[k + j]?) → k + l.length = n → HeadInv md ops n listed →
    Region.lexHead md ops g l.length k listed = true → wpSteady P ops S Lq l a →
    wpAnyT P md ops S n (fun listed' a' => Region.seqB md ops g n listed' = true ∧ Lq a') l.length listed a
  | [], k, listed, a, _, hk, _, hB, h => by
    have : k = n := by simpa using hk
    subst this
    exact ⟨by simpa [Region.lexHead] using hB, h⟩
  | o :: l, k, listed, a, hl, hk, inv, hB, h => by
    have h0 : ops[k]? = some o := by simpa using (hl 0 (by simp)).symm
    simp only [List.length_cons, Region.lexHead, Bool.and_eq_true] at hB
    obtain ⟨⟨hr, hf⟩, hB'⟩ := hB
    have hkn : k < n := by simp only [List.length_cons] at hk; omega
    have hr' : k ∈ Region.ready md ops listed := by simpa using hr
    obtain ⟨v, hy, hK⟩ := h
    exact wpAnyT_first h0 (Region.noSelect_spec hsel) hkn (fun listed' inv' ⟨i, hi, hun⟩ t ht => Nat.lt_of_not_le fun hge => tail_waits hs hc hn inv' _ i rfl hi hun t hge ht)
      (fun listed' a' hL => seqB_ready hL.1) l.length listed a inv (Region.free_spec h0 hf) hr' hy
      (wpAnyT_lex hsel hs hc hn l (k + 1) _ _ (fun j hj => by have := hl (j + 1) (by simp; omega); simpa [Nat.add_assoc, Nat.add_comm 1 j] using this) (by simp only [List.length_cons] at hk; omega) (inv.set hr' hkn) hB' hK)
/-- The first n operations in whatever order, then the rest, one behind the other. -/
theorem wp_region_steady_tail {id : Nat} {Q : Exit → Act → World → Prop} {a : Act} {w : World} {l : List Oper} (S : World → Prop) (n : Nat) (hm : P.follows .mixedOrders = true) (hB : Region.lexTailB .any l.toArray n = true) (hS : S w.drew)
    (h : wpSteady P l.toArray S (fun a' => ∀ w', S w' → wpList P l.toArray Q (l.drop n) a' w') (l.take n) a) : (Code.region id l.toArray true).wp P Q a w := by
  simp only [Region.lexTailB, Bool.and_eq_true, decide_eq_true_eq] at hB
  obtain ⟨⟨⟨⟨hsel, hn⟩, hs⟩, hc⟩, hlex⟩ := hB
  have hn' : n < l.length := by simpa using hn
  have htl : (l.take n).length = n := by simp; omega
  have hdl : (l.drop n).length = l.toArray.size - n := by simp
  have H := wpAnyT_lex (md := .any) (g := l.toArray.size - n) hsel hs hc hn (l.take n) 0 _ a (fun j hj => by
    have hj' : j < n := by rw [htl] at hj; exact hj
    simp [hj']) (by simpa using htl) (headInv0 n) (by rw [htl]; exact hlex) h
  refine wp_region_any hm ?_
  have := wpAny_of_T (Q' := Q) (g := l.toArray.size - n) (fun listed a' w' hS' hL => by
    have := wpAny_of_seq (md := .any) (Q' := Q) (l.drop n) n listed a' w' (fun j => by simp [List.getElem?_drop]) (by rw [hdl]; exact hL.1) (hL.2 w' hS')
    rwa [hdl] at this) _ _ _ w.drew hS H
  rw [htl, show n + (l.toArray.size - n) = l.toArray.size by omega] at this
  exact this
theorem wpAnyT_whole {Lq : Act → Prop} (hsel : Region.noSelect ops = true) :
    ∀ (l : List Oper) (k : Nat) (listed : Array Bool) (a : Act), (∀ j, l[j]? = ops[k + j]?) → HeadInv md ops ops.size listed →
    Region.lexFrom md ops l.length k listed = true → wpSteady P ops S Lq l a →
    wpAnyT P md ops S ops.size (fun listed' a' => Region.ready md ops listed' = [] ∧ Lq a') l.length listed a
  | [], k, listed, a, _, _, hB, h => ⟨by simpa [Region.lexFrom] using hB, h⟩
  | o :: l, k, listed, a, hl, inv, hB, h => by
    have h0 : ops[k]? = some o := by simpa using (hl 0).symm
    simp only [List.length_cons, Region.lexFrom, Bool.and_eq_true] at hB
    obtain ⟨⟨hr, hf⟩, hB'⟩ := hB
    have hr' : k ∈ Region.ready md ops listed := by simpa using hr
    have hkn : k < ops.size := (Array.getElem?_eq_some_iff.1 h0).1
    obtain ⟨v, hy, hK⟩ := h
    exact wpAnyT_first h0 (Region.noSelect_spec hsel) hkn (fun listed' _ _ t ht => by obtain ⟨_, ot, hot, _⟩ := mem_ready.1 ht; exact (Array.getElem?_eq_some_iff.1 hot).1)
      (fun listed' a' hL j hj => by rw [hL.1] at hj; cases hj) l.length listed a inv (Region.free_spec h0 hf) hr' hy
      (wpAnyT_whole hsel l (k + 1) _ _ (fun j => by have := hl (j + 1); simpa [Nat.add_assoc, Nat.add_comm 1 j] using this) (inv.set hr' hkn) hB' hK)
/-- All operations in whatever order. -/
theorem wp_region_steady {id : Nat} {Q : Exit → Act → World → Prop} {a : Act} {w : World} {l : List Oper} (S : World → Prop) (hm : P.follows .mixedOrders = true) (hB : Region.lexB .any l.toArray = true) (hS : S w.drew)
    (h : wpSteady P l.toArray S (fun a' => ∀ w', S w' → Q .normal a' w') l a) : (Code.region id l.toArray true).wp P Q a w := by
  simp only [Region.lexB, Bool.and_eq_true] at hB
  have H := wpAnyT_whole (md := .any) hB.1 l 0 (Array.replicate l.toArray.size false) a (by simp) (headInv0 _) (by simpa using hB.2) h
  refine wp_region_any hm ?_
  have := wpAny_of_T (Q' := Q) (g := 0) (fun listed a' w' hS' hL => ⟨hL.1, hL.2 w' hS'⟩) _ _ _ w.drew hS H
  simpa using this
/-! The steps. -/
theorem steady_nil {Q : Act → Prop} {a : Act} (h : Q a) : wpSteady P ops S Q [] a := h
theorem steady_value {Q : Act → Prop} {a : Act} {o : Oper} {rest : List Oper} (v : Value) (hw : Region.wanted o (yielded ops a.tmps) = true) (hv : ∀ w, S w → (execOp a.eval o).run P w = .ok (.value v) w)
    (h : wpSteady P ops S Q rest (a.put o.dst v)) : wpSteady P ops S Q (o :: rest) a := ⟨v, .inl ⟨hw, fun w hS => .inl ⟨w, hv w hS, hS⟩⟩, h⟩
theorem steady_val {Q : Act → Prop} {a : Act} {o : Oper} {rest : List Oper} (v : Value) (b : Act) (hw : Region.wanted o (yielded ops a.tmps) = true) (hv : ∀ w, S w → (execOp a.eval o).run P w = .ok (.value v) w) (hb : a.put o.dst v = b)
    (h : wpSteady P ops S Q rest b) : wpSteady P ops S Q (o :: rest) a := steady_value v hw hv (hb ▸ h)
theorem steady_enter {Q : Act → Prop} {a : Act} {o : Oper} {rest : List Oper} (v : Value) (f : FuncId) (args : Array Value) (b : Act) (hw : Region.wanted o (yielded ops a.tmps) = true) (hv : ∀ w, S w → (execOp a.eval o).run P w = .ok (.enter f args) w)
    (hc : ∀ w, S w → Calls P f args w (fun e w'' => e = .returned v ∧ S w'')) (hb : a.put o.dst v = b)
    (h : wpSteady P ops S Q rest b) : wpSteady P ops S Q (o :: rest) a := ⟨v, .inl ⟨hw, fun w hS => .inr (.inr ⟨f, args, w, hv w hS, hc w hS⟩)⟩, hb ▸ h⟩
theorem steady_skip {Q : Act → Prop} {a : Act} {o : Oper} {rest : List Oper} (hw : Region.wanted o (yielded ops a.tmps) = false)
    (h : wpSteady P ops S Q rest (a.put o.dst undef)) : wpSteady P ops S Q (o :: rest) a := ⟨undef, .inr ⟨hw, rfl⟩, h⟩
theorem steady_call {Q : Act → Prop} {a : Act} {o : Oper} {rest : List Oper} (v : Value) (f : FuncId) (args : Array Value) (hw : Region.wanted o (yielded ops a.tmps) = true) (hv : ∀ w, S w → (execOp a.eval o).run P w = .ok (.enter f args) w)
    (hc : ∀ w, S w → Calls P f args w (fun e w'' => e = .returned v ∧ S w''))
    (h : wpSteady P ops S Q rest (a.put o.dst v)) : wpSteady P ops S Q (o :: rest) a := ⟨v, .inl ⟨hw, fun w hS => .inr (.inr ⟨f, args, w, hv w hS, hc w hS⟩)⟩, h⟩
/-! Operations on whole rows, run. -/
theorem exec_load_row {o : Oper} {a : Act} {w : World} (ty : TypeId) (x : Operand) (ho : o.op = .load ty x) (g : Nat) (hx : a.eval x = .pointer (some ⟨g, 0, none⟩)) (t : TypeId) (cs : Array Value) (d : TypeDesc) (hg : w.heap[g]? = some (.cells cs t (0, 0)))
    (hu : P.underlying ty = some d) (hd : (match d with | .struct _ | .array _ _ => true | _ => false) = true) (hi : (P.info? ty).map (·.size) = some cs.size) : (execOp a.eval o).run P w = .ok (.value (.agg cs)) w := by
  unfold execOp
  simp only [ho, hx, Instr.loadAt, Instr.sureAddr, Sem.run_bind, Sem.run_pure, Result.andThen_ok, run_loadVar_row w g t ty cs (0, 0) d hg hu hd hi]
theorem exec_store_row {o : Oper} {a : Act} {w : World} (ty : TypeId) (x y : Operand) (ho : o.op = .store ty x y) (g : Nat) (cells : Array Value) (hx : a.eval x = .pointer (some ⟨g, 0, none⟩)) (hy : a.eval y = .agg cells)
    (t : TypeId) (old : Array Value) (hg : w.heap[g]? = some (.cells old t (0, 0))) (hi : (P.info? ty).map (·.size) = some cells.size) (hold : old.size = cells.size) (h1 : cells.all (·.oneCell') = true) : (execOp a.eval o).run P w = .ok .skip (w.setRow g cells) := by
  unfold execOp
  simp only [ho, hx, hy, Instr.storeAt, Instr.sureAddr, Sem.run_bind, Sem.run_pure, Result.andThen_ok, run_storeVar_row w g t ty old cells hg hi hold h1]
theorem exec_alloc {o : Oper} {a : Act} {w : World} (ty : TypeId) (ho : o.op = .alloc ty) (z : Value) (hz : (zeroValue ty).run P w = .ok z w) : (execOp a.eval o).run P w = .ok (.value (.pointer (some ⟨w.heap.size, 0, none⟩))) (w.alloc (.cells z.cells ty)) := by
  unfold execOp
  simp [ho, Instr.alloc, hz, newVar, newRow, newObj, go_sem]
  rfl
theorem exec_cmp {o : Oper} {a : Act} {w : World} (op : BinOp) (t t2 : TypeId) (x y : Operand) (ho : o.op = .binOp op t x y t2) (xs ys : Array Value) (hx : a.eval x = .agg xs) (hy : a.eval y = .agg ys) (hm : P.eqGuardType P.depth t = false) (r : Value)
    (hr : (binOp op t (.agg xs) (.agg ys)).run P w = .ok r w) : (execOp a.eval o).run P w = .ok (.value r) w := by
  unfold execOp
  simp only [ho, hx, hy, Sem.run_bind, run_eqGuard_agg w op t x y xs ys hm, hr, Result.andThen_ok, Sem.run_pure]
theorem wpOp_val {Q : Exit → Act → World → Prop} {i : Nat} {o : Oper} {a : Act} {w : World} {K : Act → World → Prop} (v : Value) (w' : World) (hi : ops[i]? = some o) (hw : Region.wanted o (yielded ops a.tmps) = true) (hr : (execOp a.eval o).run P w = .ok (.value v) w') (h : K (a.put o.dst v) w') : Go.wpOp P ops Q i K a w := by
  unfold Go.wpOp
  simp only [hi, hw, if_true]
  refine .inl ?_
  unfold Oper.wp
  rw [hr]; exact h
theorem wpOp_valB {Q : Exit → Act → World → Prop} {i : Nat} {o : Oper} {a : Act} {w : World} {K : Act → World → Prop} (v : Value) (w' : World) (b : Act) (hi : ops[i]? = some o) (hw : Region.wanted o (yielded ops a.tmps) = true) (hr : (execOp a.eval o).run P w = .ok (.value v) w') (hb : a.put o.dst v = b) (h : K b w') : Go.wpOp P ops Q i K a w :=
  wpOp_val v w' hi hw hr (hb ▸ h)
theorem takeH {Q : Exit → Act → World → Prop} {i : Nat} {oi : Oper} {fuel : Nat} {listed : Array Bool} {a : Act} {w : World} (v : Value) (b : Act) (hi : ops[i]? = some oi) (hs : Region.noSelect ops = true) (hf : Region.free md ops listed i = true) (hr : (Region.ready md ops listed).contains i = true)
    (hQ : ∀ c a w, Q (.panic c) (a.put oi.dst v) w → Q (.panic c) a w) (hw : Region.wanted oi (yielded ops a.tmps) = true) (hv : ∀ w, S w → (execOp a.eval oi).run P w = .ok (.value v) w) (hS : S w) (hb : a.put oi.dst v = b)
    (h : wpAnyH P md ops Q S fuel (listed.setIfInBounds i true) b w) : wpAnyH P md ops Q S (fuel + 1) listed a w :=
  wpAnyH_take hi hs hf hr hQ (Or.inl ⟨hw, hv⟩) hS (hb ▸ h)
theorem wpOp_callB {Q : Exit → Act → World → Prop} {i : Nat} {o : Oper} {a : Act} {w : World} {K : Act → World → Prop} (f : FuncId) (args : Array Value) (v : Value) (b : Act) (hi : ops[i]? = some o) (hw : Region.wanted o (yielded ops a.tmps) = true) (hr : (execOp a.eval o).run P w = .ok (.enter f args) w)
    (hb : a.put o.dst v = b) (h : Calls P f args w fun e w'' => e = .returned v ∧ K b w'') : Go.wpOp P ops Q i K a w := by
  subst hb
  unfold Go.wpOp
  simp only [hi, hw, if_true]
  refine .inl ?_
  unfold Oper.wp
  rw [hr]
  simp only [Oper.upon]
  exact h.mono fun e w'' ⟨he, hk⟩ => by subst he; exact hk
theorem wpOp_unit {Q : Exit → Act → World → Prop} {i : Nat} {o : Oper} {a : Act} {w : World} {K : Act → World → Prop} (w' : World) (hi : ops[i]? = some o) (hw : Region.wanted o (yielded ops a.tmps) = true) (hr : (execOp a.eval o).run P w = .ok .skip w') (h : K (a.put o.dst undef) w') : Go.wpOp P ops Q i K a w := by
  unfold Go.wpOp
  simp only [hi, hw, if_true]
  refine .inl ?_
  unfold Oper.wp
  rw [hr]; exact h
theorem wpOp_unitB {Q : Exit → Act → World → Prop} {i : Nat} {o : Oper} {a : Act} {w : World} {K : Act → World → Prop} (w' : World) (b : Act) (hi : ops[i]? = some o) (hw : Region.wanted o (yielded ops a.tmps) = true) (hr : (execOp a.eval o).run P w = .ok .skip w') (hb : a.put o.dst undef = b) (h : K b w') : Go.wpOp P ops Q i K a w :=
  wpOp_unit w' hi hw hr (hb ▸ h)
end
end Go.Proofs.YthehcplogkgkeaaGreatDoor
set_option maxRecDepth 4000
namespace Go.Proofs.YthehcplogkgkeaaGreatDoor.Rg
open Go.ChangeShapes Go.WideShapes Go.ChangeAt Go.RowKit

theorem zeros32 : (aV .u64 (List.replicate 32 0)) = #[.int .u64 0, .int .u64 0, .int .u64 0, .int .u64 0, .int .u64 0, .int .u64 0, .int .u64 0, .int .u64 0, .int .u64 0, .int .u64 0, .int .u64 0, .int .u64 0, .int .u64 0, .int .u64 0, .int .u64 0, .int .u64 0, .int .u64 0, .int .u64 0, .int .u64 0, .int .u64 0, .int .u64 0, .int .u64 0, .int .u64 0, .int .u64 0, .int .u64 0, .int .u64 0, .int .u64 0, .int .u64 0, .int .u64 0, .int .u64 0, .int .u64 0, .int .u64 0] := rfl
def inR (i : Int) : Bool := decide (0 ≤ i) && decide (i < 32)
theorem inR_iff {i : Int} : inR i = true ↔ 0 ≤ i ∧ i < 32 := by simp [inR]
theorem inR_no {i : Int} (h : ¬ (0 ≤ i ∧ i < 32)) : inR i = false := by
  cases hb : inR i
  · rfl
  · exact absurd (inR_iff.1 hb) h
set_option maxHeartbeats 400000 in
theorem exists_c (i : Int) (w : World) : Calls Tryz.prog 129 #[.int .i64 i] w fun e w' => e = .returned (.bool (inR i)) ∧ w = w' := by
  by_cases h0 : 0 ≤ i
  · have e0 : decide (0 ≤ i) = true := by simpa using h0
    by_cases h1 : i < 32
    · have e1 : decide (i < 32) = true := by simpa using h1
      rw [inR_iff.2 ⟨h0, h1⟩]
      clear h0 h1
      go_enter Tryz.func129, Tryz.ntmps129
      go_wp2_with fail
      go_ret
      exact ⟨rfl, rfl⟩
    · have e1 : decide (i < 32) = false := by simpa using h1
      rw [inR_no (by omega)]
      clear h0 h1
      go_enter Tryz.func129, Tryz.ntmps129
      go_wp2_with fail
      go_ret
      exact ⟨rfl, rfl⟩
  · have e0 : decide (0 ≤ i) = false := by simpa using h0
    rw [inR_no (by omega)]
    clear h0
    go_enter Tryz.func129, Tryz.ntmps129
    go_wp2_with fail
    go_ret
    exact ⟨rfl, rfl⟩
/-- What Get tells. -/
def getR (ws : List Int) (i : Int) : Int := if 0 ≤ i ∧ i < 32 then ws.getD i.toNat 0 else 0
/-- What Set leaves. -/
def setR (ws : List Int) (i x : Int) : List Int := if 0 < i ∧ i < 32 then ws.set i.toNat x else ws
theorem setR_len (ws : List Int) (i x : Int) : (setR ws i x).length = ws.length := by unfold setR; split <;> simp
end Go.Proofs.YthehcplogkgkeaaGreatDoor.Rg
set_option maxRecDepth 4000
namespace Go.Proofs.YthehcplogkgkeaaGreatDoor.Rg
open Go.ChangeShapes Go.WideShapes Go.ChangeAt Go.RowKit

def bsR (l : List UInt8) : ByteArray := ⟨l.toArray⟩
abbrev strR (l : List UInt8) : Value := .string (bsR l)
/-- The registers' names, by their numbers. -/
def namesR : List (List UInt8) := [[122, 101, 114, 111], [114, 97], [115, 112], [103, 112], [116, 112], [116, 48], [116, 49], [116, 50], [115, 48], [115, 49], [97, 48], [97, 49], [97, 50], [97, 51], [97, 52], [97, 53], [97, 54], [97, 55], [115, 50], [115, 51], [115, 52], [115, 53], [115, 54], [115, 55], [115, 56], [115, 57], [115, 49, 48], [115, 49, 49], [116, 51], [116, 52], [116, 53], [116, 54]]
def nmR (k : Nat) : List UInt8 := namesR.getD k []
/-- A number's digits, below 100. -/
def digR (k : Nat) : List UInt8 := if k < 10 then [48 + k.toUInt8] else [48 + (k / 10).toUInt8, 48 + (k % 10).toUInt8]
theorem ret_s {a b : ByteArray} (h : a = b) : Ending.returned (.string a) = .returned (.string b) := by rw [h]
theorem slice_lh {P : Program} (w : World) (t : TypeId) (s : ByteArray) (ht : P.underlying t = some .string) (l h : Int) (h0 : 0 ≤ l) (h1 : l ≤ h) (h2 : h ≤ s.size) :
    (Instr.slice t (.string s) (some (.int .i64 l)) (some (.int .i64 h)) none).run P w = .ok (.string (s.extract l.toNat h.toNat)) w := by
  have eh : (h.toNat : Int) = h := Int.toNat_of_nonneg (by omega)
  simp [Instr.slice, run_underlying ht, Instr.sliceBounds, run_sliceBound, *, (by omega : 0 ≤ h)]
def tens : ByteArray := { data := (([48, 48, 48, 49, 48, 50, 48, 51, 48, 52, 48, 53, 48, 54, 48, 55, 48, 56, 48, 57, 49, 48, 49, 49, 49, 50, 49, 51, 49, 52, 49, 53, 49, 54, 49, 55, 49, 56, 49, 57, 50, 48, 50, 49, 50, 50, 50, 51, 50, 52].append [50, 53, 50, 54, 50, 55, 50, 56, 50, 57, 51, 48, 51, 49, 51, 50, 51, 51, 51, 52, 51, 53, 51, 54, 51, 55, 51, 56, 51, 57, 52, 48, 52, 49, 52, 50, 52, 51, 52, 52, 52, 53, 52, 54, 52, 55, 52, 56, 52, 57]).append ([53, 48, 53, 49, 53, 50, 53, 51, 53, 52, 53, 53, 53, 54, 53, 55, 53, 56, 53, 57, 54, 48, 54, 49, 54, 50, 54, 51, 54, 52, 54, 53, 54, 54, 54, 55, 54, 56, 54, 57, 55, 48, 55, 49, 55, 50, 55, 51, 55, 52].append [55, 53, 55, 54, 55, 55, 55, 56, 55, 57, 56, 48, 56, 49, 56, 50, 56, 51, 56, 52, 56, 53, 56, 54, 56, 55, 56, 56, 56, 57, 57, 48, 57, 49, 57, 50, 57, 51, 57, 52, 57, 53, 57, 54, 57, 55, 57, 56, 57, 57])).toArray }
theorem tens_eq : tens = { data := (([48, 48, 48, 49, 48, 50, 48, 51, 48, 52, 48, 53, 48, 54, 48, 55, 48, 56, 48, 57, 49, 48, 49, 49, 49, 50, 49, 51, 49, 52, 49, 53, 49, 54, 49, 55, 49, 56, 49, 57, 50, 48, 50, 49, 50, 50, 50, 51, 50, 52].append [50, 53, 50, 54, 50, 55, 50, 56, 50, 57, 51, 48, 51, 49, 51, 50, 51, 51, 51, 52, 51, 53, 51, 54, 51, 55, 51, 56, 51, 57, 52, 48, 52, 49, 52, 50, 52, 51, 52, 52, 52, 53, 52, 54, 52, 55, 52, 56, 52, 57]).append ([53, 48, 53, 49, 53, 50, 53, 51, 53, 52, 53, 53, 53, 54, 53, 55, 53, 56, 53, 57, 54, 48, 54, 49, 54, 50, 54, 51, 54, 52, 54, 53, 54, 54, 54, 55, 54, 56, 54, 57, 55, 48, 55, 49, 55, 50, 55, 51, 55, 52].append [55, 53, 55, 54, 55, 55, 55, 56, 55, 57, 56, 48, 56, 49, 56, 50, 56, 51, 56, 52, 56, 53, 56, 54, 56, 55, 56, 56, 56, 57, 57, 48, 57, 49, 57, 50, 57, 51, 57, 52, 57, 53, 57, 54, 57, 55, 57, 56, 57, 57])).toArray } := rfl
def ones : ByteArray := { data := #[48, 49, 50, 51, 52, 53, 54, 55, 56, 57, 97, 98, 99, 100, 101, 102, 103, 104, 105, 106, 107, 108, 109, 110, 111, 112, 113, 114, 115, 116, 117, 118, 119, 120, 121, 122] }
theorem ones_eq : ones = { data := #[48, 49, 50, 51, 52, 53, 54, 55, 56, 57, 97, 98, 99, 100, 101, 102, 103, 104, 105, 106, 107, 108, 109, 110, 111, 112, 113, 114, 115, 116, 117, 118, 119, 120, 121, 122] } := rfl
theorem ones_cut : ∀ k : Fin 10, ones.extract k.val (k.val + 1) = bsR (digR k.val) := by decide +kernel
theorem tens_cut : ∀ k : Fin 100, 10 ≤ k.val → tens.extract (k.val * 2) (k.val * 2 + 2) = bsR (digR k.val) := by decide +kernel
set_option maxHeartbeats 1000000 in
theorem small_c (k : Nat) (hk : k < 100) (w : World) : Calls Tryz.prog 113 #[.int .i64 k] w fun e w' => e = .returned (strR (digR k)) ∧ w = w' := by
  by_cases h : k < 10
  · have e0 : decide ((k : Int) < 10) = true := by simp; omega
    have hsl : ∀ W0 : World, (Instr.slice 9 (.string ones) (some (.int .i64 (k : Int))) (some (.int .i64 ((k : Int) + 1))) none).run Tryz.prog W0 = .ok (strR (digR k)) W0 := fun W0 => by
      rw [slice_lh W0 _ ones Tryz.underlying9 _ _ (by omega) (by omega) (by show (k : Int) + 1 ≤ 36; omega)]
      rw [show ((k : Int)).toNat = k by omega, show ((k : Int) + 1).toNat = k + 1 by omega, ones_cut ⟨k, h⟩]
    go_enter Tryz.func113, Tryz.ntmps113
    rw [← ones_eq]
    generalize ones = S at *
    generalize strR (digR k) = v at *
    go_wp2_with fail
    go_ret
    exact ⟨rfl, rfl⟩
  · have e0 : decide ((k : Int) < 10) = false := by simp; omega
    have hsl : ∀ W0 : World, (Instr.slice 9 (.string tens) (some (.int .i64 ((k : Int) * 2))) (some (.int .i64 ((k : Int) * 2 + 2))) none).run Tryz.prog W0 = .ok (strR (digR k)) W0 := fun W0 => by
      rw [slice_lh W0 _ tens Tryz.underlying9 _ _ (by omega) (by omega) (by show (k : Int) * 2 + 2 ≤ 200; omega)]
      rw [show ((k : Int) * 2).toNat = k * 2 by omega, show ((k : Int) * 2 + 2).toNat = k * 2 + 2 by omega, tens_cut ⟨k, hk⟩ (by simp only; omega)]
    go_enter Tryz.func113, Tryz.ntmps113
    rw [← tens_eq]
    generalize tens = S at *
    generalize strR (digR k) = v at *
    go_wp2_with fail
    go_ret
    exact ⟨rfl, rfl⟩
set_option maxHeartbeats 1000000 in
theorem itoa_c (k : Nat) (hk : k < 100) (w : World) : Calls Tryz.prog 102 #[.int .i64 k] w fun e w' => e = .returned (strR (digR k)) ∧ w = w' := by
  have h1 : (k : Int) < 100 := by omega
  have e1 : decide ((k : Int) < 100) = true := by simpa using h1
  have e2 : decide ((0 : Int) ≤ (k : Int)) = true := by simp
  have k2 : Calls Tryz.prog 70 #[.int .i64 k, .int .i64 10] w fun e w' => e = .returned (strR (digR k)) ∧ w = w' := by
    go_enter Tryz.func70, Tryz.ntmps70
    go_wp2_with fail
    refine (small_c k hk _).mono ?_
    rintro e w1 ⟨rfl, rfl⟩
    go_wp2_with fail
    go_ret
    exact ⟨rfl, rfl⟩
  have H2 := Lib.hid k2
  clear k2
  have k3 : Calls Tryz.prog 130 #[.int .i64 k] w fun e w' => e = .returned (strR (digR k)) ∧ w = w' := by
    go_enter Tryz.func130, Tryz.ntmps130
    go_wp2_with fail
    refine H2.out.mono ?_
    rintro e w1 ⟨rfl, rfl⟩
    go_wp2_with fail
    go_ret
    exact ⟨rfl, rfl⟩
  have H3 := Lib.hid k3
  clear k3
  go_enter Tryz.func102, Tryz.ntmps102
  go_wp2_with fail
  refine H3.out.mono ?_
  rintro e w1 ⟨rfl, rfl⟩
  go_wp2_with fail
  go_ret
  exact ⟨rfl, rfl⟩
def ten : ByteArray := { data := #[48, 49, 50, 51, 52, 53, 54, 55, 56, 57] }
theorem ten_eq : ten = { data := #[48, 49, 50, 51, 52, 53, 54, 55, 56, 57] } := rfl
theorem ten_cut : ∀ k : Fin 10, ten.extract k.val (k.val + 1) = bsR (digR k.val) := by decide +kernel
theorem dig_two : ∀ k : Fin 100, 10 ≤ k.val → (bsR (digR (k.val / 10))) ++ (bsR (digR (k.val % 10))) = bsR (digR k.val) := by decide +kernel
theorem ten_slice (a : Nat) (ha : a < 10) (W0 : World) : (Instr.slice 9 (.string ten) (some (.int .i64 (a : Int))) (some (.int .i64 ((a : Int) + 1))) none).run Tryz.prog W0 = .ok (strR (digR a)) W0 := by
  rw [slice_lh W0 _ ten Tryz.underlying9 _ _ (by omega) (by omega) (by show (a : Int) + 1 ≤ 10; omega)]
  rw [show ((a : Int)).toNat = a by omega, show ((a : Int) + 1).toNat = a + 1 by omega, ten_cut ⟨a, ha⟩]
set_option maxHeartbeats 1000000 in
theorem digits_c (k : Nat) (hk : k < 100) (w : World) : Calls Tryz.prog 77 #[.int .i64 k] w fun e w' => e = .returned (strR (digR k)) ∧ Below w.heap.size w w' := by
  by_cases h : k < 10
  · have e0 : decide ((k : Int) < 10) = true := by simp; omega
    have hsl := fun W0 => ten_slice k h W0
    go_enter Tryz.func77, Tryz.ntmps77
    rw [← ten_eq]
    generalize ten = S at *
    generalize strR (digR k) = v at *
    go_wp2_with fail
    go_ret
    exact ⟨rfl, Below.refl _ _⟩
  · have e0 : decide ((k : Int) < 10) = false := by simp; omega
    obtain ⟨a, ha⟩ : ∃ a : Int, a = ((k / 10 : Nat) : Int) := ⟨_, rfl⟩
    obtain ⟨b, hb⟩ : ∃ b : Int, b = ((k % 10 : Nat) : Int) := ⟨_, rfl⟩
    have HD := Lib.hid (show ten.extract a.toNat (a + 1).toNat ++ ten.extract b.toNat (b + 1).toNat = bsR (digR k) by
      rw [show a.toNat = k / 10 by omega, show (a + 1).toNat = k / 10 + 1 by omega, show b.toNat = k % 10 by omega, show (b + 1).toNat = k % 10 + 1 by omega, ten_cut ⟨k / 10, by omega⟩, ten_cut ⟨k % 10, by omega⟩]
      exact dig_two ⟨k, hk⟩ (by simp only; omega))
    have t1 : IntKind.i64.wrap ((k : Int) / 10) = a := by rw [show (k : Int) / 10 = a by omega]; exact IntWalk.i64_in _ (by omega)
    have t2 : (k : Int).tmod 10 = b := by rw [Int.tmod_eq_emod_of_nonneg (by omega)]; omega
    have t3 : IntKind.i64.wrap (a + 1) = a + 1 := IntWalk.i64_in _ (by omega)
    have t4 : IntKind.i64.wrap (b + 1) = b + 1 := IntWalk.i64_in _ (by omega)
    have s1 : 0 ≤ a := by omega
    have s2 : 0 ≤ a + 1 := by omega
    have s3 : a + 1 ≤ (ten.size : Int) := by show a + 1 ≤ 10; omega
    have s4 : 0 ≤ b := by omega
    have s5 : 0 ≤ b + 1 := by omega
    have s6 : b + 1 ≤ (ten.size : Int) := by show b + 1 ≤ 10; omega
    have s7 : a ≤ a + 1 := by omega
    have s8 : b ≤ b + 1 := by omega
    have s9 : (a + 1).toNat - a.toNat = 1 := by omega
    have s10 : (b + 1).toNat - b.toNat = 1 := by omega
    clear ha hb h
    go_enter Tryz.func77, Tryz.ntmps77
    rw [← ten_eq]
    generalize ten = S at *
    go_wp2_with fail
    refine wp_region_still_lit (by kernel_rfl) (by kernel_rfl) ?_
    iterate 16 still_step
    refine wpStill_nil ?_
    go_wp2_with fail
    go_ret
    exact ⟨ret_s HD.out, (Below.refl _ _).drew⟩
theorem info_str5 : (Tryz.prog.info? 9).map (fun i => (i.zero, i.size, i.bytes)) = some (some (.string ⟨#[]⟩), 1, 16) := by kernel_rfl
set_option maxHeartbeats 1000000 in
set_option maxRecDepth 100000 in
theorem refNames5_c (w : World) : Calls Tryz.prog 27 #[] w fun e w' => e = .returned (.slice (some ⟨w.heap.size, 0, none⟩) 32 32) ∧ w.alloc (.cells (namesR.map strR).toArray 9) = w' := by
  obtain ⟨i0, hi, hz0, hz1, hz2⟩ := info_parts info_str5
  go_enter Tryz.func27, Tryz.ntmps27
  go_upto_region 1 with fail
  apply wp_region_lit
  refine Go.wpList_buildSlice rfl 58 9 32 _ rfl (namesR.map strR).toArray i0 (.string ⟨#[]⟩) Tryz.underlying58 hi hz0 (by rw [hz1]; decide) (by rw [hz1]; decide) (by rw [hz1]; kernel_rfl) ?_
  go_wp2
  go_ret
  exact ⟨rfl, rfl⟩
/-- The program's table of names in memory. -/
def NamesAt (w : World) : Prop := 3 < w.heap.size ∧ ∀ k, k < 32 → w.cell? ⟨3, k, none⟩ = some (strR (nmR k))
theorem NamesAt.low {w w' : World} (h : NamesAt w) (hb : Below w.heap.size w w') : NamesAt w' :=
  ⟨Nat.le_trans h.1 hb.size, fun k hk => (hb.cell (p := ⟨3, k, none⟩) (by have := h.1; show 3 < w.heap.size; omega)).trans (h.2 k hk)⟩
def nameR (i : Int) : List UInt8 := if 0 ≤ i ∧ i < 32 then nmR i.toNat else []
set_option maxHeartbeats 400000 in
theorem name_c (i : Int) (w : World) (h : NamesAt w) : Calls Tryz.prog 98 #[.int .i64 i] w fun e w' => e = .returned (strR (nameR i)) ∧ w = w' := by
  by_cases hi : 0 ≤ i ∧ i < 32
  · have HG := Lib.hid (show nameR i = nmR i.toNat by unfold nameR; rw [if_pos hi])
    have e := inR_iff.2 hi
    obtain ⟨k, rfl⟩ := Int.eq_ofNat_of_zero_le hi.1
    have hk : k < 32 := by omega
    have hk2 : (k : Int) < 32 := by omega
    have hc := h.2 k hk
    rw [HG.out, Int.toNat_natCast]
    generalize strR (nmR k) = v at *
    clear hi HG h
    go_enter Tryz.func98, Tryz.ntmps98
    go_wp2_with fail
    refine (exists_c _ _).mono ?_
    rintro e w1 ⟨rfl, rfl⟩
    go_wp2_with fail
    go_ret
    exact ⟨rfl, rfl⟩
  · have HG := Lib.hid (show nameR i = [] by unfold nameR; rw [if_neg hi])
    have e := inR_no hi
    rw [HG.out]
    clear hi HG h
    go_enter Tryz.func98, Tryz.ntmps98
    go_wp2_with fail
    refine (exists_c _ _).mono ?_
    rintro e w1 ⟨rfl, rfl⟩
    go_wp2_with fail
    go_ret
    exact ⟨rfl, rfl⟩
end Go.Proofs.YthehcplogkgkeaaGreatDoor.Rg
set_option maxRecDepth 4000
namespace Go.Proofs.YthehcplogkgkeaaGreatDoor.Rg
open Go.ChangeShapes Go.WideShapes Go.ChangeAt Go.RowKit

def xB (k : Nat) : ByteArray := ⟨#[120]⟩ ++ bsR (digR k)
def hitN (s : ByteArray) (k : Nat) : Bool := s.toList == (bsR (nmR k)).toList
def hitX (s : ByteArray) (k : Nat) : Bool := s.toList == (xB k).toList
def hitR (s : ByteArray) (k : Nat) : Bool := hitN s k || hitX s k
def fpR (s : ByteArray) : Bool := s.toList == [102, 112]
/-- The register that a name denotes. -/
def findR (s : ByteArray) : Option Nat := (List.range 32).find? fun k => hitR s k || (k == 8 && fpR s)
theorem range_step (k : Nat) (h : k < 32) (p : Nat → Bool) (hp : ∀ j, j < k → p j = false) : (List.range 32).find? p = if p k then some k else ((List.range 32).drop (k + 1)).find? p := by
  have e : List.range 32 = List.range k ++ k :: (List.range 32).drop (k + 1) := by
    have h1 : List.range 32 = (List.range 32).take k ++ (List.range 32).drop k := (List.take_append_drop k _).symm
    have h2 : (List.range 32).take k = List.range k := by rw [List.take_range]; congr 1; omega
    have h3 : (List.range 32).drop k = k :: (List.range 32).drop (k + 1) := by
      rw [List.drop_eq_getElem_cons (by simpa using h)]; simp
    rw [h2, h3] at h1
    exact h1
  rw [e, List.find?_append, List.find?_cons]
  have hn : (List.range k).find? p = none := by rw [List.find?_eq_none]; intro x hx; simpa using hp x (by simpa using hx)
  rw [hn]
  have e2 : (List.range k ++ k :: (List.range 32).drop (k + 1)).drop (k + 1) = (List.range 32).drop (k + 1) := by rw [← e]
  rw [e2]
  cases p k <;> simp
theorem find_hit (p : Nat → Bool) (k : Nat) (h : k < 32) (hp : ∀ j, j < k → p j = false) (hk : p k = true) : (List.range 32).find? p = some k := by rw [range_step k h p hp, hk]; rfl
theorem find_none (p : Nat → Bool) (hp : ∀ j, j < 32 → p j = false) : (List.range 32).find? p = none := by
  rw [List.find?_eq_none]; intro x hx; simpa using hp x (by simpa using hx)
theorem fp_none : ∀ k : Fin 32, (([102, 112] : List UInt8) == (bsR (nmR k.val)).toList) = false ∧ (([102, 112] : List UInt8) == (xB k.val).toList) = false := by decide +kernel
theorem find_fp (s : ByteArray) (h : fpR s = true) : findR s = some 8 := by
  have e : s.toList = [102, 112] := by simpa [fpR] using h
  refine find_hit _ 8 (by decide) (fun j hj => ?_) ?_
  · obtain ⟨a, b⟩ := fp_none ⟨j, by omega⟩
    have hne : (j == 8) = false := by simp; omega
    simp only [hitR, hitN, hitX, e]
    simp only at a b
    rw [a, b, hne]; rfl
  · rw [h]; simp
theorem x_size : ∀ k : Fin 32, (bsR (digR k.val)).size ≤ 2 := by decide +kernel
/-- What Find tells, with a bool. -/
def findV (s : ByteArray) : Value := match findR s with | some k => .tuple #[.int .i64 k, .bool true] | none => .tuple #[.int .i64 0, .bool false]
set_option maxHeartbeats 1000000 in
theorem rfind_c (s : ByteArray) (w : World) (hN : NamesAt w) : Calls Tryz.prog 100 #[.string s] w fun e w' => e = .returned (findV s) ∧ w = w' := by
  cases hfp : fpR s
  · have e0 : (s.toList == [102, 112]) = false := hfp
    have HP := Lib.hid (show ∀ k, (hitR s k || (k == 8 && fpR s)) = hitR s k from fun k => by rw [hfp]; simp)
    have HN := Lib.hid hN
    clear hN hfp
    go_enter Tryz.func100, Tryz.ntmps100
    go_wp2_with fail
    go_loop [7] (fun t => ∃ k : Nat, k ≤ 32 ∧ t = .int .i64 k ∧ ∀ j, j < k → hitR s j = false) (fun t => 32 - (intOf t).toNat)
    case atStart => exact ⟨0, by decide, rfl, fun j hj => absurd hj (by omega)⟩
    case round =>
      obtain ⟨k, hk, rfl, hno⟩ := hrel
      have HO := Lib.hid hno
      clear hno
      by_cases hlt : k < 32
      · have hl2 : (k : Int) < 32 := by omega
        have hc := HN.out.2 k hlt
        have hz := x_size ⟨k, hlt⟩
        simp only at hz
        cases h1 : hitN s k
        · have e1 : (s.toList == (bsR (nmR k)).toList) = false := h1
          cases h2 : hitX s k
          · have e2 : (s.toList == (⟨#[120]⟩ ++ bsR (digR k) : ByteArray).toList) = false := h2
            have HH := Lib.hid (show hitR s k = false by rw [hitR, h1, h2]; rfl)
            clear h1 h2
            go_wp2_with fail
            refine (itoa_c k (by omega) _).mono ?_
            rintro e w1 ⟨rfl, rfl⟩
            go_wp2_with fail
            go_round
            case rel => exact ⟨k + 1, by omega, by go_num, fun j hj => by
              rcases Nat.lt_succ_iff_lt_or_eq.1 hj with h | rfl
              · exact HO.out j h
              · exact HH.out⟩
            case measure => simp [intOf]; omega
          · have e2 : (s.toList == (⟨#[120]⟩ ++ bsR (digR k) : ByteArray).toList) = true := h2
            have HH := Lib.hid (show findV s = .tuple #[.int .i64 k, .bool true] by
              have hf : findR s = some k := find_hit _ k hlt (fun j hj => by rw [HP.out]; exact HO.out j hj) (by rw [HP.out, hitR, h1, h2]; rfl)
              simp only [findV, hf])
            clear h1 h2
            go_wp2_with fail
            refine (itoa_c k (by omega) _).mono ?_
            rintro e w1 ⟨rfl, rfl⟩
            go_wp2_with fail
            go_ret2
            exact ⟨by rw [HH.out]; rfl, rfl⟩
        · have e1 : (s.toList == (bsR (nmR k)).toList) = true := h1
          have HH := Lib.hid (show findV s = .tuple #[.int .i64 k, .bool true] by
            have hf : findR s = some k := find_hit _ k hlt (fun j hj => by rw [HP.out]; exact HO.out j hj) (by rw [HP.out, hitR, h1]; rfl)
            simp only [findV, hf])
          clear h1
          go_wp2_with fail
          go_ret2
          exact ⟨by rw [HH.out]; rfl, rfl⟩
      · obtain rfl : k = 32 := by omega
        have HH := Lib.hid (show findV s = .tuple #[.int .i64 0, .bool false] by
          have hf : findR s = none := find_none _ (fun j hj => by rw [HP.out]; exact HO.out j hj)
          simp only [findV, hf])
        go_wp2_with fail
        go_ret2
        exact ⟨by rw [HH.out]; rfl, rfl⟩
  · have e0 : (s.toList == [102, 112]) = true := hfp
    have HH := Lib.hid (show findV s = .tuple #[.int .i64 8, .bool true] by simp only [findV, find_fp s hfp]; rfl)
    clear hN hfp
    go_enter Tryz.func100, Tryz.ntmps100
    go_wp2_with fail
    go_ret2
    exact ⟨by rw [HH.out]; rfl, rfl⟩
def findI (s : ByteArray) : Int := match findR s with | some k => k | none => -1
theorem names_cell (w : World) (k : Nat) (hk : k < 32) : (w.alloc (.cells (namesR.map strR).toArray 9)).cell? ⟨w.heap.size, k, none⟩ = some (strR (nmR k)) := by
  have h := cell_of_row (w.alloc (.cells (namesR.map strR).toArray 9)) w.heap.size k _ _ _ (by show (w.heap.push _)[w.heap.size]? = _; simp; exact ⟨rfl, rfl, rfl⟩)
  rw [h]
  have hl : k < namesR.length := hk
  simp [nmR, List.getD, List.getElem?_eq_getElem hl]
set_option maxHeartbeats 1000000 in
theorem refFind_c (s : ByteArray) (w : World) : Calls Tryz.prog 37 #[.string s] w fun e w' => e = .returned (.int .i64 (findI s)) ∧ Below w.heap.size w w' := by
  have HC := Lib.hid (names_cell w)
  have HB := Lib.hid (show Below w.heap.size w (w.alloc (.cells (namesR.map strR).toArray 9)) from (Below.refl _ _).alloc (Nat.le_refl _) _)
  have HZ := Lib.hid (show w.heap.size < (w.alloc (.cells (namesR.map strR).toArray 9)).heap.size by simp)
  go_enter Tryz.func37, Tryz.ntmps37
  go_wp2_with fail
  refine (refNames5_c _).mono ?_
  rintro e w1 ⟨rfl, rfl⟩
  generalize (w.alloc (.cells (namesR.map strR).toArray 9)) = w0 at *
  go_wp2_with fail
  go_loopw [4] (fun t wr => ∃ k : Nat, k ≤ 32 ∧ t = .int .i64 k ∧ (∀ j, j < k → (hitR s j || (j == 8 && fpR s)) = false) ∧ Below w0.heap.size w0 wr) (fun t _ => 32 - (intOf t).toNat)
  case atStart => exact ⟨0, by decide, rfl, fun j hj => absurd hj (by omega), Below.refl _ _⟩
  case round =>
    obtain ⟨k, hk, rfl, hno, hb⟩ := hrel
    have HO := Lib.hid hno
    have HK := Lib.hid hb
    clear hno
    by_cases hlt : k < 32
    · have hl2 : (k : Int) < 32 := by omega
      have hc := (hb.cell (p := ⟨w.heap.size, k, none⟩) HZ.out).trans (HC.out k hlt)
      have hz := x_size ⟨k, hlt⟩
      simp only at hz
      clear hb
      have HR := Lib.hid (fun h => find_hit (fun k => hitR s k || (k == 8 && fpR s)) k hlt HO.out h)
      cases h1 : hitN s k
      · have e1 : (s.toList == (bsR (nmR k)).toList) = false := h1
        cases h2 : hitX s k
        · have e2 : (s.toList == (⟨#[120]⟩ ++ bsR (digR k) : ByteArray).toList) = false := h2
          have hR : hitR s k = false := by rw [hitR, h1, h2]; rfl
          by_cases h8 : k = 8
          · have e8 : ((k : Int) == 8) = true := by simp; omega
            rcases (show fpR s = false ∨ fpR s = true by cases fpR s <;> simp) with hfp | hfp
            · have ef : (s.toList == [102, 112]) = false := hfp
              have HH := Lib.hid (show (hitR s k || (k == 8 && fpR s)) = false by rw [hR, hfp]; simp)
              clear h1 h2 hR hfp h8
              go_wp2_with fail
              refine (digits_c k (by omega) _).mono ?_
              rintro e w1 ⟨rfl, hb⟩
              have HK2 := Lib.hid (HK.out.trans (hb.mono HK.out.size))
              clear hb
              go_wp2_with fail
              go_roundw
              case rel => exact ⟨k + 1, by omega, by go_num, (fun j hj => by
                rcases Nat.lt_succ_iff_lt_or_eq.1 hj with h | rfl
                · exact HO.out j h
                · exact HH.out), HK2.out⟩
              case measure => simp [intOf]; omega
            · have ef : (s.toList == [102, 112]) = true := hfp
              have HH := Lib.hid (show findI s = k by have := HR.out (by rw [hR, hfp]; simp; omega); unfold findI; simp only [findR, this])
              clear h1 h2 hR hfp h8
              go_wp2_with fail
              refine (digits_c k (by omega) _).mono ?_
              rintro e w1 ⟨rfl, hb⟩
              have HK2 := Lib.hid (HK.out.trans (hb.mono HK.out.size))
              clear hb
              go_wp2_with fail
              go_ret
              exact ⟨by rw [HH.out]; rfl, HB.out.trans (HK2.out.mono HB.out.size)⟩
          · have e8 : ((k : Int) == 8) = false := by simp; omega
            have HH := Lib.hid (show (hitR s k || (k == 8 && fpR s)) = false by rw [hR]; simp [h8])
            clear h1 h2 hR
            go_wp2_with fail
            refine (digits_c k (by omega) _).mono ?_
            rintro e w1 ⟨rfl, hb⟩
            have HK2 := Lib.hid (HK.out.trans (hb.mono HK.out.size))
            clear hb
            go_wp2_with fail
            go_roundw
            case rel => exact ⟨k + 1, by omega, by go_num, (fun j hj => by
              rcases Nat.lt_succ_iff_lt_or_eq.1 hj with h | rfl
              · exact HO.out j h
              · exact HH.out), HK2.out⟩
            case measure => simp [intOf]; omega
        · have e2 : (s.toList == (⟨#[120]⟩ ++ bsR (digR k) : ByteArray).toList) = true := h2
          have HH := Lib.hid (show findI s = k by have := HR.out (by rw [hitR, h1, h2]; rfl); unfold findI; simp only [findR, this])
          clear h1 h2
          go_wp2_with fail
          refine (digits_c k (by omega) _).mono ?_
          rintro e w1 ⟨rfl, hb⟩
          have HK2 := Lib.hid (HK.out.trans (hb.mono HK.out.size))
          clear hb
          go_wp2_with fail
          go_ret
          exact ⟨by rw [HH.out]; rfl, HB.out.trans (HK2.out.mono HB.out.size)⟩
      · have e1 : (s.toList == (bsR (nmR k)).toList) = true := h1
        have HH := Lib.hid (show findI s = k by have := HR.out (by rw [hitR, h1]; rfl); unfold findI; simp only [findR, this])
        clear h1
        go_wp2_with fail
        go_ret
        exact ⟨by rw [HH.out]; rfl, HB.out.trans (HK.out.mono HB.out.size)⟩
    · obtain rfl : k = 32 := by omega
      have HH := Lib.hid (show findI s = -1 by have := find_none (fun k => hitR s k || (k == 8 && fpR s)) HO.out; unfold findI; simp only [findR, this])
      clear hb
      go_wp2_with fail
      go_ret
      exact ⟨by rw [HH.out]; rfl, HB.out.trans (HK.out.mono HB.out.size)⟩
end Go.Proofs.YthehcplogkgkeaaGreatDoor.Rg
