/-
  Arrays of integers as whole rows: a block that holds them; what is loaded, stored and compared; how the program's other steps leave them.
-/
import Derived.Test.YtmieabafiijfjaaDoorRows
import Derived.Laws.Rows
import Derived.Laws.Tables
import Derived.Deep.WholeRow
import Derived.Laws.StructEq
import Derived.Laws.CopyOwn
import Derived.Laws.CopyRow
import Derived.Below
import Derived.Great.BuildSlice
import Derived.WalkKit
import Derived.Lib.Hide
set_option maxRecDepth 4000
namespace Go.Proofs.YtmieabafiijfjaaDoor
open Go.RowKit

/-- The cells of an array of integers. -/
def aV (k : IntKind) (ws : List Int) : Array Value := (ws.map (Value.int k)).toArray
theorem aV_size (k : IntKind) (ws : List Int) : (aV k ws).size = ws.length := by simp [aV]
theorem aV_get (k : IntKind) (ws : List Int) (i : Nat) : (aV k ws)[i]? = (ws[i]?).map (Value.int k) := by simp [aV]
theorem aV_set (k : IntKind) (ws : List Int) (i : Nat) (x : Int) : (aV k ws).setIfInBounds i (.int k x) = aV k (ws.set i x) := by
  simp [aV, List.map_set]
theorem aV_one (k : IntKind) (ws : List Int) : (aV k ws).all (·.oneCell') = true := by
  rw [Array.all_eq_true_iff_forall_mem]
  intro v hv
  simp [aV] at hv
  obtain ⟨a, -, rfl⟩ := hv
  rfl
/-- A block that holds an array of integers. -/
def RowAt (k : IntKind) (w : World) (b : Nat) (t : TypeId) (ws : List Int) : Prop := w.heap[b]? = some (.cells (aV k ws) t (0, 0))
theorem RowAt.lt {k : IntKind} {w : World} {b : Nat} {t : TypeId} {ws : List Int} (h : RowAt k w b t ws) : b < w.heap.size := (Array.getElem?_eq_some_iff.1 h).1
theorem RowAt.on {k : IntKind} {w w' : World} {B b : Nat} {t : TypeId} {ws : List Int} (h : RowAt k w b t ws) (hb : Below B w w') (hB : b < B) : RowAt k w' b t ws := (hb.block b hB).trans h
theorem RowAt.low {k : IntKind} {w w' : World} {b : Nat} {t : TypeId} {ws : List Int} (h : RowAt k w b t ws) (hb : Below w.heap.size w w') : RowAt k w' b t ws := h.on hb h.lt
theorem RowAt.alloc {k : IntKind} {w : World} {b : Nat} {t : TypeId} {ws : List Int} (h : RowAt k w b t ws) (o : Obj) : RowAt k (w.alloc o) b t ws := (Below.heap_alloc w o b h.lt).trans h
theorem RowAt.drew {k : IntKind} {w : World} {b : Nat} {t : TypeId} {ws : List Int} (h : RowAt k w b t ws) : RowAt k w.drew b t ws := h
theorem RowAt.new (k : IntKind) (w : World) (t : TypeId) (ws : List Int) : RowAt k (w.alloc (.cells (aV k ws) t)) w.heap.size t ws := by show (w.heap.push _)[w.heap.size]? = _; simp
theorem RowAt.cell {k : IntKind} {w : World} {b : Nat} {t : TypeId} {ws : List Int} (h : RowAt k w b t ws) (i : Nat) (hi : i < ws.length) : w.cell? ⟨b, i, none⟩ = some (.int k (ws.getD i 0)) := by
  rw [cell_of_row w b i _ t _ h, aV_get, List.getD, List.getElem?_eq_getElem hi]
  rfl
theorem RowAt.frozen {k : IntKind} {w : World} {b : Nat} {t : TypeId} {ws : List Int} (h : RowAt k w b t ws) (i : Nat) : w.frozen? ⟨b, i, none⟩ = false := frozen_of_row w b i _ t h
theorem RowAt.set {k : IntKind} {w : World} {b : Nat} {t : TypeId} {ws : List Int} (h : RowAt k w b t ws) (i : Nat) (x : Int) : RowAt k (w.setCell ⟨b, i, none⟩ (.int k x)) b t (ws.set i x) := by
  unfold RowAt
  rw [heap_setCell_same w b i _ t _ h, aV_set]
theorem RowAt.far {k : IntKind} {w : World} {b : Nat} {t : TypeId} {ws : List Int} (h : RowAt k w b t ws) {c i : Nat} (hne : b ≠ c) (v : Value) : RowAt k (w.setCell ⟨c, i, none⟩ v) b t ws :=
  (heap_setCell_other w ⟨c, i, none⟩ b v hne).trans h
theorem RowAt.row {k : IntKind} {w : World} {b : Nat} {t : TypeId} {ws : List Int} (h : RowAt k w b t ws) (vs : List Int) : RowAt k (w.setRow b (aV k vs)) b t vs := setRow_heap w b _ _ t _ h
theorem RowAt.rowFar {k : IntKind} {w : World} {b : Nat} {t : TypeId} {ws : List Int} (h : RowAt k w b t ws) {c : Nat} (hne : b ≠ c) (cs : Array Value) : RowAt k (w.setRow c cs) b t ws := (setRow_other w c b cs hne).trans h
theorem RowAt.setEq {k : IntKind} {w : World} {b : Nat} {t : TypeId} {ws : List Int} (h : RowAt k w b t ws) (i : Nat) (x : Int) : w.setCell ⟨b, i, none⟩ (.int k x) = w.setRow b (aV k (ws.set i x)) := by
  rw [setCell_eq_setRow w b i _ t _ _ h, aV_set]
theorem RowAt.self {k : IntKind} {w : World} {b : Nat} {t : TypeId} {ws : List Int} (h : RowAt k w b t ws) : w.setRow b (aV k ws) = w := setRow_self w b _ t _ h

theorem ints_range_eq : ∀ (xs ys : List Int), xs.length = ys.length → ((List.range xs.length).all fun i => xs.getD i 0 == ys.getD i 0) = (xs == ys)
  | [], [], _ => rfl
  | x :: xs, y :: ys, h => by
    have ih := ints_range_eq xs ys (by simpa using h)
    rw [List.length_cons, List.range_succ_eq_map, List.all_cons, List.all_map]
    simp only [List.getD_cons_zero, Function.comp_def, List.getD_cons_succ, ih]
    simp [List.cons_beq_cons]
  | [], _ :: _, h => by simp at h
  | _ :: _, [], h => by simp at h
section
variable {P : Program} (w : World)
theorem run_equalIn_ints (d : Nat) (t e : TypeId) (n : Nat) (k : IntKind) (ht : P.underlying t = some (.array n e)) (he : P.underlying e = some (.int k)) (hsz : ∀ w, (sizeOf e).run P w = .ok 1 w)
    (xs ys : List Int) (hx : xs.length = n) (hy : ys.length = n) :
    (Op.equalIn (d + 2) t (.agg (aV k xs)) (.agg (aV k ys))).run P w = .ok (xs == ys) w := by
  rw [← ints_range_eq xs ys (hx.trans hy.symm), hx, List.range_eq_range', Op.equalIn]
  simp only [Sem.run_bind, run_underlying ht, Result.andThen_ok, hsz, Std.Legacy.Range.forIn_eq_forIn_range', Std.Legacy.Range.size, Nat.sub_zero, Nat.add_sub_cancel, Nat.div_one]
  have hl : ∀ i ∈ List.range' 0 n 1, i < n := fun i hi => by simpa using (List.mem_range'_1.1 hi).2
  generalize List.range' 0 n 1 = l at hl ⊢
  induction l with
  | nil => simp
  | cons i l ih =>
    have hi : i < n := hl i (by simp)
    have px : (part e (aV k xs) (i * 1)).run P w = .ok (.int k (xs.getD i 0)) w := by
      simp [part, isAgg, run_underlying he, aV, List.getD, List.getElem?_eq_getElem (show i < xs.length by omega)]
    have py : (part e (aV k ys) (i * 1)).run P w = .ok (.int k (ys.getD i 0)) w := by
      simp [part, isAgg, run_underlying he, aV, List.getD, List.getElem?_eq_getElem (show i < ys.length by omega)]
    have pe : (Op.equalIn (d + 1) e (.int k (xs.getD i 0)) (.int k (ys.getD i 0))).run P w = .ok (xs.getD i 0 == ys.getD i 0) w := run_equalIn_int w d e k k _ _ he
    simp only [List.forIn_cons, Sem.run_bind, px, py, pe, Result.andThen_ok, List.all_cons]
    cases hb : (xs.getD i 0 == ys.getD i 0)
    · simp
    · simp only [Bool.not_true, Bool.false_eq_true, if_false, Sem.run_pure, Result.andThen_ok, Bool.true_and]
      exact ih fun j hj => hl j (by simp [hj])
theorem run_eql_ints (t e : TypeId) (n : Nat) (k : IntKind) (ht : P.underlying t = some (.array n e)) (he : P.underlying e = some (.int k)) (hsz : ∀ w, (sizeOf e).run P w = .ok 1 w)
    (xs ys : List Int) (hx : xs.length = n) (hy : ys.length = n) : (binOp .eql t (.agg (aV k xs)) (.agg (aV k ys))).run P w = .ok (.bool (xs == ys)) w := by
  rw [run_eql_struct, run_equalIn_ints w 9998 t e n k ht he hsz xs ys hx hy]
  rfl
theorem run_neq_ints (t e : TypeId) (n : Nat) (k : IntKind) (ht : P.underlying t = some (.array n e)) (he : P.underlying e = some (.int k)) (hsz : ∀ w, (sizeOf e).run P w = .ok 1 w)
    (xs ys : List Int) (hx : xs.length = n) (hy : ys.length = n) : (binOp .neq t (.agg (aV k xs)) (.agg (aV k ys))).run P w = .ok (.bool (!(xs == ys))) w := by
  rw [run_neq_struct, run_equalIn_ints w 9998 t e n k ht he hsz xs ys hx hy]
  rfl
/-- A whole array into the block that was made last. -/
theorem wpList_storeNew {ops : Array Oper} {rest : List Oper} {o : Oper} {a : Act} {w0 : World} {Q : Exit → Act → World → Prop} (hgd : o.guard = none) (ty : TypeId) (x y : Operand) (ho : o.op = .store ty x y)
    (c cells : Array Value) (t : TypeId) (hx : a.eval x = .pointer (some ⟨w0.heap.size, 0, none⟩)) (hy : a.eval y = .agg cells) (hi : (P.info? ty).map (·.size) = some cells.size) (hold : c.size = cells.size) (h1 : cells.all (·.oneCell') = true)
    (h : wpList P ops Q rest (a.put o.dst undef) (w0.alloc (.cells cells t))) : wpList P ops Q (o :: rest) a (w0.alloc (.cells c t)) := by
  refine wpList_store_row hgd ty x y ho w0.heap.size cells hx hy t c (heap_alloc_last w0 _) hi hold h1 ?_
  rw [World.setRow_alloc_new]
  exact h
theorem foldl_fill : ∀ (l : List Value) (i : Nat) (acc : Array Value), acc.size = i + l.length → (l.zipIdx i).foldl (fun (cs : Array Value) (x : Value × Nat) => cs.setIfInBounds (0 + x.2) x.1) acc = (acc.toList.take i ++ l).toArray
  | [], i, acc, h => by
    have : acc.toList.take i = acc.toList := List.take_of_length_le (by simp at h ⊢; omega)
    simp [this]
  | v :: l, i, acc, h => by
    rw [List.zipIdx_cons, List.foldl_cons, foldl_fill l (i + 1) _ (by simp at h ⊢; omega)]
    congr 1
    apply List.ext_getElem?
    intro k
    have hi : i < acc.size := by simp at h; omega
    simp only [Nat.zero_add, Array.toList_setIfInBounds, List.getElem?_append, List.length_take, List.length_set, Array.length_toList]
    by_cases hk : k < i
    · simp [hk, show k < i + 1 by omega, show min (i + 1) acc.size = i + 1 by omega, show min i acc.size = i by omega, show i ≠ k by omega]
    · by_cases hk2 : k = i
      · subst hk2
        simp [show min (k + 1) acc.size = k + 1 by omega, show min k acc.size = k by omega]
      · simp [hk, show ¬ k < i + 1 by omega, show min (i + 1) acc.size = i + 1 by omega, show min i acc.size = i by omega, show k - i = (k - (i + 1)) + 1 by omega]
/-- One part that fills the whole. -/
theorem fill_whole (place : Nat → Option (Nat × Nat)) (z cs : Array Value) (hp : place 0 = some (0, cs.size)) (hz : z.size = cs.size) : Instr.fill place z [(0, .agg cs)] = some cs := by
  have hc : (Value.agg cs).cells = cs := rfl
  simp only [Instr.fill, hp, hc]
  have e := foldl_fill cs.toList 0 z (by simp [hz])
  simp only [List.take_zero, List.nil_append, Array.toArray_toList] at e
  rw [if_neg (by simp; omega)]
  rw [← Array.foldl_toList, Array.toList_zipIdx]
  exact congrArg some e
/-- A whole built of one part. -/
theorem wpList_buildOne {ops : Array Oper} {rest : List Oper} {o : Oper} {a : Act} {w : World} {Q : Exit → Act → World → Prop} (hg : o.guard = none) (t : TypeId) (i : Nat) (x : Operand) (ho : o.op = .build t #[(i, x)])
    (src cells : Array Value) (hx : a.eval x = .agg src) (hf : P.built t [(i, .agg src)] = some cells)
    (h : wpList P ops Q rest (a.put o.dst (.agg cells)) w) : wpList P ops Q (o :: rest) a w :=
  wpList_buildTo hg t _ ho _ rfl cells (by simpa [hx] using hf) h
/-- Two aggregates compared. -/
theorem wpList_cmp {ops : Array Oper} {rest : List Oper} {o : Oper} {a : Act} {w : World} {Q : Exit → Act → World → Prop} (hg : o.guard = none) (op : BinOp) (t t2 : TypeId) (x y : Operand) (ho : o.op = .binOp op t x y t2)
    (xs ys : Array Value) (hx : a.eval x = .agg xs) (hy : a.eval y = .agg ys) (hm : P.eqGuardType P.depth t = false) (r : Value) (hr : (binOp op t (.agg xs) (.agg ys)).run P w = .ok r w)
    (h : wpList P ops Q rest (a.put o.dst r) w) : wpList P ops Q (o :: rest) a w :=
  wpList_plain hg fun _ hK => by
    unfold Oper.wp execOp
    simp only [ho, hx, hy, Sem.run_bind, run_eqGuard_agg w op t x y xs ys hm, hr, Result.andThen_ok, Sem.run_pure]
    exact hK _ _ h
/-- The same of an operation whose guard says yes. -/
theorem wpList_cmpW {ops : Array Oper} {rest : List Oper} {o : Oper} {a : Act} {w : World} {Q : Exit → Act → World → Prop} (hw : Region.wanted o (yielded ops a.tmps) = true) (op : BinOp) (t t2 : TypeId) (x y : Operand) (ho : o.op = .binOp op t x y t2)
    (xs ys : Array Value) (hx : a.eval x = .agg xs) (hy : a.eval y = .agg ys) (hm : P.eqGuardType P.depth t = false) (r : Value) (hr : (binOp op t (.agg xs) (.agg ys)).run P w = .ok r w)
    (h : wpList P ops Q rest (a.put o.dst r) w) : wpList P ops Q (o :: rest) a w :=
  wpList_step fun _ hK => by
    rw [if_pos hw]
    unfold Oper.wp execOp
    simp only [ho, hx, hy, Sem.run_bind, run_eqGuard_agg w op t x y xs ys hm, hr, Result.andThen_ok, Sem.run_pure]
    exact hK _ _ h
/-- A struct of one field, an array of integers, compared. -/
theorem run_eql_one (t u e : TypeId) (n : Nat) (k : IntKind) (f : Field) (hf : (P.fieldsOf t).toList = [f]) (ht : P.underlying t = some (.struct (P.fieldsOf t))) (hp : P.stoodInHeld t = false) (hn : (f.name != "_") = true) (ho : f.offset = 0) (hu : f.type = u)
    (hu2 : P.underlying u = some (.array n e)) (he : P.underlying e = some (.int k)) (hsz : ∀ w, (sizeOf e).run P w = .ok 1 w) (hsu : ∀ w, (sizeOf u).run P w = .ok n w)
    (xs ys : List Int) (hx : xs.length = n) (hy : ys.length = n) : (binOp .eql t (.agg (aV k xs)) (.agg (aV k ys))).run P w = .ok (.bool (xs == ys)) w := by
  rw [run_eql_struct, run_equalIn_agg w 9999 t _ _ ht hp, hf]
  have p1 : ∀ zs : List Int, zs.length = n → (part u (aV k zs) 0).run P w = .ok (.agg (aV k zs)) w := fun zs hz => by
    have e1 : (aV k zs).extract 0 n = aV k zs := by rw [← hz, ← aV_size k zs]; exact Array.extract_size
    simp [part, isAgg, run_underlying hu2, hsu, e1]
  have hn' : f.name ≠ "_" := by simpa using hn
  have q := run_equalIn_ints w 9997 u e n k hu2 he hsz xs ys hx hy
  have q' : (Op.equalIn 9999 u (.agg (aV k xs)) (.agg (aV k ys))).run P w = .ok (xs == ys) w := q
  simp only [Op.eqFields, if_pos hn', Sem.run_bind, ho, hu, p1 xs hx, p1 ys hy, Result.andThen_ok, q']
  cases hb : (xs == ys) <;> simp
end
/-- A block that holds the cells of an aggregate. -/
def CsAt (w : World) (b : Nat) (t : TypeId) (cs : Array Value) : Prop := w.heap[b]? = some (.cells cs t (0, 0))
theorem CsAt.lt {w : World} {b : Nat} {t : TypeId} {cs : Array Value} (h : CsAt w b t cs) : b < w.heap.size := (Array.getElem?_eq_some_iff.1 h).1
theorem CsAt.on {w w' : World} {B b : Nat} {t : TypeId} {cs : Array Value} (h : CsAt w b t cs) (hb : Below B w w') (hB : b < B) : CsAt w' b t cs := (hb.block b hB).trans h
theorem CsAt.low {w w' : World} {b : Nat} {t : TypeId} {cs : Array Value} (h : CsAt w b t cs) (hb : Below w.heap.size w w') : CsAt w' b t cs := h.on hb h.lt
theorem CsAt.alloc {w : World} {b : Nat} {t : TypeId} {cs : Array Value} (h : CsAt w b t cs) (o : Obj) : CsAt (w.alloc o) b t cs := (Below.heap_alloc w o b h.lt).trans h
theorem CsAt.new (w : World) (t : TypeId) (cs : Array Value) : CsAt (w.alloc (.cells cs t)) w.heap.size t cs := by show (w.heap.push _)[w.heap.size]? = _; simp
theorem CsAt.cell {w : World} {b : Nat} {t : TypeId} {cs : Array Value} (h : CsAt w b t cs) (i : Nat) : w.cell? ⟨b, i, none⟩ = cs[i]? := cell_of_row w b i _ t _ h
theorem CsAt.frozen {w : World} {b : Nat} {t : TypeId} {cs : Array Value} (h : CsAt w b t cs) (i : Nat) : w.frozen? ⟨b, i, none⟩ = false := frozen_of_row w b i _ t h
theorem CsAt.row {w : World} {b : Nat} {t : TypeId} {cs : Array Value} (h : CsAt w b t cs) (ds : Array Value) : CsAt (w.setRow b ds) b t ds := setRow_heap w b _ _ t _ h
theorem CsAt.rowFar {w : World} {b : Nat} {t : TypeId} {cs : Array Value} (h : CsAt w b t cs) {c : Nat} (hne : b ≠ c) (ds : Array Value) : CsAt (w.setRow c ds) b t cs := (setRow_other w c b ds hne).trans h
end Go.Proofs.YtmieabafiijfjaaDoor
