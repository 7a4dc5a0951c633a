/-
  Arrays of integers as whole rows: a block that holds them; what is loaded, stored and compared; how the program's other steps leave them. Plain numbers, no program: a word of 64 bits that is given by a function of the bit's place, and the bits of sums, shifts and masks of such words. Plain numbers and lists, no program: what a clint has, where its registers are, and what is read, written and told (layer 15).
-/
import Derived.Test.YtfjdalepaacmgaaGreatRows
import Derived.Laws.Rows
import Derived.Laws.Tables
import Derived.Deep.WholeRow
import Derived.Laws.StructEq
import Derived.Laws.CopyOwn
import Derived.Laws.CopyRow
import Derived.Below
import Derived.Great.BuildSlice
import Derived.WalkKit
import Derived.Lib.Hide
import Derived.Laws.ShiftsVarLaws
set_option maxRecDepth 20000
namespace Go.Proofs.YtfjdalepaacmgaaGreat
open Go.RowKit

/-- The cells of an array of integers. -/
def aV (k : IntKind) (ws : List Int) : Array Value := (ws.map (Value.int k)).toArray
theorem aV_size (k : IntKind) (ws : List Int) : (aV k ws).size = ws.length := by simp [aV]
theorem aV_get (k : IntKind) (ws : List Int) (i : Nat) : (aV k ws)[i]? = (ws[i]?).map (Value.int k) := by simp [aV]
theorem aV_set (k : IntKind) (ws : List Int) (i : Nat) (x : Int) : (aV k ws).setIfInBounds i (.int k x) = aV k (ws.set i x) := by
  simp [aV, List.map_set]
theorem aV_one (k : IntKind) (ws : List Int) : (aV k ws).all (·.oneCell') = true := by
  rw [Array.all_eq_true_iff_forall_mem]
  intro v hv
  simp [aV] at hv
  obtain ⟨a, -, rfl⟩ := hv
  rfl
/-- A block that holds an array of integers. -/
def RowAt (k : IntKind) (w : World) (b : Nat) (t : TypeId) (ws : List Int) : Prop := w.heap[b]? = some (.cells (aV k ws) t (0, 0))
theorem RowAt.lt {k : IntKind} {w : World} {b : Nat} {t : TypeId} {ws : List Int} (h : RowAt k w b t ws) : b < w.heap.size := (Array.getElem?_eq_some_iff.1 h).1
theorem RowAt.on {k : IntKind} {w w' : World} {B b : Nat} {t : TypeId} {ws : List Int} (h : RowAt k w b t ws) (hb : Below B w w') (hB : b < B) : RowAt k w' b t ws := (hb.block b hB).trans h
theorem RowAt.low {k : IntKind} {w w' : World} {b : Nat} {t : TypeId} {ws : List Int} (h : RowAt k w b t ws) (hb : Below w.heap.size w w') : RowAt k w' b t ws := h.on hb h.lt
theorem RowAt.alloc {k : IntKind} {w : World} {b : Nat} {t : TypeId} {ws : List Int} (h : RowAt k w b t ws) (o : Obj) : RowAt k (w.alloc o) b t ws := (Below.heap_alloc w o b h.lt).trans h
theorem RowAt.drew {k : IntKind} {w : World} {b : Nat} {t : TypeId} {ws : List Int} (h : RowAt k w b t ws) : RowAt k w.drew b t ws := h
theorem RowAt.new (k : IntKind) (w : World) (t : TypeId) (ws : List Int) : RowAt k (w.alloc (.cells (aV k ws) t)) w.heap.size t ws := by show (w.heap.push _)[w.heap.size]? = _; simp
theorem RowAt.cell {k : IntKind} {w : World} {b : Nat} {t : TypeId} {ws : List Int} (h : RowAt k w b t ws) (i : Nat) (hi : i < ws.length) : w.cell? ⟨b, i, none⟩ = some (.int k (ws.getD i 0)) := by
  rw [cell_of_row w b i _ t _ h, aV_get, List.getD, List.getElem?_eq_getElem hi]
  rfl
theorem RowAt.frozen {k : IntKind} {w : World} {b : Nat} {t : TypeId} {ws : List Int} (h : RowAt k w b t ws) (i : Nat) : w.frozen? ⟨b, i, none⟩ = false := frozen_of_row w b i _ t h
theorem RowAt.set {k : IntKind} {w : World} {b : Nat} {t : TypeId} {ws : List Int} (h : RowAt k w b t ws) (i : Nat) (x : Int) : RowAt k (w.setCell ⟨b, i, none⟩ (.int k x)) b t (ws.set i x) := by
  unfold RowAt
  rw [heap_setCell_same w b i _ t _ h, aV_set]
theorem RowAt.far {k : IntKind} {w : World} {b : Nat} {t : TypeId} {ws : List Int} (h : RowAt k w b t ws) {c i : Nat} (hne : b ≠ c) (v : Value) : RowAt k (w.setCell ⟨c, i, none⟩ v) b t ws :=
  (heap_setCell_other w ⟨c, i, none⟩ b v hne).trans h
theorem RowAt.row {k : IntKind} {w : World} {b : Nat} {t : TypeId} {ws : List Int} (h : RowAt k w b t ws) (vs : List Int) : RowAt k (w.setRow b (aV k vs)) b t vs := setRow_heap w b _ _ t _ h
theorem RowAt.rowFar {k : IntKind} {w : World} {b : Nat} {t : TypeId} {ws : List Int} (h : RowAt k w b t ws) {c : Nat} (hne : b ≠ c) (cs : Array Value) : RowAt k (w.setRow c cs) b t ws := (setRow_other w c b cs hne).trans h
theorem RowAt.setEq {k : IntKind} {w : World} {b : Nat} {t : TypeId} {ws : List Int} (h : RowAt k w b t ws) (i : Nat) (x : Int) : w.setCell ⟨b, i, none⟩ (.int k x) = w.setRow b (aV k (ws.set i x)) := by
  rw [setCell_eq_setRow w b i _ t _ _ h, aV_set]
theorem RowAt.self {k : IntKind} {w : World} {b : Nat} {t : TypeId} {ws : List Int} (h : RowAt k w b t ws) : w.setRow b (aV k ws) = w := setRow_self w b _ t _ h

theorem ints_range_eq : ∀ (xs ys : List Int), xs.length = ys.length → ((List.range xs.length).all fun i => xs.getD i 0 == ys.getD i 0) = (xs == ys)
  | [], [], _ => rfl
  | x :: xs, y :: ys, h => by
    have ih := ints_range_eq xs ys (by simpa using h)
    rw [List.length_cons, List.range_succ_eq_map, List.all_cons, List.all_map]
    simp only [List.getD_cons_zero, Function.comp_def, List.getD_cons_succ, ih]
    simp [List.cons_beq_cons]
  | [], _ :: _, h => by simp at h
  | _ :: _, [], h => by simp at h
section
variable {P : Program} (w : World)
theorem run_equalIn_ints (d : Nat) (t e : TypeId) (n : Nat) (k : IntKind) (ht : P.underlying t = some (.array n e)) (he : P.underlying e = some (.int k)) (hsz : ∀ w, (sizeOf e).run P w = .ok 1 w)
    (xs ys : List Int) (hx : xs.length = n) (hy : ys.length = n) :
    (Op.equalIn (d + 2) t (.agg (aV k xs)) (.agg (aV k ys))).run P w = .ok (xs == ys) w := by
  rw [← ints_range_eq xs ys (hx.trans hy.symm), hx, List.range_eq_range', Op.equalIn]
  simp only [Sem.run_bind, run_underlying ht, Result.andThen_ok, hsz, Std.Legacy.Range.forIn_eq_forIn_range', Std.Legacy.Range.size, Nat.sub_zero, Nat.add_sub_cancel, Nat.div_one]
  have hl : ∀ i ∈ List.range' 0 n 1, i < n := fun i hi => by simpa using (List.mem_range'_1.1 hi).2
  generalize List.range' 0 n 1 = l at hl ⊢
  induction l with
  | nil => simp
  | cons i l ih =>
    have hi : i < n := hl i (by simp)
    have px : (part e (aV k xs) (i * 1)).run P w = .ok (.int k (xs.getD i 0)) w := by
      simp [part, isAgg, run_underlying he, aV, List.getD, List.getElem?_eq_getElem (show i < xs.length by omega)]
    have py : (part e (aV k ys) (i * 1)).run P w = .ok (.int k (ys.getD i 0)) w := by
      simp [part, isAgg, run_underlying he, aV, List.getD, List.getElem?_eq_getElem (show i < ys.length by omega)]
    have pe : (Op.equalIn (d + 1) e (.int k (xs.getD i 0)) (.int k (ys.getD i 0))).run P w = .ok (xs.getD i 0 == ys.getD i 0) w := run_equalIn_int w d e k k _ _ he
    simp only [List.forIn_cons, Sem.run_bind, px, py, pe, Result.andThen_ok, List.all_cons]
    cases hb : (xs.getD i 0 == ys.getD i 0)
    · simp
    · simp only [Bool.not_true, Bool.false_eq_true, if_false, Sem.run_pure, Result.andThen_ok, Bool.true_and]
      exact ih fun j hj => hl j (by simp [hj])
theorem run_eql_ints (t e : TypeId) (n : Nat) (k : IntKind) (ht : P.underlying t = some (.array n e)) (he : P.underlying e = some (.int k)) (hsz : ∀ w, (sizeOf e).run P w = .ok 1 w)
    (xs ys : List Int) (hx : xs.length = n) (hy : ys.length = n) : (binOp .eql t (.agg (aV k xs)) (.agg (aV k ys))).run P w = .ok (.bool (xs == ys)) w := by
  rw [run_eql_struct, run_equalIn_ints w 9998 t e n k ht he hsz xs ys hx hy]
  rfl
theorem run_neq_ints (t e : TypeId) (n : Nat) (k : IntKind) (ht : P.underlying t = some (.array n e)) (he : P.underlying e = some (.int k)) (hsz : ∀ w, (sizeOf e).run P w = .ok 1 w)
    (xs ys : List Int) (hx : xs.length = n) (hy : ys.length = n) : (binOp .neq t (.agg (aV k xs)) (.agg (aV k ys))).run P w = .ok (.bool (!(xs == ys))) w := by
  rw [run_neq_struct, run_equalIn_ints w 9998 t e n k ht he hsz xs ys hx hy]
  rfl
/-- A whole array into the block that was made last. -/
theorem wpList_storeNew {ops : Array Oper} {rest : List Oper} {o : Oper} {a : Act} {w0 : World} {Q : Exit → Act → World → Prop} (hgd : o.guard = none) (ty : TypeId) (x y : Operand) (ho : o.op = .store ty x y)
    (c cells : Array Value) (t : TypeId) (hx : a.eval x = .pointer (some ⟨w0.heap.size, 0, none⟩)) (hy : a.eval y = .agg cells) (hi : (P.info? ty).map (·.size) = some cells.size) (hold : c.size = cells.size) (h1 : cells.all (·.oneCell') = true)
    (h : wpList P ops Q rest (a.put o.dst undef) (w0.alloc (.cells cells t))) : wpList P ops Q (o :: rest) a (w0.alloc (.cells c t)) := by
  refine wpList_store_row hgd ty x y ho w0.heap.size cells hx hy t c (heap_alloc_last w0 _) hi hold h1 ?_
  rw [World.setRow_alloc_new]
  exact h
theorem foldl_fill : ∀ (l : List Value) (i : Nat) (acc : Array Value), acc.size = i + l.length → (l.zipIdx i).foldl (fun (cs : Array Value) (x : Value × Nat) => cs.setIfInBounds (0 + x.2) x.1) acc = (acc.toList.take i ++ l).toArray
  | [], i, acc, h => by
    have : acc.toList.take i = acc.toList := List.take_of_length_le (by simp at h ⊢; omega)
    simp [this]
  | v :: l, i, acc, h => by
    rw [List.zipIdx_cons, List.foldl_cons, foldl_fill l (i + 1) _ (by simp at h ⊢; omega)]
    congr 1
    apply List.ext_getElem?
    intro k
    have hi : i < acc.size := by simp at h; omega
    simp only [Nat.zero_add, Array.toList_setIfInBounds, List.getElem?_append, List.length_take, List.length_set, Array.length_toList]
    by_cases hk : k < i
    · simp [hk, show k < i + 1 by omega, show min (i + 1) acc.size = i + 1 by omega, show min i acc.size = i by omega, show i ≠ k by omega]
    · by_cases hk2 : k = i
      · subst hk2
        simp [show min (k + 1) acc.size = k + 1 by omega, show min k acc.size = k by omega]
      · simp [hk, show ¬ k < i + 1 by omega, show min (i + 1) acc.size = i + 1 by omega, show min i acc.size = i by omega, show k - i = (k - (i + 1)) + 1 by omega]
/-- One part that fills the whole. -/
theorem fill_whole (place : Nat → Option (Nat × Nat)) (z cs : Array Value) (hp : place 0 = some (0, cs.size)) (hz : z.size = cs.size) : Instr.fill place z [(0, .agg cs)] = some cs := by
  have hc : (Value.agg cs).cells = cs := rfl
  simp only [Instr.fill, hp, hc]
  have e := foldl_fill cs.toList 0 z (by simp [hz])
  simp only [List.take_zero, List.nil_append, Array.toArray_toList] at e
  rw [if_neg (by simp; omega)]
  rw [← Array.foldl_toList, Array.toList_zipIdx]
  exact congrArg some e
/-- A whole built of one part. -/
theorem wpList_buildOne {ops : Array Oper} {rest : List Oper} {o : Oper} {a : Act} {w : World} {Q : Exit → Act → World → Prop} (hg : o.guard = none) (t : TypeId) (i : Nat) (x : Operand) (ho : o.op = .build t #[(i, x)])
    (src cells : Array Value) (hx : a.eval x = .agg src) (hf : P.built t [(i, .agg src)] = some cells)
    (h : wpList P ops Q rest (a.put o.dst (.agg cells)) w) : wpList P ops Q (o :: rest) a w :=
  wpList_buildTo hg t _ ho _ rfl cells (by simpa [hx] using hf) h
/-- Two aggregates compared. -/
theorem wpList_cmp {ops : Array Oper} {rest : List Oper} {o : Oper} {a : Act} {w : World} {Q : Exit → Act → World → Prop} (hg : o.guard = none) (op : BinOp) (t t2 : TypeId) (x y : Operand) (ho : o.op = .binOp op t x y t2)
    (xs ys : Array Value) (hx : a.eval x = .agg xs) (hy : a.eval y = .agg ys) (hm : P.eqGuardType P.depth t = false) (r : Value) (hr : (binOp op t (.agg xs) (.agg ys)).run P w = .ok r w)
    (h : wpList P ops Q rest (a.put o.dst r) w) : wpList P ops Q (o :: rest) a w :=
  wpList_plain hg fun _ hK => by
    unfold Oper.wp execOp
    simp only [ho, hx, hy, Sem.run_bind, run_eqGuard_agg w op t x y xs ys hm, hr, Result.andThen_ok, Sem.run_pure]
    exact hK _ _ h
/-- The same of an operation whose guard says yes. -/
theorem wpList_cmpW {ops : Array Oper} {rest : List Oper} {o : Oper} {a : Act} {w : World} {Q : Exit → Act → World → Prop} (hw : Region.wanted o (yielded ops a.tmps) = true) (op : BinOp) (t t2 : TypeId) (x y : Operand) (ho : o.op = .binOp op t x y t2)
    (xs ys : Array Value) (hx : a.eval x = .agg xs) (hy : a.eval y = .agg ys) (hm : P.eqGuardType P.depth t = false) (r : Value) (hr : (binOp op t (.agg xs) (.agg ys)).run P w = .ok r w)
    (h : wpList P ops Q rest (a.put o.dst r) w) : wpList P ops Q (o :: rest) a w :=
  wpList_step fun _ hK => by
    rw [if_pos hw]
    unfold Oper.wp execOp
    simp only [ho, hx, hy, Sem.run_bind, run_eqGuard_agg w op t x y xs ys hm, hr, Result.andThen_ok, Sem.run_pure]
    exact hK _ _ h
/-- A struct of one field, an array of integers, compared. -/
theorem run_eql_one (t u e : TypeId) (n : Nat) (k : IntKind) (f : Field) (hf : (P.fieldsOf t).toList = [f]) (ht : P.underlying t = some (.struct (P.fieldsOf t))) (hp : P.stoodInHeld t = false) (hn : (f.name != "_") = true) (ho : f.offset = 0) (hu : f.type = u)
    (hu2 : P.underlying u = some (.array n e)) (he : P.underlying e = some (.int k)) (hsz : ∀ w, (sizeOf e).run P w = .ok 1 w) (hsu : ∀ w, (sizeOf u).run P w = .ok n w)
    (xs ys : List Int) (hx : xs.length = n) (hy : ys.length = n) : (binOp .eql t (.agg (aV k xs)) (.agg (aV k ys))).run P w = .ok (.bool (xs == ys)) w := by
  rw [run_eql_struct, run_equalIn_agg w 9999 t _ _ ht hp, hf]
  have p1 : ∀ zs : List Int, zs.length = n → (part u (aV k zs) 0).run P w = .ok (.agg (aV k zs)) w := fun zs hz => by
    have e1 : (aV k zs).extract 0 n = aV k zs := by rw [← hz, ← aV_size k zs]; exact Array.extract_size
    simp [part, isAgg, run_underlying hu2, hsu, e1]
  have hn' : f.name ≠ "_" := by simpa using hn
  have q := run_equalIn_ints w 9997 u e n k hu2 he hsz xs ys hx hy
  have q' : (Op.equalIn 9999 u (.agg (aV k xs)) (.agg (aV k ys))).run P w = .ok (xs == ys) w := q
  simp only [Op.eqFields, if_pos hn', Sem.run_bind, ho, hu, p1 xs hx, p1 ys hy, Result.andThen_ok, q']
  cases hb : (xs == ys) <;> simp
end
/-- A block that holds the cells of an aggregate. -/
def CsAt (w : World) (b : Nat) (t : TypeId) (cs : Array Value) : Prop := w.heap[b]? = some (.cells cs t (0, 0))
theorem CsAt.lt {w : World} {b : Nat} {t : TypeId} {cs : Array Value} (h : CsAt w b t cs) : b < w.heap.size := (Array.getElem?_eq_some_iff.1 h).1
theorem CsAt.on {w w' : World} {B b : Nat} {t : TypeId} {cs : Array Value} (h : CsAt w b t cs) (hb : Below B w w') (hB : b < B) : CsAt w' b t cs := (hb.block b hB).trans h
theorem CsAt.low {w w' : World} {b : Nat} {t : TypeId} {cs : Array Value} (h : CsAt w b t cs) (hb : Below w.heap.size w w') : CsAt w' b t cs := h.on hb h.lt
theorem CsAt.alloc {w : World} {b : Nat} {t : TypeId} {cs : Array Value} (h : CsAt w b t cs) (o : Obj) : CsAt (w.alloc o) b t cs := (Below.heap_alloc w o b h.lt).trans h
theorem CsAt.new (w : World) (t : TypeId) (cs : Array Value) : CsAt (w.alloc (.cells cs t)) w.heap.size t cs := by show (w.heap.push _)[w.heap.size]? = _; simp
theorem CsAt.cell {w : World} {b : Nat} {t : TypeId} {cs : Array Value} (h : CsAt w b t cs) (i : Nat) : w.cell? ⟨b, i, none⟩ = cs[i]? := cell_of_row w b i _ t _ h
theorem CsAt.frozen {w : World} {b : Nat} {t : TypeId} {cs : Array Value} (h : CsAt w b t cs) (i : Nat) : w.frozen? ⟨b, i, none⟩ = false := frozen_of_row w b i _ t h
theorem CsAt.row {w : World} {b : Nat} {t : TypeId} {cs : Array Value} (h : CsAt w b t cs) (ds : Array Value) : CsAt (w.setRow b ds) b t ds := setRow_heap w b _ _ t _ h
theorem CsAt.rowFar {w : World} {b : Nat} {t : TypeId} {cs : Array Value} (h : CsAt w b t cs) {c : Nat} (hne : b ≠ c) (ds : Array Value) : CsAt (w.setRow c ds) b t cs := (setRow_other w c b ds hne).trans h
end Go.Proofs.YtfjdalepaacmgaaGreat
namespace Go.Proofs.YtfjdalepaacmgaaGreat.Wd
open Go.RowKit (wrap64)

def tb (x : Int) (i : Nat) : Bool := x.toNat.testBit i

def sumTo (f : Nat → Bool) : Nat → Nat
  | 0 => 0
  | n + 1 => 2 ^ n * (f n).toNat + sumTo f n

theorem sumTo_lt (f : Nat → Bool) (n : Nat) : sumTo f n < 2 ^ n := by
  induction n with
  | zero => simp [sumTo]
  | succ n ih =>
    unfold sumTo
    have h : 2 ^ (n + 1) = 2 ^ n + 2 ^ n := by rw [Nat.pow_succ]; omega
    cases f n <;> simp <;> omega

theorem testBit_sumTo (f : Nat → Bool) (n i : Nat) : (sumTo f n).testBit i = (decide (i < n) && f i) := by
  induction n with
  | zero => simp [sumTo]
  | succ n ih =>
    unfold sumTo
    rw [Nat.testBit_two_pow_mul_add _ (sumTo_lt f n), ih]
    by_cases h : i < n
    · have h' : i < n + 1 := by omega
      simp [h, h']
    · by_cases h2 : i = n
      · subst h2
        cases f i <;> simp
      · have h3 : ¬ i < n + 1 := by omega
        have h4 : ∃ j, i - n = j + 1 := ⟨i - n - 1, by omega⟩
        obtain ⟨j, hj⟩ := h4
        rw [hj]
        cases f n <;> simp [h, h3, Nat.testBit_succ]

def word (f : Nat → Bool) : Int := (sumTo f 64 : Nat)
theorem word_nonneg (f : Nat → Bool) : 0 ≤ word f := by unfold word; omega
theorem word_lt (f : Nat → Bool) : word f < 18446744073709551616 := by
  have := sumTo_lt f 64
  unfold word
  omega
theorem tb_word (f : Nat → Bool) (i : Nat) : tb (word f) i = (decide (i < 64) && f i) := by
  unfold tb word
  rw [Int.toNat_natCast, testBit_sumTo]
theorem tb_big {x : Int} (h : x < 18446744073709551616) {i : Nat} (hi : 64 ≤ i) : tb x i = false := by
  unfold tb
  apply Nat.testBit_lt_two_pow
  have h2 : 2 ^ 64 ≤ 2 ^ i := Nat.pow_le_pow_right (by decide) hi
  omega
theorem ext {x y : Int} (hx0 : 0 ≤ x) (hx : x < 18446744073709551616) (hy0 : 0 ≤ y) (hy : y < 18446744073709551616) (h : ∀ i, i < 64 → tb x i = tb y i) : x = y := by
  have : x.toNat = y.toNat := by
    apply Nat.eq_of_testBit_eq
    intro i
    by_cases hi : i < 64
    · exact h i hi
    · have a := tb_big hx (i := i) (by omega)
      have b := tb_big hy (i := i) (by omega)
      unfold tb at a b
      rw [a, b]
  omega
theorem eq_word {x : Int} {f : Nat → Bool} (hx0 : 0 ≤ x) (hx : x < 18446744073709551616) (h : ∀ i, i < 64 → tb x i = f i) : x = word f :=
  ext hx0 hx (word_nonneg f) (word_lt f) (fun i hi => by rw [tb_word, h i hi]; simp [hi])
theorem word_congr {f g : Nat → Bool} (h : ∀ i, i < 64 → f i = g i) : word f = word g :=
  ext (word_nonneg f) (word_lt f) (word_nonneg g) (word_lt g) (fun i hi => by rw [tb_word, tb_word, h i hi])

/-! ### bits of what is reckoned -/
theorem tb_zero (i : Nat) : tb 0 i = false := by simp [tb]
theorem tb_ones {i : Nat} (hi : i < 64) : tb 18446744073709551615 i = true := by
  have : (18446744073709551615 : Int).toNat = 2 ^ 64 - 1 := by decide
  unfold tb
  rw [this, Nat.testBit_two_pow_sub_one]
  simp [hi]
theorem toNat_pow (k : Nat) : ((2 : Int) ^ k).toNat = 2 ^ k := toNat_two_pow k
theorem pow_cast (k : Nat) : ((2 : Int) ^ k) = ((2 ^ k : Nat) : Int) := by simp
theorem tb_div {x : Int} (h0 : 0 ≤ x) (k i : Nat) : tb (x / 2 ^ k) i = tb x (i + k) := by
  obtain ⟨X, rfl⟩ := Int.eq_ofNat_of_zero_le h0
  unfold tb
  rw [pow_cast, ← Int.natCast_ediv, Int.toNat_natCast, Int.toNat_natCast, Nat.testBit_div_two_pow]
theorem div_range {x : Int} (h0 : 0 ≤ x) (h : x < 18446744073709551616) (k : Nat) : 0 ≤ x / 2 ^ k ∧ x / 2 ^ k < 18446744073709551616 := by
  have hp : (0 : Int) < 2 ^ k := Int.pow_pos (by decide)
  exact ⟨Int.ediv_nonneg h0 (by omega), Int.lt_of_le_of_lt (Int.ediv_le_self _ h0) h⟩
theorem wrap_range (x : Int) : 0 ≤ IntKind.u64.wrap x ∧ IntKind.u64.wrap x < 18446744073709551616 := by
  rw [IntKind.wrap_u64]; omega
theorem tb_wrap {x : Int} (h0 : 0 ≤ x) (i : Nat) : tb (IntKind.u64.wrap x) i = (decide (i < 64) && tb x i) := by
  obtain ⟨X, rfl⟩ := Int.eq_ofNat_of_zero_le h0
  rw [IntKind.wrap_u64]
  unfold tb
  have : ((X : Int) % 18446744073709551616).toNat = X % 2 ^ 64 := by omega
  rw [this, Int.toNat_natCast, Nat.testBit_mod_two_pow]
theorem tb_mul {x : Int} (h0 : 0 ≤ x) (k i : Nat) : tb (x * 2 ^ k) i = (decide (k ≤ i) && tb x (i - k)) := by
  obtain ⟨X, rfl⟩ := Int.eq_ofNat_of_zero_le h0
  unfold tb
  rw [pow_cast, ← Int.natCast_mul, Int.toNat_natCast, Int.toNat_natCast, Nat.testBit_mul_two_pow]
theorem mul_nonneg' {x : Int} (h0 : 0 ≤ x) (k : Nat) : 0 ≤ x * 2 ^ k := Int.mul_nonneg h0 (Int.le_of_lt (Int.pow_pos (by decide)))
theorem tb_pow_sub_one (k i : Nat) : tb (2 ^ k - 1) i = decide (i < k) := by
  unfold tb
  have hp : 0 < 2 ^ k := Nat.two_pow_pos k
  have : ((2 : Int) ^ k - 1).toNat = 2 ^ k - 1 := by rw [pow_cast]; omega
  rw [this, Nat.testBit_two_pow_sub_one]
theorem tb_and {x y : Int} (hx0 : 0 ≤ x) (hx : x < 18446744073709551616) (hy0 : 0 ≤ y) (hy : y < 18446744073709551616) (i : Nat) : tb (bits .and .u64 x y) i = (tb x i && tb y i) := by
  rw [u64_and x y hx0 hx hy0 hy]; unfold tb; rw [Int.toNat_natCast, Nat.testBit_and]
theorem tb_or {x y : Int} (hx0 : 0 ≤ x) (hx : x < 18446744073709551616) (hy0 : 0 ≤ y) (hy : y < 18446744073709551616) (i : Nat) : tb (bits .or .u64 x y) i = (tb x i || tb y i) := by
  rw [u64_or x y hx0 hx hy0 hy]; unfold tb; rw [Int.toNat_natCast, Nat.testBit_or]
theorem and_range {x y : Int} (hx0 : 0 ≤ x) (hx : x < 18446744073709551616) (hy0 : 0 ≤ y) (hy : y < 18446744073709551616) : 0 ≤ bits .and .u64 x y ∧ bits .and .u64 x y < 18446744073709551616 := by
  rw [u64_and x y hx0 hx hy0 hy]
  have : x.toNat &&& y.toNat < 2 ^ 64 := Nat.and_lt_two_pow _ (by omega)
  omega
theorem or_range {x y : Int} (hx0 : 0 ≤ x) (hx : x < 18446744073709551616) (hy0 : 0 ≤ y) (hy : y < 18446744073709551616) : 0 ≤ bits .or .u64 x y ∧ bits .or .u64 x y < 18446744073709551616 := by
  rw [u64_or x y hx0 hx hy0 hy]
  have : x.toNat ||| y.toNat < 2 ^ 64 := Nat.or_lt_two_pow (by omega) (by omega)
  omega
theorem tb_not {x : Int} (hx0 : 0 ≤ x) (hx : x < 18446744073709551616) (i : Nat) : tb (18446744073709551615 - x) i = (decide (i < 64) && !tb x i) := by
  unfold tb
  have : (18446744073709551615 - x).toNat = 2 ^ 64 - (x.toNat + 1) := by omega
  rw [this, Nat.testBit_two_pow_sub_succ (by omega)]
theorem tb_andNot {x y : Int} (hx0 : 0 ≤ x) (hx : x < 18446744073709551616) (hy0 : 0 ≤ y) (hy : y < 18446744073709551616) (i : Nat) : tb (bits .andNot .u64 x y) i = (tb x i && !tb y i) := by
  rw [u64_andNot x y hx0 hx hy0 hy]
  unfold tb
  rw [Int.toNat_natCast, Nat.testBit_and]
  have : 18446744073709551615 - y.toNat = 2 ^ 64 - (y.toNat + 1) := by omega
  rw [this, Nat.testBit_two_pow_sub_succ (by omega)]
  by_cases hi : i < 64
  · simp [hi]
  · have := tb_big hx (i := i) (by omega)
    unfold tb at this
    simp [this]
theorem andNot_range {x y : Int} (hx0 : 0 ≤ x) (hx : x < 18446744073709551616) (hy0 : 0 ≤ y) (hy : y < 18446744073709551616) : 0 ≤ bits .andNot .u64 x y ∧ bits .andNot .u64 x y < 18446744073709551616 := by
  rw [u64_andNot x y hx0 hx hy0 hy]
  have : x.toNat &&& (18446744073709551615 - y.toNat) < 2 ^ 64 := Nat.and_lt_two_pow _ (by omega)
  omega

/-! ### the bit 63, and what is shifted down with the sign -/
theorem tb_63 {x : Int} (h0 : 0 ≤ x) (h : x < 18446744073709551616) : tb x 63 = decide (9223372036854775808 ≤ x) := by
  unfold tb
  rw [Nat.testBit_eq_decide_div_mod_eq]
  obtain ⟨X, rfl⟩ := Int.eq_ofNat_of_zero_le h0
  rw [Int.toNat_natCast]
  by_cases c : (9223372036854775808 : Int) ≤ X
  · rw [decide_eq_true c, decide_eq_true]; omega
  · rw [decide_eq_false c, decide_eq_false]; omega
theorem wrap64_small {x : Int} (h0 : 0 ≤ x) (h : x < 9223372036854775808) : wrap64 x = x := by unfold wrap64; omega
theorem wrap64_great {x : Int} (h0 : 9223372036854775808 ≤ x) (h : x < 18446744073709551616) : wrap64 x = x - 18446744073709551616 := by unfold wrap64; omega
theorem tb_sra {x : Int} (h0 : 0 ≤ x) (h : x < 18446744073709551616) (k i : Nat) (hi : i < 64) : tb (IntKind.u64.wrap (wrap64 x / 2 ^ k)) i = if i + k < 64 then tb x (i + k) else tb x 63 := by
  have h63 := tb_63 h0 h
  by_cases c : 9223372036854775808 ≤ x
  · rw [wrap64_great c h]
    rw [decide_eq_true c] at h63
    have hq : (x - 18446744073709551616) / 2 ^ k = -((18446744073709551615 - x) / 2 ^ k) - 1 := by
      have hp : (0 : Int) < 2 ^ k := Int.pow_pos (by decide)
      have e : x - 18446744073709551616 = -(18446744073709551615 - x) - 1 := by omega
      rw [e]
      generalize 18446744073709551615 - x = y
      have h1 := Int.emod_nonneg y (Int.ne_of_gt hp)
      have h2 := Int.emod_lt_of_pos y hp
      have h3 := Int.mul_ediv_add_emod y (2 ^ k)
      apply (Int.ediv_eq_iff_of_pos hp).2
      generalize y / 2 ^ k = q at h3 ⊢
      generalize y % 2 ^ k = r at *
      generalize (2 : Int) ^ k = p at *
      have e2 : (-q - 1) * p = -(p * q) - p := by rw [Int.sub_mul, Int.neg_mul, Int.one_mul, Int.mul_comm]
      constructor
      · rw [e2]; omega
      · rw [e2]; omega
    rw [hq]
    have hy0 : 0 ≤ 18446744073709551615 - x := by omega
    have hd := div_range hy0 (by omega) k
    have e : IntKind.u64.wrap (-((18446744073709551615 - x) / 2 ^ k) - 1) = 18446744073709551615 - (18446744073709551615 - x) / 2 ^ k := by
      rw [IntKind.wrap_u64]
      generalize (18446744073709551615 - x) / 2 ^ k = q at *
      omega
    rw [e, tb_not hd.1 hd.2, tb_div hy0, tb_not h0 h, h63]
    by_cases c2 : i + k < 64
    · simp [hi, c2]
    · simp [hi, c2]
  · rw [wrap64_small h0 (by omega)]
    have hd := div_range h0 h k
    rw [tb_wrap hd.1, tb_div h0]
    rw [decide_eq_false c] at h63
    by_cases c2 : i + k < 64
    · simp [hi, c2]
    · rw [if_neg c2, tb_big h (by omega), h63]; simp
end Go.Proofs.YtfjdalepaacmgaaGreat.Wd
namespace Go.Proofs.YtfjdalepaacmgaaGreat.Ct
open Go.RowKit (wrap64)

/-- What stands at an offset: 1 msip, 2 mtimecmp, 3 mtime (0: nothing), of which hart, and the bits: 0 all, 1 the lower ones, 2 the upper ones. -/
def at_ (n : Nat) (off size : Int) : Nat × Nat × Nat :=
  if size = 4 ∧ off % 4 = 0 ∧ off / 4 < n then (1, (off / 4).toNat, 0)
  else if size = 8 ∧ off % 8 = 0 ∧ 16384 ≤ off ∧ (off - 16384) / 8 < n then (2, ((off - 16384) / 8).toNat, 0)
  else if size = 4 ∧ off % 8 = 0 ∧ 16384 ≤ off ∧ (off - 16384) / 8 < n then (2, ((off - 16384) / 8).toNat, 1)
  else if size = 4 ∧ off % 8 = 4 ∧ 16384 ≤ off ∧ (off - 16384) / 8 < n then (2, ((off - 16384) / 8).toNat, 2)
  else if size = 8 ∧ off = 49144 ∧ 0 < n then (3, 0, 0)
  else if size = 4 ∧ off = 49144 ∧ 0 < n then (3, 0, 1)
  else if size = 4 ∧ off = 49148 ∧ 0 < n then (3, 0, 2)
  else (0, 0, 0)
/-- Which word is a register's: 0 the time, from 1 on what each hart waits for, from 9 on the flags. -/
def idx (what h : Nat) : Nat := if what = 1 then 9 + h else if what = 2 then 1 + h else 0
def part (w : Int) (bits : Nat) : Int := if bits = 1 then w % 4294967296 else if bits = 2 then w / 4294967296 else w
def with_ (w : Int) (bits : Nat) (v : Int) : Int :=
  if bits = 1 then w - w % 4294967296 + v % 4294967296 else if bits = 2 then w % 4294967296 + v % 4294967296 * 4294967296 else v
/-- The words of a clint. -/
structure Ok (n : Nat) (ws : List Int) : Prop where
  n8 : n ≤ 8
  len : ws.length = 17
  rng : ∀ i, 0 ≤ ws.getD i 0 ∧ ws.getD i 0 ≤ 18446744073709551615
  bit : ∀ h, ws.getD (9 + h) 0 = 0 ∨ ws.getD (9 + h) 0 = 1
/-- The word that has the byte of an offset, of those with 8 bytes. -/
def wide (n : Nat) (off : Int) : Option Nat :=
  if off - off % 8 = 49144 ∧ 0 < n then some 0 else if 16384 ≤ off - off % 8 ∧ (off - off % 8 - 16384) / 8 < n then some (1 + ((off - off % 8 - 16384) / 8).toNat) else none
/-- Where a register is: its word, its first bit, its mask. -/
def loc (t : Nat × Nat × Nat) : Option (Nat × Int × Int) :=
  if t.1 = 0 then none else if t.1 = 1 then some (9 + t.2.1, 0, 1) else some (idx t.1 t.2.1, if t.2.2 = 2 then 32 else 0, if t.2.2 = 0 then 18446744073709551615 else 4294967295)
def readC (n : Nat) (ws : List Int) (off size : Int) : Int := if (at_ n off size).1 = 0 then 0 else part (ws.getD (idx (at_ n off size).1 (at_ n off size).2.1) 0) (at_ n off size).2.2
def is (n : Nat) (off size : Int) : Bool := decide ((at_ n off size).1 ≠ 0)
def writeC (n : Nat) (ws : List Int) (off size v : Int) : List Int :=
  if (at_ n off size).1 = 0 then ws else if (at_ n off size).1 = 1 then ws.set (9 + (at_ n off size).2.1) (v % 2)
  else ws.set (idx (at_ n off size).1 (at_ n off size).2.1) (with_ (ws.getD (idx (at_ n off size).1 (at_ n off size).2.1) 0) (at_ n off size).2.2 v)
def tickC (n : Nat) (ws : List Int) (t : Int) : List Int := if 0 < t ∧ 0 < n then ws.set 0 ((ws.getD 0 0 + t) % 18446744073709551616) else ws
def lineC (n : Nat) (ws : List Int) (h : Int) : Int :=
  if 0 ≤ h ∧ h < n then (if ws.getD (9 + h.toNat) 0 = 1 then 8 else 0) + (if ws.getD (1 + h.toNat) 0 ≤ ws.getD 0 0 then 128 else 0) else 0

theorem at_size {n : Nat} {off size : Int} (h4 : size ≠ 4) (h8 : size ≠ 8) : at_ n off size = (0, 0, 0) := by
  unfold at_
  simp [h4, h8]
theorem at_odd8 {n : Nat} {off : Int} (h : off % 8 ≠ 0) : at_ n off 8 = (0, 0, 0) := by
  unfold at_
  repeat (first | rw [if_neg (by omega)])
theorem at_odd4 {n : Nat} {off : Int} (h : off % 4 ≠ 0) : at_ n off 4 = (0, 0, 0) := by
  unfold at_
  repeat (first | rw [if_neg (by omega)])
theorem at_soft {n : Nat} {off : Int} (h : off % 4 = 0) (hn : off / 4 < n) : at_ n off 4 = (1, (off / 4).toNat, 0) := by
  unfold at_
  rw [if_pos ⟨rfl, h, hn⟩]
theorem at_no8 {n : Nat} {off : Int} (hn : n ≤ 8) (h : off % 8 = 0) (hw : wide n off = none) : at_ n off 8 = (0, 0, 0) := by
  unfold wide at hw
  unfold at_
  split at hw
  · cases hw
  · split at hw
    · cases hw
    · repeat (first | rw [if_neg (by omega)])
theorem at_yes8 {n : Nat} {off : Int} {i : Nat} (hn : n ≤ 8) (h : off % 8 = 0) (hw : wide n off = some i) : loc (at_ n off 8) = some (i, 0, 18446744073709551615) := by
  unfold wide at hw
  unfold at_
  split at hw
  · cases hw
    rw [if_neg (by omega), if_neg (by omega), if_neg (by omega), if_neg (by omega), if_pos (by omega)]
    rfl
  · split at hw
    · cases hw
      rw [if_neg (by omega), if_pos (by omega), show (off - off % 8 - 16384) = off - 16384 by omega]
      rfl
    · cases hw
theorem at_no4 {n : Nat} {off : Int} (hn : n ≤ 8) (h : off % 4 = 0) (hs : ¬ off / 4 < n) (hw : wide n off = none) : at_ n off 4 = (0, 0, 0) := by
  unfold wide at hw
  unfold at_
  split at hw
  · cases hw
  · split at hw
    · cases hw
    · repeat (first | rw [if_neg (by omega)])
theorem at_yes4 {n : Nat} {off : Int} {i : Nat} (hn : n ≤ 8) (h : off % 4 = 0) (hs : ¬ off / 4 < n) (hw : wide n off = some i) : loc (at_ n off 4) = some (i, off % 8 * 8, 4294967295) := by
  unfold wide at hw
  unfold at_
  have h4 : off % 8 = 0 ∨ off % 8 = 4 := by omega
  split at hw
  · cases hw
    rcases h4 with h4 | h4
    · rw [if_neg (by omega), if_neg (by omega), if_neg (by omega), if_neg (by omega), if_neg (by omega), if_pos (by omega), h4]
      rfl
    · rw [if_neg (by omega), if_neg (by omega), if_neg (by omega), if_neg (by omega), if_neg (by omega), if_neg (by omega), if_pos (by omega), h4]
      rfl
  · split at hw
    · cases hw
      rcases h4 with h4 | h4
      · rw [if_neg (by omega), if_neg (by omega), if_pos (by omega), h4, show (off - 0 - 16384) = off - 16384 by omega]
        rfl
      · rw [if_neg (by omega), if_neg (by omega), if_neg (by omega), if_pos (by omega), h4, show (off - 4 - 16384) / 8 = (off - 16384) / 8 by omega]
        rfl
    · cases hw
theorem wide_lt {n : Nat} {off : Int} {i : Nat} (hn : n ≤ 8) (hw : wide n off = some i) : i < 9 ∧ 0 < n := by
  unfold wide at hw
  split at hw
  · cases hw; omega
  · split at hw
    · cases hw; omega
    · cases hw
theorem at_lt {n : Nat} {off size : Int} (h0 : 0 ≤ off) : (at_ n off size).1 = 0 ∨ ((at_ n off size).2.1 < n ∧ (at_ n off size).1 < 4 ∧ (at_ n off size).2.2 < 3 ∧ ((at_ n off size).1 = 3 → (at_ n off size).2.1 = 0)) := by
  unfold at_
  repeat' split
  all_goals (dsimp only; omega)
theorem loc_none {t : Nat × Nat × Nat} : loc t = none ↔ t.1 = 0 := by
  unfold loc
  split
  · simp_all
  · split <;> simp_all
end Go.Proofs.YtfjdalepaacmgaaGreat.Ct
