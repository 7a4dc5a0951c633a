/-
  Contracts of package line (layer 9): Of, Lanes, Blend, Diff, Words. A memory of layer 10 in the program's memory: its map's keys and elements, what it holds, how it is looked up in, stored into and deleted from; what only changes one block. A memory of layer 10 as the program has it: its struct and its map; what its map holds of its bytes; looked up in, stored into, deleted from.
-/
import Derived.Test.YtjeolfcefeglpabGreatXag
import Derived.Test.YtjeolfcefeglpabGreatXab
import Derived.Laws.CopyOwn
import Derived.Deep.DeepCutAuto
import Derived.Deep.QuietTactic
import Derived.BigQuiet
import Derived.Test.YtjeolfcefeglpabGreatXad
import Derived.Maps.OwnSet
import Derived.DeepKeys4
set_option maxRecDepth 20000
namespace Go.Proofs.YtjeolfcefeglpabGreat
open Go.ChangeShapes Go.WideShapes Go.ChangeAt Go.RowKit Wd

/-- A slice of bytes that reads as a list. -/
structure SlAt (w : World) (p : Option Addr) (bs : List Int) : Prop where
  rng : ∀ x ∈ bs, 0 ≤ x ∧ x ≤ 255
  at_ : bs = [] ∨ ∃ b off, p = some ⟨b, off, none⟩ ∧ b < w.heap.size ∧ ∀ j, j < bs.length → w.cell? ⟨b, off + j, none⟩ = some (.int .u8 (bs.getD j 0))
theorem SlAt.low {w w' : World} {p : Option Addr} {bs : List Int} (h : SlAt w p bs) (hb : Below w.heap.size w w') : SlAt w' p bs :=
  ⟨h.rng, h.at_.imp id fun ⟨b, off, hp, hlt, hc⟩ => ⟨b, off, hp, Nat.lt_of_lt_of_le hlt hb.size, fun j hj => (hb.cell (p := ⟨b, off + j, none⟩) hlt).trans (hc j hj)⟩⟩
theorem below_dnL {B : Nat} {a w : World} (h : Below B a w) (n : Nat) : Below B a (w.drewN n) := h.trans ⟨rfl, rfl, rfl, Nat.le_refl _, fun _ _ => rfl⟩
/-- The cells of the bytes that are copied. -/
def cpL (bs : List Int) : List Value := (bs.take 64).map (Value.int .u8)
theorem cpL_len' (bs : List Int) : (cpL bs).length = min bs.length 64 := by simp [cpL]; omega
theorem cpL_len (bs : List Int) : (cpL bs).length = Nat.min bs.length 64 := cpL_len' bs
theorem cpL_at (bs : List Int) (j : Nat) (v : Value) (h : (cpL bs)[j]? = some v) : j < bs.length ∧ v = .int .u8 (bs.getD j 0) := by
  have hl : j < (cpL bs).length := (List.getElem?_eq_some_iff.1 h).1
  rw [cpL_len'] at hl
  have h1 : j < bs.length := by omega
  have h2 : j < 64 := by omega
  refine ⟨h1, ?_⟩
  simp only [cpL, List.getElem?_map, List.getElem?_take, if_pos h2, List.getElem?_eq_getElem h1, Option.map_some, Option.some.injEq] at h
  rw [← h, List.getD, List.getElem?_eq_getElem h1]
  rfl
theorem cpL_one (bs : List Int) : ∀ v ∈ cpL bs, v.oneCell' = true := by
  intro v hv
  simp only [cpL, List.mem_map] at hv
  obtain ⟨a, -, rfl⟩ := hv
  rfl
theorem cpL_splice (bs : List Int) : (splice ((List.replicate 64 (0 : Int)).map (Value.int .u8)) 0 (cpL bs)).toArray = aV .u8 (Ln.ofB bs) := by
  have hd : ((List.replicate 64 (0 : Int)).map (Value.int .u8)).drop (0 + (cpL bs).length) = (List.replicate (64 - bs.length) (0 : Int)).map (Value.int .u8) := by
    rw [← List.map_drop, List.drop_replicate, cpL_len']
    congr 2
    omega
  rw [splice, hd, List.take_zero, List.nil_append]
  simp [aV, Ln.ofB, cpL]
theorem zeros_cells : (aV .u8 (List.replicate 64 0)) = ((List.replicate 64 (0 : Int)).map (Value.int .u8)).toArray := rfl
theorem cpL_own (bs : List Int) : ((aV .u8 (List.replicate 64 0)).toList.take 0 ++ (cpL bs ++ (aV .u8 (List.replicate 64 0)).toList.drop (0 + (cpL bs).length))).toArray = aV .u8 (Ln.ofB bs) := cpL_splice bs
/-- Bytes are copied into a line of noughts. -/
theorem wpList_copy_line {P : Program} {w : World} {ops : Array Oper} {rest : List Oper} {o : Oper} {a : Act} {Q : Exit → Act → World → Prop} (hgd : o.guard = none) (d s : Operand) (dT sT : TypeId)
    (ho : o.op = .call { callee := .builtin .copy, args := #[d, s], argTypes := #[dT, sT] }) (elem : TypeId) (hu : P.underlying dT = some (.slice elem)) (hsz : (P.info? elem).map (·.size) = some 1)
    (g sCap : Nat) (p : Option Addr) (bs : List Int) (hd : a.eval d = .slice (some ⟨g, 0, none⟩) 64 64) (hs : a.eval s = .slice p bs.length sCap)
    (t : TypeId) (hg : RowAt .u8 w g t (List.replicate 64 0)) (hb : SlAt w p bs)
    (h : wpList P ops Q rest (a.put o.dst (goInt (cpL bs).length)) (w.setRow g (aV .u8 (Ln.ofB bs)))) : wpList P ops Q (o :: rest) a w := by
  rcases hb.at_ with rfl | ⟨b, off, rfl, -, hc⟩
  · refine wpList_copy_nothing hgd d s dT sT ho elem hu hsz _ _ 64 64 _ sCap hd hs (by rfl) ?_
    have e : w.setRow g (aV .u8 (Ln.ofB [])) = w := hg.self
    rw [e] at h
    exact h
  · refine wpList_copy_own hgd d s dT sT ho elem hu hsz g 0 64 64 _ _ sCap hd hs _ t hg (cpL bs) (cpL_len bs) (fun j v hv => ?_) (by rw [cpL_len', aV_size]; simp; omega) (cpL_one bs) ?_
    · obtain ⟨hj, rfl⟩ := cpL_at bs j v hv
      have := hc j hj
      rcases Nat.eq_zero_or_pos j with rfl | hj0
      · simpa [Addr.add] using this
      · have h0 : ¬ j = 0 := by omega
        simpa [Addr.add, h0] using this
    · rw [cpL_own]; exact h
theorem cut_one (x : Int) (k : Nat) (hk : k < 64) : cutS x (k : Int) 1 = bi (tb x k) := by
  unfold cutS
  symm
  have hb := bi_range (tb x k)
  refine eq_word hb.1 (by omega) fun i hi => ?_
  rcases Nat.eq_zero_or_pos i with rfl | h
  · have e : (((k : Int) + ((0 : Nat) : Int)).toNat) = k := by omega
    have g : (((0 : Nat) : Int) < 1 ∧ 0 ≤ (k : Int) + ((0 : Nat) : Int)) := by omega
    rw [e, decide_eq_true g, Bool.true_and]
    cases tb x k <;> decide
  · have g : ¬ (((i : Nat) : Int) < 1 ∧ 0 ≤ (k : Int) + ((i : Nat) : Int)) := by omega
    rw [decide_eq_false g, Bool.false_and]
    show (bi (tb x k)).toNat.testBit i = false
    apply Nat.testBit_lt_two_pow
    have h2 : 2 ^ 1 ≤ 2 ^ i := Nat.pow_le_pow_right (by decide) h
    omega
theorem cut_yes (x : Int) (k : Nat) (hk : k < 64) : (cutS x (k : Int) 1 == 1) = tb x k := by
  rw [cut_one x k hk]
  cases tb x k <;> rfl
theorem sum_ones (f : Nat → Bool) (k : Nat) (hk : k < 64) : bits .or .u64 ((sumTo f k : Nat) : Int) (onesS (k : Int) 1) = ((2 ^ k + sumTo f k : Nat) : Int) := by
  have hs := sumTo_lt f k
  have h2 : 2 ^ k ≤ 2 ^ 63 := Nat.pow_le_pow_right (by decide) (by omega)
  have h3 : 2 ^ (k + 1) ≤ 2 ^ 64 := Nat.pow_le_pow_right (by decide) (by omega)
  have r := onesS_range (k : Int) 1
  have hor := or_range (x := ((sumTo f k : Nat) : Int)) (y := onesS (k : Int) 1) (by omega) (by omega) r.1 r.2
  refine Wd.ext hor.1 hor.2 (by omega) (by rw [Nat.pow_succ] at h3; omega) fun i hi => ?_
  rw [tb_or (by omega) (by omega) r.1 r.2]
  unfold onesS
  rw [tb_word]
  have hb : tb ((2 ^ k + sumTo f k : Nat) : Int) i = (decide (i = k) || tb ((sumTo f k : Nat) : Int) i) := by
    unfold tb
    rw [Int.toNat_natCast, Int.toNat_natCast]
    have e := Nat.testBit_two_pow_mul_add 1 hs i
    rw [Nat.mul_one] at e
    rw [e]
    by_cases c : i < k
    · have : ¬ i = k := by omega
      simp [c, this]
    · have c2 : (sumTo f k).testBit i = false := by
        apply Nat.testBit_lt_two_pow
        have : 2 ^ k ≤ 2 ^ i := Nat.pow_le_pow_right (by decide) (by omega)
        omega
      rw [if_neg c, c2]
      by_cases c3 : i = k
      · subst c3; simp
      · obtain ⟨d, hd⟩ : ∃ d, i - k = d + 1 := ⟨i - k - 1, by omega⟩
        rw [hd]
        simp [c3, Nat.testBit_succ]
  rw [hb, Bool.or_comm]
  congr 1
  rw [decide_eq_true hi, Bool.true_and]
  unfold inP
  exact decide_eq_decide.2 (by omega)
end Go.Proofs.YtjeolfcefeglpabGreat
set_option maxRecDepth 20000
namespace Go.Proofs.YtjeolfcefeglpabGreat
open Go.ChangeShapes Go.WideShapes Go.ChangeAt Go.RowKit Wd

/-! ### one block changes -/
structure Only (b : Nat) (w w' : World) : Prop where
  os : w'.os = w.os
  tape : w'.tape = w.tape
  output : w'.output = w.output
  size : w.heap.size ≤ w'.heap.size
  block : ∀ k, k < w.heap.size → k ≠ b → w'.heap[k]? = w.heap[k]?
theorem Only.refl (b : Nat) (w : World) : Only b w w := ⟨rfl, rfl, rfl, Nat.le_refl _, fun _ _ _ => rfl⟩
theorem Only.of_below {b : Nat} {w w' : World} (h : Below w.heap.size w w') : Only b w w' := ⟨h.os, h.tape, h.output, h.size, fun k hk _ => h.block k hk⟩
theorem Only.of_grown {b : Nat} {w w' : World} (h : w.grownBy w' (some b)) : Only b w w' := ⟨h.os, h.tape, h.output, h.size, fun k hk hne => h.block k hk (fun e => hne (by cases e; rfl))⟩
theorem Only.trans {b : Nat} {u v w : World} (h : Only b u v) (k : Only b v w) : Only b u w :=
  ⟨k.os.trans h.os, k.tape.trans h.tape, k.output.trans h.output, Nat.le_trans h.size k.size, fun j hj hne => (k.block j (Nat.lt_of_lt_of_le hj h.size) hne).trans (h.block j hj hne)⟩
theorem Only.below {b B : Nat} {w w' : World} (h : Only b w w') (hb : B ≤ b) (hB : B ≤ w.heap.size) : Below B w w' :=
  ⟨h.os, h.tape, h.output, h.size, fun k hk => h.block k (by omega) (by omega)⟩
theorem Only.cell {b : Nat} {w w' : World} (h : Only b w w') {p : Addr} (hp : p.block < w.heap.size) (hne : p.block ≠ b) : w'.cell? p = w.cell? p := World.cell?_of_block (w := w) (h.block p.block hp hne)
theorem RowAt.only {k : IntKind} {w w' : World} {b c : Nat} {t : TypeId} {ws : List Int} (h : RowAt k w b t ws) (ho : Only c w w') (hne : b ≠ c) : RowAt k w' b t ws := (ho.block b h.lt hne).trans h
theorem CsAt.only {w w' : World} {b c : Nat} {t : TypeId} {cs : Array Value} (h : CsAt w b t cs) (ho : Only c w w') (hne : b ≠ c) : CsAt w' b t cs := (ho.block b h.lt hne).trans h

/-! ### the map's keys -/
abbrev KT : TypeId := 134
theorem key_row : (KT : TypeId) < Tryz.prog.types.size := of_decide_eq_true (by kernel_rfl)
theorem key_wide : (match Tryz.prog.underlying KT with | some (.array _ _) | some (.struct _) => true | _ => false) = true := by rw [Tryz.underlying134]
theorem key_law : Maps.Keyed Tryz.prog KT := Maps.Keyed.of_law (deep_law_laid (by kernel_rfl) (m := 2) (by omega) key_row (by kernel_rfl) key_wide)
/-- The place of line i, and what it reads as. -/
def plV (i : Nat) : Value := .agg #[.int .i64 ((i / 64 : Nat) : Int), .int .i64 ((i % 64 : Nat) : Int)]
def plL (i : Nat) : Lit := .string (keyBytes [.int .i64 ((i / 64 : Nat) : Int), .int .i64 ((i % 64 : Nat) : Int)])
theorem key_ty : Tryz.prog.keyType KT = true := by kernel_rfl
theorem key_cells : Tryz.prog.cellsOf KT = 2 := by kernel_rfl
theorem wf_small {i : Nat} (h : i < 1000000) : (Lit.int .i64 (i : Int)).wf = true := by
  apply WalkArith.wf_i64
  omega
theorem keyLits_int {P : Program} {d : Nat} {t : TypeId} {q : IntKind} (ht : P.underlying t = some (.int q)) {a : Int} (hw : (Lit.int q a).wf = true) : P.keyLits (d + 1) t [.int q a] = some [.int q a] := by
  unfold Program.keyLits
  rw [ht]
  simp [hw]
theorem keyLits_pair {P : Program} {d : Nat} {t u : TypeId} {f g : Field} {q : IntKind} (ht : P.underlying t = some (.struct #[f, g])) (hc : P.cellsOf t = 2) (hf : f.type = u) (hg : g.type = u) (ho : f.offset = 0) (ho' : g.offset = 1)
    (hn : (#[f, g].all (·.name != "_")) = true) (hu : P.underlying u = some (.int q)) (hcu : P.cellsOf u = 1) {a b : Int} (ha : (Lit.int q a).wf = true) (hb : (Lit.int q b).wf = true) : P.keyLits (d + 2) t [.int q a, .int q b] = some [.int q a, .int q b] := by
  have e1 := keyLits_int (d := d) hu ha
  have e2 := keyLits_int (d := d) hu hb
  rw [Program.keyLits.eq_def]
  simp only [ht]
  rw [if_pos ⟨by simp [hc], hn⟩]
  simp [hf, hg, ho, ho', hcu, e1, e2]
theorem fuel_two {n k : Nat} (h : k < n) : ∃ d, n + 1 = d + 2 := ⟨n - 1, by omega⟩
theorem keyOf_pair {P : Program} {t u : TypeId} {f g : Field} {q : IntKind} (ht : P.underlying t = some (.struct #[f, g])) (hk : P.keyType t = true) (hrow : ∃ d, P.types.size + 1 = d + 2) (hc : P.cellsOf t = 2) (hf : f.type = u) (hg : g.type = u) (ho : f.offset = 0) (ho' : g.offset = 1)
    (hn : (#[f, g].all (·.name != "_")) = true) (hu : P.underlying u = some (.int q)) (hcu : P.cellsOf u = 1) {a b : Int} (ha : (Lit.int q a).wf = true) (hb : (Lit.int q b).wf = true) :
    keyOf P t (.agg #[.int q a, .int q b]) = some (.string (keyBytes [.int q a, .int q b])) := by
  obtain ⟨d, hd⟩ := hrow
  have hfm : (Value.agg #[.int q a, .int q b]).formed P t = true := by simp [Value.formed, ht, hc]
  have e := keyLits_pair (d := d) ht hc hf hg ho ho' hn hu hcu ha hb
  unfold keyOf
  rw [ht]
  simp only [hk, hfm, Bool.and_self, if_true, hd]
  show (P.keyLits (d + 2) t [.int q a, .int q b]).map _ = _
  rw [e]
  rfl
theorem key_of (i : Nat) (hi : i < 1000000) : keyOf Tryz.prog KT (plV i) = some (plL i) :=
  keyOf_pair Tryz.underlying134 key_ty (fuel_two key_row) key_cells rfl rfl rfl rfl (by decide +kernel) Tryz.underlying3 (by kernel_rfl) (wf_small (by omega)) (wf_small (by omega))
theorem plL_inj {i j : Nat} (hi : i < 1000000) (hj : j < 1000000) (h : plL i = plL j) : i = j := by
  have e := key_law.inj (key_of i hi) (h ▸ key_of j hj)
  simp only [plV, Value.agg.injEq] at e
  have e0 := congrArg (·[0]?) e
  have e1 := congrArg (·[1]?) e
  simp at e0 e1
  omega
theorem plL_key (i : Nat) (hi : i < 1000000) : WideAt.IsKeyLit (plL i) := key_law.key (key_of i hi)
end Go.Proofs.YtjeolfcefeglpabGreat
set_option maxRecDepth 20000
namespace Go.Proofs.YtjeolfcefeglpabGreat
open Go.ChangeShapes Go.WideShapes Go.ChangeAt Go.RowKit Wd

def dL (ws : List Int) : DataW Unit := .agg (ws.map fun x => .lit (.int .u8 x))
theorem map_inj {α β : Type} {f : α → β} (hf : ∀ a b, f a = f b → a = b) : ∀ xs ys : List α, xs.map f = ys.map f → xs = ys
  | [], [], _ => rfl
  | [], _ :: _, h => by simp at h
  | _ :: _, [], h => by simp at h
  | x :: xs, y :: ys, h => by
    simp only [List.map_cons, List.cons.injEq] at h
    rw [hf _ _ h.1, map_inj hf xs ys h.2]
theorem dL_inj {a b : List Int} (h : dL a = dL b) : a = b := by
  simp only [dL, DataW.agg.injEq] at h
  exact map_inj (fun x y hxy => by simpa using hxy) a b h
theorem aV_inj {a b : List Int} (h : aV .u8 a = aV .u8 b) : a = b := by
  have e : a.map (Value.int .u8) = b.map (Value.int .u8) := by
    have := congrArg Array.toList h
    simpa [aV] using this
  exact map_inj (fun x y hxy => by simpa using hxy) a b e
open Classical in
/-- How a line in the map reads. -/
noncomputable def lineElem (v : Value) : Option (DataW Unit × List MemPlace) := if h : ∃ ws : List Int, v = .agg (aV .u8 ws) then some (dL h.choose, []) else none
theorem lineElem_mk (ws : List Int) : lineElem (.agg (aV .u8 ws)) = some (dL ws, []) := by
  have h : ∃ xs : List Int, (Value.agg (aV .u8 ws)) = .agg (aV .u8 xs) := ⟨ws, rfl⟩
  have e : ws = h.choose := aV_inj (Value.agg.inj h.choose_spec)
  unfold lineElem
  rw [dif_pos h, ← e]
theorem lineElem_inv {v : Value} {ws : List Int} {ps : List MemPlace} (h : lineElem v = some (dL ws, ps)) : v = .agg (aV .u8 ws) := by
  unfold lineElem at h
  split at h
  · rename_i hx
    simp only [Option.some.injEq, Prod.mk.injEq] at h
    rw [hx.choose_spec, dL_inj h.1]
  · cases h
theorem zero_line (w : World) : (zeroValue 73).run Tryz.prog w = .ok (.agg (aV .u8 Ln.zeros)) w := by kernel_rfl

/-- What the map holds of a memory's bytes. -/
structure Fits (D : DataW Unit) (n : Nat) (B : List Int) : Prop where
  at_ : ∀ i, i < n → D.atKey (plL i) (dL Ln.zeros) = dL (Rm.row B i)
  has : ∀ i, i < n → Maps.has D (plL i) = Rm.full B i
  size : Maps.size D = Rm.cnt B n
theorem Fits.put {D : DataW Unit} {n : Nat} {B : List Int} (h : Fits D n B) (hB : Rm.Ok B n) (ht : Maps.Tidy D) (hn : n ≤ 4096) (i : Nat) (hi : i < n) {l : List Int} (hl : Ln.Is l) (hz : l ≠ Ln.zeros) : Fits (D.put (plL i) (dL l)) n (Rm.setRow B i l) := by
  have hne : ∀ j, j < n → j ≠ i → plL j ≠ plL i := fun j hj hji e => hji (plL_inj (by omega) (by omega) e)
  have hf : Rm.full (Rm.setRow B i l) i = true := by unfold Rm.full; rw [Rm.row_set hB i hi hl]; simpa using hz
  refine ⟨fun j hj => ?_, fun j hj => ?_, ?_⟩
  · by_cases e : j = i
    · subst e; rw [Maps.atKey_put_same ht.isMap (plL_key _ (by omega)), Rm.row_set hB j hi hl]
    · rw [Maps.atKey_put_other (hne j hj e), h.at_ j hj, Rm.row_other hB i j hj e]
  · by_cases e : j = i
    · subst e; rw [Maps.has_put_same ht.isMap (plL_key _ (by omega)), hf]
    · rw [Maps.has_put_other (hne j hj e), h.has j hj]
      unfold Rm.full
      rw [Rm.row_other hB i j hj e]
  · have c := Rm.cnt_set hB i hl n (Nat.le_refl _) hi
    have hz' : (l != Ln.zeros) = true := by simpa using hz
    rw [hz'] at c
    rw [Maps.size_put ht, h.has i hi, h.size]
    cases hfi : Rm.full B i
    · rw [hfi] at c; simp at c ⊢; omega
    · rw [hfi] at c; simp at c ⊢; omega
theorem Fits.del {D : DataW Unit} {n : Nat} {B : List Int} (h : Fits D n B) (hB : Rm.Ok B n) (ht : Maps.Tidy D) (hn : n ≤ 4096) (i : Nat) (hi : i < n) : Fits (D.del (plL i)) n (Rm.setRow B i Ln.zeros) := by
  have hne : ∀ j, j < n → j ≠ i → plL j ≠ plL i := fun j hj hji e => hji (plL_inj (by omega) (by omega) e)
  have hl := Ln.zeros_is
  have hf : Rm.full (Rm.setRow B i Ln.zeros) i = false := by unfold Rm.full; rw [Rm.row_set hB i hi hl]; simp
  refine ⟨fun j hj => ?_, fun j hj => ?_, ?_⟩
  · by_cases e : j = i
    · subst e; rw [Maps.atKey_del_same, Rm.row_set hB j hi hl]
    · rw [Maps.atKey_del_other (hne j hj e), h.at_ j hj, Rm.row_other hB i j hj e]
  · by_cases e : j = i
    · subst e; rw [Maps.has_del_same, hf]
    · rw [Maps.has_del_other (hne j hj e), h.has j hj]
      unfold Rm.full
      rw [Rm.row_other hB i j hj e]
  · have c := Rm.cnt_set hB i hl n (Nat.le_refl _) hi
    have hs := Maps.size_del (k := plL i) ht
    rw [h.has i hi, h.size] at hs
    have hz' : (Ln.zeros != Ln.zeros) = false := by simp
    rw [hz'] at c
    cases hfi : Rm.full B i
    · rw [hfi] at c hs; simp at c hs; omega
    · rw [hfi] at c hs; simp at c hs; omega
theorem cnt_nought (n : Nat) : ∀ k, Rm.cnt (Rm.nought n) k = 0
  | 0 => rfl
  | k + 1 => by
    simp only [Rm.cnt, cnt_nought n k, Rm.full, Rm.nought_row]
    simp
theorem Fits.empty (n : Nat) : Fits (.map []) n (Rm.nought n) :=
  ⟨fun i _ => by rw [Rm.nought_row]; rfl, fun i _ => by unfold Rm.full; rw [Rm.nought_row]; simp [Maps.has], by rw [cnt_nought]; rfl⟩

/-- A memory of n lines with the bytes B: its struct at block rb, its map at block mb. -/
structure RamAt (w : World) (rb mb n : Nat) (B : List Int) : Prop where
  ok : Rm.Ok B n
  n0 : 1 ≤ n
  n1 : n ≤ 4096
  c0 : w.cell? ⟨rb, 0, none⟩ = some (.int .i64 (n : Int))
  c1 : w.cell? ⟨rb, 1, none⟩ = some (.map (some mb))
  lt : rb < w.heap.size
  ne : rb ≠ mb
  own : ∃ D, w.ownsMap Tryz.prog KT lineElem mb (Maps.size D) D ∧ Fits D n B
theorem RamAt.mlt {w : World} {rb mb n : Nat} {B : List Int} (h : RamAt w rb mb n B) : mb < w.heap.size := by obtain ⟨D, hD, -⟩ := h.own; exact hD.lt
theorem grown_of {b : Nat} {w w' : World} (h : Only b w w') : w.grownBy w' (some b) := ⟨h.os, h.tape, h.output, h.size, fun i hi hne => h.block i hi (fun e => hne (by rw [e]))⟩
theorem RamAt.only {w w' : World} {rb mb n b : Nat} {B : List Int} (h : RamAt w rb mb n B) (ho : Only b w w') (h1 : rb ≠ b) (h2 : mb ≠ b) : RamAt w' rb mb n B := by
  obtain ⟨D, hD, hF⟩ := h.own
  exact ⟨h.ok, h.n0, h.n1, (ho.cell (p := ⟨rb, 0, none⟩) h.lt h1).trans h.c0, (ho.cell (p := ⟨rb, 1, none⟩) h.lt h1).trans h.c1, Nat.lt_of_lt_of_le h.lt ho.size, h.ne, D, hD.kept (grown_of ho) (by intro e; cases e; exact h2 rfl), hF⟩
theorem RamAt.low {w w' : World} {rb mb n : Nat} {B : List Int} (h : RamAt w rb mb n B) (hb : Below w.heap.size w w') : RamAt w' rb mb n B := by
  obtain ⟨D, hD, hF⟩ := h.own
  exact ⟨h.ok, h.n0, h.n1, (hb.cell (p := ⟨rb, 0, none⟩) h.lt).trans h.c0, (hb.cell (p := ⟨rb, 1, none⟩) h.lt).trans h.c1, Nat.lt_of_lt_of_le h.lt hb.size, h.ne, D, hD.kept (row := none) ⟨hb.os, hb.tape, hb.output, hb.size, fun i hi _ => hb.block i hi⟩ (by simp), hF⟩
theorem RamAt.drew {w : World} {rb mb n : Nat} {B : List Int} (h : RamAt w rb mb n B) : RamAt w.drew rb mb n B := h.low (Below.refl _ _).drew
theorem own_reset {w : World} {b n : Nat} {D : DataW Unit} {R : Value → Option (DataW Unit × List MemPlace)} (h : w.ownsMap Tryz.prog KT R b n D) : w.ownsMap Tryz.prog KT R b (Maps.size D) D := by
  obtain ⟨es, clock, hb, F, hs, rfl⟩ := h
  refine ⟨es, clock, hb, F, ?_, rfl⟩
  simp [Maps.size, length_sorted]

theorem exec_lookup {o : Oper} {a : Act} {w : World} (m x : Operand) (ho : o.op = .lookup 130 m x false) {rb mb n : Nat} {B : List Int} (h : RamAt w rb mb n B) (i : Nat) (hi : i < n) (hm : a.eval m = .map (some mb)) (hx : a.eval x = plV i) :
    (execOp a.eval o).run Tryz.prog w = .ok (.value (.agg (aV .u8 (Rm.row B i)))) w := by
  obtain ⟨D, hD, hF⟩ := h.own
  obtain ⟨v, ps, hrun, hv⟩ := hD.lookup key_law Tryz.underlying130 (zero_line w) (lineElem_mk Ln.zeros) (key_of i (by have := h.n1; omega))
  rw [hF.at_ i hi] at hv
  obtain rfl := lineElem_inv hv
  unfold execOp
  simp [ho, hm, hx, hrun, Result.andThen]
theorem size_small {w : World} {rb mb n : Nat} {B : List Int} (h : RamAt w rb mb n B) {D : DataW Unit} (hF : Fits D n B) : Maps.size D < maxLen := by
  have hc : ∀ k, Rm.cnt B k ≤ k := fun k => by
    induction k with
    | zero => exact Nat.le_refl _
    | succ k ih => simp only [Rm.cnt]; have := Bool.toNat_le (Rm.full B k); omega
  have := hc n
  have := h.n1
  rw [hF.size]
  unfold maxLen
  omega
theorem wpList_ram_put {ops : Array Oper} {rest : List Oper} {o : Oper} {a : Act} {w : World} {Q : Exit → Act → World → Prop} (hg : o.guard = none) (m x v : Operand) (ho : o.op = .mapUpdate 130 m x v)
    {rb mb n : Nat} {B : List Int} (h : RamAt w rb mb n B) (i : Nat) (hi : i < n) {l : List Int} (hl : Ln.Is l) (hz : l ≠ Ln.zeros) (hm : a.eval m = .map (some mb)) (hx : a.eval x = plV i) (hv : a.eval v = .agg (aV .u8 l))
    (hK : ∀ w', RamAt w' rb mb n (Rm.setRow B i l) → Only mb w w' → wpList Tryz.prog ops Q rest (a.put o.dst undef) w') : wpList Tryz.prog ops Q (o :: rest) a w := by
  obtain ⟨D, hD, hF⟩ := h.own
  refine wpList_mapUpdate_own w hg m x v _ ho KT 73 key_law Tryz.underlying130 lineElem mb (Maps.size D) D hm hD (size_small h hF) _ _ _ hx hv (key_of i (by have := h.n1; omega)) (dL l) [] (lineElem_mk l) fun w' h1 h2 => ?_
  have ho := Only.of_grown h2
  exact hK w' ⟨Rm.setRow_ok h.ok i hl, h.n0, h.n1, (ho.cell (p := ⟨rb, 0, none⟩) h.lt h.ne).trans h.c0, (ho.cell (p := ⟨rb, 1, none⟩) h.lt h.ne).trans h.c1, Nat.lt_of_lt_of_le h.lt ho.size, h.ne, _, own_reset h1, hF.put h.ok (hD.tidy key_law) h.n1 i hi hl hz⟩ ho
theorem wpList_ram_del {ops : Array Oper} {rest : List Oper} {o : Oper} {a : Act} {w : World} {Q : Exit → Act → World → Prop} (hg : o.guard = none) (m x : Operand) (ho : o.op = .call { callee := .builtin .delete, args := #[m, x], argTypes := #[130, KT] })
    {rb mb n : Nat} {B : List Int} (h : RamAt w rb mb n B) (i : Nat) (hi : i < n) (hm : a.eval m = .map (some mb)) (hx : a.eval x = plV i)
    (hK : ∀ w', RamAt w' rb mb n (Rm.setRow B i Ln.zeros) → Only mb w w' → wpList Tryz.prog ops Q rest (a.put o.dst (.tuple #[])) w') : wpList Tryz.prog ops Q (o :: rest) a w := by
  obtain ⟨D, hD, hF⟩ := h.own
  refine wpList_delete_own w hg m x _ KT ho 73 key_law Tryz.underlying130 lineElem mb (Maps.size D) D hm hD _ _ hx (key_of i (by have := h.n1; omega)) fun w' h1 h2 => ?_
  have ho := Only.of_grown h2.grown
  exact hK w' ⟨Rm.setRow_ok h.ok i Ln.zeros_is, h.n0, h.n1, (ho.cell (p := ⟨rb, 0, none⟩) h.lt h.ne).trans h.c0, (ho.cell (p := ⟨rb, 1, none⟩) h.lt h.ne).trans h.c1, Nat.lt_of_lt_of_le h.lt ho.size, h.ne, _, own_reset h1, hF.del h.ok (hD.tidy key_law) h.n1 i hi⟩ ho
end Go.Proofs.YtjeolfcefeglpabGreat
