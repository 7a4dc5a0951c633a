/-
  A memory of layer 10 as the program has it: its struct and its map; what its map holds of its bytes; looked up in, stored into, deleted from.
-/
import Derived.Test.YtdlollkieihjpaaRmB
namespace Go.Proofs.Ytdlollkieihjpaa
open Go.ChangeShapes Go.WideShapes Go.ChangeAt Go.RowKit Wd

def dL (ws : List Int) : DataW Unit := .agg (ws.map fun x => .lit (.int .u8 x))
theorem map_inj {α β : Type} {f : α → β} (hf : ∀ a b, f a = f b → a = b) : ∀ xs ys : List α, xs.map f = ys.map f → xs = ys
  | [], [], _ => rfl
  | [], _ :: _, h => by simp at h
  | _ :: _, [], h => by simp at h
  | x :: xs, y :: ys, h => by
    simp only [List.map_cons, List.cons.injEq] at h
    rw [hf _ _ h.1, map_inj hf xs ys h.2]
theorem dL_inj {a b : List Int} (h : dL a = dL b) : a = b := by
  simp only [dL, DataW.agg.injEq] at h
  exact map_inj (fun x y hxy => by simpa using hxy) a b h
theorem aV_inj {a b : List Int} (h : aV .u8 a = aV .u8 b) : a = b := by
  have e : a.map (Value.int .u8) = b.map (Value.int .u8) := by
    have := congrArg Array.toList h
    simpa [aV] using this
  exact map_inj (fun x y hxy => by simpa using hxy) a b e
open Classical in
/-- How a line in the map reads. -/
noncomputable def lineElem (v : Value) : Option (DataW Unit × List MemPlace) := if h : ∃ ws : List Int, v = .agg (aV .u8 ws) then some (dL h.choose, []) else none
theorem lineElem_mk (ws : List Int) : lineElem (.agg (aV .u8 ws)) = some (dL ws, []) := by
  have h : ∃ xs : List Int, (Value.agg (aV .u8 ws)) = .agg (aV .u8 xs) := ⟨ws, rfl⟩
  have e : ws = h.choose := aV_inj (Value.agg.inj h.choose_spec)
  unfold lineElem
  rw [dif_pos h, ← e]
theorem lineElem_inv {v : Value} {ws : List Int} {ps : List MemPlace} (h : lineElem v = some (dL ws, ps)) : v = .agg (aV .u8 ws) := by
  unfold lineElem at h
  split at h
  · rename_i hx
    simp only [Option.some.injEq, Prod.mk.injEq] at h
    rw [hx.choose_spec, dL_inj h.1]
  · cases h
theorem zero_line (w : World) : (zeroValue 49).run Try.prog w = .ok (.agg (aV .u8 Ln.zeros)) w := by kernel_rfl

/-- What the map holds of a memory's bytes. -/
structure Fits (D : DataW Unit) (n : Nat) (B : List Int) : Prop where
  at_ : ∀ i, i < n → D.atKey (plL i) (dL Ln.zeros) = dL (Rm.row B i)
  has : ∀ i, i < n → Maps.has D (plL i) = Rm.full B i
  size : Maps.size D = Rm.cnt B n
theorem Fits.put {D : DataW Unit} {n : Nat} {B : List Int} (h : Fits D n B) (hB : Rm.Ok B n) (ht : Maps.Tidy D) (hn : n ≤ 4096) (i : Nat) (hi : i < n) {l : List Int} (hl : Ln.Is l) (hz : l ≠ Ln.zeros) : Fits (D.put (plL i) (dL l)) n (Rm.setRow B i l) := by
  have hne : ∀ j, j < n → j ≠ i → plL j ≠ plL i := fun j hj hji e => hji (plL_inj (by omega) (by omega) e)
  have hf : Rm.full (Rm.setRow B i l) i = true := by unfold Rm.full; rw [Rm.row_set hB i hi hl]; simpa using hz
  refine ⟨fun j hj => ?_, fun j hj => ?_, ?_⟩
  · by_cases e : j = i
    · subst e; rw [Maps.atKey_put_same ht.isMap (plL_key _ (by omega)), Rm.row_set hB j hi hl]
    · rw [Maps.atKey_put_other (hne j hj e), h.at_ j hj, Rm.row_other hB i j hj e]
  · by_cases e : j = i
    · subst e; rw [Maps.has_put_same ht.isMap (plL_key _ (by omega)), hf]
    · rw [Maps.has_put_other (hne j hj e), h.has j hj]
      unfold Rm.full
      rw [Rm.row_other hB i j hj e]
  · have c := Rm.cnt_set hB i hl n (Nat.le_refl _) hi
    have hz' : (l != Ln.zeros) = true := by simpa using hz
    rw [hz'] at c
    rw [Maps.size_put ht, h.has i hi, h.size]
    cases hfi : Rm.full B i
    · rw [hfi] at c; simp at c ⊢; omega
    · rw [hfi] at c; simp at c ⊢; omega
theorem Fits.del {D : DataW Unit} {n : Nat} {B : List Int} (h : Fits D n B) (hB : Rm.Ok B n) (ht : Maps.Tidy D) (hn : n ≤ 4096) (i : Nat) (hi : i < n) : Fits (D.del (plL i)) n (Rm.setRow B i Ln.zeros) := by
  have hne : ∀ j, j < n → j ≠ i → plL j ≠ plL i := fun j hj hji e => hji (plL_inj (by omega) (by omega) e)
  have hl := Ln.zeros_is
  have hf : Rm.full (Rm.setRow B i Ln.zeros) i = false := by unfold Rm.full; rw [Rm.row_set hB i hi hl]; simp
  refine ⟨fun j hj => ?_, fun j hj => ?_, ?_⟩
  · by_cases e : j = i
    · subst e; rw [Maps.atKey_del_same, Rm.row_set hB j hi hl]
    · rw [Maps.atKey_del_other (hne j hj e), h.at_ j hj, Rm.row_other hB i j hj e]
  · by_cases e : j = i
    · subst e; rw [Maps.has_del_same, hf]
    · rw [Maps.has_del_other (hne j hj e), h.has j hj]
      unfold Rm.full
      rw [Rm.row_other hB i j hj e]
  · have c := Rm.cnt_set hB i hl n (Nat.le_refl _) hi
    have hs := Maps.size_del (k := plL i) ht
    rw [h.has i hi, h.size] at hs
    have hz' : (Ln.zeros != Ln.zeros) = false := by simp
    rw [hz'] at c
    cases hfi : Rm.full B i
    · rw [hfi] at c hs; simp at c hs; omega
    · rw [hfi] at c hs; simp at c hs; omega
theorem cnt_nought (n : Nat) : ∀ k, Rm.cnt (Rm.nought n) k = 0
  | 0 => rfl
  | k + 1 => by
    simp only [Rm.cnt, cnt_nought n k, Rm.full, Rm.nought_row]
    simp
theorem Fits.empty (n : Nat) : Fits (.map []) n (Rm.nought n) :=
  ⟨fun i _ => by rw [Rm.nought_row]; rfl, fun i _ => by unfold Rm.full; rw [Rm.nought_row]; simp [Maps.has], by rw [cnt_nought]; rfl⟩

/-- A memory of n lines with the bytes B: its struct at block rb, its map at block mb. -/
structure RamAt (w : World) (rb mb n : Nat) (B : List Int) : Prop where
  ok : Rm.Ok B n
  n0 : 1 ≤ n
  n1 : n ≤ 4096
  c0 : w.cell? ⟨rb, 0, none⟩ = some (.int .i64 (n : Int))
  c1 : w.cell? ⟨rb, 1, none⟩ = some (.map (some mb))
  lt : rb < w.heap.size
  ne : rb ≠ mb
  own : ∃ D, w.ownsMap Try.prog KT lineElem mb (Maps.size D) D ∧ Fits D n B
theorem RamAt.mlt {w : World} {rb mb n : Nat} {B : List Int} (h : RamAt w rb mb n B) : mb < w.heap.size := by obtain ⟨D, hD, -⟩ := h.own; exact hD.lt
theorem grown_of {b : Nat} {w w' : World} (h : Only b w w') : w.grownBy w' (some b) := ⟨h.os, h.tape, h.output, h.size, fun i hi hne => h.block i hi (fun e => hne (by rw [e]))⟩
theorem RamAt.only {w w' : World} {rb mb n b : Nat} {B : List Int} (h : RamAt w rb mb n B) (ho : Only b w w') (h1 : rb ≠ b) (h2 : mb ≠ b) : RamAt w' rb mb n B := by
  obtain ⟨D, hD, hF⟩ := h.own
  exact ⟨h.ok, h.n0, h.n1, (ho.cell (p := ⟨rb, 0, none⟩) h.lt h1).trans h.c0, (ho.cell (p := ⟨rb, 1, none⟩) h.lt h1).trans h.c1, Nat.lt_of_lt_of_le h.lt ho.size, h.ne, D, hD.kept (grown_of ho) (by intro e; cases e; exact h2 rfl), hF⟩
theorem RamAt.low {w w' : World} {rb mb n : Nat} {B : List Int} (h : RamAt w rb mb n B) (hb : Below w.heap.size w w') : RamAt w' rb mb n B := by
  obtain ⟨D, hD, hF⟩ := h.own
  exact ⟨h.ok, h.n0, h.n1, (hb.cell (p := ⟨rb, 0, none⟩) h.lt).trans h.c0, (hb.cell (p := ⟨rb, 1, none⟩) h.lt).trans h.c1, Nat.lt_of_lt_of_le h.lt hb.size, h.ne, D, hD.kept (row := none) ⟨hb.os, hb.tape, hb.output, hb.size, fun i hi _ => hb.block i hi⟩ (by simp), hF⟩
theorem RamAt.drew {w : World} {rb mb n : Nat} {B : List Int} (h : RamAt w rb mb n B) : RamAt w.drew rb mb n B := h.low (Below.refl _ _).drew
theorem own_reset {w : World} {b n : Nat} {D : DataW Unit} {R : Value → Option (DataW Unit × List MemPlace)} (h : w.ownsMap Try.prog KT R b n D) : w.ownsMap Try.prog KT R b (Maps.size D) D := by
  obtain ⟨es, clock, hb, F, hs, rfl⟩ := h
  refine ⟨es, clock, hb, F, ?_, rfl⟩
  simp [Maps.size, length_sorted]

theorem exec_lookup {o : Oper} {a : Act} {w : World} (m x : Operand) (ho : o.op = .lookup 67 m x false) {rb mb n : Nat} {B : List Int} (h : RamAt w rb mb n B) (i : Nat) (hi : i < n) (hm : a.eval m = .map (some mb)) (hx : a.eval x = plV i) :
    (execOp a.eval o).run Try.prog w = .ok (.value (.agg (aV .u8 (Rm.row B i)))) w := by
  obtain ⟨D, hD, hF⟩ := h.own
  obtain ⟨v, ps, hrun, hv⟩ := hD.lookup key_law Try.underlying67 (zero_line w) (lineElem_mk Ln.zeros) (key_of i (by have := h.n1; omega))
  rw [hF.at_ i hi] at hv
  obtain rfl := lineElem_inv hv
  unfold execOp
  simp [ho, hm, hx, hrun, Result.andThen]
theorem size_small {w : World} {rb mb n : Nat} {B : List Int} (h : RamAt w rb mb n B) {D : DataW Unit} (hF : Fits D n B) : Maps.size D < maxLen := by
  have hc : ∀ k, Rm.cnt B k ≤ k := fun k => by
    induction k with
    | zero => exact Nat.le_refl _
    | succ k ih => simp only [Rm.cnt]; have := Bool.toNat_le (Rm.full B k); omega
  have := hc n
  have := h.n1
  rw [hF.size]
  unfold maxLen
  omega
theorem wpList_ram_put {ops : Array Oper} {rest : List Oper} {o : Oper} {a : Act} {w : World} {Q : Exit → Act → World → Prop} (hg : o.guard = none) (m x v : Operand) (ho : o.op = .mapUpdate 67 m x v)
    {rb mb n : Nat} {B : List Int} (h : RamAt w rb mb n B) (i : Nat) (hi : i < n) {l : List Int} (hl : Ln.Is l) (hz : l ≠ Ln.zeros) (hm : a.eval m = .map (some mb)) (hx : a.eval x = plV i) (hv : a.eval v = .agg (aV .u8 l))
    (hK : ∀ w', RamAt w' rb mb n (Rm.setRow B i l) → Only mb w w' → wpList Try.prog ops Q rest (a.put o.dst undef) w') : wpList Try.prog ops Q (o :: rest) a w := by
  obtain ⟨D, hD, hF⟩ := h.own
  refine wpList_mapUpdate_own w hg m x v _ ho KT 49 key_law Try.underlying67 lineElem mb (Maps.size D) D hm hD (size_small h hF) _ _ _ hx hv (key_of i (by have := h.n1; omega)) (dL l) [] (lineElem_mk l) fun w' h1 h2 => ?_
  have ho := Only.of_grown h2
  exact hK w' ⟨Rm.setRow_ok h.ok i hl, h.n0, h.n1, (ho.cell (p := ⟨rb, 0, none⟩) h.lt h.ne).trans h.c0, (ho.cell (p := ⟨rb, 1, none⟩) h.lt h.ne).trans h.c1, Nat.lt_of_lt_of_le h.lt ho.size, h.ne, _, own_reset h1, hF.put h.ok (hD.tidy key_law) h.n1 i hi hl hz⟩ ho
theorem wpList_ram_del {ops : Array Oper} {rest : List Oper} {o : Oper} {a : Act} {w : World} {Q : Exit → Act → World → Prop} (hg : o.guard = none) (m x : Operand) (ho : o.op = .call { callee := .builtin .delete, args := #[m, x], argTypes := #[67, KT] })
    {rb mb n : Nat} {B : List Int} (h : RamAt w rb mb n B) (i : Nat) (hi : i < n) (hm : a.eval m = .map (some mb)) (hx : a.eval x = plV i)
    (hK : ∀ w', RamAt w' rb mb n (Rm.setRow B i Ln.zeros) → Only mb w w' → wpList Try.prog ops Q rest (a.put o.dst (.tuple #[])) w') : wpList Try.prog ops Q (o :: rest) a w := by
  obtain ⟨D, hD, hF⟩ := h.own
  refine wpList_delete_own w hg m x _ KT ho 49 key_law Try.underlying67 lineElem mb (Maps.size D) D hm hD _ _ hx (key_of i (by have := h.n1; omega)) fun w' h1 h2 => ?_
  have ho := Only.of_grown h2.grown
  exact hK w' ⟨Rm.setRow_ok h.ok i Ln.zeros_is, h.n0, h.n1, (ho.cell (p := ⟨rb, 0, none⟩) h.lt h.ne).trans h.c0, (ho.cell (p := ⟨rb, 1, none⟩) h.lt h.ne).trans h.c1, Nat.lt_of_lt_of_le h.lt ho.size, h.ne, _, own_reset h1, hF.del h.ok (hD.tidy key_law) h.n1 i hi⟩ ho
end Go.Proofs.Ytdlollkieihjpaa
