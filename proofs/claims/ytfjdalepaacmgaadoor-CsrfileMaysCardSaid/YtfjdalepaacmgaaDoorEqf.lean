/-
  Two values of a struct's or an array's type (of integers, bools, and such structs and arrays) compared: they are equal just if all their cells are.
-/
import Derived.Test.YtfjdalepaacmgaaDoorRows
import Derived.DeepKeys
import Derived.Laws.StructEq
import Derived.WalkKit
namespace Go.Proofs.YtfjdalepaacmgaaDoor
open Go.RowKit
namespace Eqf

/-- A cell's literal. -/
def litV : Value → Lit
  | .int k n => .int k n
  | .bool b => .bool b
  | _ => .bool false
/-- Is a cell of a kind (none: a bool)? -/
def okV : Option IntKind → Value → Bool
  | some q, .int q' n => decide (q' = q) && (Lit.int q n).wf
  | none, .bool _ => true
  | _, _ => false
def okL : List (Option IntKind) → List Value → Bool
  | [], [] => true
  | k :: ks, v :: vs => okV k v && okL ks vs
  | _, _ => false
theorem okL_len : ∀ {ks : List (Option IntKind)} {vs : List Value}, okL ks vs = true → vs.length = ks.length
  | [], [], _ => rfl
  | k :: ks, v :: vs, h => by
    simp only [okL, Bool.and_eq_true] at h
    simp [okL_len h.2]
  | [], _ :: _, h => by simp [okL] at h
  | _ :: _, [], h => by simp [okL] at h
theorem okL_app : ∀ {ks ls : List (Option IntKind)} {vs : List Value}, okL (ks ++ ls) vs = true → okL ks (vs.take ks.length) = true ∧ okL ls (vs.drop ks.length) = true
  | [], ls, vs, h => by simpa [okL] using h
  | k :: ks, ls, [], h => by simp [okL] at h
  | k :: ks, ls, v :: vs, h => by
    simp only [List.cons_append, okL, Bool.and_eq_true] at h
    have := okL_app h.2
    simp only [List.length_cons, List.take_succ_cons, List.drop_succ_cons, okL, Bool.and_eq_true]
    exact ⟨⟨h.1, this.1⟩, this.2⟩
theorem app_okL : ∀ {ks ls : List (Option IntKind)} {vs us : List Value}, okL ks vs = true → okL ls us = true → okL (ks ++ ls) (vs ++ us) = true
  | [], _, [], _, _, h => h
  | k :: ks, ls, v :: vs, us, h, g => by
    simp only [okL, Bool.and_eq_true] at h
    simp only [List.cons_append, okL, Bool.and_eq_true]
    exact ⟨h.1, app_okL h.2 g⟩
  | [], _, _ :: _, _, h, _ => by simp [okL] at h
  | _ :: _, _, [], _, h, _ => by simp [okL] at h
section
variable (P : Program)
/-- The kinds of a struct's fields, if these stand one behind the other. -/
def flatF (g : TypeId → Option (List (Option IntKind))) : List Field → Nat → Option (List (Option IntKind))
  | [], _ => some []
  | f :: fs, o => match g f.type with
    | none => none
    | some ks => if f.offset = o ∧ P.cellsOf f.type = ks.length then (flatF g fs (o + ks.length)).map (ks ++ ·) else none
/-- The kinds of a type's cells. -/
def flat : Nat → TypeId → Option (List (Option IntKind))
  | 0, _ => none
  | d + 1, t => match P.underlying t with
    | some .bool => some [none]
    | some (.int q) => some [some q]
    | some (.array n e) => match flat d e with
      | none => none
      | some ks => if P.cellsOf e = ks.length ∧ P.cellsOf t = n * ks.length then some ((List.replicate n ks).flatten) else none
    | some (.struct fs) => match flatF P (flat d) fs.toList 0 with
      | none => none
      | some ks => if P.cellsOf t = ks.length ∧ fs.all (·.name != "_") = true then some ks else none
    | _ => none
end
variable {P : Program}
theorem items (d : Nat) (e : TypeId) (ks : List (Option IntKind)) (he : P.cellsOf e = ks.length) (ih : ∀ cs, okL ks cs = true → P.keyLits d e cs = some (cs.map litV)) :
    ∀ (n : Nat) (o : Nat) (cs : List Value), okL (List.replicate n ks).flatten (cs.drop (o * ks.length)) = true →
      ((List.range' o n).mapM fun i => P.keyLits d e ((cs.drop (i * P.cellsOf e)).take (P.cellsOf e))) = some ((List.range' o n).map fun i => ((cs.drop (i * ks.length)).take ks.length).map litV) ∧
      ((List.range' o n).map fun i => ((cs.drop (i * ks.length)).take ks.length).map litV).flatten = (cs.drop (o * ks.length)).map litV
  | 0, o, cs, h => by
    have := okL_len h
    simp at this
    have e : cs.drop (o * ks.length) = [] := List.drop_eq_nil_of_le (by omega)
    simp [e]
  | n + 1, o, cs, h => by
    rw [List.replicate_succ, List.flatten_cons] at h
    obtain ⟨h1, h2⟩ := okL_app h
    rw [List.drop_drop, ← Nat.succ_mul] at h2
    obtain ⟨i1, i2⟩ := items d e ks he ih n (o + 1) cs h2
    rw [he] at i1 ⊢
    refine ⟨?_, ?_⟩
    · rw [List.range'_succ, List.mapM_cons, ih _ h1, i1]
      rfl
    · rw [List.range'_succ, List.map_cons, List.flatten_cons, i2, ← List.map_append, Nat.succ_mul, ← List.drop_drop, List.take_append_drop]
theorem fields (d : Nat) (ih : ∀ (t : TypeId) (ks : List (Option IntKind)) (cs : List Value), flat P d t = some ks → okL ks cs = true → P.keyLits d t cs = some (cs.map litV)) :
    ∀ (fs : List Field) (o : Nat) (ks : List (Option IntKind)) (cs : List Value), flatF P (flat P d) fs o = some ks → okL ks (cs.drop o) = true →
      ∃ ls, (fs.mapM fun f => P.keyLits d f.type ((cs.drop f.offset).take (P.cellsOf f.type))) = some ls ∧ ls.flatten = (cs.drop o).map litV
  | [], o, ks, cs, h, g => by
    simp only [flatF, Option.some.injEq] at h
    subst h
    have := okL_len g
    have e : cs.drop o = [] := List.length_eq_zero_iff.1 (by simpa using this)
    exact ⟨[], rfl, by rw [e]; rfl⟩
  | f :: fs, o, ks, cs, h, g => by
    simp only [flatF] at h
    cases hk : flat P d f.type with
    | none => rw [hk] at h; cases h
    | some ls =>
      rw [hk] at h
      simp only at h
      split at h
      · rename_i hc
        obtain ⟨ms, hm, rfl⟩ := Option.map_eq_some_iff.1 h
        obtain ⟨g1, g2⟩ := okL_app g
        rw [List.drop_drop] at g2
        obtain ⟨rs, r1, r2⟩ := fields d ih fs (o + ls.length) ms cs hm g2
        refine ⟨((cs.drop o).take ls.length).map litV :: rs, ?_, ?_⟩
        · rw [List.mapM_cons, hc.1, hc.2, ih f.type ls _ hk g1, r1]
          rfl
        · rw [List.flatten_cons, r2, ← List.map_append, ← List.drop_drop, List.take_append_drop]
      · cases h
theorem lits : ∀ (d : Nat) (t : TypeId) (ks : List (Option IntKind)) (cs : List Value), flat P d t = some ks → okL ks cs = true → P.keyLits d t cs = some (cs.map litV)
  | 0, _, _, _, h, _ => by simp [flat] at h
  | d + 1, t, ks, cs, h, g => by
    have hl := okL_len g
    unfold flat at h
    unfold Program.keyLits
    cases hu : P.underlying t with
    | none => rw [hu] at h; cases h
    | some kd =>
      rw [hu] at h
      cases kd
      case bool =>
        simp only [Option.some.injEq] at h
        subst h
        match cs, g with
        | [.bool b], _ => rfl
      case int q =>
        simp only [Option.some.injEq] at h
        subst h
        match cs, g with
        | [.int q' n], g =>
          simp only [okL, okV, Bool.and_eq_true, decide_eq_true_eq, and_true] at g
          obtain ⟨rfl, g2⟩ := g
          simp [g2, litV]
      case array n e =>
        simp only at h
        cases hf : flat P d e with
        | none => rw [hf] at h; cases h
        | some ls =>
          rw [hf] at h
          simp only at h
          split at h
          · rename_i hc
            simp only [Option.some.injEq] at h
            subst h
            have hlen : cs.length = P.cellsOf t := by rw [hc.2, hl]; simp
            obtain ⟨i1, i2⟩ := items d e ls hc.1 (fun cs hcs => lits d e ls cs hf hcs) n 0 cs (by simpa using g)
            rw [← List.range_eq_range'] at i1 i2
            simp only [if_pos hlen, i1, Option.map_some, i2]
            simp
          · cases h
      case struct fs =>
        simp only at h
        cases hf : flatF P (flat P d) fs.toList 0 with
        | none => rw [hf] at h; cases h
        | some ls =>
          rw [hf] at h
          simp only at h
          split at h
          · rename_i hc
            simp only [Option.some.injEq] at h
            subst h
            obtain ⟨rs, r1, r2⟩ := fields d (fun t ks cs => lits d t ks cs) fs.toList 0 ls cs hf (by simpa using g)
            simp only [if_pos (And.intro (hl.trans hc.1.symm) hc.2), r1, Option.map_some, r2]
            simp
          · cases h
      all_goals cases h
def eqv : Value → Value → Bool
  | .int _ n, .int _ m => n == m
  | .bool a, .bool b => a == b
  | _, _ => false
/-- Are two rows of cells equal? -/
def eqL : List Value → List Value → Bool
  | [], [] => true
  | v :: vs, u :: us => eqv v u && eqL vs us
  | _, _ => false
theorem eqv_lit {k : Option IntKind} {v u : Value} (hv : okV k v = true) (hu : okV k u = true) : litV v = litV u ↔ eqv v u = true := by
  cases k with
  | none =>
    cases v <;> simp [okV] at hv
    cases u <;> simp [okV] at hu
    simp [litV, eqv]
  | some q =>
    cases v <;> simp [okV] at hv
    cases u <;> simp [okV] at hu
    simp [litV, eqv, hv.1, hu.1]
theorem eqL_lit : ∀ {ks : List (Option IntKind)} {vs us : List Value}, okL ks vs = true → okL ks us = true → (vs.map litV = us.map litV ↔ eqL vs us = true)
  | [], [], [], _, _ => by simp [eqL]
  | k :: ks, v :: vs, u :: us, h, g => by
    simp only [okL, Bool.and_eq_true] at h g
    simp only [List.map_cons, List.cons.injEq, eqL, Bool.and_eq_true, eqv_lit h.1 g.1, eqL_lit h.2 g.2]
  | [], _ :: _, _, h, _ => by simp [okL] at h
  | [], [], _ :: _, _, g => by simp [okL] at g
  | _ :: _, [], _, h, _ => by simp [okL] at h
  | _ :: _, _ :: _, [], _, g => by simp [okL] at g
theorem eqL_self : ∀ {ks : List (Option IntKind)} {vs : List Value}, okL ks vs = true → eqL vs vs = true := fun h => (eqL_lit h h).1 rfl
/-- Compared. -/
theorem eql (w : World) (m : Nat) (hm : m ≤ 10000) (t : TypeId) (ks : List (Option IntKind)) (hk : P.keyTypeAt m t = true) (hf : flat P m t = some ks) (x y : Array Value) (fx : Value.formed P t (.agg x) = true) (fy : Value.formed P t (.agg y) = true)
    (hx : okL ks x.toList = true) (hy : okL ks y.toList = true) : (Op.equalIn 10000 t (.agg x) (.agg y)).run P w = .ok (eqL x.toList y.toList) w := by
  obtain ⟨r, hr, hiff⟩ := run_equalIn_deep (P := P) (10000 - m) m t hk w m m (.agg x) (.agg y) _ _ fx fy (lits m t ks _ hf hx) (lits m t ks _ hf hy)
  rw [show 10000 - m + m = 10000 by omega] at hr
  rw [hr]
  congr 1
  rw [Bool.eq_iff_iff, hiff]
  exact eqL_lit hx hy
theorem beql (w : World) (m : Nat) (hm : m ≤ 10000) (t : TypeId) (ks : List (Option IntKind)) (hk : P.keyTypeAt m t = true) (hf : flat P m t = some ks) (x y : Array Value) (fx : Value.formed P t (.agg x) = true) (fy : Value.formed P t (.agg y) = true)
    (hx : okL ks x.toList = true) (hy : okL ks y.toList = true) : (binOp .eql t (.agg x) (.agg y)).run P w = .ok (.bool (eqL x.toList y.toList)) w := by
  rw [run_eql_struct, eql w m hm t ks hk hf x y fx fy hx hy]
  rfl
theorem bneq (w : World) (m : Nat) (hm : m ≤ 10000) (t : TypeId) (ks : List (Option IntKind)) (hk : P.keyTypeAt m t = true) (hf : flat P m t = some ks) (x y : Array Value) (fx : Value.formed P t (.agg x) = true) (fy : Value.formed P t (.agg y) = true)
    (hx : okL ks x.toList = true) (hy : okL ks y.toList = true) : (binOp .neq t (.agg x) (.agg y)).run P w = .ok (.bool (!(eqL x.toList y.toList))) w := by
  rw [run_neq_struct, eql w m hm t ks hk hf x y fx fy hx hy]
  rfl
end Eqf
end Go.Proofs.YtfjdalepaacmgaaDoor
