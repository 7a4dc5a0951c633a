/-
  Contract of resv.Lines: a map whose keys are slots; a range over it in whatever order; a sort.
-/
import Derived.Test.YtabackklpemhpaaRvC
import Derived.Test.YtabackklpemhpaaSrU
import Derived.Maps.RangeWalk
import Derived.Maps.OwnSet
import Derived.DeepKeys4
namespace Go.Proofs.Ytabackklpemhpaa
open Go.ChangeShapes Go.WideShapes Go.ChangeAt Go.RowKit

/-- A table's cells. -/
def tC (T : Rv.Tb) : List Value := [.int .u64 (Rv.ln T 0), .bool (Rv.is T 0), .int .u64 (Rv.ln T 1), .bool (Rv.is T 1), .int .u64 (Rv.ln T 2), .bool (Rv.is T 2), .int .u64 (Rv.ln T 3), .bool (Rv.is T 3),
  .int .u64 (Rv.ln T 4), .bool (Rv.is T 4), .int .u64 (Rv.ln T 5), .bool (Rv.is T 5), .int .u64 (Rv.ln T 6), .bool (Rv.is T 6), .int .u64 (Rv.ln T 7), .bool (Rv.is T 7)]
theorem eight8 {k : Nat} (h : k < 8) : k = 0 ∨ k = 1 ∨ k = 2 ∨ k = 3 ∨ k = 4 ∨ k = 5 ∨ k = 6 ∨ k = 7 := by omega
theorem tC_at (T : Rv.Tb) {j : Nat} (h : j < 16) : (tC T)[j]? = some (if j % 2 = 0 then .int .u64 (Rv.ln T (j / 2)) else .bool (Rv.is T (j / 2))) := by
  have : j = 0 ∨ j = 1 ∨ j = 2 ∨ j = 3 ∨ j = 4 ∨ j = 5 ∨ j = 6 ∨ j = 7 ∨ j = 8 ∨ j = 9 ∨ j = 10 ∨ j = 11 ∨ j = 12 ∨ j = 13 ∨ j = 14 ∨ j = 15 := by omega
  rcases this with rfl | rfl | rfl | rfl | rfl | rfl | rfl | rfl | rfl | rfl | rfl | rfl | rfl | rfl | rfl | rfl <;> rfl
theorem TbAt.all {w : World} {b o : Nat} {T : Rv.Tb} (h : TbAt w b o T) : w.rangeAt b o (tC T) := fun j v hv => by
  have hj : j < 16 := (List.getElem?_eq_some_iff.1 hv).1
  rw [tC_at T hj] at hv
  cases hv
  by_cases e : j % 2 = 0
  · rw [if_pos e, ← h.c0 (j / 2) (by omega)]
    congr 2
    omega
  · rw [if_neg e, ← h.c1 (j / 2) (by omega)]
    congr 2
    omega
abbrev AT : TypeId := 35
abbrev ST : TypeId := 34
abbrev MT : TypeId := 77
theorem info_arr8 : (Try.prog.info? AT).map (·.size) = some 16 := by kernel_rfl
/-- A slot. -/
def pV (a : Int) (q : Bool) : Value := .agg #[.int .u64 a, .bool q]
def pL (a : Int) (q : Bool) : Lit := .string (keyBytes [.int .u64 a, .bool q])
theorem run_index_row {P : Program} (t e : TypeId) (n sz : Nat) (cs : Array Value) (i : Nat) (d : TypeDesc) (h : P.underlying t = some (.array n e)) (he : P.underlying e = some d) (hd : d.isRow = true) (w : World) (hz : (sizeOf e).run P w = .ok sz w) (hi : i < n) :
    (Instr.index t (.agg cs) (.int .i64 (i : Int))).run P w = .ok (.agg (cs.extract (i * sz) (i * sz + sz))) w := by
  have hn : (i : Int) < (n : Int) := by omega
  have hn0 : (0 : Int) ≤ (i : Int) := by omega
  cases d <;> simp_all [Instr.index, run_underlying h, run_underlying he, asIntOf, part, isAgg, go_sem]
theorem tC_cut (T : Rv.Tb) {k : Nat} (hk : k < 8) : (tC T).toArray.extract (k * 2) (k * 2 + 2) = #[.int .u64 (Rv.ln T k), .bool (Rv.is T k)] := by
  rcases eight8 hk with rfl | rfl | rfl | rfl | rfl | rfl | rfl | rfl <;> rfl
theorem size_slot (w : World) : (sizeOf ST).run Try.prog w = .ok 2 w := by kernel_rfl
theorem run_index_tab (T : Rv.Tb) {k : Nat} (hk : k < 8) (w : World) : (Instr.index AT (.agg (tC T).toArray) (.int .i64 (k : Int))).run Try.prog w = .ok (.agg #[.int .u64 (Rv.ln T k), .bool (Rv.is T k)]) w := by
  rw [run_index_row AT ST 8 2 _ k _ Try.underlying35 Try.underlying34 rfl w (size_slot w) hk, tC_cut T hk]
/-! ### the map's keys -/
theorem slot_row : (ST : TypeId) < Try.prog.types.size := of_decide_eq_true (by kernel_rfl)
theorem slot_wide : (match Try.prog.underlying ST with | some (.array _ _) | some (.struct _) => true | _ => false) = true := by rw [Try.underlying34]
set_option maxRecDepth 100000 in
theorem slot_law : Maps.Keyed Try.prog ST := Maps.Keyed.of_law (deep_law_laid (by kernel_rfl) (m := 2) (by omega) slot_row (by kernel_rfl) slot_wide)
theorem keyLits_u {P : Program} {d : Nat} {t : TypeId} {q : IntKind} (ht : P.underlying t = some (.int q)) {a : Int} (hw : (Lit.int q a).wf = true) : P.keyLits (d + 1) t [.int q a] = some [.int q a] := by
  unfold Program.keyLits
  rw [ht]
  simp [hw]
theorem keyLits_b {P : Program} {d : Nat} {t : TypeId} (ht : P.underlying t = some .bool) (q : Bool) : P.keyLits (d + 1) t [.bool q] = some [.bool q] := by
  unfold Program.keyLits
  rw [ht]
theorem keyOf_ub {P : Program} {t u v : TypeId} {f g : Field} {q : IntKind} (ht : P.underlying t = some (.struct #[f, g])) (hk : P.keyType t = true) (hrow : ∃ d, P.types.size + 1 = d + 2) (hc : P.cellsOf t = 2) (hf : f.type = u) (hg : g.type = v) (ho : f.offset = 0) (ho' : g.offset = 1)
    (hn : (#[f, g].all (·.name != "_")) = true) (hu : P.underlying u = some (.int q)) (hcu : P.cellsOf u = 1) (hv : P.underlying v = some .bool) (hcv : P.cellsOf v = 1) {a : Int} (ha : (Lit.int q a).wf = true) (b : Bool) :
    keyOf P t (.agg #[.int q a, .bool b]) = some (.string (keyBytes [.int q a, .bool b])) := by
  obtain ⟨d, hd⟩ := hrow
  have hfm : (Value.agg #[.int q a, .bool b]).formed P t = true := by simp [Value.formed, ht, hc]
  have e1 := keyLits_u (d := d) hu ha
  have e2 := keyLits_b (d := d) hv b
  have e : P.keyLits (d + 2) t [.int q a, .bool b] = some [.int q a, .bool b] := by
    rw [Program.keyLits.eq_def]
    simp only [ht]
    rw [if_pos ⟨by simp [hc], hn⟩]
    simp [hf, hg, ho, ho', hcu, hcv, e1, e2]
  unfold keyOf
  rw [ht]
  simp only [hk, hfm, Bool.and_self, if_true, hd]
  show (P.keyLits (d + 2) t [.int q a, .bool b]).map _ = _
  rw [e]
  rfl
theorem wf_u {a : Int} (h0 : 0 ≤ a) (h1 : a ≤ 18446744073709551615) : (Lit.int .u64 a).wf = true := by
  apply WalkArith.wf_u64
  omega
theorem slot_key : Try.prog.keyType ST = true := by kernel_rfl
theorem slot_cells : Try.prog.cellsOf ST = 2 := by kernel_rfl
theorem fuel_slot {n k : Nat} (h : k < n) : ∃ d, n + 1 = d + 2 := ⟨n - 1, by omega⟩
theorem pV_key {a : Int} (q : Bool) (hw : (Lit.int .u64 a).wf = true) : keyOf Try.prog ST (pV a q) = some (pL a q) :=
  keyOf_ub Try.underlying34 slot_key (fuel_slot slot_row) slot_cells rfl rfl rfl rfl (by decide +kernel) Try.underlying23 (by kernel_rfl) Try.underlying4 (by kernel_rfl) hw q
namespace Rv
/-- The lines of which there is a reservation, rising, each once. -/
def lines (T : Tb) : List Int := Srt.set ((List.range 8).filterMap T)
theorem lines_strict (T : Tb) : (lines T).Pairwise (· < ·) := Srt.set_strict _
theorem lines_mem (T : Tb) (l : Int) : l ∈ lines T ↔ ∃ h : Nat, h < 8 ∧ T h = some l := by
  unfold lines
  rw [Srt.set_mem, List.mem_filterMap]
  simp
theorem lines_eq {T : Tb} {ys : List Int} (h : ys.Pairwise (· < ·)) (hm : ∀ l, l ∈ ys ↔ ∃ h : Nat, h < 8 ∧ T h = some l) : ys = lines T :=
  Srt.strict_ext h (lines_strict T) fun z => (hm z).trans (lines_mem T z).symm
end Rv
theorem ins_perm (S : List Int) (x : Int) : (Srt.ins S x).Perm (x :: S) := by
  unfold Srt.ins
  refine List.perm_middle.trans ?_
  rw [List.take_append_drop]
theorem sorted_perm' (xs : List Int) : ∀ k, k ≤ xs.length → (Srt.sorted xs k).Perm (xs.take k)
  | 0, _ => by simp [Srt.sorted]
  | k + 1, h => by
    rw [Srt.sorted, List.take_succ_eq_append_getElem (by omega), List.getD, List.getElem?_eq_getElem (by omega)]
    refine (ins_perm _ _).trans (((sorted_perm' xs k (by omega)).cons _).trans ?_)
    exact (List.perm_append_singleton _ _).symm
theorem sorted_strict {xs : List Int} (h : xs.Nodup) : (Srt.sorted xs xs.length).Pairwise (· < ·) := by
  have hp := sorted_perm' xs xs.length (Nat.le_refl _)
  rw [List.take_length] at hp
  have hn : (Srt.sorted xs xs.length).Nodup := hp.nodup_iff.2 h
  refine (Srt.sorted_sorted xs xs.length).imp₂ (fun a b h1 h2 => ?_) hn
  omega
/-! ### what the map holds -/
open Classical in
noncomputable def unitElem (v : Value) : Option (DataW Unit × List MemPlace) := if v = .agg #[] then some (.agg [], []) else none
theorem unitElem_mk : unitElem (.agg #[]) = some (.agg [], []) := by unfold unitElem; rw [if_pos rfl]
theorem unitElem_some {v : Value} {y : DataW Unit × List MemPlace} (h : unitElem v = some y) : v = .agg #[] := by
  unfold unitElem at h
  split at h
  · rename_i e; exact e
  · cases h
theorem pL_inj {a b : Int} {q r : Bool} (ha : (Lit.int .u64 a).wf = true) (hb : (Lit.int .u64 b).wf = true) (h : pL a q = pL b r) : a = b ∧ q = r := by
  have e := slot_law.inj (pV_key q ha) (h ▸ pV_key r hb)
  simp only [pV, Value.agg.injEq] at e
  have e0 := congrArg (·[0]?) e
  have e1 := congrArg (·[1]?) e
  simp at e0 e1
  exact ⟨e0, e1⟩
theorem pL_self (a : Int) (q : Bool) : (pL a q).sameKey (pL a q) = true := by simp [pL, Lit.sameKey]
theorem pL_ne {a b : Int} {q r : Bool} (h : pL a q ≠ pL b r) : (pL a q).sameKey (pL b r) = false := by
  have h2 : keyBytes [Lit.int .u64 a, .bool q] ≠ keyBytes [Lit.int .u64 b, .bool r] := fun e => h (by unfold pL; rw [e])
  simp [pL, Lit.sameKey, h2]
theorem tb_wf {T : Rv.Tb} (hT : Rv.Ok T) (h : Nat) : (Lit.int .u64 (Rv.ln T h)).wf = true := by
  unfold Rv.ln
  cases ht : T h with
  | none => exact wf_u (by decide) (by decide)
  | some l => exact wf_u (hT.rng h l ht).1 (hT.rng h l ht).2
theorem l_wf {T : Rv.Tb} (hT : Rv.Ok T) {h : Nat} {l : Int} (ht : T h = some l) : (Lit.int .u64 l).wf = true := wf_u (hT.rng h l ht).1 (hT.rng h l ht).2
/-- The slots of the first k harts are in the map. -/
structure Lm (T : Rv.Tb) (k : Nat) (D : DataW Unit) : Prop where
  only : ∀ kl, Maps.has D kl = true → ∃ h : Nat, h < k ∧ kl = pL (Rv.ln T h) (Rv.is T h)
  all : ∀ h : Nat, h < k → Maps.has D (pL (Rv.ln T h) (Rv.is T h)) = true
  size : Maps.size D ≤ k
theorem Lm.put {T : Rv.Tb} {k : Nat} {D : DataW Unit} (h : Lm T k D) (hT : Rv.Ok T) (ht : Maps.Tidy D) : Lm T (k + 1) (D.put (pL (Rv.ln T k) (Rv.is T k)) (.agg [])) := by
  have hk : WideAt.IsKeyLit (pL (Rv.ln T k) (Rv.is T k)) := slot_law.key (pV_key _ (tb_wf hT k))
  refine ⟨fun kl hh => ?_, fun i hi => ?_, ?_⟩
  · by_cases e : kl = pL (Rv.ln T k) (Rv.is T k)
    · exact ⟨k, by omega, e⟩
    · rw [Maps.has_put_other e] at hh
      obtain ⟨i, hi, e2⟩ := h.only kl hh
      exact ⟨i, by omega, e2⟩
  · by_cases e : pL (Rv.ln T i) (Rv.is T i) = pL (Rv.ln T k) (Rv.is T k)
    · rw [e, Maps.has_put_same ht.isMap hk]
    · rw [Maps.has_put_other e]
      by_cases e2 : i = k
      · subst e2; exact absurd rfl e
      · exact h.all i (by omega)
  · rw [Maps.size_put ht]
    have := h.size
    split <;> omega
theorem Lm.zero (T : Rv.Tb) : Lm T 0 (.map []) := ⟨fun kl h => by simp [Maps.has] at h, fun h hh => by omega, by simp [Maps.size]⟩
/-- The lines that are reserved are in the map. -/
structure Lq (T : Rv.Tb) (D : DataW Unit) : Prop where
  only : ∀ kl, Maps.has D kl = true → ∃ l, (∃ h : Nat, h < 8 ∧ T h = some l) ∧ kl = pL l true
  all : ∀ h l, h < 8 → T h = some l → Maps.has D (pL l true) = true
  size : Maps.size D ≤ 8
theorem Lm.del {T : Rv.Tb} {D : DataW Unit} (h : Lm T 8 D) (hT : Rv.Ok T) (ht : Maps.Tidy D) : Lq T (D.del (pL 0 false)) := by
  refine ⟨fun kl hh => ?_, fun i l hi ht' => ?_, ?_⟩
  · by_cases e : kl = pL 0 false
    · subst e; rw [Maps.has_del_same] at hh; cases hh
    · rw [Maps.has_del_other e] at hh
      obtain ⟨i, hi, e2⟩ := h.only kl hh
      cases hq : T i with
      | none => exact absurd (by rw [e2]; unfold Rv.ln Rv.is; rw [hq]; rfl) e
      | some l => exact ⟨l, ⟨i, hi, hq⟩, by rw [e2]; unfold Rv.ln Rv.is; rw [hq]; rfl⟩
  · have e : pL l true ≠ pL 0 false := fun e => by have := (pL_inj (l_wf hT ht') (wf_u (by decide) (by decide)) e).2; cases this
    rw [Maps.has_del_other e]
    have := h.all i hi
    unfold Rv.ln Rv.is at this
    rw [ht'] at this
    exact this
  · have h1 := Maps.size_del (k := pL 0 false) ht
    have h2 := h.size
    omega
/-- While the lines are gathered. -/
structure Lr (T : Rv.Tb) (left : Lit → Bool) (cnt : Nat) (xs : List Int) : Prop where
  only : ∀ kl, left kl = true → ∃ l, (∃ h : Nat, h < 8 ∧ T h = some l) ∧ kl = pL l true ∧ l ∉ xs
  all : ∀ h l, h < 8 → T h = some l → l ∈ xs ∨ left (pL l true) = true
  mem : ∀ l, l ∈ xs → ∃ h : Nat, h < 8 ∧ T h = some l
  nod : xs.Nodup
  len : cnt + xs.length ≤ 8
theorem Lq.start {T : Rv.Tb} {D : DataW Unit} (h : Lq T D) : Lr T (Maps.has D) (Maps.size D) [] :=
  ⟨fun kl hk => by obtain ⟨l, h1, h2⟩ := h.only kl hk; exact ⟨l, h1, h2, by simp⟩, fun i l hi ht => .inr (h.all i l hi ht), fun l hl => by simp at hl, List.nodup_nil, by have := h.size; simpa using this⟩
theorem Lr.step {T : Rv.Tb} {left : Lit → Bool} {cnt cnt' : Nat} {xs : List Int} (h : Lr T left cnt xs) (hT : Rv.Ok T) {l : Int} (hl : ∃ h : Nat, h < 8 ∧ T h = some l) (hn : l ∉ xs) (hlt : cnt' < cnt) :
    Lr T (fun z => left z && !z.sameKey (pL l true)) cnt' (xs ++ [l]) := by
  obtain ⟨i0, hi0, ht0⟩ := hl
  have hw := l_wf hT ht0
  refine ⟨fun kl hk => ?_, fun i l2 hi ht => ?_, fun l2 hm => ?_, ?_, ?_⟩
  · simp only [Bool.and_eq_true, Bool.not_eq_true'] at hk
    obtain ⟨l2, h1, rfl, h3⟩ := h.only kl hk.1
    refine ⟨l2, h1, rfl, ?_⟩
    rw [List.mem_append, List.mem_singleton]
    rintro (h4 | rfl)
    · exact h3 h4
    · rw [pL_self] at hk
      exact absurd hk.2 (by simp)
  · by_cases e : l2 = l
    · left; rw [e]; simp
    · rcases h.all i l2 hi ht with h1 | h1
      · left; rw [List.mem_append]; exact .inl h1
      · right
        have : pL l2 true ≠ pL l true := fun e2 => e (pL_inj (l_wf hT ht) hw e2).1
        simp [h1, pL_ne this]
  · rw [List.mem_append, List.mem_singleton] at hm
    rcases hm with hm | rfl
    · exact h.mem l2 hm
    · exact ⟨i0, hi0, ht0⟩
  · rw [List.nodup_append]
    exact ⟨h.nod, by simp, fun a ha b hb => by simp at hb; subst hb; exact fun e => hn (e ▸ ha)⟩
  · have := h.len
    rw [List.length_append, List.length_singleton]
    omega
theorem Lr.done {T : Rv.Tb} {left : Lit → Bool} {cnt : Nat} {xs : List Int} (h : Lr T left cnt xs) (hl : ∀ kl, left kl = false) : Srt.sorted xs xs.length = Rv.lines T := by
  refine Rv.lines_eq (sorted_strict h.nod) fun l => ?_
  rw [Srt.sorted_mem xs l xs.length (Nat.le_refl _), List.take_length]
  constructor
  · exact h.mem l
  · rintro ⟨i, hi, ht⟩
    rcases h.all i l hi ht with h1 | h1
    · exact h1
    · rw [hl] at h1; cases h1
theorem ranges_on {w w' : World} {b r n cnt : Nat} {D : DataW Unit} {left : Lit → Bool} {R : Value → Option (DataW Unit × List MemPlace)} {P : Program} {k : TypeId} (h : w.ranges P k R b r n D left cnt) (hb : w'.heap[b]? = w.heap[b]?) (hr : w'.heap[r]? = w.heap[r]?) : w'.ranges P k R b r n D left cnt := by
  unfold World.ranges at *
  rw [hb, hr]
  exact h
end Go.Proofs.Ytabackklpemhpaa
