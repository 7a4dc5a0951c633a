/-
  A memory of layer 10 in the program's memory: its map's keys and elements, what it holds, how it is looked up in, stored into and deleted from; what only changes one block.
-/
import Derived.Test.YtdlollkieihjpaaRmA
import Derived.Test.YtdlollkieihjpaaLnC
import Derived.Test.YtdlollkieihjpaaSteady
import Derived.Maps.OwnSet
import Derived.DeepKeys4
namespace Go.Proofs.Ytdlollkieihjpaa
open Go.ChangeShapes Go.WideShapes Go.ChangeAt Go.RowKit Wd

/-! ### one block changes -/
structure Only (b : Nat) (w w' : World) : Prop where
  os : w'.os = w.os
  tape : w'.tape = w.tape
  output : w'.output = w.output
  size : w.heap.size ≤ w'.heap.size
  block : ∀ k, k < w.heap.size → k ≠ b → w'.heap[k]? = w.heap[k]?
theorem Only.refl (b : Nat) (w : World) : Only b w w := ⟨rfl, rfl, rfl, Nat.le_refl _, fun _ _ _ => rfl⟩
theorem Only.of_below {b : Nat} {w w' : World} (h : Below w.heap.size w w') : Only b w w' := ⟨h.os, h.tape, h.output, h.size, fun k hk _ => h.block k hk⟩
theorem Only.of_grown {b : Nat} {w w' : World} (h : w.grownBy w' (some b)) : Only b w w' := ⟨h.os, h.tape, h.output, h.size, fun k hk hne => h.block k hk (fun e => hne (by cases e; rfl))⟩
theorem Only.trans {b : Nat} {u v w : World} (h : Only b u v) (k : Only b v w) : Only b u w :=
  ⟨k.os.trans h.os, k.tape.trans h.tape, k.output.trans h.output, Nat.le_trans h.size k.size, fun j hj hne => (k.block j (Nat.lt_of_lt_of_le hj h.size) hne).trans (h.block j hj hne)⟩
theorem Only.below {b B : Nat} {w w' : World} (h : Only b w w') (hb : B ≤ b) (hB : B ≤ w.heap.size) : Below B w w' :=
  ⟨h.os, h.tape, h.output, h.size, fun k hk => h.block k (by omega) (by omega)⟩
theorem Only.cell {b : Nat} {w w' : World} (h : Only b w w') {p : Addr} (hp : p.block < w.heap.size) (hne : p.block ≠ b) : w'.cell? p = w.cell? p := World.cell?_of_block (w := w) (h.block p.block hp hne)
theorem RowAt.only {k : IntKind} {w w' : World} {b c : Nat} {t : TypeId} {ws : List Int} (h : RowAt k w b t ws) (ho : Only c w w') (hne : b ≠ c) : RowAt k w' b t ws := (ho.block b h.lt hne).trans h
theorem CsAt.only {w w' : World} {b c : Nat} {t : TypeId} {cs : Array Value} (h : CsAt w b t cs) (ho : Only c w w') (hne : b ≠ c) : CsAt w' b t cs := (ho.block b h.lt hne).trans h

/-! ### the map's keys -/
abbrev KT : TypeId := 76
theorem key_row : (KT : TypeId) < Try.prog.types.size := of_decide_eq_true (by kernel_rfl)
theorem key_wide : (match Try.prog.underlying KT with | some (.array _ _) | some (.struct _) => true | _ => false) = true := by rw [Try.underlying76]
theorem key_law : Maps.Keyed Try.prog KT := Maps.Keyed.of_law (deep_law_laid (by kernel_rfl) (m := 2) (by omega) key_row (by kernel_rfl) key_wide)
/-- The place of line i, and what it reads as. -/
def plV (i : Nat) : Value := .agg #[.int .i64 ((i / 64 : Nat) : Int), .int .i64 ((i % 64 : Nat) : Int)]
def plL (i : Nat) : Lit := .string (keyBytes [.int .i64 ((i / 64 : Nat) : Int), .int .i64 ((i % 64 : Nat) : Int)])
theorem key_ty : Try.prog.keyType KT = true := by kernel_rfl
theorem key_cells : Try.prog.cellsOf KT = 2 := by kernel_rfl
theorem wf_small {i : Nat} (h : i < 1000000) : (Lit.int .i64 (i : Int)).wf = true := by
  apply WalkArith.wf_i64
  omega
theorem keyLits_int {P : Program} {d : Nat} {t : TypeId} {q : IntKind} (ht : P.underlying t = some (.int q)) {a : Int} (hw : (Lit.int q a).wf = true) : P.keyLits (d + 1) t [.int q a] = some [.int q a] := by
  unfold Program.keyLits
  rw [ht]
  simp [hw]
theorem keyLits_pair {P : Program} {d : Nat} {t u : TypeId} {f g : Field} {q : IntKind} (ht : P.underlying t = some (.struct #[f, g])) (hc : P.cellsOf t = 2) (hf : f.type = u) (hg : g.type = u) (ho : f.offset = 0) (ho' : g.offset = 1)
    (hn : (#[f, g].all (·.name != "_")) = true) (hu : P.underlying u = some (.int q)) (hcu : P.cellsOf u = 1) {a b : Int} (ha : (Lit.int q a).wf = true) (hb : (Lit.int q b).wf = true) : P.keyLits (d + 2) t [.int q a, .int q b] = some [.int q a, .int q b] := by
  have e1 := keyLits_int (d := d) hu ha
  have e2 := keyLits_int (d := d) hu hb
  rw [Program.keyLits.eq_def]
  simp only [ht]
  rw [if_pos ⟨by simp [hc], hn⟩]
  simp [hf, hg, ho, ho', hcu, e1, e2]
theorem fuel_two {n k : Nat} (h : k < n) : ∃ d, n + 1 = d + 2 := ⟨n - 1, by omega⟩
theorem keyOf_pair {P : Program} {t u : TypeId} {f g : Field} {q : IntKind} (ht : P.underlying t = some (.struct #[f, g])) (hk : P.keyType t = true) (hrow : ∃ d, P.types.size + 1 = d + 2) (hc : P.cellsOf t = 2) (hf : f.type = u) (hg : g.type = u) (ho : f.offset = 0) (ho' : g.offset = 1)
    (hn : (#[f, g].all (·.name != "_")) = true) (hu : P.underlying u = some (.int q)) (hcu : P.cellsOf u = 1) {a b : Int} (ha : (Lit.int q a).wf = true) (hb : (Lit.int q b).wf = true) :
    keyOf P t (.agg #[.int q a, .int q b]) = some (.string (keyBytes [.int q a, .int q b])) := by
  obtain ⟨d, hd⟩ := hrow
  have hfm : (Value.agg #[.int q a, .int q b]).formed P t = true := by simp [Value.formed, ht, hc]
  have e := keyLits_pair (d := d) ht hc hf hg ho ho' hn hu hcu ha hb
  unfold keyOf
  rw [ht]
  simp only [hk, hfm, Bool.and_self, if_true, hd]
  show (P.keyLits (d + 2) t [.int q a, .int q b]).map _ = _
  rw [e]
  rfl
theorem key_of (i : Nat) (hi : i < 1000000) : keyOf Try.prog KT (plV i) = some (plL i) :=
  keyOf_pair Try.underlying76 key_ty (fuel_two key_row) key_cells rfl rfl rfl rfl (by decide +kernel) Try.underlying3 (by kernel_rfl) (wf_small (by omega)) (wf_small (by omega))
theorem plL_inj {i j : Nat} (hi : i < 1000000) (hj : j < 1000000) (h : plL i = plL j) : i = j := by
  have e := key_law.inj (key_of i hi) (h ▸ key_of j hj)
  simp only [plV, Value.agg.injEq] at e
  have e0 := congrArg (·[0]?) e
  have e1 := congrArg (·[1]?) e
  simp at e0 e1
  omega
theorem plL_key (i : Nat) (hi : i < 1000000) : WideAt.IsKeyLit (plL i) := key_law.key (key_of i hi)
end Go.Proofs.Ytdlollkieihjpaa
