/-
  What came in, opened: ints, bools, a deed, deeds (layer 12).
-/
import Derived.Test.YtgegahnjhaldeaaOpenLk
set_option maxRecDepth 4000
namespace Go.Proofs.Ytgegahnjhaldeaa
open Go.ChangeShapes Go.WideShapes Go.ChangeAt Go.RowKit

/-- A deed. -/
structure Dd where
  drop : Bool
  who : Int
  lock : Int
abbrev Dd.cells (d : Dd) : Array Value := #[.bool d.drop, .int .i64 d.who, .int .i64 d.lock]
def dd0 : Dd := ⟨false, 0, 0⟩
structure Dd.In (d : Dd) : Prop where
  who : InI d.who
  lock : InI d.lock
/-- Deeds that came in. -/
structure Dds (w : World) (ao : Option Addr) (n : Nat) (l : List Dd) : Prop where
  len : l.length = n
  max : n ≤ 9223372036854775807
  each : ∀ j, j < n → (l.getD j dd0).In
  at_ : 0 < n → ∃ b off, ao = some ⟨b, off, none⟩ ∧ b < w.heap.size ∧ ∀ j, j < n → ∀ f, f < 3 → w.cell? ⟨b, off + j * 3 + f, none⟩ = (l.getD j dd0).cells[f]?
theorem Dds.low {w W : World} {ao : Option Addr} {n : Nat} {l : List Dd} (h : Dds w ao n l) (hb : Below w.heap.size w W) : Dds W ao n l :=
  ⟨h.len, h.max, h.each, fun hn => by
    obtain ⟨b, off, ha, hlt, hc⟩ := h.at_ hn
    exact ⟨b, off, ha, Nat.lt_of_lt_of_le hlt hb.size, fun j hj f hf => (hb.cell (p := ⟨b, off + j * 3 + f, none⟩) hlt).trans (hc j hj f hf)⟩⟩
/-- Bools that came in. -/
structure Bools (w : World) (ao : Option Addr) (n : Nat) (l : List Bool) : Prop where
  len : l.length = n
  max : n ≤ 9223372036854775807
  at_ : 0 < n → ∃ b off, ao = some ⟨b, off, none⟩ ∧ b < w.heap.size ∧ ∀ j, j < n → w.cell? ⟨b, off + j, none⟩ = some (.bool (l.getD j false))
theorem InInts.low {w W : World} {p : Option Addr} {cap : Nat} {l : List Int} (h : InInts w p cap l) (hb : Below w.heap.size w W) : InInts W p cap l := ⟨h.vw.low hb, h.nil, h.max, h.rng⟩
section
variable {H : Type} {enc : TypeId × Value → H} {w : World} {base : Nat} {spare : Nat → Bool} {held : Bool}
theorem open_intsl {r : Reach} {b0 : Nat} {v : Value} {d : DataW H} {ps : List MemPlace} (hval : Value.okWide Try.prog w r b0 36 v) (hd : DataW.Trod enc Try.prog w base spare held 36 v d ps) :
    ∃ p cap l, v = .slice p (List.length l) cap ∧ InInts w p cap l := by
  obtain ⟨ao, n, cap, rfl⟩ := okWide_slice Try.underlying36 hval
  obtain ⟨fuel, hf⟩ := hd
  exact open_intsC hf
theorem kc_int : Try.prog.cellsOf 3 = 1 := by kernel_rfl
theorem kc_bool : Try.prog.cellsOf 4 = 1 := by kernel_rfl
theorem kc_deed : Try.prog.cellsOf 24 = 3 := by kernel_rfl
theorem open_ddC {cs : List Value} {fuel : Nat} {x : DataW H × List MemPlace} (hlen : cs.length = 3) (hf : DataW.trod enc Try.prog w base spare held fuel 24 cs = some x) :
    ∃ d : Dd, cs = d.cells.toList ∧ d.In := by
  obtain ⟨xs, nn, _, hx, _, hxl, hg⟩ := DataW.trod_struct Try.underlying24 hf
  have h0 := hg 0 _ rfl
  have h1 := hg 1 _ rfl
  have h2 := hg 2 _ rfl
  obtain ⟨x0, e0⟩ : ∃ x, xs[0]? = some x := ⟨xs[0]'(by rw [hxl]; decide), List.getElem?_eq_getElem _⟩
  obtain ⟨x1, e1⟩ : ∃ x, xs[1]? = some x := ⟨xs[1]'(by rw [hxl]; decide), List.getElem?_eq_getElem _⟩
  obtain ⟨x2, e2⟩ : ∃ x, xs[2]? = some x := ⟨xs[2]'(by rw [hxl]; decide), List.getElem?_eq_getElem _⟩
  change DataW.trod enc Try.prog w base spare held nn 4 (List.take (Try.prog.cellsOf 4) (List.drop 0 _)) = _ at h0
  change DataW.trod enc Try.prog w base spare held nn 3 (List.take (Try.prog.cellsOf 3) (List.drop 1 _)) = _ at h1
  change DataW.trod enc Try.prog w base spare held nn 3 (List.take (Try.prog.cellsOf 3) (List.drop 2 _)) = _ at h2
  rw [kc_bool, e0] at h0
  rw [kc_int, e1] at h1
  rw [kc_int, e2] at h2
  match cs, hlen with
  | [v0, v1, v2], _ =>
    simp only [List.drop_zero, List.drop_succ_cons, List.take_succ_cons, List.take_zero] at h0 h1 h2
    obtain ⟨a0, p0, -⟩ := DataW.trod_bool Try.underlying4 h0
    obtain ⟨a1, p1, -, q1⟩ := DataW.trod_int Try.underlying3 h1
    obtain ⟨a2, p2, -, q2⟩ := DataW.trod_int Try.underlying3 h2
    simp only [List.cons.injEq, and_true] at p0 p1 p2
    subst p0 p1 p2
    exact ⟨⟨a0, a1, a2⟩, rfl, bounds_i64 q1, bounds_i64 q2⟩
theorem open_deed {r : Reach} {b0 : Nat} {v : Value} {d : DataW H} {ps : List MemPlace} (hval : Value.okWide Try.prog w r b0 24 v) (hd : DataW.Trod enc Try.prog w base spare held 24 v d ps) :
    ∃ q : Dd, v = .agg q.cells ∧ q.In := by
  simp only [Value.okWide, Try.underlying24] at hval
  obtain ⟨cs, rfl, hsz, _⟩ := hval
  obtain ⟨fuel, hf⟩ := hd
  rw [kc_deed] at hsz
  obtain ⟨q, hq, hin⟩ := open_ddC (cs := cs.toList) (by simpa using hsz) hf
  refine ⟨q, ?_, hin⟩
  congr 1
  exact Array.ext' hq
theorem open_deeds {r : Reach} {b0 : Nat} {v : Value} {d : DataW H} {ps : List MemPlace} (hval : Value.okWide Try.prog w r b0 22 v) (hd : DataW.Trod enc Try.prog w base spare held 22 v d ps) :
    ∃ ao n cap l, v = .slice ao n cap ∧ Dds w ao n l := by
  obtain ⟨ao, n, cap, rfl⟩ := okWide_slice Try.underlying22 hval
  obtain ⟨fuel, hf⟩ := hd
  rcases Go.Deep.open_slice Try.underlying22 hf with ⟨hcs, _⟩ | ⟨a, len, cap', m, nf, D, Pl, hcs, hb, hl, hm, hmm, _, hel⟩
  · simp [Value.cells] at hcs
    obtain ⟨rfl, rfl, rfl⟩ := hcs
    exact ⟨_, _, _, [], rfl, rfl, by omega, fun j hj => by omega, fun h => by omega⟩
  · simp [Value.cells] at hcs
    obtain ⟨rfl, rfl, rfl⟩ := hcs
    have hmn : n ≤ m := by rw [hmm]; split <;> omega
    have key : ∀ i, i < n → ∃ q : Dd, (∀ f, f < 3 → w.cell? ((a.add (i * 3)).add f) = q.cells[f]?) ∧ q.In := by
      intro i hi
      obtain ⟨cs', hc, htr⟩ := hel i (by omega)
      rw [kc_deed] at hc
      obtain ⟨_, hlen, hat⟩ := World.cells?_some hc
      obtain ⟨q, hq, hin⟩ := open_ddC hlen htr
      refine ⟨q, fun f hf => ?_, hin⟩
      rw [hat f (by omega), hq]
      simp
    by_cases hn0 : n = 0
    · subst hn0
      exact ⟨_, _, _, [], rfl, rfl, by omega, fun j hj => by omega, fun h => by omega⟩
    · haveI : Inhabited Dd := ⟨dd0⟩
      obtain ⟨f, hf⟩ := Go.Deep.choose_lt key
      have hz := (hf 0 (by omega)).1 0 (by omega)
      have hz' : w.cell? ((a.add (0 * 3)).add 0) = some (.bool (f 0).drop) := hz
      have hsp : a.spot = none := by
        have := World.cell?_spot hz'
        simpa [Addr.add] using this
      obtain ⟨b, off, sp⟩ := a
      simp only at hsp
      subst hsp
      have hget : ∀ j, j < n → ((List.range n).map f).getD j dd0 = f j := by
        intro j hj
        simp [List.getD, hj]
      have hlt : b < w.heap.size := by
        rw [add_plain, add_plain] at hz'
        exact block_lt_of_cell hz'
      refine ⟨_, _, _, (List.range n).map f, rfl, by simp, by unfold maxLen at hm; omega, fun j hj => by rw [hget j hj]; exact (hf j hj).2, fun _ => ⟨b, off, rfl, hlt, fun j hj g hg => ?_⟩⟩
      rw [hget j hj, ← (hf j hj).1 g hg, add_plain, add_plain]
theorem open_bools {r : Reach} {b0 : Nat} {v : Value} {d : DataW H} {ps : List MemPlace} (hval : Value.okWide Try.prog w r b0 46 v) (hd : DataW.Trod enc Try.prog w base spare held 46 v d ps) :
    ∃ ao n cap l, v = .slice ao n cap ∧ Bools w ao n l := by
  obtain ⟨ao, n, cap, rfl⟩ := okWide_slice Try.underlying46 hval
  obtain ⟨fuel, hf⟩ := hd
  rcases Go.Deep.open_slice Try.underlying46 hf with ⟨hcs, _⟩ | ⟨a, len, cap', m, nf, D, Pl, hcs, hb, hl, hm, hmm, _, hel⟩
  · simp [Value.cells] at hcs
    obtain ⟨rfl, rfl, rfl⟩ := hcs
    exact ⟨_, _, _, [], rfl, rfl, by omega, fun h => by omega⟩
  · simp [Value.cells] at hcs
    obtain ⟨rfl, rfl, rfl⟩ := hcs
    have hmn : n ≤ m := by rw [hmm]; split <;> omega
    have key : ∀ i, i < n → ∃ q : Bool, w.cell? (a.add i) = some (.bool q) := by
      intro i hi
      obtain ⟨cs', hc, htr⟩ := hel i (by omega)
      rw [kc_bool, Nat.mul_one] at hc
      obtain ⟨_, hlen, hat⟩ := World.cells?_some hc
      obtain ⟨q, rfl, -⟩ := DataW.trod_bool Try.underlying4 htr
      refine ⟨q, ?_⟩
      have := hat 0 (by omega)
      simpa [Addr.add] using this
    by_cases hn0 : n = 0
    · subst hn0
      exact ⟨_, _, _, [], rfl, rfl, by omega, fun h => by omega⟩
    · obtain ⟨f, hf⟩ := Go.Deep.choose_lt key
      have hz' := hf 0 (by omega)
      have hsp : a.spot = none := by
        have := World.cell?_spot hz'
        simpa [Addr.add] using this
      obtain ⟨b, off, sp⟩ := a
      simp only at hsp
      subst hsp
      have hlt : b < w.heap.size := by
        rw [add_plain] at hz'
        exact block_lt_of_cell hz'
      refine ⟨_, _, _, (List.range n).map f, rfl, by simp, by unfold maxLen at hm; omega, fun _ => ⟨b, off, rfl, hlt, fun j hj => ?_⟩⟩
      have := hf j hj
      rw [add_plain] at this
      rw [this]
      simp [List.getD, hj]
end
end Go.Proofs.Ytgegahnjhaldeaa
