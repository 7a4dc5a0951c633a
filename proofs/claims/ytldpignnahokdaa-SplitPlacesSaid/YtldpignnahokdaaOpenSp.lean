/-
  What came in, opened: an access; a slice of pieces; a slice of words.
-/
import Derived.Test.YtldpignnahokdaaSpC
import Derived.Test.YtldpignnahokdaaFrame
import Derived.Deep.Slices
namespace Go.Proofs.Ytldpignnahokdaa
open Go.ChangeShapes Go.WideShapes Go.ChangeAt Go.RowKit

section
variable {H : Type} {enc : TypeId × Value → H} {w : World} {base : Nat} {spare : Nat → Bool} {held : Bool}
theorem k_u64 : Try.prog.cellsOf 22 = 1 := by kernel_rfl
theorem k_int : Try.prog.cellsOf 3 = 1 := by kernel_rfl
theorem k_pc : Try.prog.cellsOf 39 = 3 := by kernel_rfl
theorem open_ax {r : Reach} {b0 : Nat} {v : Value} {d : DataW H} {ps : List MemPlace}
    (hval : Value.okWide Try.prog w r b0 24 v) (hd : DataW.Trod enc Try.prog w base spare held 24 v d ps) :
    ∃ (a0 a1 a2 a3 : Int), v = .agg (axV a0 a1 a2 a3) ∧ (0 ≤ a0 ∧ a0 < 18446744073709551616) ∧ (0 ≤ a1 ∧ a1 < 18446744073709551616) ∧ (-9223372036854775808 ≤ a2 ∧ a2 ≤ 9223372036854775807) ∧ (-9223372036854775808 ≤ a3 ∧ a3 ≤ 9223372036854775807) := by
  have hs := Try.underlying24
  obtain ⟨cs, rfl, hsz⟩ := okWide_struct hs hval
  have hC : Try.prog.cellsOf 24 = 4 := by kernel_rfl
  obtain ⟨l⟩ := cs
  match l, hsz.trans hC with
  | [c0, c1, c2, c3], _ =>
    obtain ⟨fuel, hf⟩ := hd
    obtain ⟨xs, n, _, hx, _, hlen, hg⟩ := DataW.trod_struct hs hf
    have hsome : ∀ i, i < 4 → ∃ x, xs[i]? = some x := fun i hi => ⟨xs[i]'(by rw [hlen]; exact hi), List.getElem?_eq_getElem _⟩
    have h0 := hg 0 _ rfl
    have h1 := hg 1 _ rfl
    have h2 := hg 2 _ rfl
    have h3 := hg 3 _ rfl
    obtain ⟨x0, e0⟩ := hsome 0 (by decide)
    obtain ⟨x1, e1⟩ := hsome 1 (by decide)
    obtain ⟨x2, e2⟩ := hsome 2 (by decide)
    obtain ⟨x3, e3⟩ := hsome 3 (by decide)
    change DataW.trod enc Try.prog w base spare held n 22 (List.take (Try.prog.cellsOf 22) (List.drop 0 _)) = _ at h0
    change DataW.trod enc Try.prog w base spare held n 22 (List.take (Try.prog.cellsOf 22) (List.drop 1 _)) = _ at h1
    change DataW.trod enc Try.prog w base spare held n 3 (List.take (Try.prog.cellsOf 3) (List.drop 2 _)) = _ at h2
    change DataW.trod enc Try.prog w base spare held n 3 (List.take (Try.prog.cellsOf 3) (List.drop 3 _)) = _ at h3
    rw [k_u64, e0] at h0
    rw [k_u64, e1] at h1
    rw [k_int, e2] at h2
    rw [k_int, e3] at h3
    obtain ⟨a0, q0, -, w0⟩ := DataW.trod_int Try.underlying22 h0
    obtain ⟨a1, q1, -, w1⟩ := DataW.trod_int Try.underlying22 h1
    obtain ⟨a2, q2, -, w2⟩ := DataW.trod_int Try.underlying3 h2
    obtain ⟨a3, q3, -, w3⟩ := DataW.trod_int Try.underlying3 h3
    simp [Value.cells] at q0 q1 q2 q3
    subst q0 q1 q2 q3
    have b0 := bounds_u64 w0
    have b1 := bounds_u64 w1
    exact ⟨a0, a1, a2, a3, rfl, by omega, by omega, bounds_i64 w2, bounds_i64 w3⟩
/-- A piece that came in. -/
structure Sp.P.In (p : Sp.P) : Prop where
  a : 0 ≤ p.a ∧ p.a < 18446744073709551616
  n : -9223372036854775808 ≤ p.n ∧ p.n ≤ 9223372036854775807
  s : -9223372036854775808 ≤ p.s ∧ p.s ≤ 9223372036854775807
theorem open_pcC {cs : List Value} {fuel : Nat} {x : DataW H × List MemPlace} (hlen : cs.length = 3) (hf : DataW.trod enc Try.prog w base spare held fuel 39 cs = some x) :
    ∃ d : Sp.P, cs = d.cells ∧ d.In := by
  obtain ⟨xs, nn, _, hx, _, hxl, hg⟩ := DataW.trod_struct Try.underlying39 hf
  have h0 := hg 0 _ rfl
  have h1 := hg 1 _ rfl
  have h2 := hg 2 _ rfl
  obtain ⟨x0, e0⟩ : ∃ x, xs[0]? = some x := ⟨xs[0]'(by rw [hxl]; decide), List.getElem?_eq_getElem _⟩
  obtain ⟨x1, e1⟩ : ∃ x, xs[1]? = some x := ⟨xs[1]'(by rw [hxl]; decide), List.getElem?_eq_getElem _⟩
  obtain ⟨x2, e2⟩ : ∃ x, xs[2]? = some x := ⟨xs[2]'(by rw [hxl]; decide), List.getElem?_eq_getElem _⟩
  change DataW.trod enc Try.prog w base spare held nn 22 (List.take (Try.prog.cellsOf 22) (List.drop 0 _)) = _ at h0
  change DataW.trod enc Try.prog w base spare held nn 3 (List.take (Try.prog.cellsOf 3) (List.drop 1 _)) = _ at h1
  change DataW.trod enc Try.prog w base spare held nn 3 (List.take (Try.prog.cellsOf 3) (List.drop 2 _)) = _ at h2
  rw [k_u64, e0] at h0
  rw [k_int, e1] at h1
  rw [k_int, e2] at h2
  match cs, hlen with
  | [v0, v1, v2], _ =>
    simp only [List.drop_zero, List.drop_succ_cons, List.take_succ_cons, List.take_zero] at h0 h1 h2
    obtain ⟨a0, p0, -, q0⟩ := DataW.trod_int Try.underlying22 h0
    obtain ⟨a1, p1, -, q1⟩ := DataW.trod_int Try.underlying3 h1
    obtain ⟨a2, p2, -, q2⟩ := DataW.trod_int Try.underlying3 h2
    simp only [List.cons.injEq, and_true] at p0 p1 p2
    subst p0 p1 p2
    have b0 := bounds_u64 q0
    exact ⟨⟨a0, a1, a2⟩, rfl, ⟨⟨b0.1, show a0 < _ by omega⟩, bounds_i64 q1, bounds_i64 q2⟩⟩
instance : Inhabited Sp.P := ⟨Sp.p0⟩
/-- The pieces in their block. -/
structure Pcs (w : World) (ao : Option Addr) (n : Nat) (l : List Sp.P) : Prop where
  len : l.length = n
  max : n ≤ 9223372036854775807
  each : ∀ j, j < n → (l.getD j Sp.p0).In
  at_ : 0 < n → ∃ b off, ao = some ⟨b, off, none⟩ ∧ b < w.heap.size ∧ ∀ j, j < n → ∀ f, f < 3 → w.cell? ⟨b, off + j * 3 + f, none⟩ = (l.getD j Sp.p0).cells[f]?
theorem Pcs.low {w W : World} {ao : Option Addr} {n : Nat} {l : List Sp.P} (h : Pcs w ao n l) (hb : Below w.heap.size w W) : Pcs W ao n l :=
  ⟨h.len, h.max, h.each, fun hn => by
    obtain ⟨b, off, ha, hlt, hc⟩ := h.at_ hn
    exact ⟨b, off, ha, Nat.lt_of_lt_of_le hlt hb.size, fun j hj f hf => (hb.cell (p := ⟨b, off + j * 3 + f, none⟩) hlt).trans (hc j hj f hf)⟩⟩
theorem open_pcs {r : Reach} {b0 : Nat} {v : Value} {d : DataW H} {ps : List MemPlace} (hval : Value.okWide Try.prog w r b0 33 v) (hd : DataW.Trod enc Try.prog w base spare held 33 v d ps) :
    ∃ ao n cap l, v = .slice ao n cap ∧ Pcs w ao n l := by
  obtain ⟨ao, n, cap, rfl⟩ := okWide_slice Try.underlying33 hval
  obtain ⟨fuel, hf⟩ := hd
  rcases Go.Deep.open_slice Try.underlying33 hf with ⟨hcs, _⟩ | ⟨a, len, cap', m, nf, D, Pl, hcs, hb, hl, hm, hmm, _, hel⟩
  · simp [Value.cells] at hcs
    obtain ⟨rfl, rfl, rfl⟩ := hcs
    exact ⟨_, _, _, [], rfl, rfl, by omega, fun j hj => by omega, fun h => by omega⟩
  · simp [Value.cells] at hcs
    obtain ⟨rfl, rfl, rfl⟩ := hcs
    have hmn : n ≤ m := by rw [hmm]; split <;> omega
    have key : ∀ i, i < n → ∃ q : Sp.P, (∀ f, f < 3 → w.cell? ((a.add (i * 3)).add f) = q.cells[f]?) ∧ q.In := by
      intro i hi
      obtain ⟨cs', hc, htr⟩ := hel i (by omega)
      rw [k_pc] at hc
      obtain ⟨_, hlen, hat⟩ := World.cells?_some hc
      obtain ⟨q, hq, hin⟩ := open_pcC hlen htr
      refine ⟨q, fun f hf => ?_, hin⟩
      rw [hat f (by omega), hq]
    by_cases hn0 : n = 0
    · subst hn0
      exact ⟨_, _, _, [], rfl, rfl, by omega, fun j hj => by omega, fun h => by omega⟩
    · obtain ⟨f, hf⟩ := Go.Deep.choose_lt key
      have hz := (hf 0 (by omega)).1 0 (by omega)
      have hz' : w.cell? ((a.add (0 * 3)).add 0) = some (.int .u64 (f 0).a) := hz
      have hsp : a.spot = none := by
        have := World.cell?_spot hz'
        simpa [Addr.add] using this
      obtain ⟨b, off, sp⟩ := a
      simp only at hsp
      subst hsp
      have hget : ∀ j, j < n → ((List.range n).map f).getD j Sp.p0 = f j := by
        intro j hj
        simp [List.getD, hj]
      have hlt : b < w.heap.size := by
        rw [add_plain, add_plain] at hz'
        exact block_lt_of_cell hz'
      refine ⟨_, _, _, (List.range n).map f, rfl, by simp, by unfold maxLen at hm; omega, fun j hj => by rw [hget j hj]; exact (hf j hj).2, fun _ => ⟨b, off, rfl, hlt, fun j hj g hg => ?_⟩⟩
      rw [hget j hj, ← (hf j hj).1 g hg, add_plain, add_plain]
end
end Go.Proofs.Ytldpignnahokdaa
