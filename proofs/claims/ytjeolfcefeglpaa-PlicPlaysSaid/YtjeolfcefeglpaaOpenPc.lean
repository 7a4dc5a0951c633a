/-
  What came in, opened: deeds of layer 6..
-/
import Derived.Test.YtjeolfcefeglpaaOwn
import Derived.Deep.Slices
import Derived.OpenShut
set_option maxRecDepth 20000
namespace Go.Proofs.Ytjeolfcefeglpaa
open Go.ChangeShapes Go.WideShapes Go.ChangeAt Go.RowKit

/-- roebucklaw16.Deed. -/
structure Dp where
  kind : Int
  off : Int
  size : Int
  v : Int
abbrev Dp.cells (d : Dp) : Array Value := #[.int .i64 d.kind, .int .u64 d.off, .int .i64 d.size, .int .u64 d.v]
def Dp.zero : Dp := ⟨0, 0, 0, 0⟩
structure Dp.In (d : Dp) : Prop where
  kind : -9223372036854775808 ≤ d.kind ∧ d.kind ≤ 9223372036854775807
  off : 0 ≤ d.off ∧ d.off ≤ 18446744073709551615
  size : -9223372036854775808 ≤ d.size ∧ d.size ≤ 9223372036854775807
  v : 0 ≤ d.v ∧ d.v ≤ 18446744073709551615
/-- A slice of such that came in. -/
structure Dps (w : World) (ao : Option Addr) (n : Nat) (l : List Dp) : Prop where
  len : l.length = n
  max : n ≤ 9223372036854775807
  each : ∀ j, j < n → (l.getD j Dp.zero).In
  at_ : 0 < n → ∃ b off, ao = some ⟨b, off, none⟩ ∧ b < w.heap.size ∧ ∀ j, j < n → ∀ f, f < 4 → w.cell? ⟨b, off + j * 4 + f, none⟩ = (l.getD j Dp.zero).cells[f]?
theorem Dps.low {w W : World} {ao : Option Addr} {n : Nat} {l : List Dp} (h : Dps w ao n l) (hb : Below w.heap.size w W) : Dps W ao n l :=
  ⟨h.len, h.max, h.each, fun hn => by
    obtain ⟨b, off, ha, hlt, hc⟩ := h.at_ hn
    exact ⟨b, off, ha, Nat.lt_of_lt_of_le hlt hb.size, fun j hj f hf => (hb.cell (p := ⟨b, off + j * 4 + f, none⟩) hlt).trans (hc j hj f hf)⟩⟩
section
variable {H : Type} {enc : TypeId × Value → H} {w : World} {base : Nat} {spare : Nat → Bool} {held : Bool}
theorem pc_kc_int : Try.prog.cellsOf 3 = 1 := by kernel_rfl
theorem pc_kc_uint64 : Try.prog.cellsOf 24 = 1 := by kernel_rfl
theorem pc_kc_roebucklaw16_Deed : Try.prog.cellsOf 69 = 4 := by kernel_rfl
theorem open_Dp_C {cs : List Value} {fuel : Nat} {x : DataW H × List MemPlace} (hlen : cs.length = 4) (hf : DataW.trod enc Try.prog w base spare held fuel 69 cs = some x) :
    ∃ d : Dp, cs = d.cells.toList ∧ d.In := by
  obtain ⟨xs, nn, _, hx, _, hxl, hg⟩ := DataW.trod_struct Try.underlying69 hf
  have h0 := hg 0 _ rfl
  have h1 := hg 1 _ rfl
  have h2 := hg 2 _ rfl
  have h3 := hg 3 _ rfl
  obtain ⟨x0, e0⟩ : ∃ x, xs[0]? = some x := ⟨xs[0]'(by rw [hxl]; decide), List.getElem?_eq_getElem _⟩
  obtain ⟨x1, e1⟩ : ∃ x, xs[1]? = some x := ⟨xs[1]'(by rw [hxl]; decide), List.getElem?_eq_getElem _⟩
  obtain ⟨x2, e2⟩ : ∃ x, xs[2]? = some x := ⟨xs[2]'(by rw [hxl]; decide), List.getElem?_eq_getElem _⟩
  obtain ⟨x3, e3⟩ : ∃ x, xs[3]? = some x := ⟨xs[3]'(by rw [hxl]; decide), List.getElem?_eq_getElem _⟩
  change DataW.trod enc Try.prog w base spare held nn 3 (List.take (Try.prog.cellsOf 3) (List.drop 0 _)) = _ at h0
  rw [pc_kc_int, e0] at h0
  change DataW.trod enc Try.prog w base spare held nn 24 (List.take (Try.prog.cellsOf 24) (List.drop 1 _)) = _ at h1
  rw [pc_kc_uint64, e1] at h1
  change DataW.trod enc Try.prog w base spare held nn 3 (List.take (Try.prog.cellsOf 3) (List.drop 2 _)) = _ at h2
  rw [pc_kc_int, e2] at h2
  change DataW.trod enc Try.prog w base spare held nn 24 (List.take (Try.prog.cellsOf 24) (List.drop 3 _)) = _ at h3
  rw [pc_kc_uint64, e3] at h3
  match cs, hlen with
  | [v0, v1, v2, v3], _ =>
    simp only [List.drop_zero, List.drop_succ_cons, List.take_succ_cons, List.take_zero] at h0 h1 h2 h3
    obtain ⟨a0, p0, -, q0⟩ := DataW.trod_int Try.underlying3 h0
    simp only [List.cons.injEq, and_true] at p0
    subst p0
    obtain ⟨a1, p1, -, q1⟩ := DataW.trod_int Try.underlying24 h1
    simp only [List.cons.injEq, and_true] at p1
    subst p1
    obtain ⟨a2, p2, -, q2⟩ := DataW.trod_int Try.underlying3 h2
    simp only [List.cons.injEq, and_true] at p2
    subst p2
    obtain ⟨a3, p3, -, q3⟩ := DataW.trod_int Try.underlying24 h3
    simp only [List.cons.injEq, and_true] at p3
    subst p3
    exact ⟨⟨a0, a1, a2, a3⟩, rfl, bounds_i64 q0, bounds_u64 q1, bounds_i64 q2, bounds_u64 q3⟩
theorem open_Dp {r : Reach} {b0 : Nat} {v : Value} {d : DataW H} {ps : List MemPlace} (hval : Value.okWide Try.prog w r b0 69 v) (hd : DataW.Trod enc Try.prog w base spare held 69 v d ps) :
    ∃ q : Dp, v = .agg q.cells ∧ q.In := by
  simp only [Value.okWide, Try.underlying69] at hval
  obtain ⟨cs, rfl, hsz, _⟩ := hval
  obtain ⟨fuel, hf⟩ := hd
  rw [pc_kc_roebucklaw16_Deed] at hsz
  obtain ⟨q, hq, hin⟩ := open_Dp_C (cs := cs.toList) (by simpa using hsz) hf
  refine ⟨q, ?_, hin⟩
  congr 1
  exact Array.ext' hq
theorem open_DpsC {v : Value} {fuel : Nat} {x : DataW H × List MemPlace} (hsl : ∃ ao n cap, v = .slice ao n cap) (hf : DataW.trod enc Try.prog w base spare held fuel 54 [v] = some x) :
    ∃ ao n cap l, v = .slice ao n cap ∧ Dps w ao n l := by
  obtain ⟨ao, n, cap, rfl⟩ := hsl
  rcases Go.Deep.open_slice Try.underlying54 hf with ⟨hcs, _⟩ | ⟨a, len, cap', m, nf, D, Pl, hcs, hb, hl, hm, hmm, _, hel⟩
  · simp at hcs
    obtain ⟨rfl, rfl, rfl⟩ := hcs
    exact ⟨_, _, _, [], rfl, rfl, by omega, fun j hj => by omega, fun h => by omega⟩
  · simp at hcs
    obtain ⟨rfl, rfl, rfl⟩ := hcs
    have hmn : n ≤ m := by rw [hmm]; split <;> omega
    have key : ∀ i, i < n → ∃ q : Dp, (∀ f, f < 4 → w.cell? ((a.add (i * 4)).add f) = q.cells[f]?) ∧ q.In := by
      intro i hi
      obtain ⟨cs', hc, htr⟩ := hel i (by omega)
      rw [pc_kc_roebucklaw16_Deed] at hc
      obtain ⟨_, hlen, hat⟩ := World.cells?_some hc
      obtain ⟨q, hq, hin⟩ := open_Dp_C hlen htr
      refine ⟨q, fun f hf => ?_, hin⟩
      rw [hat f (by omega), hq]
      simp
    by_cases hn0 : n = 0
    · subst hn0
      exact ⟨_, _, _, [], rfl, rfl, by omega, fun j hj => by omega, fun h => by omega⟩
    · haveI : Inhabited Dp := ⟨Dp.zero⟩
      obtain ⟨f, hf⟩ := Go.Deep.choose_lt key
      have hz := (hf 0 (by omega)).1 0 (by omega)
      have hz' : w.cell? ((a.add (0 * 4)).add 0) = some (.int .i64 (f 0).kind) := hz
      have hsp : a.spot = none := by
        have := World.cell?_spot hz'
        simpa [Addr.add] using this
      obtain ⟨b, off, sp⟩ := a
      simp only at hsp
      subst hsp
      have hget : ∀ j, j < n → ((List.range n).map f).getD j Dp.zero = f j := by
        intro j hj
        simp [List.getD, hj]
      have hlt : b < w.heap.size := by
        rw [add_plain, add_plain] at hz'
        exact block_lt_of_cell hz'
      refine ⟨_, _, _, (List.range n).map f, rfl, by simp, by unfold maxLen at hm; omega, fun j hj => by rw [hget j hj]; exact (hf j hj).2, fun _ => ⟨b, off, rfl, hlt, fun j hj g hg => ?_⟩⟩
      rw [hget j hj, ← (hf j hj).1 g hg, add_plain, add_plain]
theorem open_Dps {r : Reach} {b0 : Nat} {v : Value} {d : DataW H} {ps : List MemPlace} (hval : Value.okWide Try.prog w r b0 54 v) (hd : DataW.Trod enc Try.prog w base spare held 54 v d ps) :
    ∃ ao n cap l, v = .slice ao n cap ∧ Dps w ao n l := by
  obtain ⟨ao, n, cap, rfl⟩ := okWide_slice Try.underlying54 hval
  obtain ⟨fuel, hf⟩ := hd
  exact open_DpsC ⟨ao, n, cap, rfl⟩ hf
end
end Go.Proofs.Ytjeolfcefeglpaa
