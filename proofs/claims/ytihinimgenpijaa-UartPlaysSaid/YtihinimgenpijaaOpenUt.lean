/-
  What came in, opened: deeds of layer 17.
-/
import Derived.Test.YtihinimgenpijaaOwn
import Derived.Deep.Slices
import Derived.OpenShut
set_option maxRecDepth 20000
namespace Go.Proofs.Ytihinimgenpijaa
open Go.ChangeShapes Go.WideShapes Go.ChangeAt Go.RowKit

/-- roebucklaw17.Deed. -/
structure Du where
  kind : Int
  off : Int
  b : Int
abbrev Du.cells (d : Du) : Array Value := #[.int .i64 d.kind, .int .u64 d.off, .int .u8 d.b]
def Du.zero : Du := ⟨0, 0, 0⟩
structure Du.In (d : Du) : Prop where
  kind : -9223372036854775808 ≤ d.kind ∧ d.kind ≤ 9223372036854775807
  off : 0 ≤ d.off ∧ d.off ≤ 18446744073709551615
  b : 0 ≤ d.b ∧ d.b ≤ 255
/-- A slice of such that came in. -/
structure Dus (w : World) (ao : Option Addr) (n : Nat) (l : List Du) : Prop where
  len : l.length = n
  max : n ≤ 9223372036854775807
  each : ∀ j, j < n → (l.getD j Du.zero).In
  at_ : 0 < n → ∃ b off, ao = some ⟨b, off, none⟩ ∧ b < w.heap.size ∧ ∀ j, j < n → ∀ f, f < 3 → w.cell? ⟨b, off + j * 3 + f, none⟩ = (l.getD j Du.zero).cells[f]?
theorem Dus.low {w W : World} {ao : Option Addr} {n : Nat} {l : List Du} (h : Dus w ao n l) (hb : Below w.heap.size w W) : Dus W ao n l :=
  ⟨h.len, h.max, h.each, fun hn => by
    obtain ⟨b, off, ha, hlt, hc⟩ := h.at_ hn
    exact ⟨b, off, ha, Nat.lt_of_lt_of_le hlt hb.size, fun j hj f hf => (hb.cell (p := ⟨b, off + j * 3 + f, none⟩) hlt).trans (hc j hj f hf)⟩⟩
section
variable {H : Type} {enc : TypeId × Value → H} {w : World} {base : Nat} {spare : Nat → Bool} {held : Bool}
theorem ut_kc_int : Try.prog.cellsOf 3 = 1 := by kernel_rfl
theorem ut_kc_uint64 : Try.prog.cellsOf 23 = 1 := by kernel_rfl
theorem ut_kc_uint8 : Try.prog.cellsOf 5 = 1 := by kernel_rfl
theorem ut_kc_roebucklaw17_Deed : Try.prog.cellsOf 25 = 3 := by kernel_rfl
theorem open_Du_C {cs : List Value} {fuel : Nat} {x : DataW H × List MemPlace} (hlen : cs.length = 3) (hf : DataW.trod enc Try.prog w base spare held fuel 25 cs = some x) :
    ∃ d : Du, cs = d.cells.toList ∧ d.In := by
  obtain ⟨xs, nn, _, hx, _, hxl, hg⟩ := DataW.trod_struct Try.underlying25 hf
  have h0 := hg 0 _ rfl
  have h1 := hg 1 _ rfl
  have h2 := hg 2 _ rfl
  obtain ⟨x0, e0⟩ : ∃ x, xs[0]? = some x := ⟨xs[0]'(by rw [hxl]; decide), List.getElem?_eq_getElem _⟩
  obtain ⟨x1, e1⟩ : ∃ x, xs[1]? = some x := ⟨xs[1]'(by rw [hxl]; decide), List.getElem?_eq_getElem _⟩
  obtain ⟨x2, e2⟩ : ∃ x, xs[2]? = some x := ⟨xs[2]'(by rw [hxl]; decide), List.getElem?_eq_getElem _⟩
  change DataW.trod enc Try.prog w base spare held nn 3 (List.take (Try.prog.cellsOf 3) (List.drop 0 _)) = _ at h0
  rw [ut_kc_int, e0] at h0
  change DataW.trod enc Try.prog w base spare held nn 23 (List.take (Try.prog.cellsOf 23) (List.drop 1 _)) = _ at h1
  rw [ut_kc_uint64, e1] at h1
  change DataW.trod enc Try.prog w base spare held nn 5 (List.take (Try.prog.cellsOf 5) (List.drop 2 _)) = _ at h2
  rw [ut_kc_uint8, e2] at h2
  match cs, hlen with
  | [v0, v1, v2], _ =>
    simp only [List.drop_zero, List.drop_succ_cons, List.take_succ_cons, List.take_zero] at h0 h1 h2
    obtain ⟨a0, p0, -, q0⟩ := DataW.trod_int Try.underlying3 h0
    simp only [List.cons.injEq, and_true] at p0
    subst p0
    obtain ⟨a1, p1, -, q1⟩ := DataW.trod_int Try.underlying23 h1
    simp only [List.cons.injEq, and_true] at p1
    subst p1
    obtain ⟨a2, p2, -, q2⟩ := DataW.trod_int Try.underlying5 h2
    simp only [List.cons.injEq, and_true] at p2
    subst p2
    exact ⟨⟨a0, a1, a2⟩, rfl, bounds_i64 q0, bounds_u64 q1, bounds_u8 q2⟩
theorem open_Du {r : Reach} {b0 : Nat} {v : Value} {d : DataW H} {ps : List MemPlace} (hval : Value.okWide Try.prog w r b0 25 v) (hd : DataW.Trod enc Try.prog w base spare held 25 v d ps) :
    ∃ q : Du, v = .agg q.cells ∧ q.In := by
  simp only [Value.okWide, Try.underlying25] at hval
  obtain ⟨cs, rfl, hsz, _⟩ := hval
  obtain ⟨fuel, hf⟩ := hd
  rw [ut_kc_roebucklaw17_Deed] at hsz
  obtain ⟨q, hq, hin⟩ := open_Du_C (cs := cs.toList) (by simpa using hsz) hf
  refine ⟨q, ?_, hin⟩
  congr 1
  exact Array.ext' hq
theorem open_DusC {v : Value} {fuel : Nat} {x : DataW H × List MemPlace} (hsl : ∃ ao n cap, v = .slice ao n cap) (hf : DataW.trod enc Try.prog w base spare held fuel 22 [v] = some x) :
    ∃ ao n cap l, v = .slice ao n cap ∧ Dus w ao n l := by
  obtain ⟨ao, n, cap, rfl⟩ := hsl
  rcases Go.Deep.open_slice Try.underlying22 hf with ⟨hcs, _⟩ | ⟨a, len, cap', m, nf, D, Pl, hcs, hb, hl, hm, hmm, _, hel⟩
  · simp at hcs
    obtain ⟨rfl, rfl, rfl⟩ := hcs
    exact ⟨_, _, _, [], rfl, rfl, by omega, fun j hj => by omega, fun h => by omega⟩
  · simp at hcs
    obtain ⟨rfl, rfl, rfl⟩ := hcs
    have hmn : n ≤ m := by rw [hmm]; split <;> omega
    have key : ∀ i, i < n → ∃ q : Du, (∀ f, f < 3 → w.cell? ((a.add (i * 3)).add f) = q.cells[f]?) ∧ q.In := by
      intro i hi
      obtain ⟨cs', hc, htr⟩ := hel i (by omega)
      rw [ut_kc_roebucklaw17_Deed] at hc
      obtain ⟨_, hlen, hat⟩ := World.cells?_some hc
      obtain ⟨q, hq, hin⟩ := open_Du_C hlen htr
      refine ⟨q, fun f hf => ?_, hin⟩
      rw [hat f (by omega), hq]
      simp
    by_cases hn0 : n = 0
    · subst hn0
      exact ⟨_, _, _, [], rfl, rfl, by omega, fun j hj => by omega, fun h => by omega⟩
    · haveI : Inhabited Du := ⟨Du.zero⟩
      obtain ⟨f, hf⟩ := Go.Deep.choose_lt key
      have hz := (hf 0 (by omega)).1 0 (by omega)
      have hz' : w.cell? ((a.add (0 * 3)).add 0) = some (.int .i64 (f 0).kind) := hz
      have hsp : a.spot = none := by
        have := World.cell?_spot hz'
        simpa [Addr.add] using this
      obtain ⟨b, off, sp⟩ := a
      simp only at hsp
      subst hsp
      have hget : ∀ j, j < n → ((List.range n).map f).getD j Du.zero = f j := by
        intro j hj
        simp [List.getD, hj]
      have hlt : b < w.heap.size := by
        rw [add_plain, add_plain] at hz'
        exact block_lt_of_cell hz'
      refine ⟨_, _, _, (List.range n).map f, rfl, by simp, by unfold maxLen at hm; omega, fun j hj => by rw [hget j hj]; exact (hf j hj).2, fun _ => ⟨b, off, rfl, hlt, fun j hj g hg => ?_⟩⟩
      rw [hget j hj, ← (hf j hj).1 g hg, add_plain, add_plain]
theorem open_Dus {r : Reach} {b0 : Nat} {v : Value} {d : DataW H} {ps : List MemPlace} (hval : Value.okWide Try.prog w r b0 22 v) (hd : DataW.Trod enc Try.prog w base spare held 22 v d ps) :
    ∃ ao n cap l, v = .slice ao n cap ∧ Dus w ao n l := by
  obtain ⟨ao, n, cap, rfl⟩ := okWide_slice Try.underlying22 hval
  obtain ⟨fuel, hf⟩ := hd
  exact open_DusC ⟨ao, n, cap, rfl⟩ hf
/-- Two deeds. -/
def d2V (p q : Du) : Array Value := p.cells ++ q.cells
theorem open_du2 {r : Reach} {b0 : Nat} {v : Value} {d : DataW H} {ps : List MemPlace} (hval : Value.okWide Try.prog w r b0 26 v) (hd : DataW.Trod enc Try.prog w base spare held 26 v d ps) :
    ∃ p q : Du, v = .agg (d2V p q) ∧ p.In ∧ q.In := by
  have hct : Try.prog.cellsOf 26 = 6 := by kernel_rfl
  have hce : Try.prog.cellsOf 25 = 3 := by kernel_rfl
  simp only [Value.okWide, Try.underlying26] at hval
  obtain ⟨cs, rfl, hsz, _⟩ := hval
  obtain ⟨fuel, hf⟩ := hd
  obtain ⟨xs, m, rfl, _, hl, hxl, hall⟩ := DataW.trod_array Try.underlying26 hf
  rw [hct] at hsz
  rw [hce] at hall
  have h0 := hall 0 (by omega)
  have h1 := hall 1 (by omega)
  obtain ⟨x0, hx0⟩ : ∃ x, xs[0]? = some x := ⟨xs[0]'(by omega), List.getElem?_eq_getElem _⟩
  obtain ⟨x1, hx1⟩ : ∃ x, xs[1]? = some x := ⟨xs[1]'(by omega), List.getElem?_eq_getElem _⟩
  rw [hx0] at h0
  rw [hx1] at h1
  obtain ⟨l⟩ := cs
  match l, hsz with
  | [a, b, c, d, e, f], _ =>
    obtain ⟨p, hp, pin⟩ := open_Du_C (cs := [a, b, c]) rfl h0
    obtain ⟨q, hq, qin⟩ := open_Du_C (cs := [d, e, f]) rfl h1
    refine ⟨p, q, ?_, pin, qin⟩
    simp at hp hq
    obtain ⟨rfl, rfl, rfl⟩ := hp
    obtain ⟨rfl, rfl, rfl⟩ := hq
    rfl
end
end Go.Proofs.Ytihinimgenpijaa
