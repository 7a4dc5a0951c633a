/-
  What came in, opened: a deed; a slice of deeds.
-/
import Derived.Test.YtdlollkieihjpaaRdC
import Derived.Test.YtdlollkieihjpaaFrame
import Derived.Deep.Slices
namespace Go.Proofs.Ytdlollkieihjpaa
open Go.ChangeShapes Go.WideShapes Go.ChangeAt Go.RowKit

/-- A deed that came in. -/
structure Deed.In (w : World) (d : Deed) : Prop where
  kind : -9223372036854775808 ≤ d.kind ∧ d.kind ≤ 9223372036854775807
  ad : 0 ≤ d.ad ∧ d.ad < 18446744073709551616
  nn : -9223372036854775808 ≤ d.nn ∧ d.nn ≤ 9223372036854775807
  v : 0 ≤ d.v ∧ d.v < 18446744073709551616
  cap : d.bs.length ≤ d.cp
  max : d.bs.length ≤ 9223372036854775807
  sl : SlAt w d.p d.bs
section
variable {H : Type} {enc : TypeId × Value → H} {w : World} {base : Nat} {spare : Nat → Bool} {held : Bool}
theorem open_bytesC {v : Value} {fuel : Nat} {x : DataW H × List MemPlace} (hf : DataW.trod enc Try.prog w base spare held fuel 24 [v] = some x) :
    ∃ p n cap bs, v = .slice p n cap ∧ List.length bs = n ∧ n ≤ cap ∧ n ≤ 9223372036854775807 ∧ SlAt w p bs := by
  rcases open_ints Try.underlying24 Try.underlying5 (by kernel_rfl) hf with ⟨hcs, _⟩ | ⟨a, n, cap, zs, hcs, hb, hl, hm, hz, -, hc, hw⟩
  · obtain rfl : v = .slice none 0 0 := by simpa using hcs
    exact ⟨_, _, _, [], rfl, rfl, Nat.le_refl _, by omega, fun X hX => absurd hX (by simp), .inl rfl⟩
  · obtain rfl : v = .slice (some a) n cap := by simpa using hcs
    have hzn : n ≤ zs.length := by rw [hz]; split <;> omega
    refine ⟨_, _, _, zs.take n, rfl, by simp; omega, hl, by unfold maxLen at hm; omega, fun x hx => bounds_u8 (hw x (List.mem_of_mem_take hx)), ?_⟩
    by_cases hn0 : n = 0
    · exact .inl (by subst hn0; simp)
    · have hsp : a.spot = none := by
        have := World.cell?_spot (hc 0 (by omega))
        simpa [Addr.add] using this
      obtain ⟨b, off, sp⟩ := a
      simp only at hsp
      subst hsp
      refine .inr ⟨b, off, rfl, ?_, fun j hj => ?_⟩
      · have h0 := hc 0 (by omega)
        rw [add_plainL] at h0
        exact block_lt_of_cell h0
      · have hj' : j < n := by simp at hj; omega
        have hjz : j < zs.length := by omega
        have h1 := hc j hjz
        rw [add_plainL] at h1
        rw [h1]
        simp [List.getD, hj', hjz]
theorem k_int : Try.prog.cellsOf 3 = 1 := by kernel_rfl
theorem k_u64 : Try.prog.cellsOf 23 = 1 := by kernel_rfl
theorem k_bs : Try.prog.cellsOf 24 = 1 := by kernel_rfl
theorem k_deed : Try.prog.cellsOf 26 = 5 := by kernel_rfl
theorem open_deedC {cs : List Value} {fuel : Nat} {x : DataW H × List MemPlace} (hlen : cs.length = 5) (hf : DataW.trod enc Try.prog w base spare held fuel 26 cs = some x) :
    ∃ d : Deed, cs = d.cells.toList ∧ d.In w := by
  obtain ⟨xs, nn, _, hx, _, hxl, hg⟩ := DataW.trod_struct Try.underlying26 hf
  have h0 := hg 0 _ rfl
  have h1 := hg 1 _ rfl
  have h2 := hg 2 _ rfl
  have h3 := hg 3 _ rfl
  have h4 := hg 4 _ rfl
  obtain ⟨x0, e0⟩ : ∃ x, xs[0]? = some x := ⟨xs[0]'(by rw [hxl]; decide), List.getElem?_eq_getElem _⟩
  obtain ⟨x1, e1⟩ : ∃ x, xs[1]? = some x := ⟨xs[1]'(by rw [hxl]; decide), List.getElem?_eq_getElem _⟩
  obtain ⟨x2, e2⟩ : ∃ x, xs[2]? = some x := ⟨xs[2]'(by rw [hxl]; decide), List.getElem?_eq_getElem _⟩
  obtain ⟨x3, e3⟩ : ∃ x, xs[3]? = some x := ⟨xs[3]'(by rw [hxl]; decide), List.getElem?_eq_getElem _⟩
  obtain ⟨x4, e4⟩ : ∃ x, xs[4]? = some x := ⟨xs[4]'(by rw [hxl]; decide), List.getElem?_eq_getElem _⟩
  change DataW.trod enc Try.prog w base spare held nn 3 (List.take (Try.prog.cellsOf 3) (List.drop 0 _)) = _ at h0
  change DataW.trod enc Try.prog w base spare held nn 23 (List.take (Try.prog.cellsOf 23) (List.drop 1 _)) = _ at h1
  change DataW.trod enc Try.prog w base spare held nn 3 (List.take (Try.prog.cellsOf 3) (List.drop 2 _)) = _ at h2
  change DataW.trod enc Try.prog w base spare held nn 23 (List.take (Try.prog.cellsOf 23) (List.drop 3 _)) = _ at h3
  change DataW.trod enc Try.prog w base spare held nn 24 (List.take (Try.prog.cellsOf 24) (List.drop 4 _)) = _ at h4
  rw [k_int, e0] at h0
  rw [k_u64, e1] at h1
  rw [k_int, e2] at h2
  rw [k_u64, e3] at h3
  rw [k_bs, e4] at h4
  match cs, hlen with
  | [v0, v1, v2, v3, v4], _ =>
    simp only [List.drop_zero, List.drop_succ_cons, List.take_succ_cons, List.take_zero] at h0 h1 h2 h3 h4
    obtain ⟨a0, p0, -, q0⟩ := DataW.trod_int Try.underlying3 h0
    obtain ⟨a1, p1, -, q1⟩ := DataW.trod_int Try.underlying23 h1
    obtain ⟨a2, p2, -, q2⟩ := DataW.trod_int Try.underlying3 h2
    obtain ⟨a3, p3, -, q3⟩ := DataW.trod_int Try.underlying23 h3
    obtain ⟨p, n, cap, bs, rfl, rfl, hc, hm, hs⟩ := open_bytesC h4
    simp only [List.cons.injEq, and_true] at p0 p1 p2 p3
    subst p0 p1 p2 p3
    have b0 := bounds_i64 q0
    have b1 := bounds_u64 q1
    have b2 := bounds_i64 q2
    have b3 := bounds_u64 q3
    exact ⟨⟨a0, a1, a2, a3, p, cap, bs⟩, rfl, ⟨b0, ⟨b1.1, show a1 < _ by omega⟩, b2, ⟨b3.1, show a3 < _ by omega⟩, hc, hm, hs⟩⟩
/-- The deeds in their block. -/
def d0 : Deed := ⟨0, 0, 0, 0, none, 0, []⟩
instance : Inhabited Deed := ⟨d0⟩
structure Deeds (w : World) (ao : Option Addr) (n : Nat) (l : List Deed) : Prop where
  len : l.length = n
  max : n ≤ 9223372036854775807
  each : ∀ j, j < n → (l.getD j d0).In w
  at_ : 0 < n → ∃ b off, ao = some ⟨b, off, none⟩ ∧ b < w.heap.size ∧ ∀ j, j < n → ∀ f, f < 5 → w.cell? ⟨b, off + j * 5 + f, none⟩ = (l.getD j d0).cells[f]?
theorem Deed.In.low {w W : World} {d : Deed} (h : d.In w) (hb : Below w.heap.size w W) : d.In W := ⟨h.kind, h.ad, h.nn, h.v, h.cap, h.max, h.sl.low hb⟩
theorem Deed.In.ok {w : World} {d : Deed} (h : d.In w) (hl : d.bs.length ≤ 500) : d.Ok := ⟨h.kind, h.ad, h.nn, h.v, hl, h.cap⟩
theorem Deed.In.apart {w : World} {d : Deed} (h : d.In w) {b c : Nat} (hb : w.heap.size ≤ b) (hc : w.heap.size ≤ c) : Apart d.p d.bs b c := by
  intro ne k off hp
  obtain ⟨k', off', hp', hlt, -⟩ := h.sl.at_.resolve_left ne
  rw [hp] at hp'
  cases hp'
  omega
theorem Deeds.low {w W : World} {ao : Option Addr} {n : Nat} {l : List Deed} (h : Deeds w ao n l) (hb : Below w.heap.size w W) : Deeds W ao n l :=
  ⟨h.len, h.max, fun j hj => (h.each j hj).low hb, fun hn => by
    obtain ⟨b, off, ha, hlt, hc⟩ := h.at_ hn
    exact ⟨b, off, ha, Nat.lt_of_lt_of_le hlt hb.size, fun j hj f hf => (hb.cell (p := ⟨b, off + j * 5 + f, none⟩) hlt).trans (hc j hj f hf)⟩⟩
theorem open_deed {r : Reach} {b0 : Nat} {v : Value} {d : DataW H} {ps : List MemPlace} (hval : Value.okWide Try.prog w r b0 26 v) (hd : DataW.Trod enc Try.prog w base spare held 26 v d ps) :
    ∃ q : Deed, v = .agg q.cells ∧ q.In w := by
  simp only [Value.okWide, Try.underlying26] at hval
  obtain ⟨cs, rfl, hsz, _⟩ := hval
  obtain ⟨fuel, hf⟩ := hd
  rw [k_deed] at hsz
  obtain ⟨q, hq, hin⟩ := open_deedC (cs := cs.toList) (by simpa using hsz) hf
  refine ⟨q, ?_, hin⟩
  congr 1
  exact Array.ext' hq
theorem open_deeds {r : Reach} {b0 : Nat} {v : Value} {d : DataW H} {ps : List MemPlace} (hval : Value.okWide Try.prog w r b0 22 v) (hd : DataW.Trod enc Try.prog w base spare held 22 v d ps) :
    ∃ ao n cap l, v = .slice ao n cap ∧ Deeds w ao n l := by
  obtain ⟨ao, n, cap, rfl⟩ := okWide_slice Try.underlying22 hval
  obtain ⟨fuel, hf⟩ := hd
  rcases Go.Deep.open_slice Try.underlying22 hf with ⟨hcs, _⟩ | ⟨a, len, cap', m, nf, D, Pl, hcs, hb, hl, hm, hmm, _, hel⟩
  · simp [Value.cells] at hcs
    obtain ⟨rfl, rfl, rfl⟩ := hcs
    exact ⟨_, _, _, [], rfl, rfl, by omega, fun j hj => by omega, fun h => by omega⟩
  · simp [Value.cells] at hcs
    obtain ⟨rfl, rfl, rfl⟩ := hcs
    have hmn : n ≤ m := by rw [hmm]; split <;> omega
    have key : ∀ i, i < n → ∃ q : Deed, (∀ f, f < 5 → w.cell? ((a.add (i * 5)).add f) = q.cells[f]?) ∧ q.In w := by
      intro i hi
      obtain ⟨cs', hc, htr⟩ := hel i (by omega)
      rw [k_deed] at hc
      obtain ⟨_, hlen, hat⟩ := World.cells?_some hc
      obtain ⟨q, hq, hin⟩ := open_deedC hlen htr
      refine ⟨q, fun f hf => ?_, hin⟩
      rw [hat f (by omega), hq]
      simp
    by_cases hn0 : n = 0
    · subst hn0
      exact ⟨_, _, _, [], rfl, rfl, by omega, fun j hj => by omega, fun h => by omega⟩
    · obtain ⟨f, hf⟩ := Go.Deep.choose_lt key
      have hz := (hf 0 (by omega)).1 0 (by omega)
      have hz' : w.cell? ((a.add (0 * 5)).add 0) = some (.int .i64 (f 0).kind) := hz
      have hsp : a.spot = none := by
        have := World.cell?_spot hz'
        simpa [Addr.add] using this
      obtain ⟨b, off, sp⟩ := a
      simp only at hsp
      subst hsp
      have hget : ∀ j, j < n → ((List.range n).map f).getD j d0 = f j := by
        intro j hj
        simp [List.getD, hj]
      have hlt : b < w.heap.size := by
        rw [add_plainL, add_plainL] at hz'
        exact block_lt_of_cell hz'
      refine ⟨_, _, _, (List.range n).map f, rfl, by simp, by unfold maxLen at hm; omega, fun j hj => by rw [hget j hj]; exact (hf j hj).2, fun _ => ⟨b, off, rfl, hlt, fun j hj g hg => ?_⟩⟩
      rw [hget j hj, ← (hf j hj).1 g hg, add_plainL, add_plainL]
end
end Go.Proofs.Ytdlollkieihjpaa
