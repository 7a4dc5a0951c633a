/-
  What came in, opened: eight slices of ints; a slice of bytes.
-/
import Derived.Test.YtgegahnjhaldeaaLkA
import Derived.Test.YtgegahnjhaldeaaOpenN
import Derived.Deep.Slices
set_option maxRecDepth 4000
namespace Go.Proofs.Ytgegahnjhaldeaa
open Go.ChangeShapes Go.WideShapes Go.ChangeAt Go.RowKit

section
variable {H : Type} {enc : TypeId × Value → H} {w : World} {base : Nat} {spare : Nat → Bool} {held : Bool}
/-- Ints that came in as a slice: where, with room for how many, which. -/
structure InInts (w : World) (p : Option Addr) (cap : Nat) (l : List Int) : Prop where
  vw : Vw w p (iV l)
  nil : p = none → cap = 0
  max : l.length ≤ 9223372036854775807
  rng : ∀ x ∈ l, InI x
theorem open_intsC {v : Value} {fuel : Nat} {x : DataW H × List MemPlace} (hf : DataW.trod enc Try.prog w base spare held fuel 36 [v] = some x) : ∃ p cap l, v = .slice p (List.length l) cap ∧ InInts w p cap l := by
  rcases open_ints Try.underlying36 Try.underlying3 (by kernel_rfl) hf with ⟨hcs, _⟩ | ⟨a, n, cap, zs, hcs, hb, hl, hm, hz, -, hc, hw⟩
  · obtain rfl : v = .slice none 0 0 := by simpa using hcs
    exact ⟨none, 0, [], rfl, .inl rfl, fun _ => rfl, by simp, fun X hX => absurd hX (by simp)⟩
  · obtain rfl : v = .slice (some a) n cap := by simpa using hcs
    have hzn : n ≤ zs.length := by rw [hz]; split <;> omega
    have htl : (zs.take n).length = n := by simp; omega
    refine ⟨some a, cap, zs.take n, by rw [htl], ?_, fun h => (by cases h), by rw [htl]; unfold maxLen at hm; omega, fun x hx => bounds_i64 (hw x (List.mem_of_mem_take hx))⟩
    by_cases hn0 : n = 0
    · exact .inl (by subst hn0; simp)
    · have hsp : a.spot = none := by
        have := World.cell?_spot (hc 0 (by omega))
        simpa [Addr.add] using this
      obtain ⟨b, off, sp⟩ := a
      simp only at hsp
      subst hsp
      refine .inr ⟨b, off, rfl, ?_, fun j u hj => ?_⟩
      · have h0 := hc 0 (by omega)
        rw [add_plain] at h0
        exact block_lt_of_cell h0
      · have hjl := (List.getElem?_eq_some_iff.1 hj).1
        rw [iV_len, htl] at hjl
        have h1 := hc j (by omega)
        rw [add_plain] at h1
        rw [h1, ← hj, List.getElem?_map, List.getElem?_take, if_pos (by omega), List.getD, List.getElem?_eq_getElem (by omega)]
        rfl
theorem open_needs {r : Reach} {b0 : Nat} {v : Value} {d : DataW H} {ps : List MemPlace} (hval : Value.okWide Try.prog w r b0 58 v) (hd : DataW.Trod enc Try.prog w base spare held 58 v d ps) :
    ∃ f : Nat → Option Addr × Nat × List Int, v = .agg ((List.range 8).map fun i => .slice (f i).1 (f i).2.2.length (f i).2.1).toArray ∧ ∀ i, i < 8 → InInts w (f i).1 (f i).2.1 (f i).2.2 := by
  have hct : Try.prog.cellsOf 58 = 8 := by kernel_rfl
  have hce : Try.prog.cellsOf 36 = 1 := by kernel_rfl
  simp only [Value.okWide, Try.underlying58] at hval
  obtain ⟨cs, rfl, hsz, _⟩ := hval
  obtain ⟨fuel, hf⟩ := hd
  obtain ⟨xs, m, rfl, _, hl, hxl, hall⟩ := DataW.trod_array Try.underlying58 hf
  rw [hct] at hsz
  rw [hce] at hall
  have key : ∀ i, ∃ q : Option Addr × Nat × List Int, ∀ hi : i < 8, cs.toList[i]'(by simpa [hsz] using hi) = .slice q.1 q.2.2.length q.2.1 ∧ InInts w q.1 q.2.1 q.2.2 := fun i => by
    by_cases hi : i < 8
    · have hi' : i < cs.toList.length := by simpa [hsz] using hi
      have h := hall i hi
      obtain ⟨x, hx⟩ : ∃ x, xs[i]? = some x := ⟨xs[i]'(by omega), List.getElem?_eq_getElem _⟩
      rw [hx, show (Value.agg cs).cells = cs from rfl, Nat.mul_one, List.drop_eq_getElem_cons hi', List.take_succ_cons, List.take_zero] at h
      obtain ⟨p, cap, l, e, hI⟩ := open_intsC h
      exact ⟨(p, cap, l), fun _ => ⟨e, hI⟩⟩
    · exact ⟨(none, 0, []), fun c => absurd c hi⟩
  refine ⟨fun i => Classical.choose (key i), ?_, fun i hi => (Classical.choose_spec (key i) hi).2⟩
  congr 1
  apply Array.ext
  · simp [hsz]
  · intro i h1 h2
    have hi : i < 8 := by omega
    have := (Classical.choose_spec (key i) hi).1
    simpa using this
theorem open_u8s {r : Reach} {b0 : Nat} {v : Value} {d : DataW H} {ps : List MemPlace} (hval : Value.okWide Try.prog w r b0 59 v) (hd : DataW.Trod enc Try.prog w base spare held 59 v d ps) : ∃ p n cap l, v = .slice p n cap ∧ Nums .u8 w p n l :=
  open_nums Try.underlying59 Try.underlying5 (by kernel_rfl) hval hd
end
end Go.Proofs.Ytgegahnjhaldeaa
