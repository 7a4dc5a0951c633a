/-
  What came in, opened: a slice of integers of any kind.
-/
import Derived.Test.YtihinimgenpijaaOwn
import Derived.Test.YtihinimgenpijaaFrameO
import Derived.Deep.Slices
set_option maxRecDepth 20000
namespace Go.Proofs.Ytihinimgenpijaa
open Go.ChangeShapes Go.WideShapes Go.ChangeAt Go.RowKit

/-- Integers that came in. -/
structure Nums (k : IntKind) (w : World) (ao : Option Addr) (n : Nat) (l : List Int) : Prop where
  len : l.length = n
  max : n ≤ 9223372036854775807
  each : ∀ x ∈ l, (Lit.int k x).wf = true
  vw : Vw w ao (l.map (Value.int k))
theorem Nums.low {k : IntKind} {w W : World} {ao : Option Addr} {n : Nat} {l : List Int} (h : Nums k w ao n l) (hb : Below w.heap.size w W) : Nums k W ao n l := ⟨h.len, h.max, h.each, h.vw.low hb⟩
theorem open_nums {H : Type} {enc : TypeId × Value → H} {w : World} {r : Reach} {b0 base : Nat} {spare : Nat → Bool} {held : Bool} {t e : TypeId} {k : IntKind} {v : Value} {d : DataW H} {ps : List MemPlace}
    (ht : Try.prog.underlying t = some (.slice e)) (he : Try.prog.underlying e = some (.int k)) (hce : Try.prog.cellsOf e = 1)
    (hval : Value.okWide Try.prog w r b0 t v) (hd : DataW.Trod enc Try.prog w base spare held t v d ps) : ∃ p n cap l, v = .slice p n cap ∧ Nums k w p n l := by
  obtain ⟨ao, n, cap, rfl⟩ := okWide_slice ht hval
  obtain ⟨fuel, hf⟩ := hd
  rcases open_ints ht he hce hf with ⟨hcs, _⟩ | ⟨a, len, cap', zs, hcs, hb, hl, hm, hz, -, hc, hw⟩
  · simp [Value.cells] at hcs
    obtain ⟨rfl, rfl, rfl⟩ := hcs
    exact ⟨_, _, _, [], rfl, rfl, by omega, fun X hX => absurd hX (by simp), .inl rfl⟩
  · simp [Value.cells] at hcs
    obtain ⟨rfl, rfl, rfl⟩ := hcs
    have hzn : n ≤ zs.length := by rw [hz]; split <;> omega
    refine ⟨_, _, _, zs.take n, rfl, by simp; omega, by unfold maxLen at hm; omega, fun x hx => hw x (List.mem_of_mem_take hx), ?_⟩
    by_cases hn0 : n = 0
    · exact .inl (by subst hn0; simp)
    · have hsp : a.spot = none := by
        have := World.cell?_spot (hc 0 (by omega))
        simpa [Addr.add] using this
      obtain ⟨b, off, sp⟩ := a
      simp only at hsp
      subst hsp
      refine .inr ⟨b, off, rfl, ?_, fun j u hj => ?_⟩
      · have h0 := hc 0 (by omega)
        rw [add_plain] at h0
        exact block_lt_of_cell h0
      · have hjl := (List.getElem?_eq_some_iff.1 hj).1
        rw [List.length_map, List.length_take] at hjl
        have h1 := hc j (by omega)
        rw [add_plain] at h1
        rw [h1, ← hj, List.getElem?_map, List.getElem?_take, if_pos (by omega), List.getD, List.getElem?_eq_getElem (by omega)]
        rfl
end Go.Proofs.Ytihinimgenpijaa
