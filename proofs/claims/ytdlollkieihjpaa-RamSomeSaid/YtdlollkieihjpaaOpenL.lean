/-
  What came in, opened: an array of integers; a slice of bytes.
-/
import Derived.Test.YtdlollkieihjpaaLnC
import Derived.Test.YtdlollkieihjpaaFrame
import Derived.Deep.Slices
namespace Go.Proofs.Ytdlollkieihjpaa
open Go.ChangeShapes Go.WideShapes Go.ChangeAt Go.RowKit

theorem open_arr {H : Type} {enc : TypeId × Value → H} {w : World} {r : Reach} {b0 base n : Nat} {spare : Nat → Bool} {held : Bool} {t e : TypeId} {k : IntKind} {v : Value} {d : DataW H} {ps : List MemPlace}
    (ht : Try.prog.underlying t = some (.array n e)) (he : Try.prog.underlying e = some (.int k)) (hct : Try.prog.cellsOf t = n) (hce : Try.prog.cellsOf e = 1)
    (hval : Value.okWide Try.prog w r b0 t v) (hd : DataW.Trod enc Try.prog w base spare held t v d ps) :
    ∃ ws : List Int, v = .agg (aV k ws) ∧ ws.length = n ∧ ∀ x ∈ ws, (Lit.int k x).wf = true := by
  simp only [Value.okWide, ht] at hval
  obtain ⟨cs, rfl, hsz, _⟩ := hval
  obtain ⟨fuel, hf⟩ := hd
  obtain ⟨xs, m, rfl, _, hl, hxl, hall⟩ := DataW.trod_array ht hf
  rw [hct] at hsz
  have key : ∀ i, i < n → ∃ a : Int, cs.toList[i]? = some (.int k a) ∧ (Lit.int k a).wf = true := by
    intro i hi
    have h0 := hall i (by omega)
    rw [hce] at h0
    obtain ⟨x0, hx0⟩ : ∃ x, xs[i]? = some x := ⟨xs[i]'(by omega), List.getElem?_eq_getElem _⟩
    rw [hx0] at h0
    obtain ⟨a, ha, _, hwa⟩ := DataW.trod_int he h0
    refine ⟨a, ?_, hwa⟩
    have h1 : ((cs.toList.drop (i * 1)).take 1)[0]? = some (.int k a) := by
      have : (Value.agg cs).cells = cs := rfl
      rw [this] at ha
      rw [ha]; rfl
    simpa using h1
  obtain ⟨f, hf⟩ := Go.Deep.choose_lt key
  refine ⟨(List.range n).map f, ?_, by simp, ?_⟩
  · congr 1
    apply Array.ext_getElem?
    intro i
    rw [aV_get]
    by_cases hi : i < n
    · have := (hf i hi).1
      simp [hi] at this ⊢
      exact this
    · simp [hi]; omega
  · intro x hx
    simp at hx
    obtain ⟨a, ha, rfl⟩ := hx
    exact (hf a ha).2
theorem add_plainL (b off j : Nat) : (⟨b, off, none⟩ : Addr).add j = ⟨b, off + j, none⟩ := by unfold Addr.add; split <;> simp_all
theorem open_bytes {H : Type} {enc : TypeId × Value → H} {w : World} {r : Reach} {b0 base : Nat} {spare : Nat → Bool} {held : Bool} {v : Value} {d : DataW H} {ps : List MemPlace}
    (hval : Value.okWide Try.prog w r b0 24 v) (hd : DataW.Trod enc Try.prog w base spare held 24 v d ps) : ∃ p n cap bs, v = .slice p n cap ∧ List.length bs = n ∧ n ≤ 9223372036854775807 ∧ SlAt w p bs := by
  obtain ⟨ao, n, cap, rfl⟩ := okWide_slice Try.underlying24 hval
  obtain ⟨fuel, hf⟩ := hd
  rcases open_ints Try.underlying24 Try.underlying5 (by kernel_rfl) hf with ⟨hcs, _⟩ | ⟨a, len, cap', zs, hcs, hb, hl, hm, hz, -, hc, hw⟩
  · simp [Value.cells] at hcs
    obtain ⟨rfl, rfl, rfl⟩ := hcs
    exact ⟨_, _, _, [], rfl, rfl, by omega, fun X hX => absurd hX (by simp), .inl rfl⟩
  · simp [Value.cells] at hcs
    obtain ⟨rfl, rfl, rfl⟩ := hcs
    have hzn : n ≤ zs.length := by rw [hz]; split <;> omega
    refine ⟨_, _, _, zs.take n, rfl, by simp; omega, by unfold maxLen at hm; omega, fun x hx => bounds_u8 (hw x (List.mem_of_mem_take hx)), ?_⟩
    by_cases hn0 : n = 0
    · exact .inl (by subst hn0; simp)
    · have hsp : a.spot = none := by
        have := World.cell?_spot (hc 0 (by omega))
        simpa [Addr.add] using this
      obtain ⟨b, off, sp⟩ := a
      simp only at hsp
      subst hsp
      refine .inr ⟨b, off, rfl, ?_, fun j hj => ?_⟩
      · have h0 := hc 0 (by omega)
        rw [add_plainL] at h0
        exact block_lt_of_cell h0
      · have hj' : j < n := by simp at hj; omega
        have hjz : j < zs.length := by omega
        have h1 := hc j hjz
        rw [add_plainL] at h1
        rw [h1]
        simp [List.getD, hj', hjz]
end Go.Proofs.Ytdlollkieihjpaa
