/-
  What came in, opened: an array of integers; a slice of deeds. What the listed variables give: the names in memory.
-/
import Derived.Test.YtbhmnkamfkadiaaDoorLive5
import Derived.Test.YtbhmnkamfkadiaaDoorRow
import Derived.Deep.Slices
namespace Go.Proofs.YtbhmnkamfkadiaaDoor
open Go.ChangeShapes Go.WideShapes Go.ChangeAt Go.RowKit

theorem open_arr {H : Type} {enc : TypeId × Value → H} {w : World} {r : Reach} {b0 base n : Nat} {spare : Nat → Bool} {held : Bool} {t e : TypeId} {k : IntKind} {v : Value} {d : DataW H} {ps : List MemPlace}
    (ht : Tryd.prog.underlying t = some (.array n e)) (he : Tryd.prog.underlying e = some (.int k)) (hct : Tryd.prog.cellsOf t = n) (hce : Tryd.prog.cellsOf e = 1)
    (hval : Value.okWide Tryd.prog w r b0 t v) (hd : DataW.Trod enc Tryd.prog w base spare held t v d ps) :
    ∃ ws : List Int, v = .agg (aV k ws) ∧ ws.length = n ∧ ∀ x ∈ ws, (Lit.int k x).wf = true := by
  simp only [Value.okWide, ht] at hval
  obtain ⟨cs, rfl, hsz, _⟩ := hval
  obtain ⟨fuel, hf⟩ := hd
  obtain ⟨xs, m, rfl, _, hl, hxl, hall⟩ := DataW.trod_array ht hf
  rw [hct] at hsz
  have key : ∀ i, i < n → ∃ a : Int, cs.toList[i]? = some (.int k a) ∧ (Lit.int k a).wf = true := by
    intro i hi
    have h0 := hall i (by omega)
    rw [hce] at h0
    obtain ⟨x0, hx0⟩ : ∃ x, xs[i]? = some x := ⟨xs[i]'(by omega), List.getElem?_eq_getElem _⟩
    rw [hx0] at h0
    obtain ⟨a, ha, _, hwa⟩ := DataW.trod_int he h0
    refine ⟨a, ?_, hwa⟩
    have h1 : ((cs.toList.drop (i * 1)).take 1)[0]? = some (.int k a) := by
      have : (Value.agg cs).cells = cs := rfl
      rw [this] at ha
      rw [ha]; rfl
    simpa using h1
  obtain ⟨f, hf⟩ := Go.Deep.choose_lt key
  refine ⟨(List.range n).map f, ?_, by simp, ?_⟩
  · congr 1
    apply Array.ext_getElem?
    intro i
    rw [aV_get]
    by_cases hi : i < n
    · have := (hf i hi).1
      simp [hi] at this ⊢
      exact this
    · simp [hi]; omega
  · intro x hx
    simp at hx
    obtain ⟨a, ha, rfl⟩ := hx
    exact (hf a ha).2
theorem u64_of {ws : List Int} (h : ∀ x ∈ ws, (Lit.int .u64 x).wf = true) : ∀ x ∈ ws, 0 ≤ x ∧ x ≤ 18446744073709551615 := fun x hx => bounds_u64 (h x hx)
theorem strs_of {H : Type} {enc : TypeId × Value → H} {W : World} {base n m g : Nat} {sp : Nat → Bool} {held : Bool} {t e : TypeId} {cs : Array Value} {v : String} {q : Nat → List UInt8} {ps : List MemPlace}
    (hg : Tryd.prog.globalNamed v = some g) (hv : W.var? Tryd.prog v = some cs) (ht : Tryd.prog.underlying t = some (.array n e)) (he : Tryd.prog.underlying e = some .string) (hc : Tryd.prog.cellsOf e = 1)
    (hd : DataW.trod enc Tryd.prog W base sp held m t cs.toList = some (.agg ((List.range n).map fun j => .lit (.string (q j))), ps)) (j : Nat) (hj : j < n) : W.cell? ⟨g, j, none⟩ = some (strR (q j)) := by
  obtain ⟨xs, m1, -, hx1, hlen, hn3, hel⟩ := DataW.trod_array ht hd
  simp only [Prod.mk.injEq, DataW.agg.injEq] at hx1
  have h0 := hel j hj
  rw [hc] at h0
  have hxj : xs[j]? = some (xs[j]'(by omega)) := List.getElem?_eq_getElem _
  rw [hxj] at h0
  obtain ⟨s, e1, e2, -⟩ := DataW.trod_string he h0
  have hl : (xs.map (·.1))[j]? = some (DataW.lit (.string (q j))) := by rw [← hx1.1]; simp [hj]
  rw [List.getElem?_map, hxj, e2] at hl
  simp at hl
  rw [World.var?_cell hg hv j]
  have hs : s = bsR (q j) := by
    obtain ⟨⟨l⟩⟩ := s
    simp only at hl
    subst hl
    rfl
  have : cs.toList[j]? = some (strR (q j)) := by
    have h1 : ((cs.toList.drop (j * 1)).take 1)[0]? = some (strR (q j)) := by rw [e1, hs]; rfl
    simpa using h1
  simpa using this
theorem of_laid5 {W : World} (h : laidMetH Tryd.prog laid5 W) : NamesAt W := by
  rw [MakeChecks.laidMetH_plain _ _ _ (by kernel_rfl)] at h
  obtain ⟨ps, ⟨_, _, _, _, _, _, _, _, _, _, ⟨_, _, _, _, _, _, _, _, _, _, ⟨_, _, _, _, _, _, _, _, _, _, ⟨g0, t0, cs0, f0, p0, q0, hg0, ht0, hv0, hd0, _, _⟩, _⟩, _⟩, _⟩, _, _⟩ := h
  obtain rfl := Option.some.inj (gNames.symm.trans hg0)
  obtain rfl := Option.some.inj (tNames.symm.trans ht0)
  rw [names_are] at hd0
  have cv := fun j hj => strs_of hg0 hv0 Tryd.underlying51 Tryd.underlying9 (by kernel_rfl) hd0 j hj
  exact ⟨Nat.succ_le_of_lt (by have := cv 0 (by decide); exact block_lt_of_cell this), cv⟩
end Go.Proofs.YtbhmnkamfkadiaaDoor
