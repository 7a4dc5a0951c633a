/-
  What came in, opened: a slice of words; pieces as they are read.
-/
import Derived.Test.YtldpignnahokdaaOpenSp
import Derived.Test.YtldpignnahokdaaOpenN
import Derived.Test.YtldpignnahokdaaSpI
namespace Go.Proofs.Ytldpignnahokdaa
open Go.ChangeShapes Go.WideShapes Go.ChangeAt Go.RowKit

theorem open_u64s {H : Type} {enc : TypeId × Value → H} {w : World} {r : Reach} {b0 base : Nat} {spare : Nat → Bool} {held : Bool} {v : Value} {d : DataW H} {ps : List MemPlace}
    (hval : Value.okWide Try.prog w r b0 44 v) (hd : DataW.Trod enc Try.prog w base spare held 44 v d ps) : ∃ p n cap l, v = .slice p n cap ∧ Nums .u64 w p n l :=
  open_nums Try.underlying44 Try.underlying22 (by kernel_rfl) hval hd
theorem Pcs.vw {w : World} {ao : Option Addr} {n : Nat} {l : List Sp.P} (h : Pcs w ao n l) : Vw w ao (Sp.cellsOf l) := by
  by_cases hn : n = 0
  · exact .inl (by rw [List.eq_nil_of_length_eq_zero (l := l) (by rw [h.len, hn])]; rfl)
  · obtain ⟨b, off, ha, hlt, hc⟩ := h.at_ (by omega)
    refine .inr ⟨b, off, ha, hlt, fun j u hj => ?_⟩
    have hl := (List.getElem?_eq_some_iff.1 hj).1
    rw [Sp.cellsOf_len, h.len] at hl
    have hd := Nat.div_add_mod j 3
    have hm := Nat.mod_lt j (show 0 < 3 by omega)
    have e : j = j / 3 * 3 + j % 3 := by omega
    have hq : j / 3 < n := by omega
    have h1 := hc (j / 3) hq (j % 3) hm
    rw [show off + j = off + j / 3 * 3 + j % 3 by omega, h1, ← Sp.cellsOf_at l (j / 3) (j % 3) (by rw [h.len]; exact hq) hm, ← e]
    exact hj
end Go.Proofs.Ytldpignnahokdaa
