/-
  What the laws' frames share: an array of two integers that came in, opened (the program's knobs: FrameO).
-/
import Derived.Test.YtmieabafiijfjaaDoorFrameO
import Derived.WalkKit
import Derived.ProofKit
import Derived.OpenShut
import Derived.ShutString
import Derived.ChangeOld
import Derived.Below
set_option maxRecDepth 4000
namespace Go.Proofs.YtmieabafiijfjaaDoor
open Go.ChangeShapes Go.WideShapes Go.ChangeAt Go.RowKit

theorem open_arr2 {H : Type} {enc : TypeId × Value → H} {w : World} {r : Reach} {b0 base : Nat} {spare : Nat → Bool} {held : Bool} {t e : TypeId} {k : IntKind} {v : Value} {d : DataW H} {ps : List MemPlace}
    (ht : Tryd.prog.underlying t = some (.array 2 e)) (he : Tryd.prog.underlying e = some (.int k)) (hct : Tryd.prog.cellsOf t = 2) (hce : Tryd.prog.cellsOf e = 1)
    (hval : Value.okWide Tryd.prog w r b0 t v) (hd : DataW.Trod enc Tryd.prog w base spare held t v d ps) :
    ∃ a b, v = .agg #[.int k a, .int k b] ∧ (Lit.int k a).wf = true ∧ (Lit.int k b).wf = true := by
  simp only [Value.okWide, ht] at hval
  obtain ⟨cs, rfl, hsz, _⟩ := hval
  obtain ⟨fuel, hf⟩ := hd
  obtain ⟨xs, m, rfl, _, hl, hxl, hall⟩ := DataW.trod_array ht hf
  rw [hct] at hsz
  have h0 := hall 0 (by omega)
  have h1 := hall 1 (by omega)
  rw [hce] at h0 h1
  have hx0 : ∃ x, xs[0]? = some x := ⟨xs[0], by simp [hxl]⟩
  have hx1 : ∃ x, xs[1]? = some x := ⟨xs[1], by simp [hxl]⟩
  obtain ⟨x0, hx0⟩ := hx0
  obtain ⟨x1, hx1⟩ := hx1
  rw [hx0] at h0
  rw [hx1] at h1
  obtain ⟨a, ha, _, hwa⟩ := DataW.trod_int he h0
  obtain ⟨b, hb, _, hwb⟩ := DataW.trod_int he h1
  refine ⟨a, b, ?_, hwa, hwb⟩
  obtain ⟨l⟩ := cs
  match l, hsz with
  | [c0, c1], _ =>
    simp [Value.cells] at ha hb
    subst ha
    subst hb
    rfl
end Go.Proofs.YtmieabafiijfjaaDoor
