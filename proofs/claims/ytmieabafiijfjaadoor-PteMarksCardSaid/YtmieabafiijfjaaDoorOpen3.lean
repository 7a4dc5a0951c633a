/-
  What came in, opened: an array of three integers.
-/
import Derived.Test.YtmieabafiijfjaaDoorRows
import Derived.WalkKit
import Derived.ProofKit
import Derived.OpenShut
import Derived.ShutString
import Derived.ChangeOld
import Derived.Below
set_option maxRecDepth 4000
namespace Go.Proofs.YtmieabafiijfjaaDoor
open Go.ChangeShapes Go.WideShapes Go.ChangeAt Go.RowKit

theorem open_arr3 {H : Type} {enc : TypeId × Value → H} {w : World} {r : Reach} {b0 base : Nat} {spare : Nat → Bool} {held : Bool} {t e : TypeId} {k : IntKind} {v : Value} {d : DataW H} {ps : List MemPlace}
    (ht : Tryd.prog.underlying t = some (.array 3 e)) (he : Tryd.prog.underlying e = some (.int k)) (hct : Tryd.prog.cellsOf t = 3) (hce : Tryd.prog.cellsOf e = 1)
    (hval : Value.okWide Tryd.prog w r b0 t v) (hd : DataW.Trod enc Tryd.prog w base spare held t v d ps) :
    ∃ a b c, v = .agg #[.int k a, .int k b, .int k c] ∧ (Lit.int k a).wf = true ∧ (Lit.int k b).wf = true ∧ (Lit.int k c).wf = true := by
  simp only [Value.okWide, ht] at hval
  obtain ⟨cs, rfl, hsz, _⟩ := hval
  obtain ⟨fuel, hf⟩ := hd
  obtain ⟨xs, m, rfl, _, hl, hxl, hall⟩ := DataW.trod_array ht hf
  rw [hct] at hsz
  have h0 := hall 0 (by omega)
  have h1 := hall 1 (by omega)
  have h2 := hall 2 (by omega)
  rw [hce] at h0 h1 h2
  have hx0 : ∃ x, xs[0]? = some x := ⟨xs[0], by simp [hxl]⟩
  have hx1 : ∃ x, xs[1]? = some x := ⟨xs[1], by simp [hxl]⟩
  have hx2 : ∃ x, xs[2]? = some x := ⟨xs[2], by simp [hxl]⟩
  obtain ⟨x0, hx0⟩ := hx0
  obtain ⟨x1, hx1⟩ := hx1
  obtain ⟨x2, hx2⟩ := hx2
  rw [hx0] at h0
  rw [hx1] at h1
  rw [hx2] at h2
  obtain ⟨a, ha, _, hwa⟩ := DataW.trod_int he h0
  obtain ⟨b, hb, _, hwb⟩ := DataW.trod_int he h1
  obtain ⟨c, hc, _, hwc⟩ := DataW.trod_int he h2
  refine ⟨a, b, c, ?_, hwa, hwb, hwc⟩
  obtain ⟨l⟩ := cs
  match l, hsz with
  | [c0, c1, c2], _ =>
    simp [Value.cells] at ha hb hc
    subst ha
    subst hb
    subst hc
    rfl
theorem open_i3 {H : Type} {enc : TypeId × Value → H} {w : World} {r : Reach} {b0 base : Nat} {spare : Nat → Bool} {held : Bool} {v : Value} {d : DataW H} {ps : List MemPlace}
    (hval : Value.okWide Tryd.prog w r b0 43 v) (hd : DataW.Trod enc Tryd.prog w base spare held 43 v d ps) :
    ∃ a b c, v = .agg #[.int .i64 a, .int .i64 b, .int .i64 c] ∧ (-9223372036854775808 ≤ a ∧ a ≤ 9223372036854775807) ∧ (-9223372036854775808 ≤ b ∧ b ≤ 9223372036854775807) ∧ (-9223372036854775808 ≤ c ∧ c ≤ 9223372036854775807) := by
  obtain ⟨a, b, c, h, x, y, z⟩ := open_arr3 Tryd.underlying43 Tryd.underlying3 (by kernel_rfl) (by kernel_rfl) hval hd
  exact ⟨a, b, c, h, bounds_i64 x, bounds_i64 y, bounds_i64 z⟩
theorem open_u3 {H : Type} {enc : TypeId × Value → H} {w : World} {r : Reach} {b0 base : Nat} {spare : Nat → Bool} {held : Bool} {v : Value} {d : DataW H} {ps : List MemPlace}
    (hval : Value.okWide Tryd.prog w r b0 35 v) (hd : DataW.Trod enc Tryd.prog w base spare held 35 v d ps) :
    ∃ a b c, v = .agg #[.int .u64 a, .int .u64 b, .int .u64 c] ∧ (0 ≤ a ∧ a ≤ 18446744073709551615) ∧ (0 ≤ b ∧ b ≤ 18446744073709551615) ∧ (0 ≤ c ∧ c ≤ 18446744073709551615) := by
  obtain ⟨a, b, c, h, x, y, z⟩ := open_arr3 Tryd.underlying35 Tryd.underlying22 (by kernel_rfl) (by kernel_rfl) hval hd
  exact ⟨a, b, c, h, bounds_u64 x, bounds_u64 y, bounds_u64 z⟩
end Go.Proofs.YtmieabafiijfjaaDoor
