/-
  What came in, opened: a cause.
-/
import Derived.Test.YtfjdalepaacmgaaDoorOwn
import Derived.Deep.Slices
import Derived.OpenShut
set_option maxRecDepth 20000
namespace Go.Proofs.YtfjdalepaacmgaaDoor
open Go.ChangeShapes Go.WideShapes Go.ChangeAt Go.RowKit

/-- cause.Cause. -/
structure Kc where
  i : Bool
  c : Int
abbrev Kc.cells (d : Kc) : Array Value := #[.bool d.i, .int .i64 d.c]
def Kc.zero : Kc := ⟨false, 0⟩
structure Kc.In (d : Kc) : Prop where
  c : -9223372036854775808 ≤ d.c ∧ d.c ≤ 9223372036854775807
section
variable {H : Type} {enc : TypeId × Value → H} {w : World} {base : Nat} {spare : Nat → Bool} {held : Bool}
theorem ca_kc_bool : Tryd.prog.cellsOf 4 = 1 := by kernel_rfl
theorem ca_kc_int : Tryd.prog.cellsOf 3 = 1 := by kernel_rfl
theorem ca_kc_cause_Cause : Tryd.prog.cellsOf 23 = 2 := by kernel_rfl
theorem open_Kc_C {cs : List Value} {fuel : Nat} {x : DataW H × List MemPlace} (hlen : cs.length = 2) (hf : DataW.trod enc Tryd.prog w base spare held fuel 23 cs = some x) :
    ∃ d : Kc, cs = d.cells.toList ∧ d.In := by
  obtain ⟨xs, nn, _, hx, _, hxl, hg⟩ := DataW.trod_struct Tryd.underlying23 hf
  have h0 := hg 0 _ rfl
  have h1 := hg 1 _ rfl
  obtain ⟨x0, e0⟩ : ∃ x, xs[0]? = some x := ⟨xs[0]'(by rw [hxl]; decide), List.getElem?_eq_getElem _⟩
  obtain ⟨x1, e1⟩ : ∃ x, xs[1]? = some x := ⟨xs[1]'(by rw [hxl]; decide), List.getElem?_eq_getElem _⟩
  change DataW.trod enc Tryd.prog w base spare held nn 4 (List.take (Tryd.prog.cellsOf 4) (List.drop 0 _)) = _ at h0
  rw [ca_kc_bool, e0] at h0
  change DataW.trod enc Tryd.prog w base spare held nn 3 (List.take (Tryd.prog.cellsOf 3) (List.drop 1 _)) = _ at h1
  rw [ca_kc_int, e1] at h1
  match cs, hlen with
  | [v0, v1], _ =>
    simp only [List.drop_zero, List.drop_succ_cons, List.take_succ_cons, List.take_zero] at h0 h1
    obtain ⟨a0, p0, -⟩ := DataW.trod_bool Tryd.underlying4 h0
    simp only [List.cons.injEq, and_true] at p0
    subst p0
    obtain ⟨a1, p1, -, q1⟩ := DataW.trod_int Tryd.underlying3 h1
    simp only [List.cons.injEq, and_true] at p1
    subst p1
    exact ⟨⟨a0, a1⟩, rfl, ⟨bounds_i64 q1⟩⟩
theorem open_Kc {r : Reach} {b0 : Nat} {v : Value} {d : DataW H} {ps : List MemPlace} (hval : Value.okWide Tryd.prog w r b0 23 v) (hd : DataW.Trod enc Tryd.prog w base spare held 23 v d ps) :
    ∃ q : Kc, v = .agg q.cells ∧ q.In := by
  simp only [Value.okWide, Tryd.underlying23] at hval
  obtain ⟨cs, rfl, hsz, _⟩ := hval
  obtain ⟨fuel, hf⟩ := hd
  rw [ca_kc_cause_Cause] at hsz
  obtain ⟨q, hq, hin⟩ := open_Kc_C (cs := cs.toList) (by simpa using hsz) hf
  refine ⟨q, ?_, hin⟩
  congr 1
  exact Array.ext' hq
end
end Go.Proofs.YtfjdalepaacmgaaDoor
