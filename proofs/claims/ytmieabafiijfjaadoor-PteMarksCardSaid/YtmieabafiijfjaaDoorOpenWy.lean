/-
  What came in, opened: a way.
-/
import Derived.Test.YtmieabafiijfjaaDoorOwn
import Derived.Deep.Slices
import Derived.OpenShut
set_option maxRecDepth 4000
namespace Go.Proofs.YtmieabafiijfjaaDoor
open Go.ChangeShapes Go.WideShapes Go.ChangeAt Go.RowKit

/-- roebucklaw25.Way. -/
structure Wy where
  acc : Int
  priv : Int
  sum : Bool
  mxr : Bool
abbrev Wy.cells (d : Wy) : Array Value := #[.int .i64 d.acc, .int .i64 d.priv, .bool d.sum, .bool d.mxr]
def Wy.zero : Wy := ⟨0, 0, false, false⟩
structure Wy.In (d : Wy) : Prop where
  acc : -9223372036854775808 ≤ d.acc ∧ d.acc ≤ 9223372036854775807
  priv : -9223372036854775808 ≤ d.priv ∧ d.priv ≤ 9223372036854775807
section
variable {H : Type} {enc : TypeId × Value → H} {w : World} {base : Nat} {spare : Nat → Bool} {held : Bool}
theorem wy_kc_int : Tryd.prog.cellsOf 3 = 1 := by kernel_rfl
theorem wy_kc_bool : Tryd.prog.cellsOf 4 = 1 := by kernel_rfl
theorem wy_kc_roebucklaw25_Way : Tryd.prog.cellsOf 24 = 4 := by kernel_rfl
theorem open_Wy_C {cs : List Value} {fuel : Nat} {x : DataW H × List MemPlace} (hlen : cs.length = 4) (hf : DataW.trod enc Tryd.prog w base spare held fuel 24 cs = some x) :
    ∃ d : Wy, cs = d.cells.toList ∧ d.In := by
  obtain ⟨xs, nn, _, hx, _, hxl, hg⟩ := DataW.trod_struct Tryd.underlying24 hf
  have h0 := hg 0 _ rfl
  have h1 := hg 1 _ rfl
  have h2 := hg 2 _ rfl
  have h3 := hg 3 _ rfl
  obtain ⟨x0, e0⟩ : ∃ x, xs[0]? = some x := ⟨xs[0]'(by rw [hxl]; decide), List.getElem?_eq_getElem _⟩
  obtain ⟨x1, e1⟩ : ∃ x, xs[1]? = some x := ⟨xs[1]'(by rw [hxl]; decide), List.getElem?_eq_getElem _⟩
  obtain ⟨x2, e2⟩ : ∃ x, xs[2]? = some x := ⟨xs[2]'(by rw [hxl]; decide), List.getElem?_eq_getElem _⟩
  obtain ⟨x3, e3⟩ : ∃ x, xs[3]? = some x := ⟨xs[3]'(by rw [hxl]; decide), List.getElem?_eq_getElem _⟩
  change DataW.trod enc Tryd.prog w base spare held nn 3 (List.take (Tryd.prog.cellsOf 3) (List.drop 0 _)) = _ at h0
  rw [wy_kc_int, e0] at h0
  change DataW.trod enc Tryd.prog w base spare held nn 3 (List.take (Tryd.prog.cellsOf 3) (List.drop 1 _)) = _ at h1
  rw [wy_kc_int, e1] at h1
  change DataW.trod enc Tryd.prog w base spare held nn 4 (List.take (Tryd.prog.cellsOf 4) (List.drop 2 _)) = _ at h2
  rw [wy_kc_bool, e2] at h2
  change DataW.trod enc Tryd.prog w base spare held nn 4 (List.take (Tryd.prog.cellsOf 4) (List.drop 3 _)) = _ at h3
  rw [wy_kc_bool, e3] at h3
  match cs, hlen with
  | [v0, v1, v2, v3], _ =>
    simp only [List.drop_zero, List.drop_succ_cons, List.take_succ_cons, List.take_zero] at h0 h1 h2 h3
    obtain ⟨a0, p0, -, q0⟩ := DataW.trod_int Tryd.underlying3 h0
    simp only [List.cons.injEq, and_true] at p0
    subst p0
    obtain ⟨a1, p1, -, q1⟩ := DataW.trod_int Tryd.underlying3 h1
    simp only [List.cons.injEq, and_true] at p1
    subst p1
    obtain ⟨a2, p2, -⟩ := DataW.trod_bool Tryd.underlying4 h2
    simp only [List.cons.injEq, and_true] at p2
    subst p2
    obtain ⟨a3, p3, -⟩ := DataW.trod_bool Tryd.underlying4 h3
    simp only [List.cons.injEq, and_true] at p3
    subst p3
    exact ⟨⟨a0, a1, a2, a3⟩, rfl, bounds_i64 q0, bounds_i64 q1⟩
theorem open_Wy {r : Reach} {b0 : Nat} {v : Value} {d : DataW H} {ps : List MemPlace} (hval : Value.okWide Tryd.prog w r b0 24 v) (hd : DataW.Trod enc Tryd.prog w base spare held 24 v d ps) :
    ∃ q : Wy, v = .agg q.cells ∧ q.In := by
  simp only [Value.okWide, Tryd.underlying24] at hval
  obtain ⟨cs, rfl, hsz, _⟩ := hval
  obtain ⟨fuel, hf⟩ := hd
  rw [wy_kc_roebucklaw25_Way] at hsz
  obtain ⟨q, hq, hin⟩ := open_Wy_C (cs := cs.toList) (by simpa using hsz) hf
  refine ⟨q, ?_, hin⟩
  congr 1
  exact Array.ext' hq
end
end Go.Proofs.YtmieabafiijfjaaDoor
