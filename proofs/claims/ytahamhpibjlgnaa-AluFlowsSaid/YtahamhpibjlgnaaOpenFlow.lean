/-
  A Flow that came in, opened: three words and a number.
-/
import Derived.Test.YtahamhpibjlgnaaFrame
namespace Go.Proofs.Ytahamhpibjlgnaa
open Go.ChangeShapes Go.WideShapes Go.ChangeAt Go.RowKit

theorem open_flow {H : Type} {enc : TypeId × Value → H} {w : World} {r : Reach} {b0 base : Nat} {spare : Nat → Bool} {held : Bool} {v : Value} {d : DataW H} {ps : List MemPlace}
    (hval : Value.okWide Try.prog w r b0 30 v) (hd : DataW.Trod enc Try.prog w base spare held 30 v d ps) :
    ∃ (a0 a1 a2 a3 : Int), v = .agg #[.int .u64 a0, .int .u64 a1, .int .u64 a2, .int .i64 a3] ∧ (Lit.int .u64 a0).wf = true ∧ (Lit.int .u64 a1).wf = true ∧ (Lit.int .u64 a2).wf = true ∧ (Lit.int .i64 a3).wf = true := by
  have hs := Try.underlying30
  obtain ⟨cs, rfl, hsz⟩ := okWide_struct hs hval
  have hC : Try.prog.cellsOf 30 = 4 := by kernel_rfl
  have k0 : Try.prog.cellsOf 22 = 1 := by kernel_rfl
  have k3 : Try.prog.cellsOf 2 = 1 := by kernel_rfl
  obtain ⟨l⟩ := cs
  match l, hsz.trans hC with
  | [c0, c1, c2, c3], _ =>
    obtain ⟨fuel, hf⟩ := hd
    obtain ⟨xs, n, _, hx, _, hlen, hg⟩ := DataW.trod_struct hs hf
    have hsome : ∀ i, i < 4 → ∃ x, xs[i]? = some x := fun i hi => ⟨xs[i]'(by rw [hlen]; exact hi), List.getElem?_eq_getElem _⟩
    have h0 := hg 0 _ rfl
    have h1 := hg 1 _ rfl
    have h2 := hg 2 _ rfl
    have h3 := hg 3 _ rfl
    obtain ⟨x0, e0⟩ := hsome 0 (by decide)
    obtain ⟨x1, e1⟩ := hsome 1 (by decide)
    obtain ⟨x2, e2⟩ := hsome 2 (by decide)
    obtain ⟨x3, e3⟩ := hsome 3 (by decide)
    change DataW.trod enc Try.prog w base spare held n 22 (List.take (Try.prog.cellsOf 22) (List.drop 0 _)) = _ at h0
    change DataW.trod enc Try.prog w base spare held n 22 (List.take (Try.prog.cellsOf 22) (List.drop 1 _)) = _ at h1
    change DataW.trod enc Try.prog w base spare held n 22 (List.take (Try.prog.cellsOf 22) (List.drop 2 _)) = _ at h2
    change DataW.trod enc Try.prog w base spare held n 2 (List.take (Try.prog.cellsOf 2) (List.drop 3 _)) = _ at h3
    rw [k0, e0] at h0
    rw [k0, e1] at h1
    rw [k0, e2] at h2
    rw [k3, e3] at h3
    obtain ⟨a0, q0, -, w0⟩ := DataW.trod_int Try.underlying22 h0
    obtain ⟨a1, q1, -, w1⟩ := DataW.trod_int Try.underlying22 h1
    obtain ⟨a2, q2, -, w2⟩ := DataW.trod_int Try.underlying22 h2
    obtain ⟨a3, q3, -, w3⟩ := DataW.trod_int Try.underlying2 h3
    simp [Value.cells] at q0 q1 q2 q3
    subst q0 q1 q2 q3
    exact ⟨a0, a1, a2, a3, rfl, w0, w1, w2, w3⟩
end Go.Proofs.Ytahamhpibjlgnaa
