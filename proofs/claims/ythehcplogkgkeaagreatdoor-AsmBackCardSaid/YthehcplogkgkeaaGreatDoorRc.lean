/-
  An instruction that came in, opened: six integers and two bools.
-/
import Derived.Test.YthehcplogkgkeaaGreatDoorRa
set_option maxRecDepth 4000
namespace Go.Proofs.YthehcplogkgkeaaGreatDoor
open Go.ChangeShapes Go.WideShapes Go.ChangeAt Go.RowKit

theorem open_insnB {H : Type} {enc : TypeId × Value → H} {w : World} {r : Reach} {b0 base : Nat} {spare : Nat → Bool} {held : Bool} {v : Value} {d : DataW H} {ps : List MemPlace}
    (hval : Value.okWide Tryz.prog w r b0 24 v) (hd : DataW.Trod enc Tryz.prog w base spare held 24 v d ps) :
    ∃ (a0 a1 a2 a3 a4 a5 : Int) (b6 b7 : Bool), v = .agg #[.int .i64 a0, .int .i64 a1, .int .i64 a2, .int .i64 a3, .int .i64 a4, .int .i64 a5, .bool b6, .bool b7] ∧ (-9223372036854775808 ≤ a1 ∧ a1 ≤ 9223372036854775807) ∧ (-9223372036854775808 ≤ a2 ∧ a2 ≤ 9223372036854775807) ∧ (-9223372036854775808 ≤ a3 ∧ a3 ≤ 9223372036854775807) ∧ (-9223372036854775808 ≤ a4 ∧ a4 ≤ 9223372036854775807) ∧ (-9223372036854775808 ≤ a5 ∧ a5 ≤ 9223372036854775807) := by
  have hs := Tryz.underlying24
  obtain ⟨cs, rfl, hsz⟩ := okWide_struct hs hval
  have hC : Tryz.prog.cellsOf 24 = 8 := by kernel_rfl
  have k0 : Tryz.prog.cellsOf 22 = 1 := by kernel_rfl
  have k1 : Tryz.prog.cellsOf 3 = 1 := by kernel_rfl
  have k4 : Tryz.prog.cellsOf 2 = 1 := by kernel_rfl
  have k6 : Tryz.prog.cellsOf 4 = 1 := by kernel_rfl
  obtain ⟨l⟩ := cs
  match l, hsz.trans hC with
  | [c0, c1, c2, c3, c4, c5, c6, c7], _ =>
    obtain ⟨fuel, hf⟩ := hd
    obtain ⟨xs, n, _, hx, _, hlen, hg⟩ := DataW.trod_struct hs hf
    have hsome : ∀ i, i < 8 → ∃ x, xs[i]? = some x := fun i hi => ⟨xs[i]'(by rw [hlen]; exact hi), List.getElem?_eq_getElem _⟩
    have h0 := hg 0 _ rfl
    have h1 := hg 1 _ rfl
    have h2 := hg 2 _ rfl
    have h3 := hg 3 _ rfl
    have h4 := hg 4 _ rfl
    have h5 := hg 5 _ rfl
    have h6 := hg 6 _ rfl
    have h7 := hg 7 _ rfl
    obtain ⟨x0, e0⟩ := hsome 0 (by decide)
    obtain ⟨x1, e1⟩ := hsome 1 (by decide)
    obtain ⟨x2, e2⟩ := hsome 2 (by decide)
    obtain ⟨x3, e3⟩ := hsome 3 (by decide)
    obtain ⟨x4, e4⟩ := hsome 4 (by decide)
    obtain ⟨x5, e5⟩ := hsome 5 (by decide)
    obtain ⟨x6, e6⟩ := hsome 6 (by decide)
    obtain ⟨x7, e7⟩ := hsome 7 (by decide)
    change DataW.trod enc Tryz.prog w base spare held n 22 (List.take (Tryz.prog.cellsOf 22) (List.drop 0 _)) = _ at h0
    change DataW.trod enc Tryz.prog w base spare held n 3 (List.take (Tryz.prog.cellsOf 3) (List.drop 1 _)) = _ at h1
    change DataW.trod enc Tryz.prog w base spare held n 3 (List.take (Tryz.prog.cellsOf 3) (List.drop 2 _)) = _ at h2
    change DataW.trod enc Tryz.prog w base spare held n 3 (List.take (Tryz.prog.cellsOf 3) (List.drop 3 _)) = _ at h3
    change DataW.trod enc Tryz.prog w base spare held n 2 (List.take (Tryz.prog.cellsOf 2) (List.drop 4 _)) = _ at h4
    change DataW.trod enc Tryz.prog w base spare held n 3 (List.take (Tryz.prog.cellsOf 3) (List.drop 5 _)) = _ at h5
    change DataW.trod enc Tryz.prog w base spare held n 4 (List.take (Tryz.prog.cellsOf 4) (List.drop 6 _)) = _ at h6
    change DataW.trod enc Tryz.prog w base spare held n 4 (List.take (Tryz.prog.cellsOf 4) (List.drop 7 _)) = _ at h7
    rw [k0, e0] at h0
    rw [k1, e1] at h1
    rw [k1, e2] at h2
    rw [k1, e3] at h3
    rw [k4, e4] at h4
    rw [k1, e5] at h5
    rw [k6, e6] at h6
    rw [k6, e7] at h7
    obtain ⟨a0, q0, -, -⟩ := DataW.trod_int Tryz.underlying22 h0
    obtain ⟨a1, q1, -, f1⟩ := DataW.trod_int Tryz.underlying3 h1
    obtain ⟨a2, q2, -, f2⟩ := DataW.trod_int Tryz.underlying3 h2
    obtain ⟨a3, q3, -, f3⟩ := DataW.trod_int Tryz.underlying3 h3
    obtain ⟨a4, q4, -, f4⟩ := DataW.trod_int Tryz.underlying2 h4
    obtain ⟨a5, q5, -, f5⟩ := DataW.trod_int Tryz.underlying3 h5
    obtain ⟨b6, q6, -⟩ := DataW.trod_bool Tryz.underlying4 h6
    obtain ⟨b7, q7, -⟩ := DataW.trod_bool Tryz.underlying4 h7
    simp [Value.cells] at q0 q1 q2 q3 q4 q5 q6 q7
    subst q0 q1 q2 q3 q4 q5 q6 q7
    exact ⟨a0, a1, a2, a3, a4, a5, b6, b7, rfl, bounds_i64 f1, bounds_i64 f2, bounds_i64 f3, bounds_i64 f4, bounds_i64 f5⟩
theorem open_insn {H : Type} {enc : TypeId × Value → H} {w : World} {r : Reach} {b0 base : Nat} {spare : Nat → Bool} {held : Bool} {v : Value} {d : DataW H} {ps : List MemPlace}
    (hval : Value.okWide Tryz.prog w r b0 24 v) (hd : DataW.Trod enc Tryz.prog w base spare held 24 v d ps) :
    ∃ (a0 a1 a2 a3 a4 a5 : Int) (b6 b7 : Bool), v = .agg #[.int .i64 a0, .int .i64 a1, .int .i64 a2, .int .i64 a3, .int .i64 a4, .int .i64 a5, .bool b6, .bool b7] ∧ True := by
  obtain ⟨a0, a1, a2, a3, a4, a5, b6, b7, h, -⟩ := open_insnB hval hd
  exact ⟨a0, a1, a2, a3, a4, a5, b6, b7, h, trivial⟩
end Go.Proofs.YthehcplogkgkeaaGreatDoor
