/-
  What came in, opened: deeds of layer 22.
-/
import Derived.Test.YtfjdalepaacmgaaDoorOwn
import Derived.Deep.Slices
import Derived.OpenShut
set_option maxRecDepth 20000
namespace Go.Proofs.YtfjdalepaacmgaaDoor
open Go.ChangeShapes Go.WideShapes Go.ChangeAt Go.RowKit

/-- api.Insn. -/
structure Ix where
  op : Int
  rd : Int
  rs1 : Int
  rs2 : Int
  imm : Int
  csr : Int
  aq : Bool
  rl : Bool
abbrev Ix.cells (d : Ix) : Array Value := #[.int .i64 d.op, .int .i64 d.rd, .int .i64 d.rs1, .int .i64 d.rs2, .int .i64 d.imm, .int .i64 d.csr, .bool d.aq, .bool d.rl]
def Ix.zero : Ix := ⟨0, 0, 0, 0, 0, 0, false, false⟩
structure Ix.In (d : Ix) : Prop where
  op : -9223372036854775808 ≤ d.op ∧ d.op ≤ 9223372036854775807
  rd : -9223372036854775808 ≤ d.rd ∧ d.rd ≤ 9223372036854775807
  rs1 : -9223372036854775808 ≤ d.rs1 ∧ d.rs1 ≤ 9223372036854775807
  rs2 : -9223372036854775808 ≤ d.rs2 ∧ d.rs2 ≤ 9223372036854775807
  imm : -9223372036854775808 ≤ d.imm ∧ d.imm ≤ 9223372036854775807
  csr : -9223372036854775808 ≤ d.csr ∧ d.csr ≤ 9223372036854775807
/-- roebucklaw22.Deed. -/
structure Df where
  kind : Int
  x : Ix
  v : Int
  lines : Int
  ret : Bool
abbrev Df.cells (d : Df) : Array Value := #[.int .i64 d.kind, .int .i64 d.x.op, .int .i64 d.x.rd, .int .i64 d.x.rs1, .int .i64 d.x.rs2, .int .i64 d.x.imm, .int .i64 d.x.csr, .bool d.x.aq, .bool d.x.rl, .int .u64 d.v, .int .u64 d.lines, .bool d.ret]
def Df.zero : Df := ⟨0, ⟨0, 0, 0, 0, 0, 0, false, false⟩, 0, 0, false⟩
structure Df.In (d : Df) : Prop where
  kind : -9223372036854775808 ≤ d.kind ∧ d.kind ≤ 9223372036854775807
  x : d.x.In
  v : 0 ≤ d.v ∧ d.v ≤ 18446744073709551615
  lines : 0 ≤ d.lines ∧ d.lines ≤ 18446744073709551615
/-- A slice of such that came in. -/
structure Dfs (w : World) (ao : Option Addr) (n : Nat) (l : List Df) : Prop where
  len : l.length = n
  max : n ≤ 9223372036854775807
  each : ∀ j, j < n → (l.getD j Df.zero).In
  at_ : 0 < n → ∃ b off, ao = some ⟨b, off, none⟩ ∧ b < w.heap.size ∧ ∀ j, j < n → ∀ f, f < 12 → w.cell? ⟨b, off + j * 12 + f, none⟩ = (l.getD j Df.zero).cells[f]?
theorem Dfs.low {w W : World} {ao : Option Addr} {n : Nat} {l : List Df} (h : Dfs w ao n l) (hb : Below w.heap.size w W) : Dfs W ao n l :=
  ⟨h.len, h.max, h.each, fun hn => by
    obtain ⟨b, off, ha, hlt, hc⟩ := h.at_ hn
    exact ⟨b, off, ha, Nat.lt_of_lt_of_le hlt hb.size, fun j hj f hf => (hb.cell (p := ⟨b, off + j * 12 + f, none⟩) hlt).trans (hc j hj f hf)⟩⟩
section
variable {H : Type} {enc : TypeId × Value → H} {w : World} {base : Nat} {spare : Nat → Bool} {held : Bool}
theorem cf_kc_api_Op : Tryd.prog.cellsOf 63 = 1 := by kernel_rfl
theorem cf_kc_int : Tryd.prog.cellsOf 3 = 1 := by kernel_rfl
theorem cf_kc_int64 : Tryd.prog.cellsOf 2 = 1 := by kernel_rfl
theorem cf_kc_bool : Tryd.prog.cellsOf 4 = 1 := by kernel_rfl
theorem cf_kc_api_Insn : Tryd.prog.cellsOf 65 = 8 := by kernel_rfl
theorem open_Ix_C {cs : List Value} {fuel : Nat} {x : DataW H × List MemPlace} (hlen : cs.length = 8) (hf : DataW.trod enc Tryd.prog w base spare held fuel 65 cs = some x) :
    ∃ d : Ix, cs = d.cells.toList ∧ d.In := by
  obtain ⟨xs, nn, _, hx, _, hxl, hg⟩ := DataW.trod_struct Tryd.underlying65 hf
  have h0 := hg 0 _ rfl
  have h1 := hg 1 _ rfl
  have h2 := hg 2 _ rfl
  have h3 := hg 3 _ rfl
  have h4 := hg 4 _ rfl
  have h5 := hg 5 _ rfl
  have h6 := hg 6 _ rfl
  have h7 := hg 7 _ rfl
  obtain ⟨x0, e0⟩ : ∃ x, xs[0]? = some x := ⟨xs[0]'(by rw [hxl]; decide), List.getElem?_eq_getElem _⟩
  obtain ⟨x1, e1⟩ : ∃ x, xs[1]? = some x := ⟨xs[1]'(by rw [hxl]; decide), List.getElem?_eq_getElem _⟩
  obtain ⟨x2, e2⟩ : ∃ x, xs[2]? = some x := ⟨xs[2]'(by rw [hxl]; decide), List.getElem?_eq_getElem _⟩
  obtain ⟨x3, e3⟩ : ∃ x, xs[3]? = some x := ⟨xs[3]'(by rw [hxl]; decide), List.getElem?_eq_getElem _⟩
  obtain ⟨x4, e4⟩ : ∃ x, xs[4]? = some x := ⟨xs[4]'(by rw [hxl]; decide), List.getElem?_eq_getElem _⟩
  obtain ⟨x5, e5⟩ : ∃ x, xs[5]? = some x := ⟨xs[5]'(by rw [hxl]; decide), List.getElem?_eq_getElem _⟩
  obtain ⟨x6, e6⟩ : ∃ x, xs[6]? = some x := ⟨xs[6]'(by rw [hxl]; decide), List.getElem?_eq_getElem _⟩
  obtain ⟨x7, e7⟩ : ∃ x, xs[7]? = some x := ⟨xs[7]'(by rw [hxl]; decide), List.getElem?_eq_getElem _⟩
  change DataW.trod enc Tryd.prog w base spare held nn 63 (List.take (Tryd.prog.cellsOf 63) (List.drop 0 _)) = _ at h0
  rw [cf_kc_api_Op, e0] at h0
  change DataW.trod enc Tryd.prog w base spare held nn 3 (List.take (Tryd.prog.cellsOf 3) (List.drop 1 _)) = _ at h1
  rw [cf_kc_int, e1] at h1
  change DataW.trod enc Tryd.prog w base spare held nn 3 (List.take (Tryd.prog.cellsOf 3) (List.drop 2 _)) = _ at h2
  rw [cf_kc_int, e2] at h2
  change DataW.trod enc Tryd.prog w base spare held nn 3 (List.take (Tryd.prog.cellsOf 3) (List.drop 3 _)) = _ at h3
  rw [cf_kc_int, e3] at h3
  change DataW.trod enc Tryd.prog w base spare held nn 2 (List.take (Tryd.prog.cellsOf 2) (List.drop 4 _)) = _ at h4
  rw [cf_kc_int64, e4] at h4
  change DataW.trod enc Tryd.prog w base spare held nn 3 (List.take (Tryd.prog.cellsOf 3) (List.drop 5 _)) = _ at h5
  rw [cf_kc_int, e5] at h5
  change DataW.trod enc Tryd.prog w base spare held nn 4 (List.take (Tryd.prog.cellsOf 4) (List.drop 6 _)) = _ at h6
  rw [cf_kc_bool, e6] at h6
  change DataW.trod enc Tryd.prog w base spare held nn 4 (List.take (Tryd.prog.cellsOf 4) (List.drop 7 _)) = _ at h7
  rw [cf_kc_bool, e7] at h7
  match cs, hlen with
  | [v0, v1, v2, v3, v4, v5, v6, v7], _ =>
    simp only [List.drop_zero, List.drop_succ_cons, List.take_succ_cons, List.take_zero] at h0 h1 h2 h3 h4 h5 h6 h7
    obtain ⟨a0, p0, -, q0⟩ := DataW.trod_int Tryd.underlying63 h0
    simp only [List.cons.injEq, and_true] at p0
    subst p0
    obtain ⟨a1, p1, -, q1⟩ := DataW.trod_int Tryd.underlying3 h1
    simp only [List.cons.injEq, and_true] at p1
    subst p1
    obtain ⟨a2, p2, -, q2⟩ := DataW.trod_int Tryd.underlying3 h2
    simp only [List.cons.injEq, and_true] at p2
    subst p2
    obtain ⟨a3, p3, -, q3⟩ := DataW.trod_int Tryd.underlying3 h3
    simp only [List.cons.injEq, and_true] at p3
    subst p3
    obtain ⟨a4, p4, -, q4⟩ := DataW.trod_int Tryd.underlying2 h4
    simp only [List.cons.injEq, and_true] at p4
    subst p4
    obtain ⟨a5, p5, -, q5⟩ := DataW.trod_int Tryd.underlying3 h5
    simp only [List.cons.injEq, and_true] at p5
    subst p5
    obtain ⟨a6, p6, -⟩ := DataW.trod_bool Tryd.underlying4 h6
    simp only [List.cons.injEq, and_true] at p6
    subst p6
    obtain ⟨a7, p7, -⟩ := DataW.trod_bool Tryd.underlying4 h7
    simp only [List.cons.injEq, and_true] at p7
    subst p7
    exact ⟨⟨a0, a1, a2, a3, a4, a5, a6, a7⟩, rfl, bounds_i64 q0, bounds_i64 q1, bounds_i64 q2, bounds_i64 q3, bounds_i64 q4, bounds_i64 q5⟩
theorem open_Ix {r : Reach} {b0 : Nat} {v : Value} {d : DataW H} {ps : List MemPlace} (hval : Value.okWide Tryd.prog w r b0 65 v) (hd : DataW.Trod enc Tryd.prog w base spare held 65 v d ps) :
    ∃ q : Ix, v = .agg q.cells ∧ q.In := by
  simp only [Value.okWide, Tryd.underlying65] at hval
  obtain ⟨cs, rfl, hsz, _⟩ := hval
  obtain ⟨fuel, hf⟩ := hd
  rw [cf_kc_api_Insn] at hsz
  obtain ⟨q, hq, hin⟩ := open_Ix_C (cs := cs.toList) (by simpa using hsz) hf
  refine ⟨q, ?_, hin⟩
  congr 1
  exact Array.ext' hq
theorem cf_kc_uint64 : Tryd.prog.cellsOf 24 = 1 := by kernel_rfl
theorem cf_kc_roebucklaw22_Deed : Tryd.prog.cellsOf 67 = 12 := by kernel_rfl
theorem open_Df_C {cs : List Value} {fuel : Nat} {x : DataW H × List MemPlace} (hlen : cs.length = 12) (hf : DataW.trod enc Tryd.prog w base spare held fuel 67 cs = some x) :
    ∃ d : Df, cs = d.cells.toList ∧ d.In := by
  obtain ⟨xs, nn, _, hx, _, hxl, hg⟩ := DataW.trod_struct Tryd.underlying67 hf
  have h0 := hg 0 _ rfl
  have h1 := hg 1 _ rfl
  have h2 := hg 2 _ rfl
  have h3 := hg 3 _ rfl
  have h4 := hg 4 _ rfl
  obtain ⟨x0, e0⟩ : ∃ x, xs[0]? = some x := ⟨xs[0]'(by rw [hxl]; decide), List.getElem?_eq_getElem _⟩
  obtain ⟨x1, e1⟩ : ∃ x, xs[1]? = some x := ⟨xs[1]'(by rw [hxl]; decide), List.getElem?_eq_getElem _⟩
  obtain ⟨x2, e2⟩ : ∃ x, xs[2]? = some x := ⟨xs[2]'(by rw [hxl]; decide), List.getElem?_eq_getElem _⟩
  obtain ⟨x3, e3⟩ : ∃ x, xs[3]? = some x := ⟨xs[3]'(by rw [hxl]; decide), List.getElem?_eq_getElem _⟩
  obtain ⟨x4, e4⟩ : ∃ x, xs[4]? = some x := ⟨xs[4]'(by rw [hxl]; decide), List.getElem?_eq_getElem _⟩
  change DataW.trod enc Tryd.prog w base spare held nn 3 (List.take (Tryd.prog.cellsOf 3) (List.drop 0 _)) = _ at h0
  rw [cf_kc_int, e0] at h0
  change DataW.trod enc Tryd.prog w base spare held nn 65 (List.take (Tryd.prog.cellsOf 65) (List.drop 1 _)) = _ at h1
  rw [cf_kc_api_Insn, e1] at h1
  change DataW.trod enc Tryd.prog w base spare held nn 24 (List.take (Tryd.prog.cellsOf 24) (List.drop 9 _)) = _ at h2
  rw [cf_kc_uint64, e2] at h2
  change DataW.trod enc Tryd.prog w base spare held nn 24 (List.take (Tryd.prog.cellsOf 24) (List.drop 10 _)) = _ at h3
  rw [cf_kc_uint64, e3] at h3
  change DataW.trod enc Tryd.prog w base spare held nn 4 (List.take (Tryd.prog.cellsOf 4) (List.drop 11 _)) = _ at h4
  rw [cf_kc_bool, e4] at h4
  match cs, hlen with
  | [v0, v1, v2, v3, v4, v5, v6, v7, v8, v9, v10, v11], _ =>
    simp only [List.drop_zero, List.drop_succ_cons, List.take_succ_cons, List.take_zero] at h0 h1 h2 h3 h4
    obtain ⟨a0, p0, -, q0⟩ := DataW.trod_int Tryd.underlying3 h0
    simp only [List.cons.injEq, and_true] at p0
    subst p0
    obtain ⟨a1, p1, i1⟩ := open_Ix_C rfl h1
    simp at p1
    obtain ⟨rfl, rfl, rfl, rfl, rfl, rfl, rfl, rfl⟩ := p1
    obtain ⟨a2, p2, -, q2⟩ := DataW.trod_int Tryd.underlying24 h2
    simp only [List.cons.injEq, and_true] at p2
    subst p2
    obtain ⟨a3, p3, -, q3⟩ := DataW.trod_int Tryd.underlying24 h3
    simp only [List.cons.injEq, and_true] at p3
    subst p3
    obtain ⟨a4, p4, -⟩ := DataW.trod_bool Tryd.underlying4 h4
    simp only [List.cons.injEq, and_true] at p4
    subst p4
    exact ⟨⟨a0, a1, a2, a3, a4⟩, rfl, bounds_i64 q0, i1, bounds_u64 q2, bounds_u64 q3⟩
theorem open_Df {r : Reach} {b0 : Nat} {v : Value} {d : DataW H} {ps : List MemPlace} (hval : Value.okWide Tryd.prog w r b0 67 v) (hd : DataW.Trod enc Tryd.prog w base spare held 67 v d ps) :
    ∃ q : Df, v = .agg q.cells ∧ q.In := by
  simp only [Value.okWide, Tryd.underlying67] at hval
  obtain ⟨cs, rfl, hsz, _⟩ := hval
  obtain ⟨fuel, hf⟩ := hd
  rw [cf_kc_roebucklaw22_Deed] at hsz
  obtain ⟨q, hq, hin⟩ := open_Df_C (cs := cs.toList) (by simpa using hsz) hf
  refine ⟨q, ?_, hin⟩
  congr 1
  exact Array.ext' hq
theorem open_DfsC {v : Value} {fuel : Nat} {x : DataW H × List MemPlace} (hsl : ∃ ao n cap, v = .slice ao n cap) (hf : DataW.trod enc Tryd.prog w base spare held fuel 51 [v] = some x) :
    ∃ ao n cap l, v = .slice ao n cap ∧ Dfs w ao n l := by
  obtain ⟨ao, n, cap, rfl⟩ := hsl
  rcases Go.Deep.open_slice Tryd.underlying51 hf with ⟨hcs, _⟩ | ⟨a, len, cap', m, nf, D, Pl, hcs, hb, hl, hm, hmm, _, hel⟩
  · simp at hcs
    obtain ⟨rfl, rfl, rfl⟩ := hcs
    exact ⟨_, _, _, [], rfl, rfl, by omega, fun j hj => by omega, fun h => by omega⟩
  · simp at hcs
    obtain ⟨rfl, rfl, rfl⟩ := hcs
    have hmn : n ≤ m := by rw [hmm]; split <;> omega
    have key : ∀ i, i < n → ∃ q : Df, (∀ f, f < 12 → w.cell? ((a.add (i * 12)).add f) = q.cells[f]?) ∧ q.In := by
      intro i hi
      obtain ⟨cs', hc, htr⟩ := hel i (by omega)
      rw [cf_kc_roebucklaw22_Deed] at hc
      obtain ⟨_, hlen, hat⟩ := World.cells?_some hc
      obtain ⟨q, hq, hin⟩ := open_Df_C hlen htr
      refine ⟨q, fun f hf => ?_, hin⟩
      rw [hat f (by omega), hq]
      simp
    by_cases hn0 : n = 0
    · subst hn0
      exact ⟨_, _, _, [], rfl, rfl, by omega, fun j hj => by omega, fun h => by omega⟩
    · haveI : Inhabited Df := ⟨Df.zero⟩
      obtain ⟨f, hf⟩ := Go.Deep.choose_lt key
      have hz := (hf 0 (by omega)).1 0 (by omega)
      have hz' : w.cell? ((a.add (0 * 12)).add 0) = some (.int .i64 (f 0).kind) := hz
      have hsp : a.spot = none := by
        have := World.cell?_spot hz'
        simpa [Addr.add] using this
      obtain ⟨b, off, sp⟩ := a
      simp only at hsp
      subst hsp
      have hget : ∀ j, j < n → ((List.range n).map f).getD j Df.zero = f j := by
        intro j hj
        simp [List.getD, hj]
      have hlt : b < w.heap.size := by
        rw [add_plain, add_plain] at hz'
        exact block_lt_of_cell hz'
      refine ⟨_, _, _, (List.range n).map f, rfl, by simp, by unfold maxLen at hm; omega, fun j hj => by rw [hget j hj]; exact (hf j hj).2, fun _ => ⟨b, off, rfl, hlt, fun j hj g hg => ?_⟩⟩
      rw [hget j hj, ← (hf j hj).1 g hg, add_plain, add_plain]
theorem open_Dfs {r : Reach} {b0 : Nat} {v : Value} {d : DataW H} {ps : List MemPlace} (hval : Value.okWide Tryd.prog w r b0 51 v) (hd : DataW.Trod enc Tryd.prog w base spare held 51 v d ps) :
    ∃ ao n cap l, v = .slice ao n cap ∧ Dfs w ao n l := by
  obtain ⟨ao, n, cap, rfl⟩ := okWide_slice Tryd.underlying51 hval
  obtain ⟨fuel, hf⟩ := hd
  exact open_DfsC ⟨ao, n, cap, rfl⟩ hf
end
end Go.Proofs.YtfjdalepaacmgaaDoor
