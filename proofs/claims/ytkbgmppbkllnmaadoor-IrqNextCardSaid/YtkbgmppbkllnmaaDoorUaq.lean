/-
  What came in, opened: deeds of layer 22. Layer 22's statements: what they ask of the chapter's example (live): true; what is done to both (Do). The code of layer 23: a trap is entered, and left.
-/
import Derived.Test.YtkbgmppbkllnmaaDoorUac
import Derived.Deep.Slices
import Derived.OpenShut
import Derived.Test.YtkbgmppbkllnmaaDoorUap
set_option maxRecDepth 20000
namespace Go.Proofs.YtkbgmppbkllnmaaDoor
open Go.ChangeShapes Go.WideShapes Go.ChangeAt Go.RowKit

/-- api.Insn. -/
structure Ix where
  op : Int
  rd : Int
  rs1 : Int
  rs2 : Int
  imm : Int
  csr : Int
  aq : Bool
  rl : Bool
abbrev Ix.cells (d : Ix) : Array Value := #[.int .i64 d.op, .int .i64 d.rd, .int .i64 d.rs1, .int .i64 d.rs2, .int .i64 d.imm, .int .i64 d.csr, .bool d.aq, .bool d.rl]
def Ix.zero : Ix := ⟨0, 0, 0, 0, 0, 0, false, false⟩
structure Ix.In (d : Ix) : Prop where
  op : -9223372036854775808 ≤ d.op ∧ d.op ≤ 9223372036854775807
  rd : -9223372036854775808 ≤ d.rd ∧ d.rd ≤ 9223372036854775807
  rs1 : -9223372036854775808 ≤ d.rs1 ∧ d.rs1 ≤ 9223372036854775807
  rs2 : -9223372036854775808 ≤ d.rs2 ∧ d.rs2 ≤ 9223372036854775807
  imm : -9223372036854775808 ≤ d.imm ∧ d.imm ≤ 9223372036854775807
  csr : -9223372036854775808 ≤ d.csr ∧ d.csr ≤ 9223372036854775807
/-- roebucklaw22.Deed. -/
structure Df where
  kind : Int
  x : Ix
  v : Int
  lines : Int
  ret : Bool
abbrev Df.cells (d : Df) : Array Value := #[.int .i64 d.kind, .int .i64 d.x.op, .int .i64 d.x.rd, .int .i64 d.x.rs1, .int .i64 d.x.rs2, .int .i64 d.x.imm, .int .i64 d.x.csr, .bool d.x.aq, .bool d.x.rl, .int .u64 d.v, .int .u64 d.lines, .bool d.ret]
def Df.zero : Df := ⟨0, ⟨0, 0, 0, 0, 0, 0, false, false⟩, 0, 0, false⟩
structure Df.In (d : Df) : Prop where
  kind : -9223372036854775808 ≤ d.kind ∧ d.kind ≤ 9223372036854775807
  x : d.x.In
  v : 0 ≤ d.v ∧ d.v ≤ 18446744073709551615
  lines : 0 ≤ d.lines ∧ d.lines ≤ 18446744073709551615
/-- A slice of such that came in. -/
structure Dfs (w : World) (ao : Option Addr) (n : Nat) (l : List Df) : Prop where
  len : l.length = n
  max : n ≤ 9223372036854775807
  each : ∀ j, j < n → (l.getD j Df.zero).In
  at_ : 0 < n → ∃ b off, ao = some ⟨b, off, none⟩ ∧ b < w.heap.size ∧ ∀ j, j < n → ∀ f, f < 12 → w.cell? ⟨b, off + j * 12 + f, none⟩ = (l.getD j Df.zero).cells[f]?
theorem Dfs.low {w W : World} {ao : Option Addr} {n : Nat} {l : List Df} (h : Dfs w ao n l) (hb : Below w.heap.size w W) : Dfs W ao n l :=
  ⟨h.len, h.max, h.each, fun hn => by
    obtain ⟨b, off, ha, hlt, hc⟩ := h.at_ hn
    exact ⟨b, off, ha, Nat.lt_of_lt_of_le hlt hb.size, fun j hj f hf => (hb.cell (p := ⟨b, off + j * 12 + f, none⟩) hlt).trans (hc j hj f hf)⟩⟩
section
variable {H : Type} {enc : TypeId × Value → H} {w : World} {base : Nat} {spare : Nat → Bool} {held : Bool}
theorem cf_kc_api_Op : Tryd.prog.cellsOf 79 = 1 := by kernel_rfl
theorem cf_kc_int : Tryd.prog.cellsOf 3 = 1 := by kernel_rfl
theorem cf_kc_int64 : Tryd.prog.cellsOf 2 = 1 := by kernel_rfl
theorem cf_kc_bool : Tryd.prog.cellsOf 4 = 1 := by kernel_rfl
theorem cf_kc_api_Insn : Tryd.prog.cellsOf 81 = 8 := by kernel_rfl
theorem open_Ix_C {cs : List Value} {fuel : Nat} {x : DataW H × List MemPlace} (hlen : cs.length = 8) (hf : DataW.trod enc Tryd.prog w base spare held fuel 81 cs = some x) :
    ∃ d : Ix, cs = d.cells.toList ∧ d.In := by
  obtain ⟨xs, nn, _, hx, _, hxl, hg⟩ := DataW.trod_struct Tryd.underlying81 hf
  have h0 := hg 0 _ rfl
  have h1 := hg 1 _ rfl
  have h2 := hg 2 _ rfl
  have h3 := hg 3 _ rfl
  have h4 := hg 4 _ rfl
  have h5 := hg 5 _ rfl
  have h6 := hg 6 _ rfl
  have h7 := hg 7 _ rfl
  obtain ⟨x0, e0⟩ : ∃ x, xs[0]? = some x := ⟨xs[0]'(by rw [hxl]; decide), List.getElem?_eq_getElem _⟩
  obtain ⟨x1, e1⟩ : ∃ x, xs[1]? = some x := ⟨xs[1]'(by rw [hxl]; decide), List.getElem?_eq_getElem _⟩
  obtain ⟨x2, e2⟩ : ∃ x, xs[2]? = some x := ⟨xs[2]'(by rw [hxl]; decide), List.getElem?_eq_getElem _⟩
  obtain ⟨x3, e3⟩ : ∃ x, xs[3]? = some x := ⟨xs[3]'(by rw [hxl]; decide), List.getElem?_eq_getElem _⟩
  obtain ⟨x4, e4⟩ : ∃ x, xs[4]? = some x := ⟨xs[4]'(by rw [hxl]; decide), List.getElem?_eq_getElem _⟩
  obtain ⟨x5, e5⟩ : ∃ x, xs[5]? = some x := ⟨xs[5]'(by rw [hxl]; decide), List.getElem?_eq_getElem _⟩
  obtain ⟨x6, e6⟩ : ∃ x, xs[6]? = some x := ⟨xs[6]'(by rw [hxl]; decide), List.getElem?_eq_getElem _⟩
  obtain ⟨x7, e7⟩ : ∃ x, xs[7]? = some x := ⟨xs[7]'(by rw [hxl]; decide), List.getElem?_eq_getElem _⟩
  change DataW.trod enc Tryd.prog w base spare held nn 79 (List.take (Tryd.prog.cellsOf 79) (List.drop 0 _)) = _ at h0
  rw [cf_kc_api_Op, e0] at h0
  change DataW.trod enc Tryd.prog w base spare held nn 3 (List.take (Tryd.prog.cellsOf 3) (List.drop 1 _)) = _ at h1
  rw [cf_kc_int, e1] at h1
  change DataW.trod enc Tryd.prog w base spare held nn 3 (List.take (Tryd.prog.cellsOf 3) (List.drop 2 _)) = _ at h2
  rw [cf_kc_int, e2] at h2
  change DataW.trod enc Tryd.prog w base spare held nn 3 (List.take (Tryd.prog.cellsOf 3) (List.drop 3 _)) = _ at h3
  rw [cf_kc_int, e3] at h3
  change DataW.trod enc Tryd.prog w base spare held nn 2 (List.take (Tryd.prog.cellsOf 2) (List.drop 4 _)) = _ at h4
  rw [cf_kc_int64, e4] at h4
  change DataW.trod enc Tryd.prog w base spare held nn 3 (List.take (Tryd.prog.cellsOf 3) (List.drop 5 _)) = _ at h5
  rw [cf_kc_int, e5] at h5
  change DataW.trod enc Tryd.prog w base spare held nn 4 (List.take (Tryd.prog.cellsOf 4) (List.drop 6 _)) = _ at h6
  rw [cf_kc_bool, e6] at h6
  change DataW.trod enc Tryd.prog w base spare held nn 4 (List.take (Tryd.prog.cellsOf 4) (List.drop 7 _)) = _ at h7
  rw [cf_kc_bool, e7] at h7
  match cs, hlen with
  | [v0, v1, v2, v3, v4, v5, v6, v7], _ =>
    simp only [List.drop_zero, List.drop_succ_cons, List.take_succ_cons, List.take_zero] at h0 h1 h2 h3 h4 h5 h6 h7
    obtain ⟨a0, p0, -, q0⟩ := DataW.trod_int Tryd.underlying79 h0
    simp only [List.cons.injEq, and_true] at p0
    subst p0
    obtain ⟨a1, p1, -, q1⟩ := DataW.trod_int Tryd.underlying3 h1
    simp only [List.cons.injEq, and_true] at p1
    subst p1
    obtain ⟨a2, p2, -, q2⟩ := DataW.trod_int Tryd.underlying3 h2
    simp only [List.cons.injEq, and_true] at p2
    subst p2
    obtain ⟨a3, p3, -, q3⟩ := DataW.trod_int Tryd.underlying3 h3
    simp only [List.cons.injEq, and_true] at p3
    subst p3
    obtain ⟨a4, p4, -, q4⟩ := DataW.trod_int Tryd.underlying2 h4
    simp only [List.cons.injEq, and_true] at p4
    subst p4
    obtain ⟨a5, p5, -, q5⟩ := DataW.trod_int Tryd.underlying3 h5
    simp only [List.cons.injEq, and_true] at p5
    subst p5
    obtain ⟨a6, p6, -⟩ := DataW.trod_bool Tryd.underlying4 h6
    simp only [List.cons.injEq, and_true] at p6
    subst p6
    obtain ⟨a7, p7, -⟩ := DataW.trod_bool Tryd.underlying4 h7
    simp only [List.cons.injEq, and_true] at p7
    subst p7
    exact ⟨⟨a0, a1, a2, a3, a4, a5, a6, a7⟩, rfl, bounds_i64 q0, bounds_i64 q1, bounds_i64 q2, bounds_i64 q3, bounds_i64 q4, bounds_i64 q5⟩
theorem open_Ix {r : Reach} {b0 : Nat} {v : Value} {d : DataW H} {ps : List MemPlace} (hval : Value.okWide Tryd.prog w r b0 81 v) (hd : DataW.Trod enc Tryd.prog w base spare held 81 v d ps) :
    ∃ q : Ix, v = .agg q.cells ∧ q.In := by
  simp only [Value.okWide, Tryd.underlying81] at hval
  obtain ⟨cs, rfl, hsz, _⟩ := hval
  obtain ⟨fuel, hf⟩ := hd
  rw [cf_kc_api_Insn] at hsz
  obtain ⟨q, hq, hin⟩ := open_Ix_C (cs := cs.toList) (by simpa using hsz) hf
  refine ⟨q, ?_, hin⟩
  congr 1
  exact Array.ext' hq
theorem cf_kc_uint64 : Tryd.prog.cellsOf 25 = 1 := by kernel_rfl
theorem cf_kc_roebucklaw22_Deed : Tryd.prog.cellsOf 83 = 12 := by kernel_rfl
theorem open_Df_C {cs : List Value} {fuel : Nat} {x : DataW H × List MemPlace} (hlen : cs.length = 12) (hf : DataW.trod enc Tryd.prog w base spare held fuel 83 cs = some x) :
    ∃ d : Df, cs = d.cells.toList ∧ d.In := by
  obtain ⟨xs, nn, _, hx, _, hxl, hg⟩ := DataW.trod_struct Tryd.underlying83 hf
  have h0 := hg 0 _ rfl
  have h1 := hg 1 _ rfl
  have h2 := hg 2 _ rfl
  have h3 := hg 3 _ rfl
  have h4 := hg 4 _ rfl
  obtain ⟨x0, e0⟩ : ∃ x, xs[0]? = some x := ⟨xs[0]'(by rw [hxl]; decide), List.getElem?_eq_getElem _⟩
  obtain ⟨x1, e1⟩ : ∃ x, xs[1]? = some x := ⟨xs[1]'(by rw [hxl]; decide), List.getElem?_eq_getElem _⟩
  obtain ⟨x2, e2⟩ : ∃ x, xs[2]? = some x := ⟨xs[2]'(by rw [hxl]; decide), List.getElem?_eq_getElem _⟩
  obtain ⟨x3, e3⟩ : ∃ x, xs[3]? = some x := ⟨xs[3]'(by rw [hxl]; decide), List.getElem?_eq_getElem _⟩
  obtain ⟨x4, e4⟩ : ∃ x, xs[4]? = some x := ⟨xs[4]'(by rw [hxl]; decide), List.getElem?_eq_getElem _⟩
  change DataW.trod enc Tryd.prog w base spare held nn 3 (List.take (Tryd.prog.cellsOf 3) (List.drop 0 _)) = _ at h0
  rw [cf_kc_int, e0] at h0
  change DataW.trod enc Tryd.prog w base spare held nn 81 (List.take (Tryd.prog.cellsOf 81) (List.drop 1 _)) = _ at h1
  rw [cf_kc_api_Insn, e1] at h1
  change DataW.trod enc Tryd.prog w base spare held nn 25 (List.take (Tryd.prog.cellsOf 25) (List.drop 9 _)) = _ at h2
  rw [cf_kc_uint64, e2] at h2
  change DataW.trod enc Tryd.prog w base spare held nn 25 (List.take (Tryd.prog.cellsOf 25) (List.drop 10 _)) = _ at h3
  rw [cf_kc_uint64, e3] at h3
  change DataW.trod enc Tryd.prog w base spare held nn 4 (List.take (Tryd.prog.cellsOf 4) (List.drop 11 _)) = _ at h4
  rw [cf_kc_bool, e4] at h4
  match cs, hlen with
  | [v0, v1, v2, v3, v4, v5, v6, v7, v8, v9, v10, v11], _ =>
    simp only [List.drop_zero, List.drop_succ_cons, List.take_succ_cons, List.take_zero] at h0 h1 h2 h3 h4
    obtain ⟨a0, p0, -, q0⟩ := DataW.trod_int Tryd.underlying3 h0
    simp only [List.cons.injEq, and_true] at p0
    subst p0
    obtain ⟨a1, p1, i1⟩ := open_Ix_C rfl h1
    simp at p1
    obtain ⟨rfl, rfl, rfl, rfl, rfl, rfl, rfl, rfl⟩ := p1
    obtain ⟨a2, p2, -, q2⟩ := DataW.trod_int Tryd.underlying25 h2
    simp only [List.cons.injEq, and_true] at p2
    subst p2
    obtain ⟨a3, p3, -, q3⟩ := DataW.trod_int Tryd.underlying25 h3
    simp only [List.cons.injEq, and_true] at p3
    subst p3
    obtain ⟨a4, p4, -⟩ := DataW.trod_bool Tryd.underlying4 h4
    simp only [List.cons.injEq, and_true] at p4
    subst p4
    exact ⟨⟨a0, a1, a2, a3, a4⟩, rfl, bounds_i64 q0, i1, bounds_u64 q2, bounds_u64 q3⟩
theorem open_Df {r : Reach} {b0 : Nat} {v : Value} {d : DataW H} {ps : List MemPlace} (hval : Value.okWide Tryd.prog w r b0 83 v) (hd : DataW.Trod enc Tryd.prog w base spare held 83 v d ps) :
    ∃ q : Df, v = .agg q.cells ∧ q.In := by
  simp only [Value.okWide, Tryd.underlying83] at hval
  obtain ⟨cs, rfl, hsz, _⟩ := hval
  obtain ⟨fuel, hf⟩ := hd
  rw [cf_kc_roebucklaw22_Deed] at hsz
  obtain ⟨q, hq, hin⟩ := open_Df_C (cs := cs.toList) (by simpa using hsz) hf
  refine ⟨q, ?_, hin⟩
  congr 1
  exact Array.ext' hq
theorem open_DfsC {v : Value} {fuel : Nat} {x : DataW H × List MemPlace} (hsl : ∃ ao n cap, v = .slice ao n cap) (hf : DataW.trod enc Tryd.prog w base spare held fuel 22 [v] = some x) :
    ∃ ao n cap l, v = .slice ao n cap ∧ Dfs w ao n l := by
  obtain ⟨ao, n, cap, rfl⟩ := hsl
  rcases Go.Deep.open_slice Tryd.underlying22 hf with ⟨hcs, _⟩ | ⟨a, len, cap', m, nf, D, Pl, hcs, hb, hl, hm, hmm, _, hel⟩
  · simp at hcs
    obtain ⟨rfl, rfl, rfl⟩ := hcs
    exact ⟨_, _, _, [], rfl, rfl, by omega, fun j hj => by omega, fun h => by omega⟩
  · simp at hcs
    obtain ⟨rfl, rfl, rfl⟩ := hcs
    have hmn : n ≤ m := by rw [hmm]; split <;> omega
    have key : ∀ i, i < n → ∃ q : Df, (∀ f, f < 12 → w.cell? ((a.add (i * 12)).add f) = q.cells[f]?) ∧ q.In := by
      intro i hi
      obtain ⟨cs', hc, htr⟩ := hel i (by omega)
      rw [cf_kc_roebucklaw22_Deed] at hc
      obtain ⟨_, hlen, hat⟩ := World.cells?_some hc
      obtain ⟨q, hq, hin⟩ := open_Df_C hlen htr
      refine ⟨q, fun f hf => ?_, hin⟩
      rw [hat f (by omega), hq]
      simp
    by_cases hn0 : n = 0
    · subst hn0
      exact ⟨_, _, _, [], rfl, rfl, by omega, fun j hj => by omega, fun h => by omega⟩
    · haveI : Inhabited Df := ⟨Df.zero⟩
      obtain ⟨f, hf⟩ := Go.Deep.choose_lt key
      have hz := (hf 0 (by omega)).1 0 (by omega)
      have hz' : w.cell? ((a.add (0 * 12)).add 0) = some (.int .i64 (f 0).kind) := hz
      have hsp : a.spot = none := by
        have := World.cell?_spot hz'
        simpa [Addr.add] using this
      obtain ⟨b, off, sp⟩ := a
      simp only at hsp
      subst hsp
      have hget : ∀ j, j < n → ((List.range n).map f).getD j Df.zero = f j := by
        intro j hj
        simp [List.getD, hj]
      have hlt : b < w.heap.size := by
        rw [add_plain, add_plain] at hz'
        exact block_lt_of_cell hz'
      refine ⟨_, _, _, (List.range n).map f, rfl, by simp, by unfold maxLen at hm; omega, fun j hj => by rw [hget j hj]; exact (hf j hj).2, fun _ => ⟨b, off, rfl, hlt, fun j hj g hg => ?_⟩⟩
      rw [hget j hj, ← (hf j hj).1 g hg, add_plain, add_plain]
theorem open_Dfs {r : Reach} {b0 : Nat} {v : Value} {d : DataW H} {ps : List MemPlace} (hval : Value.okWide Tryd.prog w r b0 22 v) (hd : DataW.Trod enc Tryd.prog w base spare held 22 v d ps) :
    ∃ ao n cap l, v = .slice ao n cap ∧ Dfs w ao n l := by
  obtain ⟨ao, n, cap, rfl⟩ := okWide_slice Tryd.underlying22 hval
  obtain ⟨fuel, hf⟩ := hd
  exact open_DfsC ⟨ao, n, cap, rfl⟩ hf
end
end Go.Proofs.YtkbgmppbkllnmaaDoor
set_option maxRecDepth 20000
namespace Go.Proofs.YtkbgmppbkllnmaaDoor
open Go.ChangeShapes Go.WideShapes Go.ChangeAt Go.RowKit Wd Csr Sta Cf

theorem FQ.tab {g : Nat} {s : S} {w w' : World} (h : FQ g s w w') (hg : g ≠ 2 ∧ g ≠ 1) (hN : RowsIn w) (hK : KeptIn w) : RowsIn w' ∧ KeptIn w' :=
  ⟨hN.chg h.chg (fun (e : 2 = g) => hg.1 e.symm), hK.chg h.chg (fun (e : 1 = g) => hg.2 e.symm)⟩
theorem new_far {w : World} (hN : RowsIn w) (hK : KeptIn w) {g : Nat} (h : w.heap.size ≤ g) : g ≠ 2 ∧ g ≠ 1 := by
  have h1 := hN.1
  have h2 := hK.1
  omega
def lvA : S := setS (setS (new 3) 771 2) 772 10
theorem lv_a : getS (new 3) 3860 0 = 3 := by decide +kernel
theorem lv_b : getS lvA 260 0 = 2 := by decide +kernel
theorem lv_c : getS lvA 324 8 = 0 := by decide +kernel
theorem zf_all (W : World) : (zeroValue FlT).run Tryd.prog W = .ok (.agg (fileV (zero 0))) W := zero_fl W
def nxtS (s : S) (d : Df) : S := if d.kind = 0 then setS s d.x.csr d.v else if d.kind = 1 then doS s d.x.op d.x.csr d.x.rs1 d.v else turnS s d.ret
def tolS (s : S) (d : Df) : Int := if d.kind = 0 then 0 else if d.kind = 1 then doV s d.x.op d.x.csr d.lines else 0
theorem lt64 {x : Int} (h : 0 ≤ x ∧ x ≤ 18446744073709551615) : W64 x := ⟨h.1, by have := h.2; omega⟩
theorem nxt_ok {s : S} (h : Ok s) (d : Df) (hd : d.In) : Ok (nxtS s d) := by
  unfold nxtS
  repeat' split
  · exact setS_ok h _ (lt64 hd.v)
  · exact doS_ok h _ _ _ (lt64 hd.v)
  · exact turn_ok h _
abbrev DfT : TypeId := 83
theorem results_cbbF {F : Func} {x y z : Tmp} (ty : TypeId) (hF : F.results = #[.cell x ty, .tmp y, .tmp z]) (tmps : Array Value) (w : World) (b : Nat) (cs : Array Value) (r u : Value) (h2 : tmps.getD x undef = .pointer (some ⟨b, 0, none⟩)) (h3 : tmps.getD y undef = r) (h4 : tmps.getD z undef = u)
    (hl : (loadVar ty ⟨b, 0, none⟩).run Tryd.prog w = .ok (.agg cs) w) :
    (results F tmps).run Tryd.prog w = .ok (.tuple #[.agg cs, r, u]) w := by
  have h2' : tmps[x]?.getD undef = .pointer (some ⟨b, 0, none⟩) := by simpa using h2
  have h3' : tmps[y]?.getD undef = r := by simpa using h3
  have h4' : tmps[z]?.getD undef = u := by simpa using h4
  simp [results, hF, h2', h3', h4', asAddr, hl]
/-- What stands while something is done to both: the file, the reference's file in its box, the deed, the result. -/
structure DlS (w W : World) (g : Nat) (s t : S) (d : Df) : Prop where
  fl : FlAt W g t
  r : CsAt W w.heap.size RfT (refV s)
  b : CsAt W (w.heap.size + 1) DfT d.cells
  z : CsAt W (w.heap.size + 2) RfT (refV (zero 0))
  n : RowsIn W
  k : KeptIn W
  chg : Chg (one g) w W
section
variable {w W W' : World} {g : Nat} {s t t' : S} {d : Df}
theorem DlS.low (h : DlS w W g s t d) (hb : Below W.heap.size W W') : DlS w W' g s t d := ⟨h.fl.low hb, h.r.low hb, h.b.low hb, h.z.low hb, h.n.low hb, h.k.low hb, h.chg.trans (Chg.of_below hb)⟩
theorem DlS.drew (h : DlS w W g s t d) : DlS w W.drew g s t d := ⟨h.fl.drew, h.r, h.b, h.z, h.n, h.k, h.chg.trans (Chg.of_below (Below.drew (Below.refl _ _)))⟩
theorem DlS.fq (h : DlS w W g s t d) (q : FQ g t' W W') (hl : g < w.heap.size) (hg : g ≠ 2 ∧ g ≠ 1) : DlS w W' g s t' d :=
  ⟨q.fl, q.chg.cs h.r (fun (e : w.heap.size = g) => by omega), q.chg.cs h.b (fun (e : w.heap.size + 1 = g) => by omega), q.chg.cs h.z (fun (e : w.heap.size + 2 = g) => by omega), (q.tab hg h.n h.k).1, (q.tab hg h.n h.k).2, h.chg.trans q.chg⟩
end
theorem DlS.new {w : World} {g : Nat} {s : S} (h : FlAt w g s) (hN : RowsIn w) (hK : KeptIn w) (d : Df) : DlS w (((w.alloc (.cells (refV s) RfT)).alloc (.cells d.cells DfT)).alloc (.cells (refV (zero 0)) RfT)) g s s d := by
  have hb : Below w.heap.size w (((w.alloc (.cells (refV s) RfT)).alloc (.cells d.cells DfT)).alloc (.cells (refV (zero 0)) RfT)) := (((Below.refl _ _).alloc (Nat.le_refl _) _).alloc (by simp) _).alloc (by simp; omega) _
  refine ⟨h.low hb, ((CsAt.new w RfT _).alloc _).alloc _, ?_, ?_, hN.low hb, hK.low hb, Chg.of_below hb⟩
  · have := (CsAt.new (w.alloc (.cells (refV s) RfT)) DfT d.cells).alloc (.cells (refV (zero 0)) RfT)
    simpa using this
  · have := CsAt.new ((w.alloc (.cells (refV s) RfT)).alloc (.cells d.cells DfT)) RfT (refV (zero 0))
    simpa using this
theorem DlS.res {w W : World} {g : Nat} {s t : S} {d : Df} (h : DlS w W g s t d) (hl : g < w.heap.size) (u : S) : FQ g t w (W.setRow (w.heap.size + 2) (refV u)) :=
  ⟨⟨h.fl.r.rowFar (by omega) _, h.fl.ok⟩, h.chg.transN (Chg.of_row (S := one (w.heap.size + 2)) rfl _) (fun i (hi : i = w.heap.size + 2) => .inr (by omega))⟩
set_option maxHeartbeats 8000000 in
theorem do22_c (g : Nat) (s : S) (d : Df) (hd : d.In) (w : World) (hN : RowsIn w) (hK : KeptIn w) (hg : g ≠ 2 ∧ g ≠ 1) (h : FlAt w g s) :
    Calls Tryd.prog 33 #[.pointer (some ⟨g, 0, none⟩), .agg (refV s), .agg d.cells] w fun e w' => e = .returned (.tuple #[.agg (refV (nxtS s d)), .int .u64 (tolS s d), .int .u64 (tolS s d)]) ∧ FQ g (nxtS s d) w w' := by
  have HS1 := Lib.hid (DlS.new h hN hK d)
  have HL := Lib.hid h.r.lt
  have HG := Lib.hid hg
  have ok := h.ok
  have hv := lt64 hd.v
  have hl := lt64 hd.lines
  obtain ⟨kd, ⟨op, rd, rs1, rs2, imm, csr, aq, rl⟩, v, l, r⟩ := d
  dsimp only [Df.cells, Ix.cells] at HS1 ⊢ hv hl
  have q0 : (((w.alloc (.cells (refV s) RfT)).alloc (.cells #[.int .i64 kd, .int .i64 op, .int .i64 rd, .int .i64 rs1, .int .i64 rs2, .int .i64 imm, .int .i64 csr, .bool aq, .bool rl, .int .u64 v, .int .u64 l, .bool r] DfT)).alloc (.cells (refV (zero 0)) RfT)).cell? ⟨w.heap.size + 1, 0, none⟩ = some (.int .i64 kd) := HS1.out.b.cell 0
  clear h hN hK hg hd
  by_cases h0 : kd = 0
  · skip
    subst h0
    have HU := Lib.hid (show nxtS s ⟨0, ⟨op, rd, rs1, rs2, imm, csr, aq, rl⟩, v, l, r⟩ = setS s csr v from rfl)
    have HV := Lib.hid (show tolS s ⟨0, ⟨op, rd, rs1, rs2, imm, csr, aq, rl⟩, v, l, r⟩ = 0 from rfl)
    go_enter Tryd.func33, Tryd.ntmps33
    go_upto_region 1 with (refine wpList_allocY rfl _ rfl RfT rfl (refV (zero 0)) (zero_rf _) ?_)
    generalize hw1 : (((w.alloc (.cells (refV s) RfT)).alloc (.cells #[.int .i64 0, .int .i64 op, .int .i64 rd, .int .i64 rs1, .int .i64 rs2, .int .i64 imm, .int .i64 csr, .bool aq, .bool rl, .int .u64 v, .int .u64 l, .bool r] DfT)).alloc (.cells (refV (zero 0)) RfT)) = w1 at *
    clear hw1
    have b6 : w1.cell? ⟨w.heap.size + 1, 6, none⟩ = some (.int .i64 csr) := HS1.out.b.cell 6
    have b9 : w1.cell? ⟨w.heap.size + 1, 9, none⟩ = some (.int .u64 v) := HS1.out.b.cell 9
    go_wp2_with fail
    refine (fset_c g csr v s hv _ HS1.out.n HS1.out.k HS1.out.fl).mono ?_
    rintro e w2 ⟨rfl, hq⟩
    have HS2 := Lib.hid (HS1.out.fq hq HL.out HG.out)
    clear hq b6 b9 q0
    have b6 : w2.cell? ⟨w.heap.size + 1, 6, none⟩ = some (.int .i64 csr) := HS2.out.b.cell 6
    have b9 : w2.cell? ⟨w.heap.size + 1, 9, none⟩ = some (.int .u64 v) := HS2.out.b.cell 9
    go_wp2_with (refine wpList_load_row rfl RfT _ rfl w.heap.size rfl RfT _ (0, 0) _ HS2.out.r Tryd.underlying38 rfl (iRf _) ?_)
    refine (rset22_c s ok csr v hv _).mono ?_
    rintro e w3 ⟨rfl, hb⟩
    have HS3 := Lib.hid (HS2.out.low hb)
    clear hb b6 b9
    go_wp2_with (refine wpList_store_row rfl RfT _ _ rfl (w.heap.size + 2) (refV (setS s csr v)) rfl rfl RfT _ HS3.out.z (iRf _) (by rw [refV_size, refV_size]) (rfV_one _) ?_)
    exact bodyPost_ret (results_cbbF RfT Tryd.results33 _ _ (w.heap.size + 2) (refV (setS s csr v)) (.int .u64 (0)) (.int .u64 (0)) rfl rfl rfl (run_loadVar_row _ _ RfT RfT _ (0, 0) _ (HS3.out.z.row _) Tryd.underlying38 rfl (iRf _))) rfl ⟨by rw [HU.out, HV.out], by rw [HU.out]; exact HS3.out.res HL.out _⟩
  · have e0 : (kd == 0) = false := by simpa using h0
    by_cases h1 : kd = 1
    · skip
      subst h1
      clear h0
      have HU := Lib.hid (show nxtS s ⟨1, ⟨op, rd, rs1, rs2, imm, csr, aq, rl⟩, v, l, r⟩ = doS s op csr rs1 v from rfl)
      have HV := Lib.hid (show tolS s ⟨1, ⟨op, rd, rs1, rs2, imm, csr, aq, rl⟩, v, l, r⟩ = doV s op csr l from rfl)
      go_enter Tryd.func33, Tryd.ntmps33
      go_upto_region 1 with (refine wpList_allocY rfl _ rfl RfT rfl (refV (zero 0)) (zero_rf _) ?_)
      generalize hw1 : (((w.alloc (.cells (refV s) RfT)).alloc (.cells #[.int .i64 1, .int .i64 op, .int .i64 rd, .int .i64 rs1, .int .i64 rs2, .int .i64 imm, .int .i64 csr, .bool aq, .bool rl, .int .u64 v, .int .u64 l, .bool r] DfT)).alloc (.cells (refV (zero 0)) RfT)) = w1 at *
      clear hw1
      have b1 : w1.cell? ⟨w.heap.size + 1, 1, none⟩ = some (.int .i64 op) := HS1.out.b.cell 1
      have b3 : w1.cell? ⟨w.heap.size + 1, 3, none⟩ = some (.int .i64 rs1) := HS1.out.b.cell 3
      have b6 : w1.cell? ⟨w.heap.size + 1, 6, none⟩ = some (.int .i64 csr) := HS1.out.b.cell 6
      have b9 : w1.cell? ⟨w.heap.size + 1, 9, none⟩ = some (.int .u64 v) := HS1.out.b.cell 9
      have b10 : w1.cell? ⟨w.heap.size + 1, 10, none⟩ = some (.int .u64 l) := HS1.out.b.cell 10
      go_wp2_with (refine wpList_load_row rfl RfT _ rfl w.heap.size rfl RfT _ (0, 0) _ HS1.out.r Tryd.underlying38 rfl (iRf _) ?_)
      refine (rdo22_c s ok op csr rs1 v l hv hl _).mono ?_
      rintro e w2 ⟨rfl, hb⟩
      have HS2 := Lib.hid (HS1.out.low hb)
      clear hb b1 b3 b6 b9 b10 q0
      go_upto_region 7 with (first
        | (refine wpList_allocY rfl _ rfl RfT rfl (refV (zero 0)) (zero_rf _) ?_)
        | (refine wpList_storeNew (w0 := w2) rfl RfT _ _ rfl (refV (zero 0)) (refV (doS s op csr rs1 v)) RfT rfl rfl (iRf _) (by rw [refV_size, refV_size]) (rfV_one _) ?_))
      have h9 := CsAt.new w2 RfT (refV (doS s op csr rs1 v))
      have HS3 := Lib.hid (HS2.out.low ((Below.refl w2.heap.size w2).alloc (Nat.le_refl _) (.cells (refV (doS s op csr rs1 v)) RfT)))
      have hgl : w.heap.size + 2 < w2.heap.size := HS2.out.z.lt
      generalize w2.alloc (.cells (refV (doS s op csr rs1 v)) RfT) = w3 at *
      have hs0 := HS3.out.drew
      have h9 : CsAt w3.drew w2.heap.size RfT (refV (doS s op csr rs1 v)) := h9
      refine wp_region_noPanic ?_
      refine wp_region_held (S := fun V => CsAt V w2.heap.size RfT (refV (doS s op csr rs1 v)) ∧ CsAt V (w.heap.size + 1) DfT #[.int .i64 1, .int .i64 op, .int .i64 rd, .int .i64 rs1, .int .i64 rs2, .int .i64 imm, .int .i64 csr, .bool aq, .bool rl, .int .u64 v, .int .u64 l, .bool r]) (by kernel_rfl) ?_
      refine takeH (fuel := 12) (i := 0) (.agg (refV (doS s op csr rs1 v))) ?_ rfl (by kernel_rfl) (by kernel_rfl) (by kernel_rfl) (fun _ _ _ h => h) (by kernel_rfl) (fun W hS => exec_load_row RfT _ rfl w2.heap.size rfl RfT _ _ hS.1 Tryd.underlying38 rfl (iRf _)) ⟨h9, hs0.b⟩ ?_ ?_
      rotate_left 1
      · go_simp
        exact rfl
      refine takeH (fuel := 11) (i := 1) (.pointer (some ⟨g, 0, none⟩)) ?_ rfl (by kernel_rfl) (by kernel_rfl) (by kernel_rfl) (fun _ _ _ h => h) (by kernel_rfl) (fun W hS => by go_simp) ⟨h9, hs0.b⟩ ?_ ?_
      rotate_left 1
      · go_simp
        exact rfl
      refine takeH (fuel := 10) (i := 2) (.pointer (some ⟨w.heap.size + 1, 1, none⟩)) ?_ rfl (by kernel_rfl) (by kernel_rfl) (by kernel_rfl) (fun _ _ _ h => h) (by kernel_rfl) (fun W hS => by go_simp) ⟨h9, hs0.b⟩ ?_ ?_
      rotate_left 1
      · go_simp
        exact rfl
      refine takeH (fuel := 9) (i := 3) (.agg #[.int .i64 op, .int .i64 rd, .int .i64 rs1, .int .i64 rs2, .int .i64 imm, .int .i64 csr, .bool aq, .bool rl]) ?_ rfl (by kernel_rfl) (by kernel_rfl) (by kernel_rfl) (fun _ _ _ h => h) (by kernel_rfl) (fun W hS => by (have q1 : W.cell? ⟨w.heap.size + 1, 1, none⟩ = some (.int .i64 op) := hS.2.cell 1; have q2 : W.cell? ⟨w.heap.size + 1, 2, none⟩ = some (.int .i64 rd) := hS.2.cell 2; have q3 : W.cell? ⟨w.heap.size + 1, 3, none⟩ = some (.int .i64 rs1) := hS.2.cell 3; have q4 : W.cell? ⟨w.heap.size + 1, 4, none⟩ = some (.int .i64 rs2) := hS.2.cell 4; have q5 : W.cell? ⟨w.heap.size + 1, 5, none⟩ = some (.int .i64 imm) := hS.2.cell 5; have q6 : W.cell? ⟨w.heap.size + 1, 6, none⟩ = some (.int .i64 csr) := hS.2.cell 6; have q7 : W.cell? ⟨w.heap.size + 1, 7, none⟩ = some (.bool aq) := hS.2.cell 7; have q8 : W.cell? ⟨w.heap.size + 1, 8, none⟩ = some (.bool rl) := hS.2.cell 8; go_simp)) ⟨h9, hs0.b⟩ ?_ ?_
      rotate_left 1
      · go_simp
        exact rfl
      refine takeH (fuel := 8) (i := 4) (.pointer (some ⟨w.heap.size + 1, 9, none⟩)) ?_ rfl (by kernel_rfl) (by kernel_rfl) (by kernel_rfl) (fun _ _ _ h => h) (by kernel_rfl) (fun W hS => by go_simp) ⟨h9, hs0.b⟩ ?_ ?_
      rotate_left 1
      · go_simp
        exact rfl
      refine takeH (fuel := 7) (i := 5) (.int .u64 v) ?_ rfl (by kernel_rfl) (by kernel_rfl) (by kernel_rfl) (fun _ _ _ h => h) (by kernel_rfl) (fun W hS => by (have q9 : W.cell? ⟨w.heap.size + 1, 9, none⟩ = some (.int .u64 v) := hS.2.cell 9; go_simp)) ⟨h9, hs0.b⟩ ?_ ?_
      rotate_left 1
      · go_simp
        exact rfl
      refine takeH (fuel := 6) (i := 6) (.pointer (some ⟨w.heap.size + 1, 10, none⟩)) ?_ rfl (by kernel_rfl) (by kernel_rfl) (by kernel_rfl) (fun _ _ _ h => h) (by kernel_rfl) (fun W hS => by go_simp) ⟨h9, hs0.b⟩ ?_ ?_
      rotate_left 1
      · go_simp
        exact rfl
      refine takeH (fuel := 5) (i := 7) (.int .u64 l) ?_ rfl (by kernel_rfl) (by kernel_rfl) (by kernel_rfl) (fun _ _ _ h => h) (by kernel_rfl) (fun W hS => by (have q10 : W.cell? ⟨w.heap.size + 1, 10, none⟩ = some (.int .u64 l) := hS.2.cell 10; go_simp)) ⟨h9, hs0.b⟩ ?_ ?_
      rotate_left 1
      · go_simp
        exact rfl
      refine takeH (fuel := 4) (i := 9) (.int .u64 (doV s op csr l)) ?_ rfl (by kernel_rfl) (by kernel_rfl) (by kernel_rfl) (fun _ _ _ h => h) (by kernel_rfl) (fun W hS => by go_simp) ⟨h9, hs0.b⟩ ?_ ?_
      rotate_left 1
      · go_simp
        exact rfl
      refine wpAnyH_all (fuel := 3) (rs := [8]) (by kernel_rfl) (by decide) ?_
      intro i hi
      obtain rfl : i = 8 := by simpa using hi
      refine wpOp_callX 70 #[.pointer (some ⟨g, 0, none⟩), .agg #[.int .i64 op, .int .i64 rd, .int .i64 rs1, .int .i64 rs2, .int .i64 imm, .int .i64 csr, .bool aq, .bool rl], .int .u64 v, .int .u64 l] rfl (by kernel_rfl) (by go_simp) ?_
      refine (fdo_c g op rd rs1 rs2 imm csr v l aq rl s hv _ hs0.n hs0.k hs0.fl).mono ?_
      rintro e w4 ⟨rfl, hq⟩
      have h9b := hq.chg.cs h9 (fun (e : w2.heap.size = g) => by have := HL.out; omega)
      have hs1 := hs0.fq hq HL.out HG.out
      clear hq
      refine ⟨_, rfl, ⟨h9b, hs1.b⟩, ?_⟩
      refine wpAnyH_all (fuel := 2) (rs := [10]) (by kernel_rfl) (by decide) ?_
      intro i hi
      obtain rfl : i = 10 := by simpa using hi
      refine wpOp_unitB (w4.setRow (w.heap.size + 2) (refV (doS s op csr rs1 v))) _ rfl (by kernel_rfl) (exec_store_row RfT _ _ rfl (w.heap.size + 2) (refV (doS s op csr rs1 v)) rfl rfl RfT _ hs1.z (iRf _) (by rw [refV_size, refV_size]) (rfV_one _)) rfl ?_
      have h9c : CsAt (w4.setRow (w.heap.size + 2) (refV (doS s op csr rs1 v))) w2.heap.size RfT (refV (doS s op csr rs1 v)) := h9b.rowFar (by omega) _
      have h9d : CsAt (w4.setRow (w.heap.size + 2) (refV (doS s op csr rs1 v))) (w.heap.size + 1) DfT #[.int .i64 1, .int .i64 op, .int .i64 rd, .int .i64 rs1, .int .i64 rs2, .int .i64 imm, .int .i64 csr, .bool aq, .bool rl, .int .u64 v, .int .u64 l, .bool r] := hs1.b.rowFar (by omega) _
      refine ⟨⟨h9c, h9d⟩, ?_⟩
      refine takeH (fuel := 1) (i := 11) (.int .u64 (doV s op csr l)) ?_ rfl (by kernel_rfl) (by kernel_rfl) (by kernel_rfl) (fun _ _ _ h => h) (by kernel_rfl) (fun W hS => by go_simp) ⟨h9c, h9d⟩ ?_ ?_
      rotate_left 1
      · go_simp
        exact rfl
      refine takeH (fuel := 0) (i := 12) (.int .u64 (doV s op csr l)) ?_ rfl (by kernel_rfl) (by kernel_rfl) (by kernel_rfl) (fun _ _ _ h => h) (by kernel_rfl) (fun W hS => by go_simp) ⟨h9c, h9d⟩ ?_ ?_
      rotate_left 1
      · go_simp
        exact rfl
      refine wpAnyH_done (by kernel_rfl) ?_ _
      refine NoPanic.normal ?_
      have HSZ := Lib.hid hs1
      clear hs0 hs1 h9 h9b h9c h9d
      go_wp2_with fail
      exact bodyPost_ret (results_cbbF RfT Tryd.results33 _ _ (w.heap.size + 2) (refV (doS s op csr rs1 v)) (.int .u64 (doV s op csr l)) (.int .u64 (doV s op csr l)) rfl rfl rfl (run_loadVar_row _ _ RfT RfT _ (0, 0) _ (HSZ.out.z.row _) Tryd.underlying38 rfl (iRf _))) rfl ⟨by rw [HU.out, HV.out], by rw [HU.out]; exact HSZ.out.res HL.out _⟩
    · skip
      have e1 : (kd == 1) = false := by simpa using h1
      have HU := Lib.hid (show nxtS s ⟨kd, ⟨op, rd, rs1, rs2, imm, csr, aq, rl⟩, v, l, r⟩ = turnS s r by unfold nxtS; rw [if_neg h0, if_neg h1])
      have HV := Lib.hid (show tolS s ⟨kd, ⟨op, rd, rs1, rs2, imm, csr, aq, rl⟩, v, l, r⟩ = 0 by unfold tolS; rw [if_neg h0, if_neg h1])
      clear h0 h1
      go_enter Tryd.func33, Tryd.ntmps33
      go_upto_region 1 with (refine wpList_allocY rfl _ rfl RfT rfl (refV (zero 0)) (zero_rf _) ?_)
      generalize hw1 : (((w.alloc (.cells (refV s) RfT)).alloc (.cells #[.int .i64 kd, .int .i64 op, .int .i64 rd, .int .i64 rs1, .int .i64 rs2, .int .i64 imm, .int .i64 csr, .bool aq, .bool rl, .int .u64 v, .int .u64 l, .bool r] DfT)).alloc (.cells (refV (zero 0)) RfT)) = w1 at *
      clear hw1
      have b11 : w1.cell? ⟨w.heap.size + 1, 11, none⟩ = some (.bool r) := HS1.out.b.cell 11
      go_wp2_with fail
      refine (fturn_c g r s _ HS1.out.k HG.out.2 HS1.out.fl).mono ?_
      rintro e w2 ⟨rfl, hq⟩
      have HS2 := Lib.hid (HS1.out.fq hq HL.out HG.out)
      clear hq b11 q0
      have b11 : w2.cell? ⟨w.heap.size + 1, 11, none⟩ = some (.bool r) := HS2.out.b.cell 11
      go_wp2_with (refine wpList_load_row rfl RfT _ rfl w.heap.size rfl RfT _ (0, 0) _ HS2.out.r Tryd.underlying38 rfl (iRf _) ?_)
      refine (rturn22_c s r _).mono ?_
      rintro e w3 ⟨rfl, hb⟩
      have HS3 := Lib.hid (HS2.out.low hb)
      clear hb b11
      go_wp2_with (refine wpList_store_row rfl RfT _ _ rfl (w.heap.size + 2) (refV (turnS s r)) rfl rfl RfT _ HS3.out.z (iRf _) (by rw [refV_size, refV_size]) (rfV_one _) ?_)
      exact bodyPost_ret (results_cbbF RfT Tryd.results33 _ _ (w.heap.size + 2) (refV (turnS s r)) (.int .u64 (0)) (.int .u64 (0)) rfl rfl rfl (run_loadVar_row _ _ RfT RfT _ (0, 0) _ (HS3.out.z.row _) Tryd.underlying38 rfl (iRf _))) rfl ⟨by rw [HU.out, HV.out], by rw [HU.out]; exact HS3.out.res HL.out _⟩
end Go.Proofs.YtkbgmppbkllnmaaDoor
set_option maxRecDepth 20000
namespace Go.Proofs.YtkbgmppbkllnmaaDoor
open Go.ChangeShapes Go.WideShapes Go.ChangeAt Go.RowKit Wd Csr Sta Cf Cau

/-- What stands while a trap is entered: the file, the tables, the cause in its box. -/
structure EtS (w W : World) (g : Nat) (s t : S) (b : Bool) (n : Int) : Prop where
  fl : FlAt W g t
  r : RowsIn W
  k : KeptIn W
  c : CsAt W w.heap.size CaT #[.bool b, .int .i64 n]
  chg : Chg (one g) w W
section
variable {w W W' : World} {g : Nat} {s t t' : S} {b : Bool} {n : Int}
theorem EtS.low (h : EtS w W g s t b n) (hb : Below W.heap.size W W') : EtS w W' g s t b n := ⟨h.fl.low hb, h.r.low hb, h.k.low hb, h.c.low hb, h.chg.trans (Chg.of_below hb)⟩
theorem EtS.drew (h : EtS w W g s t b n) : EtS w W.drew g s t b n := ⟨h.fl.drew, h.r, h.k, h.c, h.chg.trans (Chg.of_below (Below.drew (Below.refl _ _)))⟩
theorem EtS.fq (h : EtS w W g s t b n) (q : FQ g t' W W') (hl : g < w.heap.size) (hg : g ≠ 2 ∧ g ≠ 1) : EtS w W' g s t' b n :=
  ⟨q.fl, (q.tab hg h.r h.k).1, (q.tab hg h.r h.k).2, q.chg.cs h.c (fun (e : w.heap.size = g) => by omega), h.chg.trans q.chg⟩
theorem EtS.q (h : EtS w W g s t b n) : FQ g t w W := ⟨h.fl, h.chg⟩
end
theorem info_gr : (Tryd.prog.info? GrT).map (·.size) = some 4 := by kernel_rfl
abbrev grA (v e c x : Int) : Array Value := #[.int .i64 v, .int .i64 e, .int .i64 c, .int .i64 x]
theorem zero_gr (W : World) : (zeroValue GrT).run Tryd.prog W = .ok (.agg zGr) W := by kernel_rfl
/-- And the numbers of the registers in theirs. -/
structure EtG (w W : World) (g gg : Nat) (s t : S) (b : Bool) (n : Int) (vs : Array Value) : Prop where
  e : EtS w W g s t b n
  gr : CsAt W gg GrT vs
  ge : w.heap.size < gg
section
variable {w W W' : World} {g gg : Nat} {s t t' : S} {b : Bool} {n : Int} {vs : Array Value}
theorem EtG.low (h : EtG w W g gg s t b n vs) (hb : Below W.heap.size W W') : EtG w W' g gg s t b n vs := ⟨h.e.low hb, h.gr.low hb, h.ge⟩
theorem EtG.drew (h : EtG w W g gg s t b n vs) : EtG w W.drew g gg s t b n vs := ⟨h.e.drew, h.gr, h.ge⟩
theorem EtG.fq (h : EtG w W g gg s t b n vs) (q : FQ g t' W W') (hl : g < w.heap.size) (hg : g ≠ 2 ∧ g ≠ 1) : EtG w W' g gg s t' b n vs :=
  ⟨h.e.fq q hl hg, q.chg.cs h.gr (fun (e : gg = g) => by have := h.ge; omega), h.ge⟩
end
theorem info_caS : (Tryd.prog.info? CaT).map (·.size) = some 2 := by kernel_rfl
set_option maxHeartbeats 8000000 in
theorem fent_c (g : Nat) (s : S) (b : Bool) (n p pc tv : Int) (hpc : W64 pc) (htv : W64 tv) (w : World) (hN : RowsIn w) (hK : KeptIn w) (hg : g ≠ 2 ∧ g ≠ 1) (h : FlAt w g s) :
    Calls Tryd.prog 8 #[.pointer (some ⟨g, 0, none⟩), .agg #[.bool b, .int .i64 n], .int .i64 p, .int .u64 pc, .int .u64 tv] w fun e w' =>
      e = .returned (.tuple #[.int .i64 (toK b n p (s.f 770) (s.f 771)), .int .u64 (trapA s (toK b n p (s.f 770) (s.f 771)) b n)]) ∧ FQ g (trapS s (toK b n p (s.f 770) (s.f 771)) p pc (wordK b n) tv) w w' := by
  have hB : Below w.heap.size w (w.alloc (.cells #[.bool b, .int .i64 n] CaT)) := (Below.refl _ _).alloc (Nat.le_refl _) _
  have HS := Lib.hid (show EtS w (w.alloc (.cells #[.bool b, .int .i64 n] CaT)) g s s b n from ⟨h.low hB, hN.low hB, hK.low hB, CsAt.new w CaT _, Chg.of_below hB⟩)
  have ok := h.ok
  have hcases := toK_cases b n p (s.f 770) (s.f 771)
  have HTO := Lib.hid (fun W => kto_c b n p (s.f 770) (s.f 771) W (ok.w _) (ok.w _))
  have HL := Lib.hid h.r.lt
  have HG := Lib.hid hg
  have HPC := Lib.hid hpc
  have HTV := Lib.hid htv
  generalize toK b n p (s.f 770) (s.f 771) = a at *
  have HTR := Lib.hid (trap_is ok hcases p pc (wordK b n) tv)
  have HGR := Lib.hid (fun W => grp_c a W)
  have HWD := Lib.hid (fun W => kword_c b n W)
  have HCW := Lib.hid (wordK_range b n)
  have HTV0 := Lib.hid (fun W (hS : FlAt W g (trapS s a p pc (wordK b n) tv)) (hk : KeptIn W) => fcget_c g (tvI a) 0 (trapS s a p pc (wordK b n) tv) W hk hS)
  have HVC := Lib.hid (fun W => vec_c (s.f (tvI a)) b n W)
  rw [get_tvec _ hcases, trap_tvec s hcases] at HTV0
  have HTA := Lib.hid (show trapA s a b n = vecS (s.f (tvI a)) b n from rfl)
  unfold grpV at HGR
  generalize trapS s a p pc (wordK b n) tv = u at *
  generalize wordK b n = cw at *
  generalize s.f (tvI a) = tw at *
  generalize tvI a = v0 at *
  generalize epI a = v1 at *
  generalize caI a = v2 at *
  generalize vaI a = v3 at *
  rw [show trapA s a b n = vecS tw b n from HTA.out]
  clear HTA
  generalize vecS tw b n = ta at *
  clear hB hN hK hg h ok hcases hpc htv
  go_enter Tryd.func8, Tryd.ntmps8
  go_upto_region 3 with fail
  generalize w.alloc (.cells #[.bool b, .int .i64 n] CaT) = w1 at *
  refine wp_region_steady (fun W => EtS w W g s s b n) (by kernel_rfl) (by kernel_rfl) HS.out.drew ?_
  refine steady_val (.agg #[.bool b, .int .i64 n]) ?_ (by kernel_rfl) (fun W hS => exec_load_row CaT _ rfl w.heap.size rfl CaT _ _ hS.c Tryd.underlying24 rfl info_caS) ?_ ?_
  rotate_left 1
  · go_simp
    exact rfl
  iterate 2
    refine steady_val ?_ ?_ (by kernel_rfl) (fun W hS => ?_) ?_ ?_
    rotate_left 2
    · go_simp
      exact rfl
    · go_simp
      exact rfl
  refine steady_enter (.int .u64 (s.f 770)) 24 #[.pointer (some ⟨g, 0, none⟩), .int .i64 770, .int .u64 0] ?_ (by kernel_rfl) (fun W hS => ?_) (fun W hS => (fcget_c g 770 0 s W hS.k hS.fl).mono (by rintro e w' ⟨rfl, hb⟩; exact ⟨rfl, hS.low hb⟩)) ?_ ?_
  rotate_left 1
  · go_simp
  · go_simp
    exact rfl
  refine steady_val ?_ ?_ (by kernel_rfl) (fun W hS => ?_) ?_ ?_
  rotate_left 2
  · go_simp
    exact rfl
  · go_simp
    exact rfl
  refine steady_enter (.int .u64 (s.f 771)) 24 #[.pointer (some ⟨g, 0, none⟩), .int .i64 771, .int .u64 0] ?_ (by kernel_rfl) (fun W hS => ?_) (fun W hS => (fcget_c g 771 0 s W hS.k hS.fl).mono (by rintro e w' ⟨rfl, hb⟩; exact ⟨rfl, hS.low hb⟩)) ?_ ?_
  rotate_left 1
  · go_simp
  · go_simp
    exact rfl
  refine steady_enter (.int .i64 a) 23 #[.agg #[.bool b, .int .i64 n], .int .i64 p, .int .u64 (s.f 770), .int .u64 (s.f 771)] ?_ (by kernel_rfl) (fun W hS => ?_) (fun W hS => (HTO.out W).mono (by rintro e w' ⟨rfl, hb⟩; exact ⟨rfl, hS.low hb⟩)) ?_ ?_
  rotate_left 1
  · go_simp
  · go_simp
    exact rfl
  refine steady_val ?_ ?_ (by kernel_rfl) (fun W hS => ?_) ?_ ?_
  rotate_left 2
  · go_simp
    exact rfl
  · go_simp
    exact rfl
  refine steady_nil ?_
  intro W hS
  have HS1 := Lib.hid hS
  clear hS HS HTO
  go_upto_region 4 with fail
  go_wp2_with fail
  refine (HGR.out _).mono ?_
  rintro e w3 ⟨rfl, hb⟩
  have HS3 := Lib.hid (HS1.out.low hb)
  clear hb HS1 HGR
  go_upto_region 5 with (first
    | (refine wpList_allocY rfl _ rfl GrT rfl zGr (zero_gr _) ?_)
    | (refine wpList_storeNew (w0 := w3) rfl GrT _ _ rfl zGr (grA v0 v1 v2 v3) GrT rfl rfl info_gr rfl rfl ?_))
  have hb4 : Below w3.heap.size w3 (w3.alloc (.cells (grA v0 v1 v2 v3) GrT)) := (Below.refl _ _).alloc (Nat.le_refl _) _
  have hnew := CsAt.new w3 GrT (grA v0 v1 v2 v3)
  have hge : w.heap.size < w3.heap.size := HS3.out.c.lt
  have HS4 := Lib.hid (show EtG w (w3.alloc (.cells (grA v0 v1 v2 v3) GrT)) g w3.heap.size s s b n (grA v0 v1 v2 v3) from ⟨HS3.out.low hb4, hnew, hge⟩)
  clear hb4 hnew hge HS3
  generalize w3.alloc (.cells (grA v0 v1 v2 v3) GrT) = w4 at *
  generalize w3.heap.size = gg at *
  have z1 := HS4.out.gr.cell 1
  simp only [grA, List.getElem?_toArray, List.getElem?_cons_zero, List.getElem?_cons_succ] at z1
  go_wp2_with fail
  refine (fset_c g v1 pc s HPC.out _ HS4.out.e.r HS4.out.e.k HS4.out.e.fl).mono ?_
  rintro e w5 ⟨rfl, hq⟩
  have HS5 := Lib.hid (HS4.out.fq hq HL.out HG.out)
  clear hq HS4 z1
  generalize hs1 : setS s v1 pc = s1 at *
  go_upto_region 6 with fail
  refine wp_region_steady_tail (fun W => EtG w W g gg s s1 b n (grA v0 v1 v2 v3)) 5 (by kernel_rfl) (by kernel_rfl) HS5.out.drew ?_
  iterate 2
    refine steady_val ?_ ?_ (by kernel_rfl) (fun W hS => ?_) ?_ ?_
    rotate_left 2
    · go_simp
      exact rfl
    · go_simp
      exact rfl
  refine steady_val ?_ ?_ (by kernel_rfl) (fun W hS => ?_) ?_ ?_
  rotate_left 2
  · have q := hS.gr.cell 2; simp only [grA, List.getElem?_toArray, List.getElem?_cons_zero, List.getElem?_cons_succ] at q; go_simp
    exact rfl
  · go_simp
    exact rfl
  refine steady_val (.agg #[.bool b, .int .i64 n]) ?_ (by kernel_rfl) (fun W hS => exec_load_row CaT _ rfl w.heap.size rfl CaT _ _ hS.e.c Tryd.underlying24 rfl info_caS) ?_ ?_
  rotate_left 1
  · go_simp
    exact rfl
  refine steady_enter (.int .u64 cw) 28 #[.agg #[.bool b, .int .i64 n]] ?_ (by kernel_rfl) (fun W hS => ?_) (fun W hS => (HWD.out W).mono (by rintro e w' ⟨rfl, hb⟩; exact ⟨rfl, hS.low hb⟩)) ?_ ?_
  rotate_left 1
  · go_simp
  · go_simp
    exact rfl
  refine steady_nil ?_
  intro W hS
  have HS6 := Lib.hid hS
  clear hS HS5 HWD
  simp only [List.drop_succ_cons, List.drop_zero]
  go_wp2_with fail
  refine (fset_c g v2 cw s1 HCW.out _ HS6.out.e.r HS6.out.e.k HS6.out.e.fl).mono ?_
  rintro e w6 ⟨rfl, hq⟩
  have HS7 := Lib.hid (HS6.out.fq hq HL.out HG.out)
  clear hq HS6
  generalize hs2 : setS s1 v2 cw = s2 at *
  have z3 := HS7.out.gr.cell 3
  simp only [grA, List.getElem?_toArray, List.getElem?_cons_zero, List.getElem?_cons_succ] at z3
  go_wp2_with fail
  refine (fset_c g v3 tv s2 HTV.out _ HS7.out.e.r HS7.out.e.k HS7.out.e.fl).mono ?_
  rintro e w7 ⟨rfl, hq⟩
  have HS8 := Lib.hid (HS7.out.fq hq HL.out HG.out)
  clear hq HS7 z3
  generalize hs3 : setS s2 v3 tv = s3 at *
  go_wp2_with fail
  refine (fcget_c g 768 0 s3 _ HS8.out.e.k HS8.out.e.fl).mono ?_
  rintro e w8 ⟨rfl, hb⟩
  have HS9 := Lib.hid (HS8.out.low hb)
  clear hb HS8
  have HM := Lib.hid (HS9.out.e.fl.ok.w 768)
  rw [get_768]
  go_wp2_with fail
  refine (enter_c (s3.f 768) p a HM.out _).mono ?_
  rintro e w9 ⟨rfl, hb⟩
  have HS10 := Lib.hid (HS9.out.low hb)
  clear hb HS9
  have HE := Lib.hid (enterV_rng (p := p) (d := a) HM.out)
  clear HM
  generalize hs4 : enterV (s3.f 768) p a = en at *
  go_wp2_with fail
  refine (fset_c g 768 en s3 HE.out _ HS10.out.e.r HS10.out.e.k HS10.out.e.fl).mono ?_
  rintro e w10 ⟨rfl, hq⟩
  have HS11 := Lib.hid (HS10.out.fq hq HL.out HG.out)
  clear hq HS10 HE
  rw [← get_768 s3 0] at hs4
  subst hs1 hs2 hs3 hs4
  rw [HTR.out] at HS11
  clear HTR
  go_upto_region 9 with fail
  refine wp_region_steady (fun W => EtG w W g gg s u b n (grA v0 v1 v2 v3)) (by kernel_rfl) (by kernel_rfl) HS11.out.drew ?_
  iterate 3
    refine steady_val ?_ ?_ (by kernel_rfl) (fun W hS => ?_) ?_ ?_
    rotate_left 2
    · go_simp
      exact rfl
    · go_simp
      exact rfl
  refine steady_val ?_ ?_ (by kernel_rfl) (fun W hS => ?_) ?_ ?_
  rotate_left 2
  · have q := hS.gr.cell 0; simp only [grA, List.getElem?_toArray, List.getElem?_cons_zero] at q; go_simp
    exact rfl
  · go_simp
    exact rfl
  refine steady_enter (.int .u64 tw) 24 #[.pointer (some ⟨g, 0, none⟩), .int .i64 v0, .int .u64 0] ?_ (by kernel_rfl) (fun W hS => ?_) (fun W hS => (HTV0.out W hS.e.fl hS.e.k).mono (by rintro e w' ⟨rfl, hb⟩; exact ⟨rfl, hS.low hb⟩)) ?_ ?_
  rotate_left 1
  · go_simp
  · go_simp
    exact rfl
  refine steady_val (.agg #[.bool b, .int .i64 n]) ?_ (by kernel_rfl) (fun W hS => exec_load_row CaT _ rfl w.heap.size rfl CaT _ _ hS.e.c Tryd.underlying24 rfl info_caS) ?_ ?_
  rotate_left 1
  · go_simp
    exact rfl
  refine steady_enter (.int .u64 ta) 14 #[.int .u64 tw, .agg #[.bool b, .int .i64 n]] ?_ (by kernel_rfl) (fun W hS => ?_) (fun W hS => (HVC.out W).mono (by rintro e w' ⟨rfl, hb⟩; exact ⟨rfl, hS.low hb⟩)) ?_ ?_
  rotate_left 1
  · go_simp
  · go_simp
    exact rfl
  iterate 2
    refine steady_val ?_ ?_ (by kernel_rfl) (fun W hS => ?_) ?_ ?_
    rotate_left 2
    · go_simp
      exact rfl
    · go_simp
      exact rfl
  refine steady_nil ?_
  intro W hS
  have HS12 := Lib.hid hS
  clear hS HS11
  go_wp2_with fail
  go_ret2
  exact ⟨rfl, HS12.out.e.q⟩
/-- What stands while a trap is left. -/
structure LvG (w W : World) (g gg : Nat) (t : S) (vs : Array Value) : Prop where
  fl : FlAt W g t
  r : RowsIn W
  k : KeptIn W
  gr : CsAt W gg GrT vs
  ne : gg ≠ g
  chg : Chg (one g) w W
section
variable {w W W' : World} {g gg : Nat} {t t' : S} {vs : Array Value}
theorem LvG.low (h : LvG w W g gg t vs) (hb : Below W.heap.size W W') : LvG w W' g gg t vs := ⟨h.fl.low hb, h.r.low hb, h.k.low hb, h.gr.low hb, h.ne, h.chg.trans (Chg.of_below hb)⟩
theorem LvG.fq (h : LvG w W g gg t vs) (q : FQ g t' W W') (hg : g ≠ 2 ∧ g ≠ 1) : LvG w W' g gg t' vs :=
  ⟨q.fl, (q.tab hg h.r h.k).1, (q.tab hg h.r h.k).2, q.chg.cs h.gr (fun (e : gg = g) => h.ne e), h.ne, h.chg.trans q.chg⟩
end
set_option maxHeartbeats 2000000 in
theorem flv0_c (v : Value) (a : Int) (h3 : a ≠ 3) (h1 : a ≠ 1) (hv : v = .pointer none ∨ ∃ g, v = .pointer (some ⟨g, 0, none⟩)) (w : World) :
    Calls Tryd.prog 9 #[v, .int .i64 a] w fun e w' => e = .returned (.tuple #[.int .i64 0, .int .u64 0]) ∧ Below w.heap.size w w' := by
  have HGR := Lib.hid (fun W => grp_c a W)
  have e3 : (a == 3) = false := by simpa using h3
  have e1 : (a == 1) = false := by simpa using h1
  rw [e3, e1, Bool.or_false] at HGR
  unfold grpV at HGR
  generalize tvI a = v0 at *
  generalize epI a = v1 at *
  generalize caI a = v2 at *
  generalize vaI a = v3 at *
  clear h3 h1 e3 e1
  rcases hv with rfl | ⟨g, rfl⟩
  all_goals
    go_enter Tryd.func9, Tryd.ntmps9
    go_wp2_with fail
    refine (HGR.out _).mono ?_
    rintro e w3 ⟨rfl, hb⟩
    have HB := Lib.hid hb
    clear hb
    go_upto_region 2 with (first
      | (refine wpList_allocY rfl _ rfl GrT rfl zGr (zero_gr _) ?_)
      | (refine wpList_storeNew (w0 := w3) rfl GrT _ _ rfl zGr (grA v0 v1 v2 v3) GrT rfl rfl info_gr rfl rfl ?_))
    have HB4 := Lib.hid (HB.out.alloc HB.out.size (.cells (grA v0 v1 v2 v3) GrT))
    clear HB
    generalize w3.alloc (.cells (grA v0 v1 v2 v3) GrT) = w4 at *
    go_wp2_with fail
    go_ret2
    exact ⟨rfl, HB4.out⟩
set_option maxHeartbeats 4000000 in
theorem flvx_c (g : Nat) (s : S) (a : Int) (ha : a = 3 ∨ a = 1) (w : World) (hN : RowsIn w) (hK : KeptIn w) (hg : g ≠ 2 ∧ g ≠ 1) (h : FlAt w g s) :
    Calls Tryd.prog 9 #[.pointer (some ⟨g, 0, none⟩), .int .i64 a] w fun e w' =>
      e = .returned (.tuple #[.int .i64 (leaveP (s.f 768) a), .int .u64 (backA (backS s a) a)]) ∧ FQ g (backS s a) w w' := by
  have ok := h.ok
  have HGR := Lib.hid (fun W => grp_c a W)
  have e3 : (a == 3 || a == 1) = true := by rcases ha with rfl | rfl <;> rfl
  have HTR := Lib.hid (back_is ok ha)
  have HPA := Lib.hid (get_epc (backS s a) ha 0)
  have HLV := Lib.hid (fun W => leave_c (s.f 768) a (ok.w 768) W)
  have HE := Lib.hid (leaveV_rng (d := a) (ok.w 768))
  have HL := Lib.hid h.r.lt
  have HG := Lib.hid hg
  rw [get_768] at HTR
  generalize leaveV (s.f 768) a = x at *
  generalize leaveP (s.f 768) a = pp at *
  rw [e3] at HGR
  unfold grpV at HGR
  generalize backA (backS s a) a = ra at *
  generalize tvI a = v0 at *
  generalize epI a = v1 at *
  generalize caI a = v2 at *
  generalize vaI a = v3 at *
  generalize backS s a = u at *
  have HF := Lib.hid h
  have HN := Lib.hid hN
  have HK := Lib.hid hK
  clear e3 ha ok h hN hK hg
  go_enter Tryd.func9, Tryd.ntmps9
  go_wp2_with fail
  refine (HGR.out _).mono ?_
  rintro e w3 ⟨rfl, hb⟩
  have HB := Lib.hid hb
  clear hb HGR
  go_upto_region 2 with (first
    | (refine wpList_allocY rfl _ rfl GrT rfl zGr (zero_gr _) ?_)
    | (refine wpList_storeNew (w0 := w3) rfl GrT _ _ rfl zGr (grA v0 v1 v2 v3) GrT rfl rfl info_gr rfl rfl ?_))
  have hb4 := HB.out.alloc HB.out.size (.cells (grA v0 v1 v2 v3) GrT)
  have hne : w3.heap.size ≠ g := fun e => by have := HB.out.size; have := HL.out; omega
  have HS := Lib.hid (show LvG w (w3.alloc (.cells (grA v0 v1 v2 v3) GrT)) g w3.heap.size s (grA v0 v1 v2 v3) from ⟨HF.out.low hb4, HN.out.low hb4, HK.out.low hb4, CsAt.new w3 GrT (grA v0 v1 v2 v3), hne, Chg.of_below hb4⟩)
  clear hb4 hne HB HF HN HK
  generalize w3.alloc (.cells (grA v0 v1 v2 v3) GrT) = w4 at *
  generalize w3.heap.size = gg at *
  go_wp2_with fail
  refine (fcget_c g 768 0 s _ HS.out.k HS.out.fl).mono ?_
  rintro e w5 ⟨rfl, hb⟩
  have HS1 := Lib.hid (HS.out.low hb)
  clear hb HS
  rw [get_768]
  go_wp2_with fail
  refine (HLV.out _).mono ?_
  rintro e w6 ⟨rfl, hb⟩
  have HS2 := Lib.hid (HS1.out.low hb)
  clear hb HS1
  go_wp2_with fail
  refine (fset_c g 768 x s HE.out _ HS2.out.r HS2.out.k HS2.out.fl).mono ?_
  rintro e w7 ⟨rfl, hq⟩
  have HS3 := Lib.hid (HS2.out.fq hq HG.out)
  clear hq HS2 HE
  rw [HTR.out] at HS3
  clear HTR
  have z1 := HS3.out.gr.cell 1
  simp only [grA, List.getElem?_toArray, List.getElem?_cons_zero, List.getElem?_cons_succ] at z1
  go_wp2_with fail
  refine (fcget_c g v1 0 u _ HS3.out.k HS3.out.fl).mono ?_
  rintro e w8 ⟨rfl, hb⟩
  have HS4 := Lib.hid (HS3.out.low hb)
  clear hb HS3 z1
  rw [HPA.out]
  go_wp2_with fail
  go_ret2
  exact ⟨rfl, HS4.out.fl, HS4.out.chg⟩
theorem flv_c (g : Nat) (s : S) (a : Int) (w : World) (hN : RowsIn w) (hK : KeptIn w) (hg : g ≠ 2 ∧ g ≠ 1) (h : FlAt w g s) :
    Calls Tryd.prog 9 #[.pointer (some ⟨g, 0, none⟩), .int .i64 a] w fun e w' =>
      e = .returned (.tuple #[.int .i64 (leaveP (s.f 768) a), .int .u64 (backA (backS s a) a)]) ∧ FQ g (backS s a) w w' := by
  by_cases ha : a = 3 ∨ a = 1
  · exact flvx_c g s a ha w hN hK hg h
  · have e1 : leaveP (s.f 768) a = 0 := by unfold leaveP; rw [if_neg (fun e => ha (.inl e)), if_neg (fun e => ha (.inr e))]
    have e2 : backS s a = s := if_neg ha
    have e3 : backA s a = 0 := by unfold backA; rw [if_neg (fun e => ha (.inl e)), if_neg (fun e => ha (.inr e))]
    rw [e1, e2, e3]
    refine (flv0_c _ a (fun e => ha (.inl e)) (fun e => ha (.inr e)) (.inr ⟨g, rfl⟩) w).mono ?_
    rintro e w' ⟨rfl, hb⟩
    exact ⟨rfl, h.keep hb⟩
set_option maxHeartbeats 2000000 in
theorem zent_c (b : Bool) (n p pc tv : Int) (w : World) :
    Calls Tryd.prog 8 #[.pointer none, .agg #[.bool b, .int .i64 n], .int .i64 p, .int .u64 pc, .int .u64 tv] w fun e w' => e = .returned (.tuple #[.int .i64 0, .int .u64 0]) ∧ Below w.heap.size w w' := by
  have HB := Lib.hid ((Below.refl w.heap.size w).alloc (Nat.le_refl _) (.cells #[.bool b, .int .i64 n] CaT))
  go_enter Tryd.func8, Tryd.ntmps8
  go_upto_region 1 with fail
  generalize w.alloc (.cells #[.bool b, .int .i64 n] CaT) = w1 at *
  go_wp2_with fail
  go_ret2
  exact ⟨rfl, HB.out⟩
set_option maxHeartbeats 2000000 in
theorem zlv_c (a : Int) (w : World) :
    Calls Tryd.prog 9 #[.pointer none, .int .i64 a] w fun e w' => e = .returned (.tuple #[.int .i64 0, .int .u64 0]) ∧ Below w.heap.size w w' := by
  have HGR := Lib.hid (fun W => grp_c a W)
  unfold grpV at HGR
  generalize (a == 3 || a == 1) = bb at *
  generalize tvI a = v0 at *
  generalize epI a = v1 at *
  generalize caI a = v2 at *
  generalize vaI a = v3 at *
  go_enter Tryd.func9, Tryd.ntmps9
  go_wp2_with fail
  refine (HGR.out _).mono ?_
  rintro e w3 ⟨rfl, hb⟩
  have HB := Lib.hid hb
  clear hb
  go_upto_region 2 with (first
    | (refine wpList_allocY rfl _ rfl GrT rfl zGr (zero_gr _) ?_)
    | (refine wpList_storeNew (w0 := w3) rfl GrT _ _ rfl zGr (grA v0 v1 v2 v3) GrT rfl rfl info_gr rfl rfl ?_))
  have HB4 := Lib.hid (HB.out.alloc HB.out.size (.cells (grA v0 v1 v2 v3) GrT))
  clear HB
  generalize w3.alloc (.cells (grA v0 v1 v2 v3) GrT) = w4 at *
  go_wp2_with fail
  go_ret2
  exact ⟨rfl, HB4.out⟩
end Go.Proofs.YtkbgmppbkllnmaaDoor
