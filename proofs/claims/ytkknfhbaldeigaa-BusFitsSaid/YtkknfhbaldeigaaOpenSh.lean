/-
  What came in, opened: configurations, asks.
-/
import Derived.Test.YtkknfhbaldeigaaOwn
import Derived.Deep.Slices
import Derived.OpenShut
set_option maxRecDepth 20000
namespace Go.Proofs.Ytkknfhbaldeigaa
open Go.ChangeShapes Go.WideShapes Go.ChangeAt Go.RowKit

/-- api.Conf. -/
structure Cf where
  harts : Int
  stripes : Int
  lines : Int
  tlb : Int
abbrev Cf.cells (d : Cf) : Array Value := #[.int .i64 d.harts, .int .i64 d.stripes, .int .i64 d.lines, .int .i64 d.tlb]
def Cf.zero : Cf := ⟨0, 0, 0, 0⟩
structure Cf.In (d : Cf) : Prop where
  harts : -9223372036854775808 ≤ d.harts ∧ d.harts ≤ 9223372036854775807
  stripes : -9223372036854775808 ≤ d.stripes ∧ d.stripes ≤ 9223372036854775807
  lines : -9223372036854775808 ≤ d.lines ∧ d.lines ≤ 9223372036854775807
  tlb : -9223372036854775808 ≤ d.tlb ∧ d.tlb ≤ 9223372036854775807
/-- api.Req. -/
structure Rq where
  set : Bool
  byVa : Bool
  byAsid : Bool
  va : Int
  asid : Int
abbrev Rq.cells (d : Rq) : Array Value := #[.bool d.set, .bool d.byVa, .bool d.byAsid, .int .u64 d.va, .int .i64 d.asid]
def Rq.zero : Rq := ⟨false, false, false, 0, 0⟩
structure Rq.In (d : Rq) : Prop where
  va : 0 ≤ d.va ∧ d.va ≤ 18446744073709551615
  asid : -9223372036854775808 ≤ d.asid ∧ d.asid ≤ 9223372036854775807
/-- api.Entry. -/
structure En where
  asid : Int
  page : Int
  level : Int
  pte : Int
abbrev En.cells (d : En) : Array Value := #[.int .i64 d.asid, .int .u64 d.page, .int .i64 d.level, .int .u64 d.pte]
def En.zero : En := ⟨0, 0, 0, 0⟩
structure En.In (d : En) : Prop where
  asid : -9223372036854775808 ≤ d.asid ∧ d.asid ≤ 9223372036854775807
  page : 0 ≤ d.page ∧ d.page ≤ 18446744073709551615
  level : -9223372036854775808 ≤ d.level ∧ d.level ≤ 9223372036854775807
  pte : 0 ≤ d.pte ∧ d.pte ≤ 18446744073709551615
/-- api.Ask. -/
structure Ak where
  kind : Int
  addr : Int
  next : Int
  cut : Int
  size : Int
  op : Int
  data : Int
  old : Int
  live : Bool
  hart : Int
  req : Rq
  entry : En
abbrev Ak.cells (d : Ak) : Array Value := #[.int .i64 d.kind, .int .u64 d.addr, .int .u64 d.next, .int .i64 d.cut, .int .i64 d.size, .int .i64 d.op, .int .u64 d.data, .int .u64 d.old, .bool d.live, .int .i64 d.hart, .bool d.req.set, .bool d.req.byVa, .bool d.req.byAsid, .int .u64 d.req.va, .int .i64 d.req.asid, .int .i64 d.entry.asid, .int .u64 d.entry.page, .int .i64 d.entry.level, .int .u64 d.entry.pte]
def Ak.zero : Ak := ⟨0, 0, 0, 0, 0, 0, 0, 0, false, 0, ⟨false, false, false, 0, 0⟩, ⟨0, 0, 0, 0⟩⟩
structure Ak.In (d : Ak) : Prop where
  kind : -9223372036854775808 ≤ d.kind ∧ d.kind ≤ 9223372036854775807
  addr : 0 ≤ d.addr ∧ d.addr ≤ 18446744073709551615
  next : 0 ≤ d.next ∧ d.next ≤ 18446744073709551615
  cut : -9223372036854775808 ≤ d.cut ∧ d.cut ≤ 9223372036854775807
  size : -9223372036854775808 ≤ d.size ∧ d.size ≤ 9223372036854775807
  op : -9223372036854775808 ≤ d.op ∧ d.op ≤ 9223372036854775807
  data : 0 ≤ d.data ∧ d.data ≤ 18446744073709551615
  old : 0 ≤ d.old ∧ d.old ≤ 18446744073709551615
  hart : -9223372036854775808 ≤ d.hart ∧ d.hart ≤ 9223372036854775807
  req : d.req.In
  entry : d.entry.In
section
variable {H : Type} {enc : TypeId × Value → H} {w : World} {base : Nat} {spare : Nat → Bool} {held : Bool}
theorem sh_kc_int : Try.prog.cellsOf 3 = 1 := by kernel_rfl
theorem sh_kc_bool : Try.prog.cellsOf 4 = 1 := by kernel_rfl
theorem sh_kc_uint64 : Try.prog.cellsOf 22 = 1 := by kernel_rfl
theorem sh_kc_api_Req : Try.prog.cellsOf 26 = 5 := by kernel_rfl
theorem open_Rq_C {cs : List Value} {fuel : Nat} {x : DataW H × List MemPlace} (hlen : cs.length = 5) (hf : DataW.trod enc Try.prog w base spare held fuel 26 cs = some x) :
    ∃ d : Rq, cs = d.cells.toList ∧ d.In := by
  obtain ⟨xs, nn, _, hx, _, hxl, hg⟩ := DataW.trod_struct Try.underlying26 hf
  have h0 := hg 0 _ rfl
  have h1 := hg 1 _ rfl
  have h2 := hg 2 _ rfl
  have h3 := hg 3 _ rfl
  have h4 := hg 4 _ rfl
  obtain ⟨x0, e0⟩ : ∃ x, xs[0]? = some x := ⟨xs[0]'(by rw [hxl]; decide), List.getElem?_eq_getElem _⟩
  obtain ⟨x1, e1⟩ : ∃ x, xs[1]? = some x := ⟨xs[1]'(by rw [hxl]; decide), List.getElem?_eq_getElem _⟩
  obtain ⟨x2, e2⟩ : ∃ x, xs[2]? = some x := ⟨xs[2]'(by rw [hxl]; decide), List.getElem?_eq_getElem _⟩
  obtain ⟨x3, e3⟩ : ∃ x, xs[3]? = some x := ⟨xs[3]'(by rw [hxl]; decide), List.getElem?_eq_getElem _⟩
  obtain ⟨x4, e4⟩ : ∃ x, xs[4]? = some x := ⟨xs[4]'(by rw [hxl]; decide), List.getElem?_eq_getElem _⟩
  change DataW.trod enc Try.prog w base spare held nn 4 (List.take (Try.prog.cellsOf 4) (List.drop 0 _)) = _ at h0
  rw [sh_kc_bool, e0] at h0
  change DataW.trod enc Try.prog w base spare held nn 4 (List.take (Try.prog.cellsOf 4) (List.drop 1 _)) = _ at h1
  rw [sh_kc_bool, e1] at h1
  change DataW.trod enc Try.prog w base spare held nn 4 (List.take (Try.prog.cellsOf 4) (List.drop 2 _)) = _ at h2
  rw [sh_kc_bool, e2] at h2
  change DataW.trod enc Try.prog w base spare held nn 22 (List.take (Try.prog.cellsOf 22) (List.drop 3 _)) = _ at h3
  rw [sh_kc_uint64, e3] at h3
  change DataW.trod enc Try.prog w base spare held nn 3 (List.take (Try.prog.cellsOf 3) (List.drop 4 _)) = _ at h4
  rw [sh_kc_int, e4] at h4
  match cs, hlen with
  | [v0, v1, v2, v3, v4], _ =>
    simp only [List.drop_zero, List.drop_succ_cons, List.take_succ_cons, List.take_zero] at h0 h1 h2 h3 h4
    obtain ⟨a0, p0, -⟩ := DataW.trod_bool Try.underlying4 h0
    simp only [List.cons.injEq, and_true] at p0
    subst p0
    obtain ⟨a1, p1, -⟩ := DataW.trod_bool Try.underlying4 h1
    simp only [List.cons.injEq, and_true] at p1
    subst p1
    obtain ⟨a2, p2, -⟩ := DataW.trod_bool Try.underlying4 h2
    simp only [List.cons.injEq, and_true] at p2
    subst p2
    obtain ⟨a3, p3, -, q3⟩ := DataW.trod_int Try.underlying22 h3
    simp only [List.cons.injEq, and_true] at p3
    subst p3
    obtain ⟨a4, p4, -, q4⟩ := DataW.trod_int Try.underlying3 h4
    simp only [List.cons.injEq, and_true] at p4
    subst p4
    exact ⟨⟨a0, a1, a2, a3, a4⟩, rfl, bounds_u64 q3, bounds_i64 q4⟩
theorem open_Rq {r : Reach} {b0 : Nat} {v : Value} {d : DataW H} {ps : List MemPlace} (hval : Value.okWide Try.prog w r b0 26 v) (hd : DataW.Trod enc Try.prog w base spare held 26 v d ps) :
    ∃ q : Rq, v = .agg q.cells ∧ q.In := by
  simp only [Value.okWide, Try.underlying26] at hval
  obtain ⟨cs, rfl, hsz, _⟩ := hval
  obtain ⟨fuel, hf⟩ := hd
  rw [sh_kc_api_Req] at hsz
  obtain ⟨q, hq, hin⟩ := open_Rq_C (cs := cs.toList) (by simpa using hsz) hf
  refine ⟨q, ?_, hin⟩
  congr 1
  exact Array.ext' hq
theorem sh_kc_api_Entry : Try.prog.cellsOf 28 = 4 := by kernel_rfl
theorem open_En_C {cs : List Value} {fuel : Nat} {x : DataW H × List MemPlace} (hlen : cs.length = 4) (hf : DataW.trod enc Try.prog w base spare held fuel 28 cs = some x) :
    ∃ d : En, cs = d.cells.toList ∧ d.In := by
  obtain ⟨xs, nn, _, hx, _, hxl, hg⟩ := DataW.trod_struct Try.underlying28 hf
  have h0 := hg 0 _ rfl
  have h1 := hg 1 _ rfl
  have h2 := hg 2 _ rfl
  have h3 := hg 3 _ rfl
  obtain ⟨x0, e0⟩ : ∃ x, xs[0]? = some x := ⟨xs[0]'(by rw [hxl]; decide), List.getElem?_eq_getElem _⟩
  obtain ⟨x1, e1⟩ : ∃ x, xs[1]? = some x := ⟨xs[1]'(by rw [hxl]; decide), List.getElem?_eq_getElem _⟩
  obtain ⟨x2, e2⟩ : ∃ x, xs[2]? = some x := ⟨xs[2]'(by rw [hxl]; decide), List.getElem?_eq_getElem _⟩
  obtain ⟨x3, e3⟩ : ∃ x, xs[3]? = some x := ⟨xs[3]'(by rw [hxl]; decide), List.getElem?_eq_getElem _⟩
  change DataW.trod enc Try.prog w base spare held nn 3 (List.take (Try.prog.cellsOf 3) (List.drop 0 _)) = _ at h0
  rw [sh_kc_int, e0] at h0
  change DataW.trod enc Try.prog w base spare held nn 22 (List.take (Try.prog.cellsOf 22) (List.drop 1 _)) = _ at h1
  rw [sh_kc_uint64, e1] at h1
  change DataW.trod enc Try.prog w base spare held nn 3 (List.take (Try.prog.cellsOf 3) (List.drop 2 _)) = _ at h2
  rw [sh_kc_int, e2] at h2
  change DataW.trod enc Try.prog w base spare held nn 22 (List.take (Try.prog.cellsOf 22) (List.drop 3 _)) = _ at h3
  rw [sh_kc_uint64, e3] at h3
  match cs, hlen with
  | [v0, v1, v2, v3], _ =>
    simp only [List.drop_zero, List.drop_succ_cons, List.take_succ_cons, List.take_zero] at h0 h1 h2 h3
    obtain ⟨a0, p0, -, q0⟩ := DataW.trod_int Try.underlying3 h0
    simp only [List.cons.injEq, and_true] at p0
    subst p0
    obtain ⟨a1, p1, -, q1⟩ := DataW.trod_int Try.underlying22 h1
    simp only [List.cons.injEq, and_true] at p1
    subst p1
    obtain ⟨a2, p2, -, q2⟩ := DataW.trod_int Try.underlying3 h2
    simp only [List.cons.injEq, and_true] at p2
    subst p2
    obtain ⟨a3, p3, -, q3⟩ := DataW.trod_int Try.underlying22 h3
    simp only [List.cons.injEq, and_true] at p3
    subst p3
    exact ⟨⟨a0, a1, a2, a3⟩, rfl, bounds_i64 q0, bounds_u64 q1, bounds_i64 q2, bounds_u64 q3⟩
theorem open_En {r : Reach} {b0 : Nat} {v : Value} {d : DataW H} {ps : List MemPlace} (hval : Value.okWide Try.prog w r b0 28 v) (hd : DataW.Trod enc Try.prog w base spare held 28 v d ps) :
    ∃ q : En, v = .agg q.cells ∧ q.In := by
  simp only [Value.okWide, Try.underlying28] at hval
  obtain ⟨cs, rfl, hsz, _⟩ := hval
  obtain ⟨fuel, hf⟩ := hd
  rw [sh_kc_api_Entry] at hsz
  obtain ⟨q, hq, hin⟩ := open_En_C (cs := cs.toList) (by simpa using hsz) hf
  refine ⟨q, ?_, hin⟩
  congr 1
  exact Array.ext' hq
theorem sh_kc_api_Kind : Try.prog.cellsOf 23 = 1 := by kernel_rfl
theorem sh_kc_api_Op : Try.prog.cellsOf 24 = 1 := by kernel_rfl
theorem sh_kc_api_Ask : Try.prog.cellsOf 30 = 19 := by kernel_rfl
theorem open_Ak_C {cs : List Value} {fuel : Nat} {x : DataW H × List MemPlace} (hlen : cs.length = 19) (hf : DataW.trod enc Try.prog w base spare held fuel 30 cs = some x) :
    ∃ d : Ak, cs = d.cells.toList ∧ d.In := by
  obtain ⟨xs, nn, _, hx, _, hxl, hg⟩ := DataW.trod_struct Try.underlying30 hf
  have h0 := hg 0 _ rfl
  have h1 := hg 1 _ rfl
  have h2 := hg 2 _ rfl
  have h3 := hg 3 _ rfl
  have h4 := hg 4 _ rfl
  have h5 := hg 5 _ rfl
  have h6 := hg 6 _ rfl
  have h7 := hg 7 _ rfl
  have h8 := hg 8 _ rfl
  have h9 := hg 9 _ rfl
  have h10 := hg 10 _ rfl
  have h11 := hg 11 _ rfl
  obtain ⟨x0, e0⟩ : ∃ x, xs[0]? = some x := ⟨xs[0]'(by rw [hxl]; decide), List.getElem?_eq_getElem _⟩
  obtain ⟨x1, e1⟩ : ∃ x, xs[1]? = some x := ⟨xs[1]'(by rw [hxl]; decide), List.getElem?_eq_getElem _⟩
  obtain ⟨x2, e2⟩ : ∃ x, xs[2]? = some x := ⟨xs[2]'(by rw [hxl]; decide), List.getElem?_eq_getElem _⟩
  obtain ⟨x3, e3⟩ : ∃ x, xs[3]? = some x := ⟨xs[3]'(by rw [hxl]; decide), List.getElem?_eq_getElem _⟩
  obtain ⟨x4, e4⟩ : ∃ x, xs[4]? = some x := ⟨xs[4]'(by rw [hxl]; decide), List.getElem?_eq_getElem _⟩
  obtain ⟨x5, e5⟩ : ∃ x, xs[5]? = some x := ⟨xs[5]'(by rw [hxl]; decide), List.getElem?_eq_getElem _⟩
  obtain ⟨x6, e6⟩ : ∃ x, xs[6]? = some x := ⟨xs[6]'(by rw [hxl]; decide), List.getElem?_eq_getElem _⟩
  obtain ⟨x7, e7⟩ : ∃ x, xs[7]? = some x := ⟨xs[7]'(by rw [hxl]; decide), List.getElem?_eq_getElem _⟩
  obtain ⟨x8, e8⟩ : ∃ x, xs[8]? = some x := ⟨xs[8]'(by rw [hxl]; decide), List.getElem?_eq_getElem _⟩
  obtain ⟨x9, e9⟩ : ∃ x, xs[9]? = some x := ⟨xs[9]'(by rw [hxl]; decide), List.getElem?_eq_getElem _⟩
  obtain ⟨x10, e10⟩ : ∃ x, xs[10]? = some x := ⟨xs[10]'(by rw [hxl]; decide), List.getElem?_eq_getElem _⟩
  obtain ⟨x11, e11⟩ : ∃ x, xs[11]? = some x := ⟨xs[11]'(by rw [hxl]; decide), List.getElem?_eq_getElem _⟩
  change DataW.trod enc Try.prog w base spare held nn 23 (List.take (Try.prog.cellsOf 23) (List.drop 0 _)) = _ at h0
  rw [sh_kc_api_Kind, e0] at h0
  change DataW.trod enc Try.prog w base spare held nn 22 (List.take (Try.prog.cellsOf 22) (List.drop 1 _)) = _ at h1
  rw [sh_kc_uint64, e1] at h1
  change DataW.trod enc Try.prog w base spare held nn 22 (List.take (Try.prog.cellsOf 22) (List.drop 2 _)) = _ at h2
  rw [sh_kc_uint64, e2] at h2
  change DataW.trod enc Try.prog w base spare held nn 3 (List.take (Try.prog.cellsOf 3) (List.drop 3 _)) = _ at h3
  rw [sh_kc_int, e3] at h3
  change DataW.trod enc Try.prog w base spare held nn 3 (List.take (Try.prog.cellsOf 3) (List.drop 4 _)) = _ at h4
  rw [sh_kc_int, e4] at h4
  change DataW.trod enc Try.prog w base spare held nn 24 (List.take (Try.prog.cellsOf 24) (List.drop 5 _)) = _ at h5
  rw [sh_kc_api_Op, e5] at h5
  change DataW.trod enc Try.prog w base spare held nn 22 (List.take (Try.prog.cellsOf 22) (List.drop 6 _)) = _ at h6
  rw [sh_kc_uint64, e6] at h6
  change DataW.trod enc Try.prog w base spare held nn 22 (List.take (Try.prog.cellsOf 22) (List.drop 7 _)) = _ at h7
  rw [sh_kc_uint64, e7] at h7
  change DataW.trod enc Try.prog w base spare held nn 4 (List.take (Try.prog.cellsOf 4) (List.drop 8 _)) = _ at h8
  rw [sh_kc_bool, e8] at h8
  change DataW.trod enc Try.prog w base spare held nn 3 (List.take (Try.prog.cellsOf 3) (List.drop 9 _)) = _ at h9
  rw [sh_kc_int, e9] at h9
  change DataW.trod enc Try.prog w base spare held nn 26 (List.take (Try.prog.cellsOf 26) (List.drop 10 _)) = _ at h10
  rw [sh_kc_api_Req, e10] at h10
  change DataW.trod enc Try.prog w base spare held nn 28 (List.take (Try.prog.cellsOf 28) (List.drop 15 _)) = _ at h11
  rw [sh_kc_api_Entry, e11] at h11
  match cs, hlen with
  | [v0, v1, v2, v3, v4, v5, v6, v7, v8, v9, v10, v11, v12, v13, v14, v15, v16, v17, v18], _ =>
    simp only [List.drop_zero, List.drop_succ_cons, List.take_succ_cons, List.take_zero] at h0 h1 h2 h3 h4 h5 h6 h7 h8 h9 h10 h11
    obtain ⟨a0, p0, -, q0⟩ := DataW.trod_int Try.underlying23 h0
    simp only [List.cons.injEq, and_true] at p0
    subst p0
    obtain ⟨a1, p1, -, q1⟩ := DataW.trod_int Try.underlying22 h1
    simp only [List.cons.injEq, and_true] at p1
    subst p1
    obtain ⟨a2, p2, -, q2⟩ := DataW.trod_int Try.underlying22 h2
    simp only [List.cons.injEq, and_true] at p2
    subst p2
    obtain ⟨a3, p3, -, q3⟩ := DataW.trod_int Try.underlying3 h3
    simp only [List.cons.injEq, and_true] at p3
    subst p3
    obtain ⟨a4, p4, -, q4⟩ := DataW.trod_int Try.underlying3 h4
    simp only [List.cons.injEq, and_true] at p4
    subst p4
    obtain ⟨a5, p5, -, q5⟩ := DataW.trod_int Try.underlying24 h5
    simp only [List.cons.injEq, and_true] at p5
    subst p5
    obtain ⟨a6, p6, -, q6⟩ := DataW.trod_int Try.underlying22 h6
    simp only [List.cons.injEq, and_true] at p6
    subst p6
    obtain ⟨a7, p7, -, q7⟩ := DataW.trod_int Try.underlying22 h7
    simp only [List.cons.injEq, and_true] at p7
    subst p7
    obtain ⟨a8, p8, -⟩ := DataW.trod_bool Try.underlying4 h8
    simp only [List.cons.injEq, and_true] at p8
    subst p8
    obtain ⟨a9, p9, -, q9⟩ := DataW.trod_int Try.underlying3 h9
    simp only [List.cons.injEq, and_true] at p9
    subst p9
    obtain ⟨a10, p10, i10⟩ := open_Rq_C rfl h10
    simp at p10
    obtain ⟨rfl, rfl, rfl, rfl, rfl⟩ := p10
    obtain ⟨a11, p11, i11⟩ := open_En_C rfl h11
    simp at p11
    obtain ⟨rfl, rfl, rfl, rfl⟩ := p11
    exact ⟨⟨a0, a1, a2, a3, a4, a5, a6, a7, a8, a9, a10, a11⟩, rfl, bounds_i64 q0, bounds_u64 q1, bounds_u64 q2, bounds_i64 q3, bounds_i64 q4, bounds_i64 q5, bounds_u64 q6, bounds_u64 q7, bounds_i64 q9, i10, i11⟩
theorem open_Ak {r : Reach} {b0 : Nat} {v : Value} {d : DataW H} {ps : List MemPlace} (hval : Value.okWide Try.prog w r b0 30 v) (hd : DataW.Trod enc Try.prog w base spare held 30 v d ps) :
    ∃ q : Ak, v = .agg q.cells ∧ q.In := by
  simp only [Value.okWide, Try.underlying30] at hval
  obtain ⟨cs, rfl, hsz, _⟩ := hval
  obtain ⟨fuel, hf⟩ := hd
  rw [sh_kc_api_Ask] at hsz
  obtain ⟨q, hq, hin⟩ := open_Ak_C (cs := cs.toList) (by simpa using hsz) hf
  refine ⟨q, ?_, hin⟩
  congr 1
  exact Array.ext' hq
end
end Go.Proofs.Ytkknfhbaldeigaa
