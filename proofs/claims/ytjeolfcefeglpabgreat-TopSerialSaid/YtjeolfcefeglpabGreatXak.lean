/-
  What came in, opened: configurations, asks. Contracts of package wide (layer 2) but Plus, Neg, Over and Short: each call returns the numbers that are named here. The contract of the reference's Over (layer 2): the quotient of a wide number by a word that isn't 0, bit by bit, and what is left.
-/
import Derived.Test.YtjeolfcefeglpabGreatXad
import Derived.Deep.Slices
import Derived.OpenShut
import Derived.Test.YtjeolfcefeglpabGreatXab
import Derived.Lib.Mul64
import Derived.Laws.Bits64b
import Derived.Test.YtjeolfcefeglpabGreatXac
set_option maxRecDepth 20000
namespace Go.Proofs.YtjeolfcefeglpabGreat
open Go.ChangeShapes Go.WideShapes Go.ChangeAt Go.RowKit

/-- api.Conf. -/
structure Cf where
  harts : Int
  stripes : Int
  lines : Int
  tlb : Int
abbrev Cf.cells (d : Cf) : Array Value := #[.int .i64 d.harts, .int .i64 d.stripes, .int .i64 d.lines, .int .i64 d.tlb]
def Cf.zero : Cf := ⟨0, 0, 0, 0⟩
structure Cf.In (d : Cf) : Prop where
  harts : -9223372036854775808 ≤ d.harts ∧ d.harts ≤ 9223372036854775807
  stripes : -9223372036854775808 ≤ d.stripes ∧ d.stripes ≤ 9223372036854775807
  lines : -9223372036854775808 ≤ d.lines ∧ d.lines ≤ 9223372036854775807
  tlb : -9223372036854775808 ≤ d.tlb ∧ d.tlb ≤ 9223372036854775807
/-- api.Req. -/
structure Rq where
  set : Bool
  byVa : Bool
  byAsid : Bool
  va : Int
  asid : Int
abbrev Rq.cells (d : Rq) : Array Value := #[.bool d.set, .bool d.byVa, .bool d.byAsid, .int .u64 d.va, .int .i64 d.asid]
def Rq.zero : Rq := ⟨false, false, false, 0, 0⟩
structure Rq.In (d : Rq) : Prop where
  va : 0 ≤ d.va ∧ d.va ≤ 18446744073709551615
  asid : -9223372036854775808 ≤ d.asid ∧ d.asid ≤ 9223372036854775807
/-- api.Entry. -/
structure En where
  asid : Int
  page : Int
  level : Int
  pte : Int
abbrev En.cells (d : En) : Array Value := #[.int .i64 d.asid, .int .u64 d.page, .int .i64 d.level, .int .u64 d.pte]
def En.zero : En := ⟨0, 0, 0, 0⟩
structure En.In (d : En) : Prop where
  asid : -9223372036854775808 ≤ d.asid ∧ d.asid ≤ 9223372036854775807
  page : 0 ≤ d.page ∧ d.page ≤ 18446744073709551615
  level : -9223372036854775808 ≤ d.level ∧ d.level ≤ 9223372036854775807
  pte : 0 ≤ d.pte ∧ d.pte ≤ 18446744073709551615
/-- api.Ask. -/
structure Ak where
  kind : Int
  addr : Int
  next : Int
  cut : Int
  size : Int
  op : Int
  data : Int
  old : Int
  live : Bool
  hart : Int
  req : Rq
  entry : En
abbrev Ak.cells (d : Ak) : Array Value := #[.int .i64 d.kind, .int .u64 d.addr, .int .u64 d.next, .int .i64 d.cut, .int .i64 d.size, .int .i64 d.op, .int .u64 d.data, .int .u64 d.old, .bool d.live, .int .i64 d.hart, .bool d.req.set, .bool d.req.byVa, .bool d.req.byAsid, .int .u64 d.req.va, .int .i64 d.req.asid, .int .i64 d.entry.asid, .int .u64 d.entry.page, .int .i64 d.entry.level, .int .u64 d.entry.pte]
def Ak.zero : Ak := ⟨0, 0, 0, 0, 0, 0, 0, 0, false, 0, ⟨false, false, false, 0, 0⟩, ⟨0, 0, 0, 0⟩⟩
structure Ak.In (d : Ak) : Prop where
  kind : -9223372036854775808 ≤ d.kind ∧ d.kind ≤ 9223372036854775807
  addr : 0 ≤ d.addr ∧ d.addr ≤ 18446744073709551615
  next : 0 ≤ d.next ∧ d.next ≤ 18446744073709551615
  cut : -9223372036854775808 ≤ d.cut ∧ d.cut ≤ 9223372036854775807
  size : -9223372036854775808 ≤ d.size ∧ d.size ≤ 9223372036854775807
  op : -9223372036854775808 ≤ d.op ∧ d.op ≤ 9223372036854775807
  data : 0 ≤ d.data ∧ d.data ≤ 18446744073709551615
  old : 0 ≤ d.old ∧ d.old ≤ 18446744073709551615
  hart : -9223372036854775808 ≤ d.hart ∧ d.hart ≤ 9223372036854775807
  req : d.req.In
  entry : d.entry.In
section
variable {H : Type} {enc : TypeId × Value → H} {w : World} {base : Nat} {spare : Nat → Bool} {held : Bool}
theorem sh_kc_int : Tryz.prog.cellsOf 3 = 1 := by kernel_rfl
theorem sh_kc_api_Conf : Tryz.prog.cellsOf 26 = 4 := by kernel_rfl
theorem open_Cf_C {cs : List Value} {fuel : Nat} {x : DataW H × List MemPlace} (hlen : cs.length = 4) (hf : DataW.trod enc Tryz.prog w base spare held fuel 26 cs = some x) :
    ∃ d : Cf, cs = d.cells.toList ∧ d.In := by
  obtain ⟨xs, nn, _, hx, _, hxl, hg⟩ := DataW.trod_struct Tryz.underlying26 hf
  have h0 := hg 0 _ rfl
  have h1 := hg 1 _ rfl
  have h2 := hg 2 _ rfl
  have h3 := hg 3 _ rfl
  obtain ⟨x0, e0⟩ : ∃ x, xs[0]? = some x := ⟨xs[0]'(by rw [hxl]; decide), List.getElem?_eq_getElem _⟩
  obtain ⟨x1, e1⟩ : ∃ x, xs[1]? = some x := ⟨xs[1]'(by rw [hxl]; decide), List.getElem?_eq_getElem _⟩
  obtain ⟨x2, e2⟩ : ∃ x, xs[2]? = some x := ⟨xs[2]'(by rw [hxl]; decide), List.getElem?_eq_getElem _⟩
  obtain ⟨x3, e3⟩ : ∃ x, xs[3]? = some x := ⟨xs[3]'(by rw [hxl]; decide), List.getElem?_eq_getElem _⟩
  change DataW.trod enc Tryz.prog w base spare held nn 3 (List.take (Tryz.prog.cellsOf 3) (List.drop 0 _)) = _ at h0
  rw [sh_kc_int, e0] at h0
  change DataW.trod enc Tryz.prog w base spare held nn 3 (List.take (Tryz.prog.cellsOf 3) (List.drop 1 _)) = _ at h1
  rw [sh_kc_int, e1] at h1
  change DataW.trod enc Tryz.prog w base spare held nn 3 (List.take (Tryz.prog.cellsOf 3) (List.drop 2 _)) = _ at h2
  rw [sh_kc_int, e2] at h2
  change DataW.trod enc Tryz.prog w base spare held nn 3 (List.take (Tryz.prog.cellsOf 3) (List.drop 3 _)) = _ at h3
  rw [sh_kc_int, e3] at h3
  match cs, hlen with
  | [v0, v1, v2, v3], _ =>
    simp only [List.drop_zero, List.drop_succ_cons, List.take_succ_cons, List.take_zero] at h0 h1 h2 h3
    obtain ⟨a0, p0, -, q0⟩ := DataW.trod_int Tryz.underlying3 h0
    simp only [List.cons.injEq, and_true] at p0
    subst p0
    obtain ⟨a1, p1, -, q1⟩ := DataW.trod_int Tryz.underlying3 h1
    simp only [List.cons.injEq, and_true] at p1
    subst p1
    obtain ⟨a2, p2, -, q2⟩ := DataW.trod_int Tryz.underlying3 h2
    simp only [List.cons.injEq, and_true] at p2
    subst p2
    obtain ⟨a3, p3, -, q3⟩ := DataW.trod_int Tryz.underlying3 h3
    simp only [List.cons.injEq, and_true] at p3
    subst p3
    exact ⟨⟨a0, a1, a2, a3⟩, rfl, bounds_i64 q0, bounds_i64 q1, bounds_i64 q2, bounds_i64 q3⟩
theorem open_Cf {r : Reach} {b0 : Nat} {v : Value} {d : DataW H} {ps : List MemPlace} (hval : Value.okWide Tryz.prog w r b0 26 v) (hd : DataW.Trod enc Tryz.prog w base spare held 26 v d ps) :
    ∃ q : Cf, v = .agg q.cells ∧ q.In := by
  simp only [Value.okWide, Tryz.underlying26] at hval
  obtain ⟨cs, rfl, hsz, _⟩ := hval
  obtain ⟨fuel, hf⟩ := hd
  rw [sh_kc_api_Conf] at hsz
  obtain ⟨q, hq, hin⟩ := open_Cf_C (cs := cs.toList) (by simpa using hsz) hf
  refine ⟨q, ?_, hin⟩
  congr 1
  exact Array.ext' hq
theorem sh_kc_bool : Tryz.prog.cellsOf 4 = 1 := by kernel_rfl
theorem sh_kc_uint64 : Tryz.prog.cellsOf 38 = 1 := by kernel_rfl
theorem sh_kc_api_Req : Tryz.prog.cellsOf 54 = 5 := by kernel_rfl
theorem open_Rq_C {cs : List Value} {fuel : Nat} {x : DataW H × List MemPlace} (hlen : cs.length = 5) (hf : DataW.trod enc Tryz.prog w base spare held fuel 54 cs = some x) :
    ∃ d : Rq, cs = d.cells.toList ∧ d.In := by
  obtain ⟨xs, nn, _, hx, _, hxl, hg⟩ := DataW.trod_struct Tryz.underlying54 hf
  have h0 := hg 0 _ rfl
  have h1 := hg 1 _ rfl
  have h2 := hg 2 _ rfl
  have h3 := hg 3 _ rfl
  have h4 := hg 4 _ rfl
  obtain ⟨x0, e0⟩ : ∃ x, xs[0]? = some x := ⟨xs[0]'(by rw [hxl]; decide), List.getElem?_eq_getElem _⟩
  obtain ⟨x1, e1⟩ : ∃ x, xs[1]? = some x := ⟨xs[1]'(by rw [hxl]; decide), List.getElem?_eq_getElem _⟩
  obtain ⟨x2, e2⟩ : ∃ x, xs[2]? = some x := ⟨xs[2]'(by rw [hxl]; decide), List.getElem?_eq_getElem _⟩
  obtain ⟨x3, e3⟩ : ∃ x, xs[3]? = some x := ⟨xs[3]'(by rw [hxl]; decide), List.getElem?_eq_getElem _⟩
  obtain ⟨x4, e4⟩ : ∃ x, xs[4]? = some x := ⟨xs[4]'(by rw [hxl]; decide), List.getElem?_eq_getElem _⟩
  change DataW.trod enc Tryz.prog w base spare held nn 4 (List.take (Tryz.prog.cellsOf 4) (List.drop 0 _)) = _ at h0
  rw [sh_kc_bool, e0] at h0
  change DataW.trod enc Tryz.prog w base spare held nn 4 (List.take (Tryz.prog.cellsOf 4) (List.drop 1 _)) = _ at h1
  rw [sh_kc_bool, e1] at h1
  change DataW.trod enc Tryz.prog w base spare held nn 4 (List.take (Tryz.prog.cellsOf 4) (List.drop 2 _)) = _ at h2
  rw [sh_kc_bool, e2] at h2
  change DataW.trod enc Tryz.prog w base spare held nn 38 (List.take (Tryz.prog.cellsOf 38) (List.drop 3 _)) = _ at h3
  rw [sh_kc_uint64, e3] at h3
  change DataW.trod enc Tryz.prog w base spare held nn 3 (List.take (Tryz.prog.cellsOf 3) (List.drop 4 _)) = _ at h4
  rw [sh_kc_int, e4] at h4
  match cs, hlen with
  | [v0, v1, v2, v3, v4], _ =>
    simp only [List.drop_zero, List.drop_succ_cons, List.take_succ_cons, List.take_zero] at h0 h1 h2 h3 h4
    obtain ⟨a0, p0, -⟩ := DataW.trod_bool Tryz.underlying4 h0
    simp only [List.cons.injEq, and_true] at p0
    subst p0
    obtain ⟨a1, p1, -⟩ := DataW.trod_bool Tryz.underlying4 h1
    simp only [List.cons.injEq, and_true] at p1
    subst p1
    obtain ⟨a2, p2, -⟩ := DataW.trod_bool Tryz.underlying4 h2
    simp only [List.cons.injEq, and_true] at p2
    subst p2
    obtain ⟨a3, p3, -, q3⟩ := DataW.trod_int Tryz.underlying38 h3
    simp only [List.cons.injEq, and_true] at p3
    subst p3
    obtain ⟨a4, p4, -, q4⟩ := DataW.trod_int Tryz.underlying3 h4
    simp only [List.cons.injEq, and_true] at p4
    subst p4
    exact ⟨⟨a0, a1, a2, a3, a4⟩, rfl, bounds_u64 q3, bounds_i64 q4⟩
theorem open_Rq {r : Reach} {b0 : Nat} {v : Value} {d : DataW H} {ps : List MemPlace} (hval : Value.okWide Tryz.prog w r b0 54 v) (hd : DataW.Trod enc Tryz.prog w base spare held 54 v d ps) :
    ∃ q : Rq, v = .agg q.cells ∧ q.In := by
  simp only [Value.okWide, Tryz.underlying54] at hval
  obtain ⟨cs, rfl, hsz, _⟩ := hval
  obtain ⟨fuel, hf⟩ := hd
  rw [sh_kc_api_Req] at hsz
  obtain ⟨q, hq, hin⟩ := open_Rq_C (cs := cs.toList) (by simpa using hsz) hf
  refine ⟨q, ?_, hin⟩
  congr 1
  exact Array.ext' hq
theorem sh_kc_api_Entry : Tryz.prog.cellsOf 56 = 4 := by kernel_rfl
theorem open_En_C {cs : List Value} {fuel : Nat} {x : DataW H × List MemPlace} (hlen : cs.length = 4) (hf : DataW.trod enc Tryz.prog w base spare held fuel 56 cs = some x) :
    ∃ d : En, cs = d.cells.toList ∧ d.In := by
  obtain ⟨xs, nn, _, hx, _, hxl, hg⟩ := DataW.trod_struct Tryz.underlying56 hf
  have h0 := hg 0 _ rfl
  have h1 := hg 1 _ rfl
  have h2 := hg 2 _ rfl
  have h3 := hg 3 _ rfl
  obtain ⟨x0, e0⟩ : ∃ x, xs[0]? = some x := ⟨xs[0]'(by rw [hxl]; decide), List.getElem?_eq_getElem _⟩
  obtain ⟨x1, e1⟩ : ∃ x, xs[1]? = some x := ⟨xs[1]'(by rw [hxl]; decide), List.getElem?_eq_getElem _⟩
  obtain ⟨x2, e2⟩ : ∃ x, xs[2]? = some x := ⟨xs[2]'(by rw [hxl]; decide), List.getElem?_eq_getElem _⟩
  obtain ⟨x3, e3⟩ : ∃ x, xs[3]? = some x := ⟨xs[3]'(by rw [hxl]; decide), List.getElem?_eq_getElem _⟩
  change DataW.trod enc Tryz.prog w base spare held nn 3 (List.take (Tryz.prog.cellsOf 3) (List.drop 0 _)) = _ at h0
  rw [sh_kc_int, e0] at h0
  change DataW.trod enc Tryz.prog w base spare held nn 38 (List.take (Tryz.prog.cellsOf 38) (List.drop 1 _)) = _ at h1
  rw [sh_kc_uint64, e1] at h1
  change DataW.trod enc Tryz.prog w base spare held nn 3 (List.take (Tryz.prog.cellsOf 3) (List.drop 2 _)) = _ at h2
  rw [sh_kc_int, e2] at h2
  change DataW.trod enc Tryz.prog w base spare held nn 38 (List.take (Tryz.prog.cellsOf 38) (List.drop 3 _)) = _ at h3
  rw [sh_kc_uint64, e3] at h3
  match cs, hlen with
  | [v0, v1, v2, v3], _ =>
    simp only [List.drop_zero, List.drop_succ_cons, List.take_succ_cons, List.take_zero] at h0 h1 h2 h3
    obtain ⟨a0, p0, -, q0⟩ := DataW.trod_int Tryz.underlying3 h0
    simp only [List.cons.injEq, and_true] at p0
    subst p0
    obtain ⟨a1, p1, -, q1⟩ := DataW.trod_int Tryz.underlying38 h1
    simp only [List.cons.injEq, and_true] at p1
    subst p1
    obtain ⟨a2, p2, -, q2⟩ := DataW.trod_int Tryz.underlying3 h2
    simp only [List.cons.injEq, and_true] at p2
    subst p2
    obtain ⟨a3, p3, -, q3⟩ := DataW.trod_int Tryz.underlying38 h3
    simp only [List.cons.injEq, and_true] at p3
    subst p3
    exact ⟨⟨a0, a1, a2, a3⟩, rfl, bounds_i64 q0, bounds_u64 q1, bounds_i64 q2, bounds_u64 q3⟩
theorem open_En {r : Reach} {b0 : Nat} {v : Value} {d : DataW H} {ps : List MemPlace} (hval : Value.okWide Tryz.prog w r b0 56 v) (hd : DataW.Trod enc Tryz.prog w base spare held 56 v d ps) :
    ∃ q : En, v = .agg q.cells ∧ q.In := by
  simp only [Value.okWide, Tryz.underlying56] at hval
  obtain ⟨cs, rfl, hsz, _⟩ := hval
  obtain ⟨fuel, hf⟩ := hd
  rw [sh_kc_api_Entry] at hsz
  obtain ⟨q, hq, hin⟩ := open_En_C (cs := cs.toList) (by simpa using hsz) hf
  refine ⟨q, ?_, hin⟩
  congr 1
  exact Array.ext' hq
theorem sh_kc_api_Kind : Tryz.prog.cellsOf 51 = 1 := by kernel_rfl
theorem sh_kc_api_Op : Tryz.prog.cellsOf 52 = 1 := by kernel_rfl
theorem sh_kc_api_Ask : Tryz.prog.cellsOf 58 = 19 := by kernel_rfl
theorem open_Ak_C {cs : List Value} {fuel : Nat} {x : DataW H × List MemPlace} (hlen : cs.length = 19) (hf : DataW.trod enc Tryz.prog w base spare held fuel 58 cs = some x) :
    ∃ d : Ak, cs = d.cells.toList ∧ d.In := by
  obtain ⟨xs, nn, _, hx, _, hxl, hg⟩ := DataW.trod_struct Tryz.underlying58 hf
  have h0 := hg 0 _ rfl
  have h1 := hg 1 _ rfl
  have h2 := hg 2 _ rfl
  have h3 := hg 3 _ rfl
  have h4 := hg 4 _ rfl
  have h5 := hg 5 _ rfl
  have h6 := hg 6 _ rfl
  have h7 := hg 7 _ rfl
  have h8 := hg 8 _ rfl
  have h9 := hg 9 _ rfl
  have h10 := hg 10 _ rfl
  have h11 := hg 11 _ rfl
  obtain ⟨x0, e0⟩ : ∃ x, xs[0]? = some x := ⟨xs[0]'(by rw [hxl]; decide), List.getElem?_eq_getElem _⟩
  obtain ⟨x1, e1⟩ : ∃ x, xs[1]? = some x := ⟨xs[1]'(by rw [hxl]; decide), List.getElem?_eq_getElem _⟩
  obtain ⟨x2, e2⟩ : ∃ x, xs[2]? = some x := ⟨xs[2]'(by rw [hxl]; decide), List.getElem?_eq_getElem _⟩
  obtain ⟨x3, e3⟩ : ∃ x, xs[3]? = some x := ⟨xs[3]'(by rw [hxl]; decide), List.getElem?_eq_getElem _⟩
  obtain ⟨x4, e4⟩ : ∃ x, xs[4]? = some x := ⟨xs[4]'(by rw [hxl]; decide), List.getElem?_eq_getElem _⟩
  obtain ⟨x5, e5⟩ : ∃ x, xs[5]? = some x := ⟨xs[5]'(by rw [hxl]; decide), List.getElem?_eq_getElem _⟩
  obtain ⟨x6, e6⟩ : ∃ x, xs[6]? = some x := ⟨xs[6]'(by rw [hxl]; decide), List.getElem?_eq_getElem _⟩
  obtain ⟨x7, e7⟩ : ∃ x, xs[7]? = some x := ⟨xs[7]'(by rw [hxl]; decide), List.getElem?_eq_getElem _⟩
  obtain ⟨x8, e8⟩ : ∃ x, xs[8]? = some x := ⟨xs[8]'(by rw [hxl]; decide), List.getElem?_eq_getElem _⟩
  obtain ⟨x9, e9⟩ : ∃ x, xs[9]? = some x := ⟨xs[9]'(by rw [hxl]; decide), List.getElem?_eq_getElem _⟩
  obtain ⟨x10, e10⟩ : ∃ x, xs[10]? = some x := ⟨xs[10]'(by rw [hxl]; decide), List.getElem?_eq_getElem _⟩
  obtain ⟨x11, e11⟩ : ∃ x, xs[11]? = some x := ⟨xs[11]'(by rw [hxl]; decide), List.getElem?_eq_getElem _⟩
  change DataW.trod enc Tryz.prog w base spare held nn 51 (List.take (Tryz.prog.cellsOf 51) (List.drop 0 _)) = _ at h0
  rw [sh_kc_api_Kind, e0] at h0
  change DataW.trod enc Tryz.prog w base spare held nn 38 (List.take (Tryz.prog.cellsOf 38) (List.drop 1 _)) = _ at h1
  rw [sh_kc_uint64, e1] at h1
  change DataW.trod enc Tryz.prog w base spare held nn 38 (List.take (Tryz.prog.cellsOf 38) (List.drop 2 _)) = _ at h2
  rw [sh_kc_uint64, e2] at h2
  change DataW.trod enc Tryz.prog w base spare held nn 3 (List.take (Tryz.prog.cellsOf 3) (List.drop 3 _)) = _ at h3
  rw [sh_kc_int, e3] at h3
  change DataW.trod enc Tryz.prog w base spare held nn 3 (List.take (Tryz.prog.cellsOf 3) (List.drop 4 _)) = _ at h4
  rw [sh_kc_int, e4] at h4
  change DataW.trod enc Tryz.prog w base spare held nn 52 (List.take (Tryz.prog.cellsOf 52) (List.drop 5 _)) = _ at h5
  rw [sh_kc_api_Op, e5] at h5
  change DataW.trod enc Tryz.prog w base spare held nn 38 (List.take (Tryz.prog.cellsOf 38) (List.drop 6 _)) = _ at h6
  rw [sh_kc_uint64, e6] at h6
  change DataW.trod enc Tryz.prog w base spare held nn 38 (List.take (Tryz.prog.cellsOf 38) (List.drop 7 _)) = _ at h7
  rw [sh_kc_uint64, e7] at h7
  change DataW.trod enc Tryz.prog w base spare held nn 4 (List.take (Tryz.prog.cellsOf 4) (List.drop 8 _)) = _ at h8
  rw [sh_kc_bool, e8] at h8
  change DataW.trod enc Tryz.prog w base spare held nn 3 (List.take (Tryz.prog.cellsOf 3) (List.drop 9 _)) = _ at h9
  rw [sh_kc_int, e9] at h9
  change DataW.trod enc Tryz.prog w base spare held nn 54 (List.take (Tryz.prog.cellsOf 54) (List.drop 10 _)) = _ at h10
  rw [sh_kc_api_Req, e10] at h10
  change DataW.trod enc Tryz.prog w base spare held nn 56 (List.take (Tryz.prog.cellsOf 56) (List.drop 15 _)) = _ at h11
  rw [sh_kc_api_Entry, e11] at h11
  match cs, hlen with
  | [v0, v1, v2, v3, v4, v5, v6, v7, v8, v9, v10, v11, v12, v13, v14, v15, v16, v17, v18], _ =>
    simp only [List.drop_zero, List.drop_succ_cons, List.take_succ_cons, List.take_zero] at h0 h1 h2 h3 h4 h5 h6 h7 h8 h9 h10 h11
    obtain ⟨a0, p0, -, q0⟩ := DataW.trod_int Tryz.underlying51 h0
    simp only [List.cons.injEq, and_true] at p0
    subst p0
    obtain ⟨a1, p1, -, q1⟩ := DataW.trod_int Tryz.underlying38 h1
    simp only [List.cons.injEq, and_true] at p1
    subst p1
    obtain ⟨a2, p2, -, q2⟩ := DataW.trod_int Tryz.underlying38 h2
    simp only [List.cons.injEq, and_true] at p2
    subst p2
    obtain ⟨a3, p3, -, q3⟩ := DataW.trod_int Tryz.underlying3 h3
    simp only [List.cons.injEq, and_true] at p3
    subst p3
    obtain ⟨a4, p4, -, q4⟩ := DataW.trod_int Tryz.underlying3 h4
    simp only [List.cons.injEq, and_true] at p4
    subst p4
    obtain ⟨a5, p5, -, q5⟩ := DataW.trod_int Tryz.underlying52 h5
    simp only [List.cons.injEq, and_true] at p5
    subst p5
    obtain ⟨a6, p6, -, q6⟩ := DataW.trod_int Tryz.underlying38 h6
    simp only [List.cons.injEq, and_true] at p6
    subst p6
    obtain ⟨a7, p7, -, q7⟩ := DataW.trod_int Tryz.underlying38 h7
    simp only [List.cons.injEq, and_true] at p7
    subst p7
    obtain ⟨a8, p8, -⟩ := DataW.trod_bool Tryz.underlying4 h8
    simp only [List.cons.injEq, and_true] at p8
    subst p8
    obtain ⟨a9, p9, -, q9⟩ := DataW.trod_int Tryz.underlying3 h9
    simp only [List.cons.injEq, and_true] at p9
    subst p9
    obtain ⟨a10, p10, i10⟩ := open_Rq_C rfl h10
    simp at p10
    obtain ⟨rfl, rfl, rfl, rfl, rfl⟩ := p10
    obtain ⟨a11, p11, i11⟩ := open_En_C rfl h11
    simp at p11
    obtain ⟨rfl, rfl, rfl, rfl⟩ := p11
    exact ⟨⟨a0, a1, a2, a3, a4, a5, a6, a7, a8, a9, a10, a11⟩, rfl, bounds_i64 q0, bounds_u64 q1, bounds_u64 q2, bounds_i64 q3, bounds_i64 q4, bounds_i64 q5, bounds_u64 q6, bounds_u64 q7, bounds_i64 q9, i10, i11⟩
theorem open_Ak {r : Reach} {b0 : Nat} {v : Value} {d : DataW H} {ps : List MemPlace} (hval : Value.okWide Tryz.prog w r b0 58 v) (hd : DataW.Trod enc Tryz.prog w base spare held 58 v d ps) :
    ∃ q : Ak, v = .agg q.cells ∧ q.In := by
  simp only [Value.okWide, Tryz.underlying58] at hval
  obtain ⟨cs, rfl, hsz, _⟩ := hval
  obtain ⟨fuel, hf⟩ := hd
  rw [sh_kc_api_Ask] at hsz
  obtain ⟨q, hq, hin⟩ := open_Ak_C (cs := cs.toList) (by simpa using hsz) hf
  refine ⟨q, ?_, hin⟩
  congr 1
  exact Array.ext' hq
end
end Go.Proofs.YtjeolfcefeglpabGreat
set_option maxRecDepth 20000
namespace Go.Proofs.YtjeolfcefeglpabGreat
open Go.ChangeShapes Go.WideShapes Go.ChangeAt Go.RowKit Wd

namespace M64
theorem maskN (a : Nat) (ha : a < 18446744073709551616) : bits .and .u64 (a : Int) 4294967295 = ((a % 4294967296 : Nat) : Int) := by
  have h := bits_and_u64_nat a 4294967295 ha (by omega)
  have e : a &&& 4294967295 = a % 4294967296 := Nat.and_two_pow_sub_one_eq_mod a 32
  rw [e] at h
  exact h
theorem divN (a : Nat) : (a : Int) / 4294967296 = ((a / 4294967296 : Nat) : Int) := by omega
theorem mulN (a b : Nat) : (a : Int) * (b : Int) = ((a * b : Nat) : Int) := (Int.natCast_mul a b).symm
theorem addN (a b : Nat) : (a : Int) + (b : Int) = ((a + b : Nat) : Int) := (Int.natCast_add a b).symm
theorem wrapN (a : Nat) (ha : a < 18446744073709551616) : IntKind.u64.wrap (a : Int) = (a : Int) := by rw [IntKind.wrap_u64]; omega
theorem wrapM (a : Nat) : IntKind.u64.wrap (a : Int) = ((a % 18446744073709551616 : Nat) : Int) := by rw [IntKind.wrap_u64]; omega
end M64

def mulHi (a b : Int) : Int := a * b / 18446744073709551616
def mulLo (a b : Int) : Int := a * b % 18446744073709551616
theorem mulLo_range (a b : Int) : 0 ≤ mulLo a b ∧ mulLo a b < 18446744073709551616 := by unfold mulLo; omega
theorem mulHi_range {a b : Int} (ha0 : 0 ≤ a) (ha : a < 18446744073709551616) (hb0 : 0 ≤ b) (hb : b < 18446744073709551616) : 0 ≤ mulHi a b ∧ mulHi a b < 18446744073709551616 := by
  unfold mulHi
  have h1 : 0 ≤ a * b := Int.mul_nonneg ha0 hb0
  have h2 : a * b ≤ 18446744073709551615 * 18446744073709551615 := Int.mul_le_mul (by omega) (by omega) hb0 (by omega)
  generalize a * b = q at *
  omega

theorem less0 {a : Int} (ha0 : 0 ≤ a) (ha : a < 18446744073709551616) : lessS a 0 = decide (9223372036854775808 ≤ a) := by
  unfold lessS
  apply decide_eq_decide.2
  unfold wrap64
  omega
def hMix (a b : Int) : Int := if 9223372036854775808 ≤ a then IntKind.u64.wrap (mulHi a b - b) else mulHi a b
def hSig (a b : Int) : Int := if 9223372036854775808 ≤ b then IntKind.u64.wrap (hMix a b - a) else hMix a b
def divS (a b : Int) : Int := if b = 0 then 18446744073709551615 else IntKind.u64.wrap (wrap64 ((wrap64 a).tdiv (wrap64 b)))
def divP (a b : Int) : Int := if b = 0 then 18446744073709551615 else a / b
theorem wrap64_ne {b : Int} (h0 : 0 ≤ b) (h : b < 18446744073709551616) (hb : ¬ b = 0) : wrap64 b ≠ 0 := by unfold wrap64; omega
def remS (a b : Int) : Int := IntKind.u64.wrap (a - IntKind.u64.wrap (b * divS a b))
def remP (a b : Int) : Int := IntKind.u64.wrap (a - IntKind.u64.wrap (b * divP a b))
/-! ### live() of the laws of layer 2 -/
end Go.Proofs.YtjeolfcefeglpabGreat
set_option maxRecDepth 20000
namespace Go.Proofs.YtjeolfcefeglpabGreat
open Go.ChangeShapes Go.WideShapes Go.ChangeAt Go.RowKit Wd

def dbit (D : Nat) (j : Nat) : Bool := D.testBit (127 - j)
theorem half_bit (X s : Nat) : X / 2 ^ s = 2 * (X / 2 ^ (s + 1)) + (if X.testBit s then 1 else 0) := by
  rw [Nat.testBit_eq_decide_div_mod_eq, Nat.pow_succ, ← Nat.div_div_eq_div_mul]
  generalize X / 2 ^ s = q
  by_cases c : q % 2 = 1
  · simp [c]; omega
  · simp [c]; omega
theorem div_swap (N B s : Nat) : N / B / 2 ^ s = N / 2 ^ s / B := by
  rw [Nat.div_div_eq_div_mul, Nat.div_div_eq_div_mul, Nat.mul_comm]
theorem one_step {P B z : Nat} (hB : 0 < B) (hz : z ≤ 1) :
    (B ≤ 2 * (P % B) + z → (2 * P + z) % B + B = 2 * (P % B) + z ∧ (2 * P + z) / B = 2 * (P / B) + 1) ∧
    (¬ B ≤ 2 * (P % B) + z → (2 * P + z) % B = 2 * (P % B) + z ∧ (2 * P + z) / B = 2 * (P / B)) := by
  have h1 := Nat.mod_lt P hB
  have h2 := Nat.div_add_mod P B
  have e : 2 * P + z = (2 * (P % B) + z) + 2 * (P / B) * B := by
    rw [Nat.mul_assoc 2, Nat.mul_comm (P / B) B]
    omega
  constructor
  · intro h
    have e2 : 2 * P + z = (2 * (P % B) + z - B) + (2 * (P / B) + 1) * B := by
      rw [Nat.add_mul, Nat.one_mul]
      omega
    have hl : 2 * (P % B) + z - B < B := by omega
    rw [e2, Nat.add_mul_mod_self_right, Nat.add_mul_div_right _ _ hB, Nat.mod_eq_of_lt hl, Nat.div_eq_of_lt hl]
    omega
  · intro h
    have hl : 2 * (P % B) + z < B := by omega
    rw [e, Nat.add_mul_mod_self_right, Nat.add_mul_div_right _ _ hB, Nat.mod_eq_of_lt hl, Nat.div_eq_of_lt hl]
    omega
theorem bit_of_half {q : Nat} {p : Nat} (h : q = 2 * p + 1) : decide (q % 2 = 1) = true := by apply decide_eq_true; omega
theorem bit_of_half0 {q : Nat} {p : Nat} (h : q = 2 * p) : decide (q % 2 = 1) = false := by apply decide_eq_false; omega
/-- One round: what is left, and the quotient's bit. -/
theorem over_step {N B s : Nat} {z r b : Int} (hB : 0 < B) (hb : b = B) (hz : z = bi (N.testBit s)) (hr : r = ((N / 2 ^ (s + 1) % B : Nat) : Int)) :
    (b ≤ 2 * r + z → ((N / 2 ^ s % B : Nat) : Int) = 2 * r + z - b ∧ true = (N / B).testBit s) ∧ (2 * r + z < b → ((N / 2 ^ s % B : Nat) : Int) = 2 * r + z ∧ false = (N / B).testBit s) := by
  have hbit := half_bit N s
  obtain ⟨zn, hzn, hz1⟩ : ∃ zn : Nat, zn = (if N.testBit s then 1 else 0) ∧ zn ≤ 1 := ⟨_, rfl, by split <;> omega⟩
  have hzi : z = zn := by rw [hz, hzn]; unfold bi; split <;> rfl
  rw [← hzn] at hbit
  rw [Nat.testBit_eq_decide_div_mod_eq, div_swap, hbit]
  obtain ⟨h1, h2⟩ := one_step (P := N / 2 ^ (s + 1)) hB hz1
  generalize N / 2 ^ (s + 1) = P at *
  constructor
  · intro h
    obtain ⟨a, c⟩ := h1 (by omega)
    exact ⟨by omega, (bit_of_half c).symm⟩
  · intro h
    obtain ⟨a, c⟩ := h2 (by omega)
    exact ⟨by omega, (bit_of_half0 c).symm⟩
theorem over_bit_hi {hi lo : Int} {s : Nat} (l0 : 0 ≤ lo) (l1 : lo < 18446744073709551616) (hs : 63 < s) (hs2 : s < 128) : tbI hi ((s : Int) - 64) = (hi.toNat * 18446744073709551616 + lo.toNat).testBit s := by
  have e : (s : Int) - 64 = ((s - 64 : Nat) : Int) := by omega
  rw [e, tbI_nat _ _ (by omega)]
  unfold tb
  have : hi.toNat * 18446744073709551616 + lo.toNat = 2 ^ 64 * hi.toNat + lo.toNat := by rw [Nat.mul_comm]
  rw [this, Nat.testBit_two_pow_mul_add _ (by omega), if_neg (by omega)]
theorem over_bit_lo {hi lo : Int} {s : Nat} (l0 : 0 ≤ lo) (l1 : lo < 18446744073709551616) (hs : s ≤ 63) : tbI lo (s : Int) = (hi.toNat * 18446744073709551616 + lo.toNat).testBit s := by
  rw [tbI_nat _ _ (by omega)]
  unfold tb
  have : hi.toNat * 18446744073709551616 + lo.toNat = 2 ^ 64 * hi.toNat + lo.toNat := by rw [Nat.mul_comm]
  rw [this, Nat.testBit_two_pow_mul_add _ (by omega), if_pos (by omega)]
theorem over_wrap {r z b : Int} (r0 : 9223372036854775807 < r) (r1 : r < b) (b1 : b < 18446744073709551616) (z0 : 0 ≤ z) (z1 : z ≤ 1) :
    IntKind.u64.wrap (IntKind.u64.wrap (IntKind.u64.wrap (2 * r) + z) - b) = 2 * r + z - b := by
  rw [IntKind.wrap_u64, IntKind.wrap_u64, IntKind.wrap_u64]; omega
theorem join_step {D s : Nat} {k : Nat} (hk : s + k = 127) : 2 * ((D / 2 ^ (s + 1) : Nat) : Int) + bi (dbit D k) = ((D / 2 ^ s : Nat) : Int) := by
  have h := half_bit D s
  have e : dbit D k = D.testBit s := by unfold dbit; rw [show 127 - k = s by omega]
  rw [e]
  unfold bi
  split <;> simp_all <;> omega
theorem join_step_lo {D s : Nat} {k : Nat} (hk : s + k = 63) : 2 * ((D % 18446744073709551616 / 2 ^ (s + 1) : Nat) : Int) + bi (dbit D (64 + k)) = ((D % 18446744073709551616 / 2 ^ s : Nat) : Int) := by
  have h := half_bit (D % 18446744073709551616) s
  have e : dbit D (64 + k) = (D % 18446744073709551616).testBit s := by
    unfold dbit
    rw [show 127 - (64 + k) = s by omega]
    have : D % 18446744073709551616 = D % 2 ^ 64 := rfl
    rw [this, Nat.testBit_mod_two_pow]
    have : s < 64 := by omega
    simp [this]
  rw [e]
  unfold bi
  split <;> simp_all <;> omega
end Go.Proofs.YtjeolfcefeglpabGreat
