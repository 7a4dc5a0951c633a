/-
  The law RamSome: what a memory that isn't there answers; the state while deeds are done.
-/
import Derived.Test.YtdlollkieihjpaaRsB
namespace Go.Proofs.Ytdlollkieihjpaa
open Go.ChangeShapes Go.WideShapes Go.ChangeAt Go.RowKit Wd

theorem wpList_valW {P : Program} {ops : Array Oper} {rest : List Oper} {o : Oper} {a : Act} {w w' : World} {Q : Exit → Act → World → Prop} (hw : Region.wanted o (yielded ops a.tmps) = true) (v : Value) (hv : (execOp a.eval o).run P w = .ok (.value v) w')
    (h : wpList P ops Q rest (a.put o.dst v) w') : wpList P ops Q (o :: rest) a w :=
  wpList_step fun K hK => by
    rw [if_pos hw]
    unfold Oper.wp
    rw [hv]
    exact hK _ _ h
theorem nilV (w : World) : linesV w none 0 := lines_nil w
theorem fill_nil (x : Int) (w : World) : Calls Try.prog 22 #[.pointer none, .int .u64 x, .slice none 0 0] w fun e w' => e = .returned (.bool false) ∧ w = w' := by
  go_enter Try.func22, Try.ntmps22
  go_wp2_with fail
  go_ret
  exact ⟨rfl, rfl⟩
theorem ne_arr (w : World) (xs ys : List Int) (hx : xs.length = 64) (hy : ys.length = 64) (r : Bool) (h : (!(xs == ys)) = r) : (binOp .neq 48 (.agg (aV .u8 xs)) (.agg (aV .u8 ys))).run Try.prog w = .ok (.bool r) w :=
  h ▸ run_neq_ints w 48 5 64 .u8 Try.underlying48 Try.underlying5 sz_u8 xs ys hx hy
theorem guard_arr : Try.prog.eqGuardType Try.prog.depth 48 = false := by kernel_rfl
theorem built_arr : Try.prog.built 48 [] = some (aV .u8 (List.replicate 64 0)) := by kernel_rfl
theorem exec_buildA {o : Oper} {a : Act} {w : World} (ho : o.op = .build 48 #[]) : (execOp a.eval o).run Try.prog w = .ok (.value (.agg (aV .u8 (List.replicate 64 0)))) w := by
  have hb := run_build (P := Try.prog) w 48 #[] _ (by simpa using built_arr)
  unfold execOp
  simp [ho, hb, Result.andThen]
/-- What stands while deeds are done. -/
structure Ss (w : World) (most : Int) (rb mb g xb n cap : Nat) (B : List Int) (W : World) : Prop where
  ram : RamAt W rb mb n B
  ref : RefAt W g 5 n B
  o : CsAt W w.heap.size 3 #[.int .i64 most]
  x : CsAt W xb 34 #[.slice (some ⟨g, 0, none⟩) (64 * n) cap]
  b : Below w.heap.size w W
theorem Ss.low {w W W' : World} {most : Int} {rb mb g xb n cap : Nat} {B : List Int} (h : Ss w most rb mb g xb n cap B W) (hb : Below W.heap.size W W') : Ss w most rb mb g xb n cap B W' :=
  ⟨h.ram.low hb, h.ref.low hb, h.o.low hb, h.x.low hb, h.b.trans (hb.mono h.b.size)⟩
theorem Ss.does {w W : World} {most : Int} {rb mb g xb n cap : Nat} {B : List Int} (h : Ss w most rb mb g xb n cap B W) (d : Deed) (hd : d.In w) (hl : d.bs.length ≤ 500) (h1 : w.heap.size < mb) (h2 : mb < rb) (h3 : rb < g) (h4 : g < xb) :
    Calls Try.prog 10 #[.pointer (some ⟨rb, 0, none⟩), mV g n cap, .agg d.cells] W fun e W' => e = .returned (.bool true) ∧ Ss w most rb mb g xb n cap (d.play n B) W' :=
  (do_c cap h.ram h.ref d ((hd.low h.b).ok hl) (hd.low h.b).sl (hd.apart (by omega) (by omega)) (by omega) (by omega)).mono fun e W' ⟨he, hr, hf, ht⟩ =>
    ⟨he, hr, hf, h.o.two ht (by omega) (by omega), h.x.two ht (by omega) (by omega), h.b.trans (ht.below (by omega) (by omega) h.b.size)⟩
end Go.Proofs.Ytdlollkieihjpaa
