/-
  The pieces of a number put together, bit by bit; the contracts of the functions that insn.Imm and insn.Lay hand to eachPart.
-/
import Derived.Test.YteknlcigfjdmdaaDoorInC
import Derived.StillTailTactics
import Derived.IntWalk
namespace Go.Proofs.YteknlcigfjdmdaaDoor
open Go.ChangeShapes Go.WideShapes Go.ChangeAt Go.RowKit Wd

/-- A part here: from bit .1 of the source, .2.1 bits, to bit .2.2. -/
def accB (x : Int) (L : List Part) (j : Nat) : Bool := L.any fun p => decide (p.2.2 ≤ (j : Int) ∧ (j : Int) < p.2.2 + p.2.1) && tb x (p.1 + j - p.2.2).toNat
def accW (x : Int) (L : List Part) : Int := word (accB x L)
theorem accW_range (x : Int) (L : List Part) : 0 ≤ accW x L ∧ accW x L < 18446744073709551616 := ⟨word_nonneg _, word_lt _⟩
theorem drew_eq (w : World) : ({ heap := w.heap, tape := w.tape, drawn := w.drawn + 1, os := w.os, output := w.output } : World) = w.drew := rfl
theorem Calls.turn {P : Program} {f : FuncId} {args : Array Value} {w : World} {v : Value} (h : Calls P f args w fun e w' => e = .returned v ∧ w = w') : Calls P f args w fun e w' => e = .returned v ∧ w' = w :=
  h.mono fun _ _ ⟨a, b⟩ => ⟨a, b.symm⟩
theorem part_box (W : World) (a b c : Value) (t : TypeId) : (W.alloc (.cells #[a, b, c] t)).drew.cell? ⟨W.heap.size, 0, none⟩ = some a ∧ (W.alloc (.cells #[a, b, c] t)).drew.cell? ⟨W.heap.size, 1, none⟩ = some b ∧ (W.alloc (.cells #[a, b, c] t)).drew.cell? ⟨W.heap.size, 2, none⟩ = some c := by
  refine ⟨?_, ?_, ?_⟩ <;> simp [go_sem]
theorem lt_cell {W : World} {b o : Nat} {v : Value} (h : W.cell? ⟨b, o, none⟩ = some v) : b < W.heap.size := World.block_lt_of_cell? W _ h
theorem old_cell (W : World) (o : Obj) {b i : Nat} {v : Value} (h : W.cell? ⟨b, i, none⟩ = some v) : (W.alloc o).drew.cell? ⟨b, i, none⟩ = some v ∧ (W.alloc o).drew.frozen? ⟨b, i, none⟩ = W.frozen? ⟨b, i, none⟩ := by
  have hb : Below W.heap.size W (W.alloc o).drew := ((Below.refl _ W).alloc (Nat.le_refl _) o).drew
  exact ⟨(hb.cell (p := ⟨b, i, none⟩) (lt_cell h)).trans h, hb.frozen (p := ⟨b, i, none⟩) (lt_cell h)⟩
set_option maxHeartbeats 2000000 in
theorem imm1_c (src size dst n x : Int) (pn pw : Nat) (W : World) (hn : W.cell? ⟨pn, 0, none⟩ = some (.int .u64 n)) (fn : W.frozen? ⟨pn, 0, none⟩ = false) (hw : W.cell? ⟨pw, 0, none⟩ = some (.int .u32 x))
    (hx0 : 0 ≤ x) (hx : x < 4294967296) (h0 : 0 ≤ src) (h1 : src < 64) (h2 : 0 ≤ dst) (h3 : dst < 64) :
    Calls Tryd.prog 42 #[.agg #[.int .i64 src, .int .i64 size, .int .i64 dst], .pointer (some ⟨pn, 0, none⟩), .pointer (some ⟨pw, 0, none⟩)] W fun e W' =>
      e = .returned (.tuple #[]) ∧ W' = ((W.alloc (.cells #[.int .i64 src, .int .i64 size, .int .i64 dst] 75)).drew).setCell ⟨pn, 0, none⟩ (.int .u64 (bits .or .u64 n (IntKind.u64.wrap (cutS x src size * 2 ^ dst.toNat)))) := by
  go_enter Tryd.func42, Tryd.ntmps42
  go_wp2_with fail
  refine wp_region_still_tail 12 (by kernel_rfl) (by kernel_rfl) ?_
  simp only [List.take_succ_cons, List.take_zero, List.drop_succ_cons, List.drop_zero]
  simp only [drew_eq]
  obtain ⟨b0, b1, b2⟩ := part_box W (.int .i64 src) (.int .i64 size) (.int .i64 dst) 75
  obtain ⟨c0, f0⟩ := old_cell W (.cells #[.int .i64 src, .int .i64 size, .int .i64 dst] 75) hn
  obtain ⟨c1, _⟩ := old_cell W (.cells #[.int .i64 src, .int .i64 size, .int .i64 dst] 75) hw
  rw [fn] at f0
  have HCU := Lib.hid (fun w' => Calls.turn (cut_c x src size w' hx0 (by omega) (by omega) (by omega)))
  have hwx : IntKind.u64.wrap x = x := IntWalk.u64_in _ (by omega)
  generalize hW2 : (W.alloc (.cells #[.int .i64 src, .int .i64 size, .int .i64 dst] 75)).drew = W2 at *
  have HW2 := Lib.hid hW2
  clear hn fn hw hW2
  iterate 7 still_step
  still_call (HCU.out _)
  iterate 4 still_step
  refine wpStill_nil ?_
  go_wp2_with fail
  go_end0
  exact ⟨rfl, by rw [HW2.out]⟩
set_option maxHeartbeats 2000000 in
theorem lay1_c (src size dst n x : Int) (pn pw : Nat) (W : World) (hn : W.cell? ⟨pn, 0, none⟩ = some (.int .u64 n)) (fn : W.frozen? ⟨pn, 0, none⟩ = false) (hw : W.cell? ⟨pw, 0, none⟩ = some (.int .i64 x))
    (h0 : 0 ≤ src) (h1 : src < 64) (h2 : 0 ≤ dst) (h3 : dst < 64) :
    Calls Tryd.prog 37 #[.agg #[.int .i64 dst, .int .i64 size, .int .i64 src], .pointer (some ⟨pn, 0, none⟩), .pointer (some ⟨pw, 0, none⟩)] W fun e W' =>
      e = .returned (.tuple #[]) ∧ W' = ((W.alloc (.cells #[.int .i64 dst, .int .i64 size, .int .i64 src] 75)).drew).setCell ⟨pn, 0, none⟩ (.int .u64 (bits .or .u64 n (IntKind.u64.wrap (cutS (IntKind.u64.wrap x) src size * 2 ^ dst.toNat)))) := by
  go_enter Tryd.func37, Tryd.ntmps37
  go_wp2_with fail
  refine wp_region_still_tail 12 (by kernel_rfl) (by kernel_rfl) ?_
  simp only [List.take_succ_cons, List.take_zero, List.drop_succ_cons, List.drop_zero]
  simp only [drew_eq]
  obtain ⟨b0, b1, b2⟩ := part_box W (.int .i64 dst) (.int .i64 size) (.int .i64 src) 75
  obtain ⟨c0, f0⟩ := old_cell W (.cells #[.int .i64 dst, .int .i64 size, .int .i64 src] 75) hn
  obtain ⟨c1, _⟩ := old_cell W (.cells #[.int .i64 dst, .int .i64 size, .int .i64 src] 75) hw
  rw [fn] at f0
  have HCU := Lib.hid (fun w' => Calls.turn (cut_c (IntKind.u64.wrap x) src size w' (wrap_range x).1 (wrap_range x).2 (by omega) (by omega)))
  generalize hW2 : (W.alloc (.cells #[.int .i64 dst, .int .i64 size, .int .i64 src] 75)).drew = W2 at *
  have HW2 := Lib.hid hW2
  clear hn fn hw hW2
  iterate 7 still_step
  still_call (HCU.out _)
  iterate 4 still_step
  refine wpStill_nil ?_
  go_wp2_with fail
  go_end0
  exact ⟨rfl, by rw [HW2.out]⟩
end Go.Proofs.YteknlcigfjdmdaaDoor
