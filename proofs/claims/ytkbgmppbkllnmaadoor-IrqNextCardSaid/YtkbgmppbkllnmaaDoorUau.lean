/-
  What the laws' frames share: the program's knobs. The listed variables csr.rows, csrfile.kept: what they give the walks; that the door's own heap meets them. What the laws' frames share: an array of two integers that came in, opened (the program's knobs: FrameO).
-/
import Derived.Test.YtkbgmppbkllnmaaDoorRows
import Derived.WalkKit
import Derived.ProofKit
import Derived.OpenShut
import Derived.ShutString
import Derived.ChangeOld
import Derived.Below
import Derived.Test.YtkbgmppbkllnmaaDoorUai
import Derived.LaidMore
import Derived.Stop.Joined
set_option maxRecDepth 20000
namespace Go.Proofs.YtkbgmppbkllnmaaDoor
open Go.ChangeShapes Go.WideShapes Go.ChangeAt Go.RowKit

theorem own : ownKnob Tryd.prog.godebug = none := by kernel_rfl
theorem laidOut : laidOutB Tryd.prog = true := by kernel_rfl

end Go.Proofs.YtkbgmppbkllnmaaDoor
set_option maxRecDepth 20000
namespace Go.Proofs.YtkbgmppbkllnmaaDoor
open Go.ChangeShapes Go.WideShapes Go.ChangeAt Go.RowKit Csr Cf

abbrev laidF {H : Type} : List (String × DataW H) := [("roebuck/csr.rows", Rows.laid_roebuck_csr_rows), ("roebuck/csrfile.kept", Rows.laid_roebuck_csrfile_kept)]
theorem gRowsC : Tryd.prog.globalNamed "roebuck/csr.rows" = some 2 := by kernel_rfl
theorem tRowsC : (Tryd.prog.globals[2]?).map (·.type) = some 165 := by kernel_rfl
theorem gKept : Tryd.prog.globalNamed "roebuck/csrfile.kept" = some 1 := by kernel_rfl
theorem tKept : (Tryd.prog.globals[1]?).map (·.type) = some 144 := by kernel_rfl
theorem rowsC_are {H : Type} : (Rows.laid_roebuck_csr_rows : DataW H) = .agg ((List.range 34).map fun k => .agg [.lit (.int .i64 ((rowC k).1 : Nat)), .lit (.string (rowC k).2.1), .lit (.int .u64 ((rowC k).2.2 : Nat))]) := by kernel_rfl
theorem kept_are {H : Type} : (Rows.laid_roebuck_csrfile_kept : DataW H) = .agg ((keptL.map fun k => ((k : Nat) : Int)).map fun x => .lit (.int .i64 x)) := by kernel_rfl
theorem doorF_met (os : Os) (args : Array Value) : laidMetH Tryd.prog laidF ((World.doorLaid Tryd.prog 400 os).forCall (fun _ _ => 0) ⟨#[], args, []⟩).memory :=
  laidMetH_of_parts3 (fuel := 8) (laidMet_of_run' 8 (by kernel_rfl) (by kernel_rfl)) (by kernel_rfl) (by kernel_rfl)
theorem kc_int : Tryd.prog.cellsOf 3 = 1 := by kernel_rfl
theorem kc_str : Tryd.prog.cellsOf 9 = 1 := by kernel_rfl
theorem kc_u64 : Tryd.prog.cellsOf 25 = 1 := by kernel_rfl
theorem kc_row : Tryd.prog.cellsOf CrT = 3 := by kernel_rfl
section
variable {H : Type} {enc : TypeId × Value → H} {w : World} {base : Nat} {spare : Nat → Bool} {held : Bool}
theorem trod_rowC {cs : List Value} {fuel : Nat} {x : DataW H × List MemPlace} (hlen : cs.length = 3) (hf : DataW.trod enc Tryd.prog w base spare held fuel CrT cs = some x) :
    ∃ (a : Int) (s : ByteArray) (m : Int), cs = [.int .i64 a, .string s, .int .u64 m] ∧ x.1 = .agg [.lit (.int .i64 a), .lit (.string s.data.toList), .lit (.int .u64 m)] := by
  obtain ⟨xs, nn, _, hx, _, hxl, hg⟩ := DataW.trod_struct Tryd.underlying158 hf
  have h0 := hg 0 _ rfl
  have h1 := hg 1 _ rfl
  have h2 := hg 2 _ rfl
  match xs, hxl with
  | [x0, x1, x2], _ =>
    change DataW.trod enc Tryd.prog w base spare held nn 3 (List.take (Tryd.prog.cellsOf 3) (List.drop 0 _)) = some x0 at h0
    rw [kc_int] at h0
    change DataW.trod enc Tryd.prog w base spare held nn 9 (List.take (Tryd.prog.cellsOf 9) (List.drop 1 _)) = some x1 at h1
    rw [kc_str] at h1
    change DataW.trod enc Tryd.prog w base spare held nn 25 (List.take (Tryd.prog.cellsOf 25) (List.drop 2 _)) = some x2 at h2
    rw [kc_u64] at h2
    match cs, hlen with
    | [v0, v1, v2], _ =>
      simp only [List.drop_zero, List.drop_succ_cons, List.take_succ_cons, List.take_zero] at h0 h1 h2
      obtain ⟨a, p0, r0, -⟩ := DataW.trod_int Tryd.underlying3 h0
      simp only [List.cons.injEq, and_true] at p0
      obtain ⟨s, p1, r1, -⟩ := DataW.trod_string Tryd.underlying9 h1
      simp only [List.cons.injEq, and_true] at p1
      obtain ⟨m, p2, r2, -⟩ := DataW.trod_int Tryd.underlying25 h2
      simp only [List.cons.injEq, and_true] at p2
      subst p0 p1 p2 hx
      exact ⟨a, s, m, rfl, by simp [r0, r1, r2]⟩
/-- An array of numbers that lies as listed. -/
theorem ints_at {l : List Int} {t : TypeId} {n : Nat} {cs : List Value} {fuel : Nat} {ps : List MemPlace} (ht : Tryd.prog.underlying t = some (.array n 3)) (hn : l.length = n) (hc : Tryd.prog.cellsOf t = n)
    (hf : DataW.trod enc Tryd.prog w base spare held fuel t cs = some (.agg (l.map fun x => .lit (.int .i64 x)), ps)) : ∀ k, k < n → cs[k]? = some (.int .i64 (l.getD k 0)) := by
  obtain ⟨xs, m1, -, hx1, hlen, hn3, hel⟩ := DataW.trod_array ht hf
  simp only [Prod.mk.injEq, DataW.agg.injEq] at hx1
  rw [hc] at hlen
  intro k hk
  have h0 := hel k hk
  rw [kc_int] at h0
  have hxk : xs[k]? = some (xs[k]'(by omega)) := List.getElem?_eq_getElem _
  rw [hxk] at h0
  rw [Nat.mul_one, List.drop_eq_getElem_cons (by omega : k < cs.length), List.take_succ_cons, List.take_zero] at h0
  obtain ⟨a, p0, r0, -⟩ := DataW.trod_int Tryd.underlying3 h0
  simp only [List.cons.injEq, and_true] at p0
  have hl : (xs.map (·.1))[k]? = some (DataW.lit (.int .i64 (l.getD k 0))) := by
    rw [← hx1.1, List.getElem?_map, List.getElem?_eq_getElem (by omega : k < l.length), List.getD_eq_getElem?_getD, List.getElem?_eq_getElem (by omega : k < l.length)]; rfl
  rw [List.getElem?_map, hxk, Option.map_some, r0] at hl
  simp only [Option.some.injEq, DataW.lit.injEq, Lit.int.injEq, true_and] at hl
  rw [List.getElem?_eq_getElem (by omega : k < cs.length), p0, hl]
end
theorem cell_ltD {W : World} {b o : Nat} {v : Value} (h : W.cell? ⟨b, o, none⟩ = some v) : b < W.heap.size := by
  apply Classical.byContradiction
  intro hn
  have : W.heap[b]? = none := Array.getElem?_eq_none (by omega)
  simp [World.cell?, this] at h
theorem of_laidF {W : World} (h : laidMetH Tryd.prog laidF W) : RowsIn W ∧ KeptIn W := by
  rw [MakeChecks.laidMetH_plain _ _ _ (by kernel_rfl)] at h
  obtain ⟨ps, ⟨g0, t0, cs0, f0, p0, q0, hg0, ht0, hv0, hd0, ⟨g1, t1, cs1, f1, p1, q1, hg1, ht1, hv1, hd1, _, _⟩, _⟩, _, _⟩ := h
  obtain rfl := Option.some.inj (gKept.symm.trans hg1)
  obtain rfl := Option.some.inj (tKept.symm.trans ht1)
  rw [kept_are] at hd1
  obtain rfl := Option.some.inj (gRowsC.symm.trans hg0)
  obtain rfl := Option.some.inj (tRowsC.symm.trans ht0)
  rw [rowsC_are] at hd0
  obtain ⟨xs, m1, -, hx1, hlen, hn3, hel⟩ := DataW.trod_array Tryd.underlying165 hd0
  simp only [Prod.mk.injEq, DataW.agg.injEq] at hx1
  have hlen2 : cs0.toList.length = 102 := by rw [hlen]; kernel_rfl
  have key : ∀ k, k < 34 → cs0[k * 3]? = some (.int .i64 ((rowC k).1 : Nat)) ∧ cs0[k * 3 + 1]? = some (.string (cB (rowC k).2.1)) ∧ cs0[k * 3 + 2]? = some (.int .u64 ((rowC k).2.2 : Nat)) := by
    intro k hk
    have h0 := hel k hk
    rw [kc_row] at h0
    have hxk : xs[k]? = some (xs[k]'(by omega)) := List.getElem?_eq_getElem _
    rw [hxk] at h0
    obtain ⟨a, s, m, e1, e2⟩ := trod_rowC (by simp; simp at hlen2; omega) h0
    have hl : (xs.map (·.1))[k]? = some (DataW.agg [.lit (.int .i64 ((rowC k).1 : Nat)), .lit (.string (rowC k).2.1), .lit (.int .u64 ((rowC k).2.2 : Nat))]) := by rw [← hx1.1]; simp [hk]
    rw [List.getElem?_map, hxk, Option.map_some, e2] at hl
    simp only [Option.some.injEq, DataW.agg.injEq, List.cons.injEq, DataW.lit.injEq, Lit.int.injEq, Lit.string.injEq, and_true, true_and] at hl
    obtain ⟨l1, l2, l3⟩ := hl
    have hs : s = cB (rowC k).2.1 := by
      obtain ⟨⟨l⟩⟩ := s
      simp only at l2
      rw [← l2]; rfl
    subst l1 hs l3
    have c : ∀ j, j < 3 → cs0[k * 3 + j]? = ((cs0.toList.drop (k * 3)).take 3)[j]? := fun j hj => by
      rw [List.getElem?_take, if_pos hj, List.getElem?_drop]; simp
    refine ⟨?_, ?_, ?_⟩
    · have := c 0 (by omega); rw [e1] at this; exact this
    · have := c 1 (by omega); rw [e1] at this; exact this
    · have := c 2 (by omega); rw [e1] at this; exact this
  have cv := fun j => World.var?_cell hg0 hv0 j
  have key1 := ints_at Tryd.underlying144 rfl (by kernel_rfl) hd1
  have cv1 := fun j => World.var?_cell hg1 hv1 j
  have hk1 : ∀ k, k < 22 → cs1[k]? = some (.int .i64 (keptN k : Nat)) := fun k hk => by
    have h1 := key1 k hk
    rw [(by decide : ∀ k : Fin 22, (keptL.map fun k => ((k : Nat) : Int)).getD k.val 0 = ((keptN k.val : Nat) : Int)) ⟨k, hk⟩] at h1
    simpa using h1
  refine ⟨?_, ⟨Nat.succ_le_of_lt (cell_ltD ((cv1 0).trans (hk1 0 (by omega)))), fun k h => (cv1 k).trans (hk1 k h)⟩⟩
  refine ⟨?_, fun k hk => ?_⟩
  · have h0 := (cv (0 * 3)).trans (key 0 (by omega)).1
    exact Nat.succ_le_of_lt (cell_ltD h0)
  · obtain ⟨a, b, c⟩ := key k hk
    exact ⟨(cv _).trans a, (cv _).trans b, (cv _).trans c⟩
end Go.Proofs.YtkbgmppbkllnmaaDoor
set_option maxRecDepth 20000
namespace Go.Proofs.YtkbgmppbkllnmaaDoor
open Go.ChangeShapes Go.WideShapes Go.ChangeAt Go.RowKit

theorem open_arr2 {H : Type} {enc : TypeId × Value → H} {w : World} {r : Reach} {b0 base : Nat} {spare : Nat → Bool} {held : Bool} {t e : TypeId} {k : IntKind} {v : Value} {d : DataW H} {ps : List MemPlace}
    (ht : Tryd.prog.underlying t = some (.array 2 e)) (he : Tryd.prog.underlying e = some (.int k)) (hct : Tryd.prog.cellsOf t = 2) (hce : Tryd.prog.cellsOf e = 1)
    (hval : Value.okWide Tryd.prog w r b0 t v) (hd : DataW.Trod enc Tryd.prog w base spare held t v d ps) :
    ∃ a b, v = .agg #[.int k a, .int k b] ∧ (Lit.int k a).wf = true ∧ (Lit.int k b).wf = true := by
  simp only [Value.okWide, ht] at hval
  obtain ⟨cs, rfl, hsz, _⟩ := hval
  obtain ⟨fuel, hf⟩ := hd
  obtain ⟨xs, m, rfl, _, hl, hxl, hall⟩ := DataW.trod_array ht hf
  rw [hct] at hsz
  have h0 := hall 0 (by omega)
  have h1 := hall 1 (by omega)
  rw [hce] at h0 h1
  have hx0 : ∃ x, xs[0]? = some x := ⟨xs[0], by simp [hxl]⟩
  have hx1 : ∃ x, xs[1]? = some x := ⟨xs[1], by simp [hxl]⟩
  obtain ⟨x0, hx0⟩ := hx0
  obtain ⟨x1, hx1⟩ := hx1
  rw [hx0] at h0
  rw [hx1] at h1
  obtain ⟨a, ha, _, hwa⟩ := DataW.trod_int he h0
  obtain ⟨b, hb, _, hwb⟩ := DataW.trod_int he h1
  refine ⟨a, b, ?_, hwa, hwb⟩
  obtain ⟨l⟩ := cs
  match l, hsz with
  | [c0, c1], _ =>
    simp [Value.cells] at ha hb
    subst ha
    subst hb
    rfl
end Go.Proofs.YtkbgmppbkllnmaaDoor
