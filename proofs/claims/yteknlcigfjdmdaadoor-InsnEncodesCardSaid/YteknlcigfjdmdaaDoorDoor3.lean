/-
  What the listed variables give the walks: the tables insn.values and insn.fields in memory; and the door's own heap, in which they lie so.
-/
import Derived.Test.YteknlcigfjdmdaaDoorLive3
import Derived.Test.YteknlcigfjdmdaaDoorFrame
import Derived.LaidMore
import Derived.Stop.Joined
namespace Go.Proofs.YteknlcigfjdmdaaDoor
open Go.ChangeShapes Go.WideShapes Go.ChangeAt Go.RowKit Wd

abbrev laid2 {H : Type} : List (String × DataW H) := [("roebuck/insn.fields", Rows.laid_roebuck_insn_fields), ("roebuck/insn.values", Rows.laid_roebuck_insn_values)]
theorem gFields : Tryd.prog.globalNamed "roebuck/insn.fields" = some 1 := by kernel_rfl
theorem gValues : Tryd.prog.globalNamed "roebuck/insn.values" = some 0 := by kernel_rfl
theorem tFields : (Tryd.prog.globals[1]?).map (·.type) = some 64 := by kernel_rfl
theorem tValues : (Tryd.prog.globals[0]?).map (·.type) = some 40 := by kernel_rfl
theorem vals_are {H : Type} : (Rows.laid_roebuck_insn_values : DataW H) = .agg ((List.range 99).map fun k => .lit (.int .u32 ((valN k : Nat) : Int))) := by kernel_rfl
theorem flds_are {H : Type} : (Rows.laid_roebuck_insn_fields : DataW H) = .agg ((List.range 15).map fun k => .lit (.int .u8 ((fldL.getD k 0 : Nat) : Int))) := by kernel_rfl
theorem door_met (os : Os) (args : Array Value) : laidMetH Tryd.prog laid2 ((World.doorLaid Tryd.prog 400 os).forCall (fun _ _ => 0) ⟨#[], args, []⟩).memory :=
  laidMetH_of_parts3 (fuel := 8) (laidMet_of_run' 8 (by kernel_rfl) (by kernel_rfl)) (by kernel_rfl) (by kernel_rfl)
theorem cells_of {H : Type} {enc : TypeId × Value → H} {W : World} {base n m g : Nat} {sp : Nat → Bool} {held : Bool} {t e : TypeId} {k : IntKind} {cs : Array Value} {v : String} {q : Nat → Int} {ps : List MemPlace}
    (hg : Tryd.prog.globalNamed v = some g) (hv : W.var? Tryd.prog v = some cs) (ht : Tryd.prog.underlying t = some (.array n e)) (he : Tryd.prog.underlying e = some (.int k)) (hc : Tryd.prog.cellsOf e = 1)
    (hd : DataW.trod enc Tryd.prog W base sp held m t cs.toList = some (.agg ((List.range n).map fun j => .lit (.int k (q j))), ps)) (j : Nat) (hj : j < n) : W.cell? ⟨g, j, none⟩ = some (.int k (q j)) := by
  obtain ⟨xs, m1, -, hx1, hlen, hn3, hel⟩ := DataW.trod_array ht hd
  simp only [Prod.mk.injEq, DataW.agg.injEq] at hx1
  have h0 := hel j hj
  rw [hc] at h0
  have hxj : xs[j]? = some (xs[j]'(by omega)) := List.getElem?_eq_getElem _
  rw [hxj] at h0
  obtain ⟨a, e1, e2, -⟩ := DataW.trod_int he h0
  have hl : (xs.map (·.1))[j]? = some (DataW.lit (.int k (q j))) := by rw [← hx1.1]; simp [hj]
  rw [List.getElem?_map, hxj, e2] at hl
  simp at hl
  subst hl
  rw [World.var?_cell hg hv j]
  have : cs.toList[j]? = some (.int k (q j)) := by
    have h1 : ((cs.toList.drop (j * 1)).take 1)[0]? = some (.int k (q j)) := by rw [e1]; rfl
    simpa using h1
  simpa using this
theorem of_laid {W : World} (h : laidMetH Tryd.prog laid2 W) : VarsAt W := by
  rw [MakeChecks.laidMetH_plain _ _ _ (by kernel_rfl)] at h
  obtain ⟨ps, ⟨g0, t0, cs0, f0, p0, q0, hg0, ht0, hv0, hd0, ⟨g1, t1, cs1, f1, p1, q1, hg1, ht1, hv1, hd1, _, _⟩, _⟩, _, _⟩ := h
  obtain rfl := Option.some.inj (gFields.symm.trans hg0)
  obtain rfl := Option.some.inj (gValues.symm.trans hg1)
  obtain rfl := Option.some.inj (tFields.symm.trans ht0)
  obtain rfl := Option.some.inj (tValues.symm.trans ht1)
  rw [flds_are] at hd0
  rw [vals_are] at hd1
  have cv := fun j hj => cells_of hg1 hv1 Tryd.underlying40 Tryd.underlying22 (by kernel_rfl) hd1 j hj
  have cf := fun j hj => cells_of hg0 hv0 Tryd.underlying64 Tryd.underlying5 (by kernel_rfl) hd0 j hj
  exact ⟨cv, cf, lt_cell (cf 0 (by decide))⟩
end Go.Proofs.YteknlcigfjdmdaaDoor
