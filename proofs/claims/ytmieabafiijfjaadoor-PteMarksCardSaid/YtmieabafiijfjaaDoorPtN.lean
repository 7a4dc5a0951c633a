/-
  The listed variable pte.required: what it gives the walks; that the door's own heap meets it.
-/
import Derived.Test.YtmieabafiijfjaaDoorPtL
import Derived.Test.YtmieabafiijfjaaDoorFrameO
import Derived.LaidMore
import Derived.Stop.Joined
import Derived.OpenShut
set_option maxRecDepth 4000
namespace Go.Proofs.YtmieabafiijfjaaDoor
open Go.ChangeShapes Go.WideShapes Go.ChangeAt Go.RowKit

abbrev laidR {H : Type} : List (String × DataW H) := [("roebuck/pte.required", Rows.laid_roebuck_pte_required)]
theorem gReq : Tryd.prog.globalNamed "roebuck/pte.required" = some 0 := by kernel_rfl
theorem tReq : (Tryd.prog.globals[0]?).map (·.type) = some 43 := by kernel_rfl
theorem req_are {H : Type} : (Rows.laid_roebuck_pte_required : DataW H) = .agg (([3, 1, 2] : List Int).map fun x => .lit (.int .i64 x)) := by kernel_rfl
theorem doorR_met (os : Os) (args : Array Value) : laidMetH Tryd.prog laidR ((World.doorLaid Tryd.prog 400 os).forCall (fun _ _ => 0) ⟨#[], args, []⟩).memory :=
  laidMetH_of_parts3 (fuel := 8) (laidMet_of_run' 8 (by kernel_rfl) (by kernel_rfl)) (by kernel_rfl) (by kernel_rfl)
theorem rcell_some {W : World} {b o : Nat} {v : Value} (h : W.cell? ⟨b, o, none⟩ = some v) : b < W.heap.size := by
  apply Classical.byContradiction
  intro hn
  have : W.heap[b]? = none := Array.getElem?_eq_none (by omega)
  simp [World.cell?, this] at h
theorem kr_int : Tryd.prog.cellsOf 3 = 1 := by kernel_rfl
section
variable {H : Type} {enc : TypeId × Value → H} {w : World} {base : Nat} {spare : Nat → Bool} {held : Bool}
/-- An array of numbers that lies as listed. -/
theorem rints_at {l : List Int} {t : TypeId} {n : Nat} {cs : List Value} {fuel : Nat} {ps : List MemPlace} (ht : Tryd.prog.underlying t = some (.array n 3)) (hn : l.length = n) (hc : Tryd.prog.cellsOf t = n)
    (hf : DataW.trod enc Tryd.prog w base spare held fuel t cs = some (.agg (l.map fun x => .lit (.int .i64 x)), ps)) : ∀ k, k < n → cs[k]? = some (.int .i64 (l.getD k 0)) := by
  obtain ⟨xs, m1, -, hx1, hlen, hn3, hel⟩ := DataW.trod_array ht hf
  simp only [Prod.mk.injEq, DataW.agg.injEq] at hx1
  rw [hc] at hlen
  intro k hk
  have h0 := hel k hk
  rw [kr_int] at h0
  have hxk : xs[k]? = some (xs[k]'(by omega)) := List.getElem?_eq_getElem _
  rw [hxk] at h0
  rw [Nat.mul_one, List.drop_eq_getElem_cons (by omega : k < cs.length), List.take_succ_cons, List.take_zero] at h0
  obtain ⟨a, p0, r0, -⟩ := DataW.trod_int Tryd.underlying3 h0
  simp only [List.cons.injEq, and_true] at p0
  have hl : (xs.map (·.1))[k]? = some (DataW.lit (.int .i64 (l.getD k 0))) := by
    rw [← hx1.1, List.getElem?_map, List.getElem?_eq_getElem (by omega : k < l.length), List.getD_eq_getElem?_getD, List.getElem?_eq_getElem (by omega : k < l.length)]; rfl
  rw [List.getElem?_map, hxk, Option.map_some, r0] at hl
  simp only [Option.some.injEq, DataW.lit.injEq, Lit.int.injEq, true_and] at hl
  rw [List.getElem?_eq_getElem (by omega : k < cs.length), p0, hl]
end
theorem of_laidR {W : World} (h : laidMetH Tryd.prog laidR W) : ReqIn W := by
  rw [MakeChecks.laidMetH_plain _ _ _ (by kernel_rfl)] at h
  obtain ⟨ps, ⟨g0, t0, cs0, f0, p0, q0, hg0, ht0, hv0, hd0, _, _⟩, _, _⟩ := h
  obtain rfl := Option.some.inj (gReq.symm.trans hg0)
  obtain rfl := Option.some.inj (tReq.symm.trans ht0)
  rw [req_are] at hd0
  have key := rints_at Tryd.underlying43 rfl (by kernel_rfl) hd0
  have cv := fun j => World.var?_cell hg0 hv0 j
  have hk : ∀ k, k < 3 → cs0[k]? = some (.int .i64 (reqK.getD k 0 : Nat)) := fun k hk => by
    have h1 := key k hk
    rw [(by decide : ∀ k : Fin 3, ([3, 1, 2] : List Int).getD k.val 0 = ((reqK.getD k.val 0 : Nat) : Int)) ⟨k, hk⟩] at h1
    simpa using h1
  exact ⟨Nat.succ_le_of_lt (rcell_some ((cv 0).trans (hk 0 (by omega)))), fun k h => (cv k).trans (hk k h)⟩
end Go.Proofs.YtmieabafiijfjaaDoor
