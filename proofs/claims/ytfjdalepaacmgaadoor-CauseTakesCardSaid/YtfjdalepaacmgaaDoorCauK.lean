/-
  The listed variables cause.order, cause.causes: what they give the walks; that the door's own heap meets them.
-/
import Derived.Test.YtfjdalepaacmgaaDoorCauD
import Derived.Test.YtfjdalepaacmgaaDoorFrameO
import Derived.LaidMore
import Derived.Stop.Joined
import Derived.OpenShut
set_option maxRecDepth 20000
namespace Go.Proofs.YtfjdalepaacmgaaDoor
open Go.ChangeShapes Go.WideShapes Go.ChangeAt Go.RowKit Cau

abbrev laidO {H : Type} : List (String × DataW H) := [("roebuck/cause.order", Rows.laid_roebuck_cause_order)]
abbrev laidN {H : Type} : List (String × DataW H) := [("roebuck/cause.causes", Rows.laid_roebuck_cause_causes), ("roebuck/cause.order", Rows.laid_roebuck_cause_order)]
theorem gOrd : Tryd.prog.globalNamed "roebuck/cause.order" = some 0 := by kernel_rfl
theorem tOrd : (Tryd.prog.globals[0]?).map (·.type) = some 101 := by kernel_rfl
theorem gCau : Tryd.prog.globalNamed "roebuck/cause.causes" = some 1 := by kernel_rfl
theorem tCau : (Tryd.prog.globals[1]?).map (·.type) = some 127 := by kernel_rfl
theorem ord_are {H : Type} : (Rows.laid_roebuck_cause_order : DataW H) = .agg (ordK.map fun k => .lit (.int .i64 (k : Nat))) := by kernel_rfl
theorem cau_are {H : Type} : (Rows.laid_roebuck_cause_causes : DataW H) = .agg ((List.range 20).map fun k => .agg [.agg [.lit (.bool (rowK k).1), .lit (.int .i64 ((rowK k).2.1 : Nat))], .lit (.string (rowK k).2.2)]) := by kernel_rfl
theorem doorO_met (os : Os) (args : Array Value) : laidMetH Tryd.prog laidO ((World.doorLaid Tryd.prog 400 os).forCall (fun _ _ => 0) ⟨#[], args, []⟩).memory :=
  laidMetH_of_parts3 (fuel := 8) (laidMet_of_run' 8 (by kernel_rfl) (by kernel_rfl)) (by kernel_rfl) (by kernel_rfl)
theorem doorN_met (os : Os) (args : Array Value) : laidMetH Tryd.prog laidN ((World.doorLaid Tryd.prog 400 os).forCall (fun _ _ => 0) ⟨#[], args, []⟩).memory :=
  laidMetH_of_parts3 (fuel := 8) (laidMet_of_run' 8 (by kernel_rfl) (by kernel_rfl)) (by kernel_rfl) (by kernel_rfl)
theorem kn_int : Tryd.prog.cellsOf 3 = 1 := by kernel_rfl
theorem kn_str : Tryd.prog.cellsOf 9 = 1 := by kernel_rfl
theorem kn_bool : Tryd.prog.cellsOf 4 = 1 := by kernel_rfl
theorem kn_ca : Tryd.prog.cellsOf CaT = 2 := by kernel_rfl
theorem kn_nm : Tryd.prog.cellsOf NmT = 3 := by kernel_rfl
section
variable {H : Type} {enc : TypeId × Value → H} {w : World} {base : Nat} {spare : Nat → Bool} {held : Bool}
/-- An array of numbers that lies as listed. -/
theorem ints_at {l : List Int} {t : TypeId} {n : Nat} {cs : List Value} {fuel : Nat} {ps : List MemPlace} (ht : Tryd.prog.underlying t = some (.array n 3)) (hn : l.length = n) (hc : Tryd.prog.cellsOf t = n)
    (hf : DataW.trod enc Tryd.prog w base spare held fuel t cs = some (.agg (l.map fun x => .lit (.int .i64 x)), ps)) : ∀ k, k < n → cs[k]? = some (.int .i64 (l.getD k 0)) := by
  obtain ⟨xs, m1, -, hx1, hlen, hn3, hel⟩ := DataW.trod_array ht hf
  simp only [Prod.mk.injEq, DataW.agg.injEq] at hx1
  rw [hc] at hlen
  intro k hk
  have h0 := hel k hk
  rw [kn_int] at h0
  have hxk : xs[k]? = some (xs[k]'(by omega)) := List.getElem?_eq_getElem _
  rw [hxk] at h0
  rw [Nat.mul_one, List.drop_eq_getElem_cons (by omega : k < cs.length), List.take_succ_cons, List.take_zero] at h0
  obtain ⟨a, p0, r0, -⟩ := DataW.trod_int Tryd.underlying3 h0
  simp only [List.cons.injEq, and_true] at p0
  have hl : (xs.map (·.1))[k]? = some (DataW.lit (.int .i64 (l.getD k 0))) := by
    rw [← hx1.1, List.getElem?_map, List.getElem?_eq_getElem (by omega : k < l.length), List.getD_eq_getElem?_getD, List.getElem?_eq_getElem (by omega : k < l.length)]; rfl
  rw [List.getElem?_map, hxk, Option.map_some, r0] at hl
  simp only [Option.some.injEq, DataW.lit.injEq, Lit.int.injEq, true_and] at hl
  rw [List.getElem?_eq_getElem (by omega : k < cs.length), p0, hl]
theorem trod_ca {cs : List Value} {fuel : Nat} {x : DataW H × List MemPlace} (hlen : cs.length = 2) (hf : DataW.trod enc Tryd.prog w base spare held fuel CaT cs = some x) :
    ∃ (b : Bool) (a : Int), cs = [.bool b, .int .i64 a] ∧ x.1 = .agg [.lit (.bool b), .lit (.int .i64 a)] := by
  obtain ⟨xs, nn, _, hx, _, hxl, hg⟩ := DataW.trod_struct Tryd.underlying23 hf
  have h0 := hg 0 _ rfl
  have h1 := hg 1 _ rfl
  match xs, hxl with
  | [x0, x1], _ =>
    change DataW.trod enc Tryd.prog w base spare held nn 4 (List.take (Tryd.prog.cellsOf 4) (List.drop 0 _)) = some x0 at h0
    rw [kn_bool] at h0
    change DataW.trod enc Tryd.prog w base spare held nn 3 (List.take (Tryd.prog.cellsOf 3) (List.drop 1 _)) = some x1 at h1
    rw [kn_int] at h1
    match cs, hlen with
    | [v0, v1], _ =>
      simp only [List.drop_zero, List.drop_succ_cons, List.take_succ_cons, List.take_zero] at h0 h1
      obtain ⟨b, p0, r0⟩ := DataW.trod_bool Tryd.underlying4 h0
      simp only [List.cons.injEq, and_true] at p0
      obtain ⟨a, p1, r1, -⟩ := DataW.trod_int Tryd.underlying3 h1
      simp only [List.cons.injEq, and_true] at p1
      subst p0 p1 hx
      exact ⟨b, a, rfl, by simp [r0, r1]⟩
theorem trod_nm {cs : List Value} {fuel : Nat} {x : DataW H × List MemPlace} (hlen : cs.length = 3) (hf : DataW.trod enc Tryd.prog w base spare held fuel NmT cs = some x) :
    ∃ (b : Bool) (a : Int) (s : ByteArray), cs = [.bool b, .int .i64 a, .string s] ∧ x.1 = .agg [.agg [.lit (.bool b), .lit (.int .i64 a)], .lit (.string s.data.toList)] := by
  obtain ⟨xs, nn, _, hx, _, hxl, hg⟩ := DataW.trod_struct Tryd.underlying89 hf
  have h0 := hg 0 _ rfl
  have h1 := hg 1 _ rfl
  match xs, hxl with
  | [x0, x1], _ =>
    change DataW.trod enc Tryd.prog w base spare held nn CaT (List.take (Tryd.prog.cellsOf CaT) (List.drop 0 _)) = some x0 at h0
    rw [kn_ca] at h0
    change DataW.trod enc Tryd.prog w base spare held nn 9 (List.take (Tryd.prog.cellsOf 9) (List.drop 2 _)) = some x1 at h1
    rw [kn_str] at h1
    match cs, hlen with
    | [v0, v1, v2], _ =>
      simp only [List.drop_zero, List.drop_succ_cons, List.take_succ_cons, List.take_zero] at h0 h1
      obtain ⟨b, a, p0, r0⟩ := trod_ca rfl h0
      simp only [List.cons.injEq, and_true] at p0
      obtain ⟨rfl, rfl⟩ := p0
      obtain ⟨s, p1, r1, -⟩ := DataW.trod_string Tryd.underlying9 h1
      simp only [List.cons.injEq, and_true] at p1
      subst p1 hx
      exact ⟨b, a, s, rfl, by simp [r0, r1]⟩
end
theorem ord_ints {H : Type} : (ordK.map fun k => (.lit (.int .i64 (k : Nat)) : DataW H)) = (ordK.map fun k => ((k : Nat) : Int)).map fun x => .lit (.int .i64 x) := by rw [List.map_map]; rfl
theorem of_laidO {W : World} (h : laidMetH Tryd.prog laidO W) : OrderIn W := by
  rw [MakeChecks.laidMetH_plain _ _ _ (by kernel_rfl)] at h
  obtain ⟨ps, ⟨g0, t0, cs0, f0, p0, q0, hg0, ht0, hv0, hd0, _, _⟩, _, _⟩ := h
  obtain rfl := Option.some.inj (gOrd.symm.trans hg0)
  obtain rfl := Option.some.inj (tOrd.symm.trans ht0)
  rw [ord_are, ord_ints] at hd0
  have key := ints_at Tryd.underlying101 rfl (by kernel_rfl) hd0
  have cv := fun j => World.var?_cell hg0 hv0 j
  have hk : ∀ k, k < 6 → cs0[k]? = some (.int .i64 (ordK.getD k 0 : Nat)) := fun k hk => by
    have h1 := key k hk
    rw [(by decide : ∀ k : Fin 6, (ordK.map fun k => ((k : Nat) : Int)).getD k.val 0 = ((ordK.getD k.val 0 : Nat) : Int)) ⟨k, hk⟩] at h1
    simpa using h1
  exact ⟨Nat.succ_le_of_lt (cell_some ((cv 0).trans (hk 0 (by omega)))), fun k h => (cv k).trans (hk k h)⟩
theorem of_laidN {W : World} (h : laidMetH Tryd.prog laidN W) : CausesIn W ∧ OrderIn W := by
  rw [MakeChecks.laidMetH_plain _ _ _ (by kernel_rfl)] at h
  obtain ⟨ps, ⟨g1, t1, cs1, f1, p1, q1, hg1, ht1, hv1, hd1, ⟨g0, t0, cs0, f0, p0, q0, hg0, ht0, hv0, hd0, _, _⟩, _⟩, _, _⟩ := h
  obtain rfl := Option.some.inj (gOrd.symm.trans hg0)
  obtain rfl := Option.some.inj (tOrd.symm.trans ht0)
  obtain rfl := Option.some.inj (gCau.symm.trans hg1)
  obtain rfl := Option.some.inj (tCau.symm.trans ht1)
  rw [ord_are, ord_ints] at hd0
  rw [cau_are] at hd1
  constructor
  · obtain ⟨xs, m1, -, hx1, hlen, hn3, hel⟩ := DataW.trod_array Tryd.underlying127 hd1
    simp only [Prod.mk.injEq, DataW.agg.injEq] at hx1
    have hlen2 : cs1.toList.length = 60 := by rw [hlen]; kernel_rfl
    have key : ∀ k, k < 20 → cs1[k * 3]? = some (.bool (rowK k).1) ∧ cs1[k * 3 + 1]? = some (.int .i64 ((rowK k).2.1 : Nat)) ∧ cs1[k * 3 + 2]? = some (.string (kB (rowK k).2.2)) := by
      intro k hk
      have h0 := hel k hk
      rw [kn_nm] at h0
      have hxk : xs[k]? = some (xs[k]'(by omega)) := List.getElem?_eq_getElem _
      rw [hxk] at h0
      obtain ⟨b, a, s, e1, e2⟩ := trod_nm (by simp; simp at hlen2; omega) h0
      have hl : (xs.map (·.1))[k]? = some (DataW.agg [.agg [.lit (.bool (rowK k).1), .lit (.int .i64 ((rowK k).2.1 : Nat))], .lit (.string (rowK k).2.2)]) := by rw [← hx1.1]; simp [hk]
      rw [List.getElem?_map, hxk, Option.map_some, e2] at hl
      simp only [Option.some.injEq, DataW.agg.injEq, List.cons.injEq, DataW.lit.injEq, Lit.int.injEq, Lit.bool.injEq, Lit.string.injEq, and_true, true_and] at hl
      obtain ⟨⟨l1, l2⟩, l3⟩ := hl
      have hs : s = kB (rowK k).2.2 := by
        obtain ⟨⟨l⟩⟩ := s
        simp only at l3
        rw [← l3]; rfl
      subst l1 l2 hs
      have c : ∀ j, j < 3 → cs1[k * 3 + j]? = ((cs1.toList.drop (k * 3)).take 3)[j]? := fun j hj => by
        rw [List.getElem?_take, if_pos hj, List.getElem?_drop]; simp
      refine ⟨?_, ?_, ?_⟩
      · have := c 0 (by omega); rw [e1] at this; exact this
      · have := c 1 (by omega); rw [e1] at this; exact this
      · have := c 2 (by omega); rw [e1] at this; exact this
    have cv := fun j => World.var?_cell hg1 hv1 j
    refine ⟨?_, fun k hk => ?_⟩
    · have h0 := (cv (0 * 3)).trans (key 0 (by omega)).1
      exact Nat.succ_le_of_lt (cell_some h0)
    · obtain ⟨a, b, c⟩ := key k hk
      exact ⟨(cv _).trans a, (cv _).trans b, (cv _).trans c⟩
  · have key := ints_at Tryd.underlying101 rfl (by kernel_rfl) hd0
    have cv := fun j => World.var?_cell hg0 hv0 j
    have hk : ∀ k, k < 6 → cs0[k]? = some (.int .i64 (ordK.getD k 0 : Nat)) := fun k hk => by
      have h1 := key k hk
      rw [(by decide : ∀ k : Fin 6, (ordK.map fun k => ((k : Nat) : Int)).getD k.val 0 = ((ordK.getD k.val 0 : Nat) : Int)) ⟨k, hk⟩] at h1
      simpa using h1
    exact ⟨Nat.succ_le_of_lt (cell_some ((cv 0).trans (hk 0 (by omega)))), fun k h => (cv k).trans (hk k h)⟩
end Go.Proofs.YtfjdalepaacmgaaDoor
