/-
  A bus in memory: the port's pointer, the number of harts, and within the same block a clint and a plic.
-/
import Derived.Test.YtkknfhbaldeigaaCtF
import Derived.Test.YtkknfhbaldeigaaPcB
import Derived.Test.YtkknfhbaldeigaaBits
set_option maxRecDepth 20000
namespace Go.Proofs.Ytkknfhbaldeigaa
open Go.ChangeShapes Go.WideShapes Go.ChangeAt Go.RowKit

abbrev BuT : TypeId := 88
abbrev PT : TypeId := 86
theorem info_PT : (Try.prog.info? PT).map (·.size) = some 68 := by kernel_rfl
theorem info_Bu : (Try.prog.info? BuT).map (·.size) = some 88 := by kernel_rfl
theorem iPT {n : Nat} {ws : List Int} (h : ws.length = 67) : (Try.prog.info? PT).map (·.size) = some (ctV n ws).size := by rw [ctV_size, h]; exact info_PT
/-- The cells of a bus. -/
def buV (u : Value) (n : Nat) (ws ps : List Int) : Array Value := (u :: .int .i64 n :: ((ctV n ws).toList ++ (ctV n ps).toList)).toArray
section
variable {u : Value} {n : Nat} {ws ps : List Int}
theorem buV_size (h : ws.length = 17) (k : ps.length = 67) : (buV u n ws ps).size = 88 := by simp [buV, ctV_size, h, k]
theorem buV_u : (buV u n ws ps)[0]? = some u := rfl
theorem buV_n : (buV u n ws ps)[1]? = some (.int .i64 n) := rfl
theorem buV_c (h : ws.length = 17) {i : Nat} (hi : i < 18) : (buV u n ws ps)[i + 2]? = (ctV n ws)[i]? := by
  simp only [buV, List.getElem?_toArray, List.getElem?_cons_succ]
  rw [List.getElem?_append_left (by simp [ctV_size, h]; omega)]
  simp
theorem buV_p (h : ws.length = 17) (i : Nat) : (buV u n ws ps)[i + 20]? = (ctV n ps)[i]? := by
  simp only [buV, List.getElem?_toArray, List.getElem?_cons_succ]
  rw [List.getElem?_append_right (by simp [ctV_size, h])]
  simp [ctV_size, h]
theorem buV_setC (h : ws.length = 17) {i : Nat} (hi : i < 17) (v : Int) : (buV u n ws ps).setIfInBounds (i + 3) (.int .u64 v) = buV u n (ws.set i v) ps := by
  simp only [buV, List.setIfInBounds_toArray, List.set_cons_succ]
  rw [List.set_append_left _ _ (by simp [ctV_size, h]; omega), ← ctV_set (n := n) (ws := ws)]
  simp
theorem buV_setP (h : ws.length = 17) {i : Nat} (v : Int) : (buV u n ws ps).setIfInBounds (i + 21) (.int .u64 v) = buV u n ws (ps.set i v) := by
  simp only [buV, List.setIfInBounds_toArray, List.set_cons_succ]
  rw [List.set_append_right _ _ (by simp [ctV_size, h]), ← ctV_set (n := n) (ws := ps)]
  simp [ctV_size, h]
theorem buV_one (hu : u.oneCell' = true) : (buV u n ws ps).all (·.oneCell') = true := by
  have h1 := ctV_one (n := n) (ws := ws)
  have h2 := ctV_one (n := n) (ws := ps)
  rw [Array.all_eq_true_iff_forall_mem] at h1 h2 ⊢
  intro v hv
  simp only [buV, List.mem_toArray, List.mem_cons, List.mem_append, Array.mem_toList_iff] at hv
  rcases hv with rfl | rfl | hv | hv
  · exact hu
  · rfl
  · exact h1 v hv
  · exact h2 v hv
end
/-- What lies around a clint: the port's pointer, the controller's words. -/
abbrev SurC := Value × List Int
structure SurP where
  u : Value
  cs : List Int
  len : cs.length = 17
abbrev rowP (S : SurP) (n : Nat) (ps : List Int) : Array Value := buV S.u n S.cs ps
/-- A clint within a bus. -/
structure BmAt (S : SurC) (w : World) (b : Nat) (n : Nat) (ws : List Int) : Prop where
  row : CsAt w b BuT (buV S.1 n ws S.2)
  ok : Ct.Ok n ws
/-- A controller within a bus. -/
structure BpAt (S : SurP) (w : World) (b : Nat) (n : Nat) (ps : List Int) : Prop where
  row : CsAt w b BuT (rowP S n ps)
  ok : Pc.Ok n ps
section
variable {S : SurC} {w w' : World} {b n : Nat} {ws : List Int}
theorem BmAt.lt (h : BmAt S w b n ws) : b < w.heap.size := h.row.lt
theorem BmAt.low (h : BmAt S w b n ws) (hb : Below w.heap.size w w') : BmAt S w' b n ws := ⟨h.row.low hb, h.ok⟩
theorem BmAt.n0 (h : BmAt S w b n ws) : w.cell? ⟨b, 2, none⟩ = some (.int .i64 n) := by
  rw [h.row.cell]; exact (buV_c h.ok.len (i := 0) (by omega)).trans ctV_0
theorem BmAt.cell (h : BmAt S w b n ws) {i : Nat} (hi : i < 17) : w.cell? ⟨b, i + 3, none⟩ = some (.int .u64 (ws.getD i 0)) := by
  rw [h.row.cell]; exact (buV_c h.ok.len (i := i + 1) (by omega)).trans (ctV_at (by rw [h.ok.len]; exact hi))
theorem BmAt.set (h : BmAt S w b n ws) {i : Nat} (hi : i < 17) (v : Int) (hk : Ct.Ok n (ws.set i v)) : BmAt S (w.setCell ⟨b, i + 3, none⟩ (.int .u64 v)) b n (ws.set i v) := by
  refine ⟨?_, hk⟩
  unfold CsAt
  rw [heap_setCell_same w b (i + 3) _ BuT _ h.row, buV_setC h.ok.len hi]
end
section
variable {S : SurP} {w w' : World} {b n : Nat} {ps : List Int}
theorem bpV_at {i : Nat} (h : i < ps.length) : (rowP S n ps)[i + 21]? = some (.int .u64 (ps.getD i 0)) := (buV_p S.len (i + 1)).trans (ctV_at h)
theorem BpAt.lt (h : BpAt S w b n ps) : b < w.heap.size := h.row.lt
theorem BpAt.low (h : BpAt S w b n ps) (hb : Below w.heap.size w w') : BpAt S w' b n ps := ⟨h.row.low hb, h.ok⟩
theorem BpAt.n0 (h : BpAt S w b n ps) : w.cell? ⟨b, 20, none⟩ = some (.int .i64 n) := by
  rw [h.row.cell]; exact (buV_p S.len 0).trans ctV_0
theorem BpAt.cell (h : BpAt S w b n ps) {i : Nat} (hi : i < 67) : w.cell? ⟨b, i + 21, none⟩ = some (.int .u64 (ps.getD i 0)) := by
  rw [h.row.cell]; exact bpV_at (by rw [h.ok.len]; exact hi)
theorem bu_setP {t : TypeId} (h : CsAt w b t (rowP S n ps)) (i : Nat) (v : Int) : CsAt (w.setCell ⟨b, i + 21, none⟩ (.int .u64 v)) b t (rowP S n (ps.set i v)) := by
  unfold CsAt
  rw [heap_setCell_same w b (i + 21) _ t _ h, buV_setP S.len]
end
end Go.Proofs.Ytkknfhbaldeigaa
