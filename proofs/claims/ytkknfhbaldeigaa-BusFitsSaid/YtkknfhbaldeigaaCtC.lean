/-
  A clint in memory, and the reference's as a value.
-/
import Derived.Test.YtkknfhbaldeigaaCtA
import Derived.Test.YtkknfhbaldeigaaCtB
set_option maxRecDepth 20000
namespace Go.Proofs.Ytkknfhbaldeigaa
open Go.RowKit

abbrev CT : TypeId := 82
abbrev X15 : TypeId := 54
def ctV (n : Nat) (ws : List Int) : Array Value := (Value.int .i64 n :: ws.map (Value.int .u64)).toArray
def x15V (n : Nat) (ws : List Int) : Array Value := (Value.int .i64 n :: ((ws.take 9).map (Value.int .u64) ++ (ws.drop 9).map (fun x => Value.bool (x == 1)))).toArray
section
variable {n : Nat} {ws : List Int}
theorem ctV_0 : (ctV n ws)[0]? = some (.int .i64 n) := rfl
theorem ctV_at {i : Nat} (h : i < ws.length) : (ctV n ws)[i + 1]? = some (.int .u64 (ws.getD i 0)) := by
  simp [ctV, List.getD, List.getElem?_eq_getElem h]
theorem ctV_size : (ctV n ws).size = ws.length + 1 := by simp [ctV]
theorem ctV_one : (ctV n ws).all (·.oneCell') = true := by
  rw [Array.all_eq_true_iff_forall_mem]
  intro v hv
  simp [ctV] at hv
  rcases hv with rfl | ⟨a, -, rfl⟩ <;> rfl
theorem ctV_set (i : Nat) (v : Int) : (ctV n ws).setIfInBounds (i + 1) (.int .u64 v) = ctV n (ws.set i v) := by simp [ctV, List.map_set]
theorem x15V_0 : (x15V n ws)[0]? = some (.int .i64 n) := rfl
theorem x15V_w (hl : ws.length = 17) {i : Nat} (h : i < 9) : (x15V n ws)[i + 1]? = some (.int .u64 (ws.getD i 0)) := by
  simp only [x15V, List.getElem?_toArray, List.getElem?_cons_succ]
  rw [List.getElem?_append_left (by simp; omega), List.getElem?_map, List.getElem?_take, if_pos h, List.getD, List.getElem?_eq_getElem (by omega)]
  rfl
theorem x15V_b (hl : ws.length = 17) {i : Nat} (h : i < 8) : (x15V n ws)[i + 10]? = some (.bool (ws.getD (9 + i) 0 == 1)) := by
  simp only [x15V, List.getElem?_toArray, List.getElem?_cons_succ]
  rw [List.getElem?_append_right (by simp; omega), List.getElem?_map, List.getElem?_drop]
  rw [show 9 + (i + 9 - (List.map (Value.int .u64) (ws.take 9)).length) = 9 + i by simp; omega, List.getD, List.getElem?_eq_getElem (by omega)]
  rfl
theorem x15V_size (hl : ws.length = 17) : (x15V n ws).size = 18 := by simp [x15V, hl]
theorem x15V_one : (x15V n ws).all (·.oneCell') = true := by
  rw [Array.all_eq_true_iff_forall_mem]
  intro v hv
  simp only [x15V, List.mem_toArray, List.mem_cons, List.mem_append, List.mem_map] at hv
  rcases hv with rfl | ⟨a, -, rfl⟩ | ⟨a, -, rfl⟩ <;> rfl
theorem x15V_setW (hl : ws.length = 17) {i : Nat} (h : i < 9) (v : Int) : (x15V n ws).setIfInBounds (i + 1) (.int .u64 v) = x15V n (ws.set i v) := by
  simp only [x15V, List.setIfInBounds_toArray, List.set_cons_succ]
  rw [List.set_append_left _ _ (by simp; omega), ← List.map_set, List.take_set, List.drop_set_of_lt (by omega)]
theorem x15V_setB (hl : ws.length = 17) {i : Nat} (h : i < 8) (v : Int) : (x15V n ws).setIfInBounds (i + 10) (.bool (v == 1)) = x15V n (ws.set (9 + i) v) := by
  simp only [x15V, List.setIfInBounds_toArray, List.set_cons_succ]
  rw [List.set_append_right _ _ (by simp; omega), List.take_set_of_le (by omega), List.drop_set]
  rw [if_neg (by omega), List.map_set, show i + 9 - (List.map (Value.int .u64) (ws.take 9)).length = 9 + i - 9 by simp; omega]
end
theorem info_CT : (Try.prog.info? CT).map (·.size) = some 18 := by kernel_rfl
theorem info_X15 : (Try.prog.info? X15).map (·.size) = some 18 := by kernel_rfl
theorem iCT {n : Nat} {ws : List Int} (h : ws.length = 17) : (Try.prog.info? CT).map (·.size) = some (ctV n ws).size := by rw [ctV_size, h]; exact info_CT
theorem iX15 {n : Nat} {ws : List Int} (h : ws.length = 17) : (Try.prog.info? X15).map (·.size) = some (x15V n ws).size := by rw [x15V_size h]; exact info_X15
/-- A clint in a block, or none. -/
structure CtAt (w : World) (b : Nat) (n : Nat) (ws : List Int) : Prop where
  row : CsAt w b CT (ctV n ws)
  ok : Ct.Ok n ws
section
variable {w w' : World} {b n : Nat} {ws : List Int}
theorem CtAt.lt (h : CtAt w b n ws) : b < w.heap.size := h.row.lt
theorem CtAt.low (h : CtAt w b n ws) (hb : Below w.heap.size w w') : CtAt w' b n ws := ⟨h.row.low hb, h.ok⟩
theorem CtAt.n0 (h : CtAt w b n ws) : w.cell? ⟨b, 0, none⟩ = some (.int .i64 n) := by rw [h.row.cell]; exact ctV_0
theorem CtAt.cell (h : CtAt w b n ws) {i : Nat} (hi : i < 17) : w.cell? ⟨b, i + 1, none⟩ = some (.int .u64 (ws.getD i 0)) := by
  rw [h.row.cell]; exact ctV_at (by rw [h.ok.len]; exact hi)
theorem CtAt.set (h : CtAt w b n ws) {i : Nat} (v : Int) (hk : Ct.Ok n (ws.set i v)) : CtAt (w.setCell ⟨b, i + 1, none⟩ (.int .u64 v)) b n (ws.set i v) := by
  refine ⟨?_, hk⟩
  unfold CsAt
  rw [heap_setCell_same w b (i + 1) _ CT _ h.row, ctV_set]
end
namespace Ct
theorem set_ok {n : Nat} {ws : List Int} (h : Ok n ws) {i : Nat} {v : Int} (hi : i < 9) (h0 : 0 ≤ v) (h1 : v ≤ 18446744073709551615) : Ok n (ws.set i v) := by
  refine ⟨h.n8, by simp [h.len], fun j => ?_, fun j => ?_⟩
  · by_cases e : i = j
    · subst e
      rw [List.getD, List.getElem?_set, if_pos rfl, if_pos (by rw [h.len]; omega)]
      exact ⟨h0, h1⟩
    · rw [List.getD, List.getElem?_set, if_neg e]; exact h.rng j
  · rw [List.getD, List.getElem?_set, if_neg (by omega)]; exact h.bit j
theorem bit_ok {n : Nat} {ws : List Int} (h : Ok n ws) {i : Nat} {v : Int} (hi : i < 8) (h0 : v = 0 ∨ v = 1) : Ok n (ws.set (9 + i) v) := by
  refine ⟨h.n8, by simp [h.len], fun j => ?_, fun j => ?_⟩
  · by_cases e : 9 + i = j
    · subst e
      rw [List.getD, List.getElem?_set, if_pos rfl, if_pos (by rw [h.len]; omega)]
      simp only [Option.getD_some]; omega
    · rw [List.getD, List.getElem?_set, if_neg e]; exact h.rng j
  · by_cases e : i = j
    · subst e
      rw [List.getD, List.getElem?_set, if_pos rfl, if_pos (by rw [h.len]; omega)]
      exact h0
    · rw [List.getD, List.getElem?_set, if_neg (by omega)]; exact h.bit j
theorem part_rng {w : Int} (h : 0 ≤ w ∧ w ≤ 18446744073709551615) (b : Nat) : 0 ≤ part w b ∧ part w b ≤ 18446744073709551615 := by
  unfold part
  split
  · omega
  · split <;> omega
theorem with_rng {w v : Int} (h : 0 ≤ w ∧ w ≤ 18446744073709551615) (hv : 0 ≤ v ∧ v ≤ 18446744073709551615) (b : Nat) : 0 ≤ with_ w b v ∧ with_ w b v ≤ 18446744073709551615 := by
  unfold with_
  split
  · omega
  · split <;> omega
theorem write_ok {n : Nat} {ws : List Int} (h : Ok n ws) {off : Int} (h0 : 0 ≤ off) (size : Int) {v : Int} (hv : 0 ≤ v ∧ v ≤ 18446744073709551615) : Ok n (writeC n ws off size v) := by
  have hn := h.n8
  have hl := at_lt (n := n) (size := size) h0
  unfold writeC
  split
  · exact h
  · rename_i hne
    obtain ⟨l1, l2, l3, l4⟩ : (at_ n off size).2.1 < n ∧ (at_ n off size).1 < 4 ∧ (at_ n off size).2.2 < 3 ∧ ((at_ n off size).1 = 3 → (at_ n off size).2.1 = 0) := by
      rcases hl with hl | hl
      · exact absurd hl hne
      · exact hl
    split
    · exact bit_ok h (by omega) (by omega)
    · refine set_ok h ?_ (with_rng (h.rng _) hv _).1 (with_rng (h.rng _) hv _).2
      unfold idx
      split
      · contradiction
      · split <;> omega
theorem tick_ok {n : Nat} {ws : List Int} (h : Ok n ws) (t : Int) : Ok n (tickC n ws t) := by
  unfold tickC
  split
  · exact set_ok h (by omega) (by omega) (by omega)
  · exact h
end Ct
end Go.Proofs.Ytkknfhbaldeigaa
