/-
  The reference's value of layer 16 as a row: its cells, looked up and set.
-/
import Derived.Test.YtkknfhbaldeigaaBpG
import Derived.Deep.MidRow
set_option maxRecDepth 20000
namespace Go.Proofs.Ytkknfhbaldeigaa
open Go.ChangeShapes Go.WideShapes Go.ChangeAt Go.RowKit

abbrev X16 : TypeId := 60
/-- A cell of the reference's value. -/
def xc (n : Nat) (ws : List Int) (i : Nat) : Value :=
  if i = 0 then .int .i64 n else if i < 33 then .int .i64 (ws.getD (3 + (i - 1)) 0) else if i < 65 then .bool (Wd.tb (ws.getD 0 0) (i - 33)) else if i < 97 then .bool (Wd.tb (ws.getD 1 0) (i - 65))
  else if i < 129 then .bool (Wd.tb (ws.getD 2 0) (i - 97)) else if i < 641 then .bool (Wd.tb (ws.getD (35 + (i - 129) / 32) 0) ((i - 129) % 32)) else .int .i64 (ws.getD (51 + (i - 641)) 0)
def x16V (n : Nat) (ws : List Int) : Array Value := ((List.range 657).map (xc n ws)).toArray
section
variable {n : Nat} {ws vs : List Int}
theorem x16_at {i : Nat} (h : i < 657) : (x16V n ws)[i]? = some (xc n ws i) := by
  simp [x16V, h]
theorem x16_size : (x16V n ws).size = 657 := by simp [x16V]
theorem x16_one : (x16V n ws).all (·.oneCell') = true := by
  rw [Array.all_eq_true_iff_forall_mem]
  intro v hv
  simp only [x16V, List.mem_toArray, List.mem_map, List.mem_range] at hv
  obtain ⟨i, -, rfl⟩ := hv
  unfold xc
  repeat' split
  all_goals rfl
theorem x16_set {i : Nat} {v : Value} (hi : i < 657) (h1 : xc n vs i = v) (h2 : ∀ j, j < 657 → i ≠ j → xc n vs j = xc n ws j) : (x16V n ws).setIfInBounds i v = x16V n vs := by
  apply Array.ext_getElem?
  intro j
  rw [Array.getElem?_setIfInBounds]
  by_cases hj : j < 657
  · rw [x16_at hj]
    by_cases e : i = j
    · subst e
      rw [if_pos rfl, if_pos (by rw [x16_size]; exact hi), x16_at hj, h1]
    · rw [if_neg e, x16_at hj, h2 j hj e]
  · have a1 : (x16V n ws)[j]? = none := Array.getElem?_eq_none (by rw [x16_size]; omega)
    have a2 : (x16V n vs)[j]? = none := Array.getElem?_eq_none (by rw [x16_size]; omega)
    rw [a1, a2, if_neg (by omega)]
theorem xc_pri {i : Nat} (h : i < 32) : xc n ws (1 + i) = .int .i64 (ws.getD (3 + i) 0) := by
  unfold xc
  rw [if_neg (by omega), if_pos (by omega), show 1 + i - 1 = i by omega]
theorem xc_wire {i : Nat} (h : i < 32) : xc n ws (33 + i) = .bool (Wd.tb (ws.getD 0 0) i) := by
  unfold xc
  rw [if_neg (by omega), if_neg (by omega), if_pos (by omega), show 33 + i - 33 = i by omega]
theorem xc_wait {i : Nat} (h : i < 32) : xc n ws (65 + i) = .bool (Wd.tb (ws.getD 1 0) i) := by
  unfold xc
  rw [if_neg (by omega), if_neg (by omega), if_neg (by omega), if_pos (by omega), show 65 + i - 65 = i by omega]
theorem xc_serv {i : Nat} (h : i < 32) : xc n ws (97 + i) = .bool (Wd.tb (ws.getD 2 0) i) := by
  unfold xc
  rw [if_neg (by omega), if_neg (by omega), if_neg (by omega), if_neg (by omega), if_pos (by omega), show 97 + i - 97 = i by omega]
theorem xc_on {c i : Nat} (hc : c < 16) (h : i < 32) : xc n ws (129 + c * 32 + i) = .bool (Wd.tb (ws.getD (35 + c) 0) i) := by
  unfold xc
  rw [if_neg (by omega), if_neg (by omega), if_neg (by omega), if_neg (by omega), if_neg (by omega), if_pos (by omega), show (129 + c * 32 + i - 129) / 32 = c by omega, show (129 + c * 32 + i - 129) % 32 = i by omega]
theorem xc_lev {c : Nat} : xc n ws (641 + c) = .int .i64 (ws.getD (51 + c) 0) := by
  unfold xc
  rw [if_neg (by omega), if_neg (by omega), if_neg (by omega), if_neg (by omega), if_neg (by omega), if_neg (by omega), show 641 + c - 641 = c by omega]
/-- Two lists that differ in one word have the same cells but for that word's. -/
theorem xc_same {j : Nat} (h0 : j < 657) (hp : 1 ≤ j → j < 33 → vs.getD (3 + (j - 1)) 0 = ws.getD (3 + (j - 1)) 0) (hw : 33 ≤ j → j < 65 → Wd.tb (vs.getD 0 0) (j - 33) = Wd.tb (ws.getD 0 0) (j - 33))
    (ha : 65 ≤ j → j < 97 → Wd.tb (vs.getD 1 0) (j - 65) = Wd.tb (ws.getD 1 0) (j - 65)) (hs : 97 ≤ j → j < 129 → Wd.tb (vs.getD 2 0) (j - 97) = Wd.tb (ws.getD 2 0) (j - 97))
    (ho : 129 ≤ j → j < 641 → Wd.tb (vs.getD (35 + (j - 129) / 32) 0) ((j - 129) % 32) = Wd.tb (ws.getD (35 + (j - 129) / 32) 0) ((j - 129) % 32)) (hl : 641 ≤ j → vs.getD (51 + (j - 641)) 0 = ws.getD (51 + (j - 641)) 0) : xc n vs j = xc n ws j := by
  unfold xc
  by_cases c0 : j = 0
  · rw [if_pos c0, if_pos c0]
  rw [if_neg c0, if_neg c0]
  by_cases c1 : j < 33
  · rw [if_pos c1, if_pos c1, hp (by omega) c1]
  rw [if_neg c1, if_neg c1]
  by_cases c2 : j < 65
  · rw [if_pos c2, if_pos c2, hw (by omega) c2]
  rw [if_neg c2, if_neg c2]
  by_cases c3 : j < 97
  · rw [if_pos c3, if_pos c3, ha (by omega) c3]
  rw [if_neg c3, if_neg c3]
  by_cases c4 : j < 129
  · rw [if_pos c4, if_pos c4, hs (by omega) c4]
  rw [if_neg c4, if_neg c4]
  by_cases c5 : j < 641
  · rw [if_pos c5, if_pos c5, ho (by omega) c5]
  rw [if_neg c5, if_neg c5, hl (by omega)]
theorem x16_pri (hl : ws.length = 67) {i : Nat} (h : i < 32) (v : Int) : (x16V n ws).setIfInBounds (1 + i) (.int .i64 v) = x16V n (ws.set (3 + i) v) := by
  have g := Pc.get_set (l := ws) (i := 3 + i) (by omega) v
  refine x16_set (by omega) (by rw [xc_pri h, g, if_pos rfl]) fun j hj e => xc_same hj ?_ ?_ ?_ ?_ ?_ ?_
  all_goals intro h1
  · intro h2; rw [g, if_neg (by omega)]
  · intro h2; rw [g, if_neg (by omega)]
  · intro h2; rw [g, if_neg (by omega)]
  · intro h2; rw [g, if_neg (by omega)]
  · intro h2; rw [g, if_neg (by omega)]
  · rw [g, if_neg (by omega)]
theorem x16_lev (hl : ws.length = 67) {c : Nat} (h : c < 16) (v : Int) : (x16V n ws).setIfInBounds (641 + c) (.int .i64 v) = x16V n (ws.set (51 + c) v) := by
  have g := Pc.get_set (l := ws) (i := 51 + c) (by omega) v
  refine x16_set (by omega) (by rw [xc_lev, g, if_pos rfl]) fun j hj e => xc_same hj ?_ ?_ ?_ ?_ ?_ ?_
  all_goals intro h1
  · intro h2; rw [g, if_neg (by omega)]
  · intro h2; rw [g, if_neg (by omega)]
  · intro h2; rw [g, if_neg (by omega)]
  · intro h2; rw [g, if_neg (by omega)]
  · intro h2; rw [g, if_neg (by omega)]
  · rw [g, if_neg (by omega)]
theorem x16_wire (hl : ws.length = 67) {i : Nat} (h : i < 32) {x : Int} {q : Bool} (hx : ∀ j, j < 32 → Wd.tb x j = if i = j then q else Wd.tb (ws.getD 0 0) j) : (x16V n ws).setIfInBounds (33 + i) (.bool q) = x16V n (ws.set 0 x) := by
  have g := Pc.get_set (l := ws) (i := 0) (by omega) x
  refine x16_set (by omega) (by rw [xc_wire h, g, if_pos rfl, hx i h, if_pos rfl]) fun j hj e => xc_same hj ?_ ?_ ?_ ?_ ?_ ?_
  all_goals intro h1
  · intro h2; rw [g, if_neg (by omega)]
  · intro h2; rw [g, if_pos rfl, hx _ (by omega), if_neg (by omega)]
  · intro h2; rw [g, if_neg (by omega)]
  · intro h2; rw [g, if_neg (by omega)]
  · intro h2; rw [g, if_neg (by omega)]
  · rw [g, if_neg (by omega)]
theorem x16_wait (hl : ws.length = 67) {i : Nat} (h : i < 32) {x : Int} {q : Bool} (hx : ∀ j, j < 32 → Wd.tb x j = if i = j then q else Wd.tb (ws.getD 1 0) j) : (x16V n ws).setIfInBounds (65 + i) (.bool q) = x16V n (ws.set 1 x) := by
  have g := Pc.get_set (l := ws) (i := 1) (by omega) x
  refine x16_set (by omega) (by rw [xc_wait h, g, if_pos rfl, hx i h, if_pos rfl]) fun j hj e => xc_same hj ?_ ?_ ?_ ?_ ?_ ?_
  all_goals intro h1
  · intro h2; rw [g, if_neg (by omega)]
  · intro h2; rw [g, if_neg (by omega)]
  · intro h2; rw [g, if_pos rfl, hx _ (by omega), if_neg (by omega)]
  · intro h2; rw [g, if_neg (by omega)]
  · intro h2; rw [g, if_neg (by omega)]
  · rw [g, if_neg (by omega)]
theorem x16_serv (hl : ws.length = 67) {i : Nat} (h : i < 32) {x : Int} {q : Bool} (hx : ∀ j, j < 32 → Wd.tb x j = if i = j then q else Wd.tb (ws.getD 2 0) j) : (x16V n ws).setIfInBounds (97 + i) (.bool q) = x16V n (ws.set 2 x) := by
  have g := Pc.get_set (l := ws) (i := 2) (by omega) x
  refine x16_set (by omega) (by rw [xc_serv h, g, if_pos rfl, hx i h, if_pos rfl]) fun j hj e => xc_same hj ?_ ?_ ?_ ?_ ?_ ?_
  all_goals intro h1
  · intro h2; rw [g, if_neg (by omega)]
  · intro h2; rw [g, if_neg (by omega)]
  · intro h2; rw [g, if_neg (by omega)]
  · intro h2; rw [g, if_pos rfl, hx _ (by omega), if_neg (by omega)]
  · intro h2; rw [g, if_neg (by omega)]
  · rw [g, if_neg (by omega)]
theorem x16_on (hl : ws.length = 67) {c i : Nat} (hc : c < 16) (h : i < 32) {x : Int} {q : Bool} (hx : ∀ j, j < 32 → Wd.tb x j = if i = j then q else Wd.tb (ws.getD (35 + c) 0) j) : (x16V n ws).setIfInBounds (129 + c * 32 + i) (.bool q) = x16V n (ws.set (35 + c) x) := by
  have g := Pc.get_set (l := ws) (i := 35 + c) (by omega) x
  refine x16_set (by omega) (by rw [xc_on hc h, g, if_pos rfl, hx i h, if_pos rfl]) fun j hj e => xc_same hj ?_ ?_ ?_ ?_ ?_ ?_
  all_goals intro h1
  · intro h2; rw [g, if_neg (by omega)]
  · intro h2; rw [g, if_neg (by omega)]
  · intro h2; rw [g, if_neg (by omega)]
  · intro h2; rw [g, if_neg (by omega)]
  · intro h2
    rw [g]
    by_cases ec : 35 + c = 35 + (j - 129) / 32
    · rw [if_pos ec, hx _ (by omega), if_neg (by omega), ec]
    · rw [if_neg ec]
  · rw [g, if_neg (by omega)]
end
theorem info_X16 : (Try.prog.info? X16).map (·.size) = some 657 := by kernel_rfl
theorem iX16 {n : Nat} {ws : List Int} : (Try.prog.info? X16).map (·.size) = some (x16V n ws).size := by rw [x16_size]; exact info_X16
theorem zero_x16 (W : World) : (zeroValue X16).run Try.prog W = .ok (.agg (x16V 0 Pc.zeros)) W := by kernel_rfl
/-- The reference's value in a block. -/
def XpAt (w : World) (b : Nat) (n : Nat) (ws : List Int) : Prop := CsAt w b X16 (x16V n ws)
section
variable {w w' : World} {b n : Nat} {ws : List Int}
theorem XpAt.low (h : XpAt w b n ws) (hb : Below w.heap.size w w') : XpAt w' b n ws := CsAt.low h hb
theorem XpAt.at_ (h : XpAt w b n ws) {i : Nat} (hi : i < 657) : w.cell? ⟨b, i, none⟩ = some (xc n ws i) := by rw [CsAt.cell h]; exact x16_at hi
theorem XpAt.n0 (h : XpAt w b n ws) : w.cell? ⟨b, 0, none⟩ = some (.int .i64 n) := h.at_ (by omega)
theorem XpAt.pri (h : XpAt w b n ws) {i : Nat} (hi : i < 32) : w.cell? ⟨b, 1 + i, none⟩ = some (.int .i64 (ws.getD (3 + i) 0)) := by rw [h.at_ (by omega), xc_pri hi]
theorem XpAt.wire (h : XpAt w b n ws) {i : Nat} (hi : i < 32) : w.cell? ⟨b, 33 + i, none⟩ = some (.bool (Wd.tb (ws.getD 0 0) i)) := by rw [h.at_ (by omega), xc_wire hi]
theorem XpAt.wait (h : XpAt w b n ws) {i : Nat} (hi : i < 32) : w.cell? ⟨b, 65 + i, none⟩ = some (.bool (Wd.tb (ws.getD 1 0) i)) := by rw [h.at_ (by omega), xc_wait hi]
theorem XpAt.serv (h : XpAt w b n ws) {i : Nat} (hi : i < 32) : w.cell? ⟨b, 97 + i, none⟩ = some (.bool (Wd.tb (ws.getD 2 0) i)) := by rw [h.at_ (by omega), xc_serv hi]
theorem XpAt.on (h : XpAt w b n ws) {c i : Nat} (hc : c < 16) (hi : i < 32) : w.cell? ⟨b, 129 + c * 32 + i, none⟩ = some (.bool (Wd.tb (ws.getD (35 + c) 0) i)) := by rw [h.at_ (by omega), xc_on hc hi]
theorem XpAt.lev (h : XpAt w b n ws) {c : Nat} (hc : c < 16) : w.cell? ⟨b, 641 + c, none⟩ = some (.int .i64 (ws.getD (51 + c) 0)) := by rw [h.at_ (by omega), xc_lev]
theorem XpAt.upd (h : XpAt w b n ws) {i : Nat} {v : Value} {vs : List Int} (e : (x16V n ws).setIfInBounds i v = x16V n vs) : XpAt (w.setCell ⟨b, i, none⟩ v) b n vs := by
  unfold XpAt CsAt
  rw [heap_setCell_same w b i _ X16 _ h, e]
theorem XpAt.box (w : World) (n : Nat) (ws : List Int) : XpAt (w.alloc (Obj.cells (x16V n ws) X16)) w.heap.size n ws := CsAt.new w X16 _
end
/-- 32 sources, one by one. -/
def bV (x : Int) : Array Value := ((List.range 32).map fun i => Value.bool (Wd.tb x i)).toArray
theorem bV_at (x : Int) {i : Nat} (h : i < 32) : (bV x)[i]? = some (.bool (Wd.tb x i)) := by simp [bV, h]
theorem bV_size (x : Int) : (bV x).size = 32 := by simp [bV]
end Go.Proofs.Ytkknfhbaldeigaa
