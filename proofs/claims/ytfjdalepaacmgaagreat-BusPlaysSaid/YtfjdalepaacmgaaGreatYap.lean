/-
  The reference's value of layer 16 as a row: its cells, looked up and set. The reference of layer 16: New, Word, best, Line. The reference of layer 16: At. The reference of layer 18: Where, New, May.
-/
import Derived.Test.YtfjdalepaacmgaaGreatYag
import Derived.Deep.MidRow
import Derived.Test.YtfjdalepaacmgaaGreatYao
import Derived.Test.YtfjdalepaacmgaaGreatYal
set_option maxRecDepth 20000
namespace Go.Proofs.YtfjdalepaacmgaaGreat
open Go.ChangeShapes Go.WideShapes Go.ChangeAt Go.RowKit

abbrev X16 : TypeId := 48
/-- A cell of the reference's value. -/
def xc (n : Nat) (ws : List Int) (i : Nat) : Value :=
  if i = 0 then .int .i64 n else if i < 33 then .int .i64 (ws.getD (3 + (i - 1)) 0) else if i < 65 then .bool (Wd.tb (ws.getD 0 0) (i - 33)) else if i < 97 then .bool (Wd.tb (ws.getD 1 0) (i - 65))
  else if i < 129 then .bool (Wd.tb (ws.getD 2 0) (i - 97)) else if i < 641 then .bool (Wd.tb (ws.getD (35 + (i - 129) / 32) 0) ((i - 129) % 32)) else .int .i64 (ws.getD (51 + (i - 641)) 0)
def x16V (n : Nat) (ws : List Int) : Array Value := ((List.range 657).map (xc n ws)).toArray
section
variable {n : Nat} {ws vs : List Int}
theorem x16_at {i : Nat} (h : i < 657) : (x16V n ws)[i]? = some (xc n ws i) := by
  simp [x16V, h]
theorem x16_size : (x16V n ws).size = 657 := by simp [x16V]
theorem x16_one : (x16V n ws).all (·.oneCell') = true := by
  rw [Array.all_eq_true_iff_forall_mem]
  intro v hv
  simp only [x16V, List.mem_toArray, List.mem_map, List.mem_range] at hv
  obtain ⟨i, -, rfl⟩ := hv
  unfold xc
  repeat' split
  all_goals rfl
theorem x16_set {i : Nat} {v : Value} (hi : i < 657) (h1 : xc n vs i = v) (h2 : ∀ j, j < 657 → i ≠ j → xc n vs j = xc n ws j) : (x16V n ws).setIfInBounds i v = x16V n vs := by
  apply Array.ext_getElem?
  intro j
  rw [Array.getElem?_setIfInBounds]
  by_cases hj : j < 657
  · rw [x16_at hj]
    by_cases e : i = j
    · subst e
      rw [if_pos rfl, if_pos (by rw [x16_size]; exact hi), x16_at hj, h1]
    · rw [if_neg e, x16_at hj, h2 j hj e]
  · have a1 : (x16V n ws)[j]? = none := Array.getElem?_eq_none (by rw [x16_size]; omega)
    have a2 : (x16V n vs)[j]? = none := Array.getElem?_eq_none (by rw [x16_size]; omega)
    rw [a1, a2, if_neg (by omega)]
theorem xc_pri {i : Nat} (h : i < 32) : xc n ws (1 + i) = .int .i64 (ws.getD (3 + i) 0) := by
  unfold xc
  rw [if_neg (by omega), if_pos (by omega), show 1 + i - 1 = i by omega]
theorem xc_wire {i : Nat} (h : i < 32) : xc n ws (33 + i) = .bool (Wd.tb (ws.getD 0 0) i) := by
  unfold xc
  rw [if_neg (by omega), if_neg (by omega), if_pos (by omega), show 33 + i - 33 = i by omega]
theorem xc_wait {i : Nat} (h : i < 32) : xc n ws (65 + i) = .bool (Wd.tb (ws.getD 1 0) i) := by
  unfold xc
  rw [if_neg (by omega), if_neg (by omega), if_neg (by omega), if_pos (by omega), show 65 + i - 65 = i by omega]
theorem xc_serv {i : Nat} (h : i < 32) : xc n ws (97 + i) = .bool (Wd.tb (ws.getD 2 0) i) := by
  unfold xc
  rw [if_neg (by omega), if_neg (by omega), if_neg (by omega), if_neg (by omega), if_pos (by omega), show 97 + i - 97 = i by omega]
theorem xc_on {c i : Nat} (hc : c < 16) (h : i < 32) : xc n ws (129 + c * 32 + i) = .bool (Wd.tb (ws.getD (35 + c) 0) i) := by
  unfold xc
  rw [if_neg (by omega), if_neg (by omega), if_neg (by omega), if_neg (by omega), if_neg (by omega), if_pos (by omega), show (129 + c * 32 + i - 129) / 32 = c by omega, show (129 + c * 32 + i - 129) % 32 = i by omega]
theorem xc_lev {c : Nat} : xc n ws (641 + c) = .int .i64 (ws.getD (51 + c) 0) := by
  unfold xc
  rw [if_neg (by omega), if_neg (by omega), if_neg (by omega), if_neg (by omega), if_neg (by omega), if_neg (by omega), show 641 + c - 641 = c by omega]
/-- Two lists that differ in one word have the same cells but for that word's. -/
theorem xc_same {j : Nat} (h0 : j < 657) (hp : 1 ≤ j → j < 33 → vs.getD (3 + (j - 1)) 0 = ws.getD (3 + (j - 1)) 0) (hw : 33 ≤ j → j < 65 → Wd.tb (vs.getD 0 0) (j - 33) = Wd.tb (ws.getD 0 0) (j - 33))
    (ha : 65 ≤ j → j < 97 → Wd.tb (vs.getD 1 0) (j - 65) = Wd.tb (ws.getD 1 0) (j - 65)) (hs : 97 ≤ j → j < 129 → Wd.tb (vs.getD 2 0) (j - 97) = Wd.tb (ws.getD 2 0) (j - 97))
    (ho : 129 ≤ j → j < 641 → Wd.tb (vs.getD (35 + (j - 129) / 32) 0) ((j - 129) % 32) = Wd.tb (ws.getD (35 + (j - 129) / 32) 0) ((j - 129) % 32)) (hl : 641 ≤ j → vs.getD (51 + (j - 641)) 0 = ws.getD (51 + (j - 641)) 0) : xc n vs j = xc n ws j := by
  unfold xc
  by_cases c0 : j = 0
  · rw [if_pos c0, if_pos c0]
  rw [if_neg c0, if_neg c0]
  by_cases c1 : j < 33
  · rw [if_pos c1, if_pos c1, hp (by omega) c1]
  rw [if_neg c1, if_neg c1]
  by_cases c2 : j < 65
  · rw [if_pos c2, if_pos c2, hw (by omega) c2]
  rw [if_neg c2, if_neg c2]
  by_cases c3 : j < 97
  · rw [if_pos c3, if_pos c3, ha (by omega) c3]
  rw [if_neg c3, if_neg c3]
  by_cases c4 : j < 129
  · rw [if_pos c4, if_pos c4, hs (by omega) c4]
  rw [if_neg c4, if_neg c4]
  by_cases c5 : j < 641
  · rw [if_pos c5, if_pos c5, ho (by omega) c5]
  rw [if_neg c5, if_neg c5, hl (by omega)]
theorem x16_pri (hl : ws.length = 67) {i : Nat} (h : i < 32) (v : Int) : (x16V n ws).setIfInBounds (1 + i) (.int .i64 v) = x16V n (ws.set (3 + i) v) := by
  have g := Pc.get_set (l := ws) (i := 3 + i) (by omega) v
  refine x16_set (by omega) (by rw [xc_pri h, g, if_pos rfl]) fun j hj e => xc_same hj ?_ ?_ ?_ ?_ ?_ ?_
  all_goals intro h1
  · intro h2; rw [g, if_neg (by omega)]
  · intro h2; rw [g, if_neg (by omega)]
  · intro h2; rw [g, if_neg (by omega)]
  · intro h2; rw [g, if_neg (by omega)]
  · intro h2; rw [g, if_neg (by omega)]
  · rw [g, if_neg (by omega)]
theorem x16_lev (hl : ws.length = 67) {c : Nat} (h : c < 16) (v : Int) : (x16V n ws).setIfInBounds (641 + c) (.int .i64 v) = x16V n (ws.set (51 + c) v) := by
  have g := Pc.get_set (l := ws) (i := 51 + c) (by omega) v
  refine x16_set (by omega) (by rw [xc_lev, g, if_pos rfl]) fun j hj e => xc_same hj ?_ ?_ ?_ ?_ ?_ ?_
  all_goals intro h1
  · intro h2; rw [g, if_neg (by omega)]
  · intro h2; rw [g, if_neg (by omega)]
  · intro h2; rw [g, if_neg (by omega)]
  · intro h2; rw [g, if_neg (by omega)]
  · intro h2; rw [g, if_neg (by omega)]
  · rw [g, if_neg (by omega)]
theorem x16_wire (hl : ws.length = 67) {i : Nat} (h : i < 32) {x : Int} {q : Bool} (hx : ∀ j, j < 32 → Wd.tb x j = if i = j then q else Wd.tb (ws.getD 0 0) j) : (x16V n ws).setIfInBounds (33 + i) (.bool q) = x16V n (ws.set 0 x) := by
  have g := Pc.get_set (l := ws) (i := 0) (by omega) x
  refine x16_set (by omega) (by rw [xc_wire h, g, if_pos rfl, hx i h, if_pos rfl]) fun j hj e => xc_same hj ?_ ?_ ?_ ?_ ?_ ?_
  all_goals intro h1
  · intro h2; rw [g, if_neg (by omega)]
  · intro h2; rw [g, if_pos rfl, hx _ (by omega), if_neg (by omega)]
  · intro h2; rw [g, if_neg (by omega)]
  · intro h2; rw [g, if_neg (by omega)]
  · intro h2; rw [g, if_neg (by omega)]
  · rw [g, if_neg (by omega)]
theorem x16_wait (hl : ws.length = 67) {i : Nat} (h : i < 32) {x : Int} {q : Bool} (hx : ∀ j, j < 32 → Wd.tb x j = if i = j then q else Wd.tb (ws.getD 1 0) j) : (x16V n ws).setIfInBounds (65 + i) (.bool q) = x16V n (ws.set 1 x) := by
  have g := Pc.get_set (l := ws) (i := 1) (by omega) x
  refine x16_set (by omega) (by rw [xc_wait h, g, if_pos rfl, hx i h, if_pos rfl]) fun j hj e => xc_same hj ?_ ?_ ?_ ?_ ?_ ?_
  all_goals intro h1
  · intro h2; rw [g, if_neg (by omega)]
  · intro h2; rw [g, if_neg (by omega)]
  · intro h2; rw [g, if_pos rfl, hx _ (by omega), if_neg (by omega)]
  · intro h2; rw [g, if_neg (by omega)]
  · intro h2; rw [g, if_neg (by omega)]
  · rw [g, if_neg (by omega)]
theorem x16_serv (hl : ws.length = 67) {i : Nat} (h : i < 32) {x : Int} {q : Bool} (hx : ∀ j, j < 32 → Wd.tb x j = if i = j then q else Wd.tb (ws.getD 2 0) j) : (x16V n ws).setIfInBounds (97 + i) (.bool q) = x16V n (ws.set 2 x) := by
  have g := Pc.get_set (l := ws) (i := 2) (by omega) x
  refine x16_set (by omega) (by rw [xc_serv h, g, if_pos rfl, hx i h, if_pos rfl]) fun j hj e => xc_same hj ?_ ?_ ?_ ?_ ?_ ?_
  all_goals intro h1
  · intro h2; rw [g, if_neg (by omega)]
  · intro h2; rw [g, if_neg (by omega)]
  · intro h2; rw [g, if_neg (by omega)]
  · intro h2; rw [g, if_pos rfl, hx _ (by omega), if_neg (by omega)]
  · intro h2; rw [g, if_neg (by omega)]
  · rw [g, if_neg (by omega)]
theorem x16_on (hl : ws.length = 67) {c i : Nat} (hc : c < 16) (h : i < 32) {x : Int} {q : Bool} (hx : ∀ j, j < 32 → Wd.tb x j = if i = j then q else Wd.tb (ws.getD (35 + c) 0) j) : (x16V n ws).setIfInBounds (129 + c * 32 + i) (.bool q) = x16V n (ws.set (35 + c) x) := by
  have g := Pc.get_set (l := ws) (i := 35 + c) (by omega) x
  refine x16_set (by omega) (by rw [xc_on hc h, g, if_pos rfl, hx i h, if_pos rfl]) fun j hj e => xc_same hj ?_ ?_ ?_ ?_ ?_ ?_
  all_goals intro h1
  · intro h2; rw [g, if_neg (by omega)]
  · intro h2; rw [g, if_neg (by omega)]
  · intro h2; rw [g, if_neg (by omega)]
  · intro h2; rw [g, if_neg (by omega)]
  · intro h2
    rw [g]
    by_cases ec : 35 + c = 35 + (j - 129) / 32
    · rw [if_pos ec, hx _ (by omega), if_neg (by omega), ec]
    · rw [if_neg ec]
  · rw [g, if_neg (by omega)]
end
theorem info_X16 : (Tryz.prog.info? X16).map (·.size) = some 657 := by kernel_rfl
theorem iX16 {n : Nat} {ws : List Int} : (Tryz.prog.info? X16).map (·.size) = some (x16V n ws).size := by rw [x16_size]; exact info_X16
theorem zero_x16 (W : World) : (zeroValue X16).run Tryz.prog W = .ok (.agg (x16V 0 Pc.zeros)) W := by kernel_rfl
/-- The reference's value in a block. -/
def XpAt (w : World) (b : Nat) (n : Nat) (ws : List Int) : Prop := CsAt w b X16 (x16V n ws)
section
variable {w w' : World} {b n : Nat} {ws : List Int}
theorem XpAt.low (h : XpAt w b n ws) (hb : Below w.heap.size w w') : XpAt w' b n ws := CsAt.low h hb
theorem XpAt.at_ (h : XpAt w b n ws) {i : Nat} (hi : i < 657) : w.cell? ⟨b, i, none⟩ = some (xc n ws i) := by rw [CsAt.cell h]; exact x16_at hi
theorem XpAt.n0 (h : XpAt w b n ws) : w.cell? ⟨b, 0, none⟩ = some (.int .i64 n) := h.at_ (by omega)
theorem XpAt.pri (h : XpAt w b n ws) {i : Nat} (hi : i < 32) : w.cell? ⟨b, 1 + i, none⟩ = some (.int .i64 (ws.getD (3 + i) 0)) := by rw [h.at_ (by omega), xc_pri hi]
theorem XpAt.wire (h : XpAt w b n ws) {i : Nat} (hi : i < 32) : w.cell? ⟨b, 33 + i, none⟩ = some (.bool (Wd.tb (ws.getD 0 0) i)) := by rw [h.at_ (by omega), xc_wire hi]
theorem XpAt.wait (h : XpAt w b n ws) {i : Nat} (hi : i < 32) : w.cell? ⟨b, 65 + i, none⟩ = some (.bool (Wd.tb (ws.getD 1 0) i)) := by rw [h.at_ (by omega), xc_wait hi]
theorem XpAt.serv (h : XpAt w b n ws) {i : Nat} (hi : i < 32) : w.cell? ⟨b, 97 + i, none⟩ = some (.bool (Wd.tb (ws.getD 2 0) i)) := by rw [h.at_ (by omega), xc_serv hi]
theorem XpAt.on (h : XpAt w b n ws) {c i : Nat} (hc : c < 16) (hi : i < 32) : w.cell? ⟨b, 129 + c * 32 + i, none⟩ = some (.bool (Wd.tb (ws.getD (35 + c) 0) i)) := by rw [h.at_ (by omega), xc_on hc hi]
theorem XpAt.lev (h : XpAt w b n ws) {c : Nat} (hc : c < 16) : w.cell? ⟨b, 641 + c, none⟩ = some (.int .i64 (ws.getD (51 + c) 0)) := by rw [h.at_ (by omega), xc_lev]
theorem XpAt.upd (h : XpAt w b n ws) {i : Nat} {v : Value} {vs : List Int} (e : (x16V n ws).setIfInBounds i v = x16V n vs) : XpAt (w.setCell ⟨b, i, none⟩ v) b n vs := by
  unfold XpAt CsAt
  rw [heap_setCell_same w b i _ X16 _ h, e]
theorem XpAt.box (w : World) (n : Nat) (ws : List Int) : XpAt (w.alloc (Obj.cells (x16V n ws) X16)) w.heap.size n ws := CsAt.new w X16 _
end
/-- 32 sources, one by one. -/
def bV (x : Int) : Array Value := ((List.range 32).map fun i => Value.bool (Wd.tb x i)).toArray
theorem bV_at (x : Int) {i : Nat} (h : i < 32) : (bV x)[i]? = some (.bool (Wd.tb x i)) := by simp [bV, h]
theorem bV_size (x : Int) : (bV x).size = 32 := by simp [bV]
end Go.Proofs.YtfjdalepaacmgaaGreat
set_option maxRecDepth 20000
namespace Go.Proofs.YtfjdalepaacmgaaGreat
open Go.ChangeShapes Go.WideShapes Go.ChangeAt Go.RowKit

namespace Pc
open Wd
theorem div_step {x : Int} (h0 : 0 ≤ x) (i : Nat) : 2 * (x / 2 ^ (i + 1)) + (if tb x i = true then 1 else 0) = x / 2 ^ i := by
  have h1 := div_next (S := x) i
  have h2 : 0 ≤ x / 2 ^ i := Int.ediv_nonneg h0 (Int.pow_nonneg (by omega))
  have h3 := tb_div h0 i 0
  rw [Nat.zero_add] at h3
  rw [← h3, tb, Nat.testBit_zero, ← h1]
  have h4 : ((x / 2 ^ i).toNat : Int) = x / 2 ^ i := Int.toNat_of_nonneg h2
  split
  · rename_i h; simp only [decide_eq_true_eq] at h; omega
  · rename_i h; simp only [decide_eq_true_eq] at h; omega
theorem dn_lt (S : Int) (pr : Nat → Int) (lv : Int) : ∀ k, k ≤ 31 → dn S pr lv k < 32
  | 0, _ => by unfold dn; omega
  | k + 1, hk => by
    have := dn_lt S pr lv k (by omega)
    unfold dn
    split <;> omega
end Pc
abbrev T61 : TypeId := 44
set_option maxHeartbeats 4000000 in
theorem rword_c (x : Int) (h0 : 0 ≤ x) (h1 : x < 4294967296) (w : World) : Calls Tryz.prog 69 #[.agg (bV x)] w fun e w' => e = .returned (.int .u64 x) ∧ Below w.heap.size w w' := by
  have HB := Lib.hid ((Below.refl w.heap.size w).alloc (Nat.le_refl _) (Obj.cells (bV x) T61))
  have HR := Lib.hid (CsAt.new w T61 (bV x))
  go_enter Tryz.func69, Tryz.ntmps69
  go_upto_region 1 with fail
  generalize w.alloc (Obj.cells (bV x) T61) = w1 at *
  go_wp2_with fail
  go_loopw [3, 4] (fun wv iv wr => ∃ j : Nat, j ≤ 32 ∧ iv = .int .i64 ((j : Int) - 1) ∧ wv = .int .u64 (x / 2 ^ j) ∧ wr = w1) (fun _ iv _ => (intOf iv + 1).toNat)
  case atStart => exact ⟨32, by omega, rfl, by rw [Int.ediv_eq_zero_of_lt h0 (by simpa using h1)], rfl⟩
  case round =>
    obtain ⟨j, hj, rfl, rfl, hwr⟩ := hrel
    have HWR := Lib.hid hwr
    have HR2 := Lib.hid (show CsAt wr w.heap.size T61 (bV x) by rw [hwr]; exact HR.out)
    clear hwr
    cases j with
    | zero =>
      have HB2 := Lib.hid (show Below w.heap.size w wr by rw [HWR.out]; exact HB.out)
      rw [show x / 2 ^ 0 = x by simp, show ((0 : Nat) : Int) - 1 = -1 by rfl]
      go_wp2_with fail
      go_ret
      exact ⟨rfl, HB2.out⟩
    | succ i =>
      have e0 : decide ((i : Int) ≥ 0) = true := by simp
      have gi : (i : Int) < 32 := by omega
      have q : wr.cell? ⟨w.heap.size, i, none⟩ = some (.bool (Wd.tb x i)) := by rw [HR2.out.cell]; exact bV_at x (by omega)
      have hb := Pc.div_step h0 i
      have hr : 0 ≤ x / 2 ^ (i + 1) ∧ x / 2 ^ (i + 1) < 4294967296 := by
        refine ⟨Int.ediv_nonneg h0 (Int.pow_nonneg (by omega)), Int.lt_of_le_of_lt (Int.ediv_le_self _ h0) h1⟩
      have HN := Lib.hid hb
      clear hb
      rw [show ((i + 1 : Nat) : Int) - 1 = (i : Int) by omega]
      generalize x / 2 ^ (i + 1) = y at *
      have p1 : IntKind.u64.wrap (2 * y) = 2 * y := by rw [IntKind.wrap_u64]; omega
      have p2 : IntKind.u64.wrap (2 * y + 1) = 2 * y + 1 := by rw [IntKind.wrap_u64]; omega
      cases ht : Wd.tb x i with
      | true =>
        rw [ht] at q HN
        go_wp2_with fail
        go_roundw
        case rel => exact ⟨i, by omega, rfl, by have := HN.out; simpa using this, HWR.out⟩
        case measure => simp [intOf]
      | false =>
        rw [ht] at q HN
        go_wp2_with fail
        go_roundw
        case rel => exact ⟨i, by omega, rfl, by have := HN.out; simpa using this, HWR.out⟩
        case measure => simp [intOf]
set_option maxHeartbeats 16000000 in
theorem rbest_c (n : Nat) (ws : List Int) (hk : Pc.Ok n ws) (c : Nat) (hc : c < 16) (lv : Int) (w : World) :
    Calls Tryz.prog 70 #[.agg (x16V n ws), .int .i64 c, .int .i64 lv] w fun e w' => e = .returned (.int .i64 (Pc.bst ws c lv)) ∧ Below w.heap.size w w' := by
  have HB := Lib.hid ((Below.refl w.heap.size w).alloc (Nat.le_refl _) (Obj.cells (x16V n ws) X16))
  have HX := Lib.hid (XpAt.box w n ws)
  have he := hk.en c hc
  have HT := Lib.hid (fun i => Wd.tb_and hk.wait.lo hk.wait.hi he.lo he.hi i)
  have HS0 := Lib.hid (hk.wait.and he.lo he.hi).at0
  have HP := Lib.hid hk.pri
  have HG := Lib.hid (show Pc.bst ws c lv = Pc.best (bits .and .u64 (ws.getD 1 0) (ws.getD (35 + c) 0)) (fun i => ws.getD (3 + i) 0) lv from rfl)
  rw [HG.out]
  clear hk he HG
  generalize bits .and .u64 (ws.getD 1 0) (ws.getD (35 + c) 0) = S at *
  obtain ⟨pr, hpr⟩ : ∃ pr : Nat → Int, pr = fun i => ws.getD (3 + i) 0 := ⟨_, rfl⟩
  have HPK := Lib.hid (fun i => show ws.getD (3 + i) 0 = pr i by rw [hpr])
  rw [← hpr]
  clear hpr
  have gc : (c : Int) < 16 := by omega
  go_enter Tryz.func70, Tryz.ntmps70
  go_upto_region 1 with fail
  generalize w.alloc (Obj.cells (x16V n ws) X16) = w1 at *
  go_wp2_with fail
  go_loopw [7, 8] (fun ov iv wr => ∃ k : Nat, k ≤ 31 ∧ iv = .int .i64 ((31 - k : Nat) : Int) ∧ ov = .int .i64 (Pc.dn S pr lv k : Nat) ∧ XpAt wr w.heap.size n ws ∧ Below w.heap.size w wr) (fun _ iv _ => (intOf iv).toNat)
  case atStart => exact ⟨0, by omega, rfl, rfl, HX.out, HB.out⟩
  case round =>
    obtain ⟨k, hk, rfl, rfl, hx, hb⟩ := hrel
    have HXR := Lib.hid hx
    have HBR := Lib.hid hb
    clear hx hb HX HB
    by_cases hlt : k < 31
    · have hdn := Pc.dn_lt S pr lv k (by omega)
      have HD := Lib.hid (show Pc.dn S pr lv (k + 1) = if Wd.tb S (31 - k) = true ∧ pr (31 - k) > lv ∧ (Pc.dn S pr lv k = 0 ∨ pr (31 - k) ≥ pr (Pc.dn S pr lv k)) then 31 - k else Pc.dn S pr lv k from rfl)
      generalize Pc.dn S pr lv k = d at *
      obtain ⟨i, hi⟩ : ∃ i, 31 - k = i := ⟨_, rfl⟩
      rw [hi] at HD ⊢
      have hi1 : 1 ≤ i := by omega
      have hi2 : i < 32 := by omega
      have HI := Lib.hid hi
      clear hi
      have e0 : decide ((i : Int) ≥ 1) = true := by simp; omega
      have gi : (i : Int) < 32 := by omega
      have gd : (d : Int) < 32 := by omega
      have q1 := HXR.out.wait hi2
      have q2 := HXR.out.on hc hi2
      have q3 := HXR.out.pri hi2
      have q4 := HXR.out.pri hdn
      rw [HPK.out] at q3 q4
      have htb := HT.out i
      rw [htb] at HD
      have HC := Lib.hid (show ∀ v : Nat, Pc.dn S pr lv (k + 1) = v → ∃ k' : Nat, k' ≤ 31 ∧ Value.int .i64 ((i : Int) - 1) = .int .i64 ((31 - k' : Nat) : Int) ∧ Value.int .i64 (v : Int) = .int .i64 (Pc.dn S pr lv k' : Nat) from
        fun v hv => ⟨k + 1, by omega, by rw [show ((31 - (k + 1) : Nat) : Int) = (i : Int) - 1 by have := HI.out; omega], by rw [hv]⟩)
      clear htb HT
      generalize Wd.tb (ws.getD 1 0) i = a at *
      generalize Wd.tb (ws.getD (35 + c) 0) i = b at *
      generalize pr i = p at *
      generalize pr d = pd at *
      cases a with
      | false =>
        have HE := Lib.hid (HC.out d (by rw [HD.out, if_neg (by simp)]))
        clear HC HD
        go_upto_region 5 with fail
        go_quiet (fail)
        have HX2 := Lib.hid (HXR.out.low (below_dnC (Below.refl _ _) nq))
        have HB2 := Lib.hid (below_dnC HBR.out nq)
        go_wp2_with fail
        go_roundw
        case rel =>
          obtain ⟨k', h1, h2, h3⟩ := HE.out
          exact ⟨k', h1, h2, h3, HX2.out, HB2.out⟩
        case measure => simp [intOf]; omega
      | true =>
        cases b with
        | false =>
          have HE := Lib.hid (HC.out d (by rw [HD.out, if_neg (by simp)]))
          clear HC HD
          go_upto_region 5 with fail
          go_quiet (fail)
          have HX2 := Lib.hid (HXR.out.low (below_dnC (Below.refl _ _) nq))
          have HB2 := Lib.hid (below_dnC HBR.out nq)
          go_wp2_with fail
          go_roundw
          case rel =>
            obtain ⟨k', h1, h2, h3⟩ := HE.out
            exact ⟨k', h1, h2, h3, HX2.out, HB2.out⟩
          case measure => simp [intOf]; omega
        | true =>
          by_cases hp : lv < p
          · have f1 : decide (p > lv) = true := by simpa using hp
            by_cases hd0 : d = 0
            · have f2 : ((d : Int) == 0) = true := by simp; omega
              have HE := Lib.hid (HC.out i (by rw [HD.out, if_pos ⟨rfl, hp, .inl hd0⟩]))
              clear HC HD
              go_upto_region 5 with fail
              go_quiet (fail)
              have HX2 := Lib.hid (HXR.out.low (below_dnC (Below.refl _ _) nq))
              have HB2 := Lib.hid (below_dnC HBR.out nq)
              go_wp2_with fail
              go_roundw
              case rel =>
                obtain ⟨k', h1, h2, h3⟩ := HE.out
                exact ⟨k', h1, h2, h3, HX2.out, HB2.out⟩
              case measure => simp [intOf]; omega
            · have f2 : ((d : Int) == 0) = false := by simp; omega
              by_cases hq : pd ≤ p
              · have f3 : decide (p ≥ pd) = true := by simpa using hq
                have HE := Lib.hid (HC.out i (by rw [HD.out, if_pos ⟨rfl, hp, .inr hq⟩]))
                clear HC HD
                go_upto_region 5 with fail
                go_quiet (fail)
                have HX2 := Lib.hid (HXR.out.low (below_dnC (Below.refl _ _) nq))
                have HB2 := Lib.hid (below_dnC HBR.out nq)
                go_wp2_with fail
                go_roundw
                case rel =>
                  obtain ⟨k', h1, h2, h3⟩ := HE.out
                  exact ⟨k', h1, h2, h3, HX2.out, HB2.out⟩
                case measure => simp [intOf]; omega
              · have f3 : decide (p ≥ pd) = false := by simpa using hq
                have HE := Lib.hid (HC.out d (by rw [HD.out, if_neg (fun h => by rcases h.2.2 with h | h <;> omega)]))
                clear HC HD
                go_upto_region 5 with fail
                go_quiet (fail)
                have HX2 := Lib.hid (HXR.out.low (below_dnC (Below.refl _ _) nq))
                have HB2 := Lib.hid (below_dnC HBR.out nq)
                go_wp2_with fail
                go_roundw
                case rel =>
                  obtain ⟨k', h1, h2, h3⟩ := HE.out
                  exact ⟨k', h1, h2, h3, HX2.out, HB2.out⟩
                case measure => simp [intOf]; omega
          · have f1 : decide (p > lv) = false := by simpa using hp
            have HE := Lib.hid (HC.out d (by rw [HD.out, if_neg (fun h => hp h.2.1)]))
            clear HC HD
            go_upto_region 5 with fail
            go_quiet (fail)
            have HX2 := Lib.hid (HXR.out.low (below_dnC (Below.refl _ _) nq))
            have HB2 := Lib.hid (below_dnC HBR.out nq)
            go_wp2_with fail
            go_roundw
            case rel =>
              obtain ⟨k', h1, h2, h3⟩ := HE.out
              exact ⟨k', h1, h2, h3, HX2.out, HB2.out⟩
            case measure => simp [intOf]; omega
    · obtain rfl : k = 31 := by omega
      have e0 : decide ((0 : Int) ≥ 1) = false := by simp
      have HF := Lib.hid (Pc.dn_up (S := S) (pr := pr) (lv := lv) HS0.out)
      rw [show ((31 - 31 : Nat) : Int) = 0 from rfl, HF.out]
      go_wp2_with fail
      go_ret
      exact ⟨rfl, HBR.out⟩
set_option maxHeartbeats 8000000 in
theorem rline16_c (n : Nat) (ws : List Int) (hk : Pc.Ok n ws) (c : Int) (w : World) :
    Calls Tryz.prog 75 #[.agg (x16V n ws), .int .i64 c] w fun e w' => e = .returned (.bool (Pc.lineP n ws c)) ∧ Below w.heap.size w w' := by
  have HB := Lib.hid ((Below.refl w.heap.size w).alloc (Nat.le_refl _) (Obj.cells (x16V n ws) X16))
  have HX := Lib.hid (XpAt.box w n ws)
  have hn8 := hk.n8
  by_cases hneg : c < 0
  · have HE := Lib.hid (show Pc.lineP n ws c = false by unfold Pc.lineP; simp; omega)
    rw [HE.out]
    have e0 : decide (c ≥ 0) = false := by simp; omega
    clear hk HE hneg
    go_enter Tryz.func75, Tryz.ntmps75
    go_upto_region 1 with fail
    generalize w.alloc (Obj.cells (x16V n ws) X16) = w1 at *
    go_quiet (fail)
    have HB2 := Lib.hid (below_dnC HB.out nq)
    go_wp2_with fail
    go_ret
    exact ⟨rfl, HB2.out⟩
  · have e0 : decide (c ≥ 0) = true := by simp; omega
    obtain ⟨k, rfl⟩ := Int.eq_ofNat_of_zero_le (by omega : 0 ≤ c)
    by_cases hlt : k < 2 * n
    · have hk16 : k < 16 := by omega
      have e1 : decide ((k : Int) < 2 * (n : Int)) = true := by simp; omega
      have gk : (k : Int) < 16 := by omega
      have HBst := Lib.hid (rbest_c n ws hk k hk16 (ws.getD (51 + k) 0))
      have HE := Lib.hid (show Pc.lineP n ws (k : Int) = decide (((Pc.bst ws k (ws.getD (51 + k) 0) : Nat) : Int) > 0) by
        unfold Pc.lineP
        rw [Int.toNat_natCast]
        apply decide_eq_decide.2
        omega)
      rw [HE.out]
      have HF := Lib.hid (show ∀ m : Nat, decide (0 < m) = decide ((m : Int) > 0) from fun m => by
        apply decide_eq_decide.2
        omega)
      have e1w : decide ((k : Int) < IntKind.i64.wrap (2 * (n : Int))) = true := by rw [show IntKind.i64.wrap (2 * (n : Int)) = 2 * (n : Int) by rw [IntKind.wrap_i64]; omega]; exact e1
      clear hk HE hneg
      generalize Pc.bst ws k (ws.getD (51 + k) 0) = m at *
      obtain ⟨t, ht⟩ : ∃ t, ws.getD (51 + k) 0 = t := ⟨_, rfl⟩
      rw [ht] at HBst
      go_enter Tryz.func75, Tryz.ntmps75
      go_upto_region 1 with fail
      generalize w.alloc (Obj.cells (x16V n ws) X16) = w1 at *
      refine wp_region_steady (fun W => XpAt W w.heap.size n ws ∧ Below w.heap.size w W) (by kernel_rfl) (by kernel_rfl) ⟨HX.out.low (below_dnC (Below.refl _ _) 1), below_dnC HB.out 1⟩ ?_
      iterate 5
        refine steady_val ?_ ?_ (by kernel_rfl) (fun W hS => ?_) ?_ ?_
        rotate_left 2
        · go_simp
          exact rfl
        · go_simp
          exact rfl
      refine steady_val ?_ ?_ (by kernel_rfl) (fun W hS => ?_) ?_ ?_
      rotate_left 2
      · (have q0 := hS.1.n0); go_simp
        exact rfl
      · go_simp
        exact rfl
      iterate 4
        refine steady_val ?_ ?_ (by kernel_rfl) (fun W hS => ?_) ?_ ?_
        rotate_left 2
        · go_simp
          exact rfl
        · go_simp
          exact rfl
      refine steady_val (.agg (x16V n ws)) ?_ (by kernel_rfl) (fun W hS => exec_load_row _ _ rfl _ rfl _ _ _ hS.1 Tryz.underlying48 rfl iX16) ?_ ?_
      rotate_left 1
      · go_simp
        exact rfl
      iterate 4
        refine steady_val ?_ ?_ (by kernel_rfl) (fun W hS => ?_) ?_ ?_
        rotate_left 2
        · go_simp
          exact rfl
        · go_simp
          exact rfl
      refine steady_val ?_ ?_ (by kernel_rfl) (fun W hS => ?_) ?_ ?_
      rotate_left 2
      · (have q := hS.1.lev hk16; rw [ht] at q); go_simp
        exact rfl
      · go_simp
        exact rfl
      refine steady_enter (.int .i64 (m : Int)) 70 #[.agg (x16V n ws), .int .i64 (k : Int), .int .i64 t] ?_ (by kernel_rfl) (fun W hS => ?_) (fun W hS => (HBst.out W).mono (by rintro e w' ⟨rfl, hb⟩; exact ⟨rfl, hS.1.low hb, hS.2.trans (hb.mono hS.2.size)⟩)) ?_ ?_
      rotate_left 1
      · go_simp
      · go_simp
        exact rfl
      iterate 3
        refine steady_val ?_ ?_ (by kernel_rfl) (fun W hS => ?_) ?_ ?_
        rotate_left 2
        · go_simp
          exact rfl
        · go_simp
          exact rfl
      refine steady_nil ?_
      intro W hS
      have HB2 := Lib.hid hS.2
      clear hS
      go_wp2_with fail
      go_ret
      exact ⟨congrArg (fun b => Ending.returned (.bool b)) (HF.out m), HB2.out⟩
    · have HE := Lib.hid (show Pc.lineP n ws (k : Int) = false by unfold Pc.lineP; simp; omega)
      rw [HE.out]
      have e1 : decide ((k : Int) < 2 * (n : Int)) = false := by simp; omega
      clear hk HE hneg
      go_enter Tryz.func75, Tryz.ntmps75
      go_upto_region 1 with fail
      generalize w.alloc (Obj.cells (x16V n ws) X16) = w1 at *
      have q0 := HX.out.n0
      go_quiet (fail)
      have HB2 := Lib.hid (below_dnC HB.out nq)
      go_wp2_with fail
      go_ret
      exact ⟨rfl, HB2.out⟩
theorem x16_n (n : Nat) : (x16V 0 Pc.zeros).setIfInBounds 0 (.int .i64 n) = x16V n Pc.zeros := by
  refine x16_set (i := 0) (by omega) rfl fun j _ e => ?_
  unfold xc
  simp only [if_neg (Ne.symm e)]
set_option maxRecDepth 100000 in
set_option maxHeartbeats 4000000 in
theorem rnew16_c (harts : Int) (w : World) : Calls Tryz.prog 20 #[.int .i64 harts] w fun e w' => e = .returned (.agg (x16V (Ct.cnt harts) Pc.zeros)) ∧ Below w.heap.size w w' := by
  have HB0 := Lib.hid ((Below.refl w.heap.size w).alloc (Nat.le_refl _) (Obj.cells (x16V 0 Pc.zeros) X16))
  have HR0 := Lib.hid (CsAt.new w X16 (x16V 0 Pc.zeros))
  have hz := zero_x16
  by_cases hlo : harts < 1
  · have HE := Lib.hid (show Ct.cnt harts = 0 by unfold Ct.cnt; rw [if_neg (by omega)])
    rw [HE.out]
    have g0 : decide (harts < 1) = true := by simpa using hlo
    clear hlo
    go_enter Tryz.func20, Tryz.ntmps20
    go_upto_region 1 with fail
    go_wp2_with (refine wpList_storeNew (w0 := w) rfl X16 _ _ rfl _ (x16V 0 Pc.zeros) _ rfl rfl iX16 rfl x16_one ?_)
    exact bodyPost_ret (results_cell_row Tryz.results20 _ _ _ _ _ _ _ rfl HR0.out Tryz.underlying48 rfl iX16) rfl ⟨rfl, HB0.out⟩
  · have g0 : decide (harts < 1) = false := by simpa using hlo
    by_cases hhi : 8 < harts
    · have HE := Lib.hid (show Ct.cnt harts = 0 by unfold Ct.cnt; rw [if_neg (by omega)])
      rw [HE.out]
      have g1 : decide (harts > 8) = true := by simpa using hhi
      clear hlo hhi
      go_enter Tryz.func20, Tryz.ntmps20
      go_upto_region 1 with fail
      go_wp2_with (refine wpList_storeNew (w0 := w) rfl X16 _ _ rfl _ (x16V 0 Pc.zeros) _ rfl rfl iX16 rfl x16_one ?_)
      exact bodyPost_ret (results_cell_row Tryz.results20 _ _ _ _ _ _ _ rfl HR0.out Tryz.underlying48 rfl iX16) rfl ⟨rfl, HB0.out⟩
    · obtain ⟨n, hn⟩ : ∃ n : Nat, harts = n := ⟨harts.toNat, by omega⟩
      subst hn
      have HE := Lib.hid (show Ct.cnt (n : Int) = n by unfold Ct.cnt; rw [if_pos (by omega)]; omega)
      rw [HE.out]
      have g1 : decide ((n : Int) > 8) = false := by simpa using hhi
      have HB1 := Lib.hid ((Below.refl w.heap.size w).alloc (Nat.le_refl _) (Obj.cells (x16V n Pc.zeros) X16))
      have HR1 := Lib.hid (CsAt.new w X16 (x16V n Pc.zeros))
      have hfill := x16_n n
      clear hlo hhi HE
      go_enter Tryz.func20, Tryz.ntmps20
      go_upto_region 1 with fail
      go_wp2_with (refine wpList_storeNew (w0 := w) rfl X16 _ _ rfl _ (x16V n Pc.zeros) _ rfl rfl iX16 rfl x16_one ?_)
      exact bodyPost_ret (results_cell_row Tryz.results20 _ _ _ _ _ _ _ rfl HR1.out Tryz.underlying48 rfl iX16) rfl ⟨rfl, HB1.out⟩
end Go.Proofs.YtfjdalepaacmgaaGreat
set_option maxRecDepth 20000
namespace Go.Proofs.YtfjdalepaacmgaaGreat
open Go.ChangeShapes Go.WideShapes Go.ChangeAt Go.RowKit

namespace Pc
/-- None of a context's registers below c stands there. -/
def rno (off : Int) (c : Nat) : Prop := ∀ j : Nat, j < c → off ≠ 8192 + 128 * (j : Int) ∧ off ≠ 2097152 + 4096 * (j : Int) ∧ off ≠ 2097156 + 4096 * (j : Int)
theorem rat1 {n off : Int} {k : Nat} (hn : 1 ≤ n ∧ n ≤ 8) (h1 : 1 ≤ k) (hk : k < 32) (h : off = 4 * (k : Int)) : at_ n off 4 = (1, k) := by
  have := at_hit (off := off) (k := 0) hn (by omega) (fun j hj => by omega) (by simp [hit]; omega)
  rw [this, of, if_pos rfl]
  rw [show (off / 4).toNat = k by omega]
theorem rat2 {n off : Int} (hn : 1 ≤ n ∧ n ≤ 8) (h : off = 4096) : at_ n off 4 = (2, 0) := by
  have := at_hit (off := off) (k := 1) hn (by omega) (fun j hj => by obtain rfl : j = 0 := by omega
                                                                     simp [hit]; omega) (by simp [hit]; omega)
  rw [this]; rfl
theorem rat3 {n off : Int} {c : Nat} (hn : 1 ≤ n ∧ n ≤ 8) (hc : (c : Int) < 2 * n) (h : off = 8192 + 128 * (c : Int)) : at_ n off 4 = (3, c) := by
  have := at_hit (off := off) (k := 2) hn (by omega) (fun j hj => by
    have : j = 0 ∨ j = 1 := by omega
    rcases this with rfl | rfl <;> (simp [hit]; omega)) (by simp [hit]; omega)
  rw [this, of, if_neg (by omega), if_neg (by omega), if_pos rfl, show ((off - 8192) / 128).toNat = c by omega]
theorem rat4 {n off : Int} {c : Nat} (hn : 1 ≤ n ∧ n ≤ 8) (hc : (c : Int) < 2 * n) (h : off = 2097152 + 4096 * (c : Int)) : at_ n off 4 = (4, c) := by
  have := at_hit (off := off) (k := 3) hn (by omega) (fun j hj => by
    have : j = 0 ∨ j = 1 ∨ j = 2 := by omega
    rcases this with rfl | rfl | rfl <;> (simp [hit]; omega)) (by simp [hit]; omega)
  rw [this, of, if_neg (by omega), if_neg (by omega), if_neg (by omega), if_pos rfl, show ((off - 2097152) / 4096).toNat = c by omega]
theorem rat5 {n off : Int} {c : Nat} (hn : 1 ≤ n ∧ n ≤ 8) (hc : (c : Int) < 2 * n) (h : off = 2097156 + 4096 * (c : Int)) : at_ n off 4 = (5, c) := by
  have := at_hit (off := off) (k := 4) hn (by omega) (fun j hj => by
    have : j = 0 ∨ j = 1 ∨ j = 2 ∨ j = 3 := by omega
    rcases this with rfl | rfl | rfl | rfl <;> (simp [hit]; omega)) (by simp [hit]; omega)
  rw [this, of, if_neg (by omega), if_neg (by omega), if_neg (by omega), if_neg (by omega), show ((off - 2097156) / 4096).toNat = c by omega]
theorem rat0 {n : Nat} {off : Int} (h1 : ∀ j : Nat, 1 ≤ j → j < 32 → off ≠ 4 * (j : Int)) (h2 : off ≠ 4096) (h3 : rno off (2 * n)) : at_ (n : Int) off 4 = (0, 0) := by
  refine at_miss fun j hj => ?_
  have : j = 0 ∨ j = 1 ∨ j = 2 ∨ j = 3 ∨ j = 4 := by omega
  rcases this with rfl | rfl | rfl | rfl | rfl
  all_goals simp [hit]
  · intro a b
    have := h1 (off / 4).toNat
    omega
  · exact h2
  · intro a b
    have := h3 ((off - 8192) / 128).toNat
    omega
  · intro a b
    have := h3 ((off - 2097152) / 4096).toNat
    omega
  · intro a b
    have := h3 ((off - 2097156) / 4096).toNat
    omega
end Pc
def atV (t : Nat × Nat) : Value := .tuple #[.int .i64 t.1, .int .i64 t.2]
set_option maxHeartbeats 16000000 in
theorem rat16_c (h off size : Int) (w : World) :
    Calls Tryz.prog 67 #[.int .i64 h, .int .u64 off, .int .i64 size] w fun e w' => e = .returned (atV (Pc.at_ h off size)) ∧ w' = w := by
  by_cases hbad : h < 1 ∨ 8 < h ∨ size ≠ 4
  · have HE := Lib.hid (Pc.at_bad (off := off) hbad)
    by_cases b1 : size = 4
    · have g1 : (size != 4) = false := by simpa using b1
      by_cases b2 : h < 1
      · have g2 : decide (h < 1) = true := by simpa using b2
        clear hbad b1 b2
        go_enter Tryz.func67, Tryz.ntmps67
        go_wp2_with fail
        go_ret2
        exact ⟨by rw [HE.out]; rfl, rfl⟩
      · have g2 : decide (h < 1) = false := by simpa using b2
        have g3 : decide (h > 8) = true := by simp; omega
        clear hbad b1 b2
        go_enter Tryz.func67, Tryz.ntmps67
        go_wp2_with fail
        go_ret2
        exact ⟨by rw [HE.out]; rfl, rfl⟩
    · have g1 : (size != 4) = true := by simpa using b1
      clear hbad b1
      go_enter Tryz.func67, Tryz.ntmps67
      go_wp2_with fail
      go_ret2
      exact ⟨by rw [HE.out]; rfl, rfl⟩
  · obtain ⟨n, rfl⟩ := Int.eq_ofNat_of_zero_le (by omega : 0 ≤ h)
    have hn : 1 ≤ (n : Int) ∧ (n : Int) ≤ 8 := by omega
    obtain rfl : size = 4 := by omega
    have g1 : decide ((n : Int) < 1) = false := by simp; omega
    have g2 : decide ((n : Int) > 8) = false := by simp; omega
    have g0 : ((4 : Int) != 4) = false := by rfl
    clear hbad
    go_enter Tryz.func67, Tryz.ntmps67
    go_wp2_with fail
    go_loopw [8] (fun i wr => ∃ k : Nat, 1 ≤ k ∧ k ≤ 32 ∧ i = .int .i64 k ∧ (∀ j : Nat, 1 ≤ j → j < k → off ≠ 4 * (j : Int)) ∧ wr = w) (fun i _ => 32 - (intOf i).toNat)
    case atStart => exact ⟨1, by omega, by omega, rfl, fun j h1 h2 => by omega, rfl⟩
    case round =>
      obtain ⟨k, hk1, hk, rfl, hno, hwr⟩ := hrel
      have HWR := Lib.hid hwr
      clear hwr
      have HNO := Lib.hid hno
      clear hno
      by_cases hlt : k < 32
      · have e1 : decide ((k : Int) < 32) = true := by simp; omega
        by_cases he : off = 4 * (k : Int)
        · have HE := Lib.hid (Pc.rat1 hn hk1 hlt he)
          have e2 : (off == 4 * (k : Int)) = true := by simpa using he
          clear he HNO
          go_wp2_with fail
          go_ret2
          exact ⟨by rw [HE.out]; rfl, HWR.out⟩
        · have e2 : (off == 4 * (k : Int)) = false := by simpa using he
          have HN2 := Lib.hid (show ∀ j : Nat, 1 ≤ j → j < k + 1 → off ≠ 4 * (j : Int) from fun j h1 h2 => by
            by_cases e : j = k
            · rw [e]; exact he
            · exact HNO.out j h1 (by omega))
          clear he HNO
          go_wp2_with fail
          go_roundw
          case rel => exact ⟨k + 1, by omega, by omega, by go_num, HN2.out, HWR.out⟩
          case measure => simp [intOf]; omega
      · obtain rfl : k = 32 := by omega
        by_cases h4 : off = 4096
        · have HE := Lib.hid (Pc.rat2 hn h4)
          have e2 : (off == 4096) = true := by simpa using h4
          clear h4 HNO
          go_wp2_with fail
          go_ret2
          exact ⟨by rw [HE.out]; rfl, HWR.out⟩
        · have e2 : (off == 4096) = false := by simpa using h4
          have H4 := Lib.hid h4
          clear h4
          go_wp2_with fail
          go_loopw [9] (fun i wr => ∃ c : Nat, c ≤ 2 * n ∧ i = .int .i64 c ∧ Pc.rno off c ∧ wr = w) (fun i _ => 2 * n - (intOf i).toNat)
          case atStart => exact ⟨0, by omega, rfl, fun j h2 => by omega, HWR.out⟩
          case round =>
            obtain ⟨c, hc, rfl, hno, hwr⟩ := hrel
            have HWR2 := Lib.hid hwr
            clear hwr
            have HC := Lib.hid hno
            clear hno
            have hc16 : (c : Int) ≤ 16 := by omega
            by_cases hlt2 : c < 2 * n
            · have e3 : decide ((c : Int) < 2 * (n : Int)) = true := by simp; omega
              by_cases he3 : off = 8192 + 128 * (c : Int)
              · have HE := Lib.hid (Pc.rat3 hn (by omega) he3)
                have e4 : (off == 8192 + 128 * (c : Int)) = true := by simpa using he3
                clear he3 HC H4 HNO
                go_wp2_with fail
                go_ret2
                exact ⟨by rw [HE.out]; rfl, HWR2.out⟩
              · have e4 : (off == 8192 + 128 * (c : Int)) = false := by simpa using he3
                by_cases he5 : off = 2097152 + 4096 * (c : Int)
                · have HE := Lib.hid (Pc.rat4 hn (by omega) he5)
                  have e5 : (off == 2097152 + 4096 * (c : Int)) = true := by simpa using he5
                  clear he3 he5 HC H4 HNO
                  go_wp2_with fail
                  go_ret2
                  exact ⟨by rw [HE.out]; rfl, HWR2.out⟩
                · have e5 : (off == 2097152 + 4096 * (c : Int)) = false := by simpa using he5
                  by_cases he6 : off = 2097156 + 4096 * (c : Int)
                  · have HE := Lib.hid (Pc.rat5 hn (by omega) he6)
                    have e6 : (off == 2097156 + 4096 * (c : Int)) = true := by simpa using he6
                    clear he3 he5 he6 HC H4 HNO
                    go_wp2_with fail
                    go_ret2
                    exact ⟨by rw [HE.out]; rfl, HWR2.out⟩
                  · have e6 : (off == 2097156 + 4096 * (c : Int)) = false := by simpa using he6
                    have HC2 := Lib.hid (show Pc.rno off (c + 1) from fun j hj => by
                      by_cases e : j = c
                      · rw [e]; exact ⟨he3, he5, he6⟩
                      · exact HC.out j (by omega))
                    clear he3 he5 he6 HC
                    go_wp2_with fail
                    go_roundw
                    case rel => exact ⟨c + 1, by omega, by go_num, HC2.out, HWR2.out⟩
                    case measure => simp [intOf]; omega
            · obtain rfl : c = 2 * n := by omega
              have e3 : decide (((2 * n : Nat) : Int) < 2 * (n : Int)) = false := by simp
              have HE := Lib.hid (Pc.rat0 HNO.out H4.out HC.out)
              clear HC H4 HNO
              go_wp2_with fail
              go_ret2
              exact ⟨by rw [HE.out]; rfl, HWR2.out⟩
abbrev BxT : TypeId := 53
abbrev UxT : TypeId := 51
/-- The reference's bus: harts, the clint, the controller, the port (eleven cells). -/
def xbV (n : Nat) (cs ps : Array Value) (us : Array Value) : Array Value := #[.int .i64 n] ++ cs ++ ps ++ us
abbrev uxZ : Array Value := #[.int .i64 0, .int .i64 0, .int .i64 0, .int .i64 0, .int .i64 0, .int .i64 0, .bool false, .bool false, .bool false, .slice none 0 0, .slice none 0 0]
def xb0 (n : Nat) : Array Value := xbV n (x15V n (Ct.newW n)) (x16V n Pc.zeros) uxZ
theorem foldl_seg : ∀ (l : List Value) (off i : Nat) (acc : Array Value), off + i + l.length ≤ acc.size → (l.zipIdx i).foldl (fun (cs : Array Value) (x : Value × Nat) => cs.setIfInBounds (off + x.2) x.1) acc = (acc.toList.take (off + i) ++ l ++ acc.toList.drop (off + i + l.length)).toArray
  | [], off, i, acc, _ => by simp
  | v :: l, off, i, acc, h => by
    have hi : off + i < acc.size := by simp at h; omega
    rw [List.zipIdx_cons, List.foldl_cons, foldl_seg l off (i + 1) _ (by simp at h ⊢; omega)]
    congr 1
    simp only [Array.toList_setIfInBounds]
    have e1 : (acc.toList.set (off + i) v).take (off + (i + 1)) = acc.toList.take (off + i) ++ [v] := by
      rw [show off + (i + 1) = off + i + 1 by omega, List.take_add_one, List.getElem?_set_self (by simpa using hi), List.take_set_of_le (by omega)]
      rfl
    have e2 : (acc.toList.set (off + i) v).drop (off + (i + 1) + l.length) = acc.toList.drop (off + i + (v :: l).length) := by
      rw [List.drop_set_of_lt (by omega), List.length_cons]
      congr 1; omega
    rw [e1, e2]
    simp
theorem fill_seg (place : Nat → Option (Nat × Nat)) (z cs : Array Value) (v : Value) (i off : Nat) (rest : List (Nat × Value)) (hv : v.cells = cs) (hp : place i = some (off, cs.size)) (hz : off + cs.size ≤ z.size) :
    Instr.fill place z ((i, v) :: rest) = Instr.fill place (z.toList.take off ++ cs.toList ++ z.toList.drop (off + cs.size)).toArray rest := by
  rw [Instr.fill, hp]
  simp only [hv]
  rw [if_neg (by simp; omega)]
  congr 1
  rw [← Array.foldl_toList, Array.toList_zipIdx]
  have := foldl_seg cs.toList off 0 z (by simpa using hz)
  simpa using this
theorem x15_size (n : Nat) (ws : List Int) (h : ws.length = 17) : (x15V n ws).size = 18 := by simp [x15V, h]
theorem x16_size' (n : Nat) (ws : List Int) : (x16V n ws).size = 657 := by simp [x16V]
theorem xbV_size (n : Nat) {cs ps us : Array Value} (h1 : cs.size = 18) (h2 : ps.size = 657) (h3 : us.size = 11) : (xbV n cs ps us).size = 687 := by simp [xbV, h1, h2, h3]
set_option maxRecDepth 1000000 in
theorem info_bx : (Tryz.prog.info? BxT).map (fun i => (i.zero, i.size)) = some (some (.agg (xbV 0 (x15V 0 (Ct.newW 0)) (x16V 0 Pc.zeros) uxZ)), 687) := by kernel_rfl
theorem places_bx : (match Tryz.prog.underlying BxT with | some (.struct fs) => fs.toList.mapM (fun f => (Tryz.prog.info? f.type).map fun i => (f.offset, i.size)) | _ => none) = some [(0, 1), (1, 18), (19, 657), (676, 11)] := by kernel_rfl
theorem ctnew_len {n : Nat} (h : n ≤ 8) : (Ct.newW n).length = 17 := by simp [Ct.newW]; omega
theorem fill_bx4 (n : Nat) (a b c p u : Array Value) (h1 : a.size = 18) (h2 : b.size = 657) (hc : c.size = 18) (hp : p.size = 657) (hu : u.size = 11) (place : Nat → Option (Nat × Nat)) (p0 : place 0 = some (0, 1)) (p1 : place 1 = some (1, 18)) (p2 : place 2 = some (19, 657)) :
    Instr.fill place (xbV 0 a b u) [(0, .int .i64 n), (1, .agg c), (2, .agg p)] = some (xbV n c p u) := by
  have hs := xbV_size 0 (us := u) h1 h2 hu
  rw [fill_seg place _ #[.int .i64 n] (.int .i64 n) 0 0 _ rfl p0 (by rw [hs]; show 0 + 1 ≤ 687; omega)]
  have e1 : (List.take 0 (xbV 0 a b u).toList ++ (#[Value.int .i64 n] : Array Value).toList ++ List.drop (0 + (#[Value.int .i64 n] : Array Value).size) (xbV 0 a b u).toList).toArray = xbV n a b u := by simp [xbV]
  rw [e1]
  have hs1 := xbV_size n (us := u) h1 h2 hu
  rw [fill_seg place _ c (.agg c) 1 1 _ rfl (by rw [hc]; exact p1) (by rw [hs1, hc]; omega)]
  have e2 : (List.take 1 (xbV n a b u).toList ++ c.toList ++ List.drop (1 + c.size) (xbV n a b u).toList).toArray = xbV n c b u := by
    have ha : a.toList.length = 18 := by simpa using h1
    have q : (xbV n a b u).toList = [Value.int .i64 n] ++ (a.toList ++ (b.toList ++ u.toList)) := by simp [xbV]
    have q2 : (xbV n c b u) = ([Value.int .i64 n] ++ (c.toList ++ (b.toList ++ u.toList))).toArray := by simp [xbV]
    rw [q, q2, hc]
    congr 1
    rw [List.take_left' (by rfl), ← List.append_assoc [Value.int .i64 n] a.toList, List.drop_left' (by simp [ha]), List.append_assoc]
  rw [e2]
  have hs2 := xbV_size n (us := u) hc h2 hu
  rw [fill_seg place _ p (.agg p) 2 19 _ rfl (by rw [hp]; exact p2) (by rw [hs2, hp]; omega)]
  have e3 : (List.take 19 (xbV n c b u).toList ++ p.toList ++ List.drop (19 + p.size) (xbV n c b u).toList).toArray = xbV n c p u := by
    have ha : c.toList.length = 18 := by simpa using hc
    have hb : b.toList.length = 657 := by simpa using h2
    have q : (xbV n c b u).toList = ([Value.int .i64 n] ++ c.toList) ++ (b.toList ++ u.toList) := by simp [xbV]
    have q2 : (xbV n c p u) = (([Value.int .i64 n] ++ c.toList) ++ (p.toList ++ u.toList)).toArray := by simp [xbV]
    rw [q, q2, hp]
    congr 1
    rw [List.take_left' (by simp [ha]), ← List.append_assoc ([Value.int .i64 n] ++ c.toList) b.toList, List.drop_left' (by simp [ha, hb]), List.append_assoc]
  rw [e3, Instr.fill]
theorem built_bx (n : Nat) (c p : Array Value) (hc : c.size = 18) (hp : p.size = 657) : Tryz.prog.built BxT [(0, .int .i64 n), (1, .agg c), (2, .agg p)] = some (xbV n c p uxZ) := by
  have h1 := info_bx
  have h2 := places_bx
  have hf := fill_bx4 n _ _ c p uxZ (x15_size 0 (Ct.newW 0) (ctnew_len (by omega))) (x16_size' 0 Pc.zeros) hc hp rfl (([(0, 1), (1, 18), (19, 657), (676, 11)] : List (Nat × Nat)).toArray[·]?) rfl rfl rfl
  generalize xbV 0 (x15V 0 (Ct.newW 0)) (x16V 0 Pc.zeros) uxZ = z at *
  unfold Program.built
  cases hi : Tryz.prog.info? BxT with
  | none => rw [hi] at h1; cases h1
  | some it =>
    rw [hi] at h1
    simp only [Option.map_some, Option.some.injEq, Prod.mk.injEq] at h1
    rw [Tryz.underlying53] at h2 ⊢
    simp only at h2 ⊢
    rw [h1.1, h2]
    exact hf
end Go.Proofs.YtfjdalepaacmgaaGreat
