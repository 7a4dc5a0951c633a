/-
  Plain numbers, no program: a part of a word, read and changed by masks and shifts. A clint in memory, and the reference's as a value. A slice that a call owns: one element more at its end; what later steps leave of it; a slice that is only read.
-/
import Derived.Test.YtfjdalepaacmgaaGreatYaa
import Derived.Laws.CopyOwn
import Derived.OwnWalk
import Derived.Deep.MidRow
import Derived.Laws.ResultCell
import Derived.ProofKit
import Derived.OpenShut
import Derived.Deep.DeepCutAuto
import Derived.Deep.QuietTactic
import Derived.BigQuiet
namespace Go.Proofs.YtfjdalepaacmgaaGreat.Ct
open Go.RowKit (wrap64)
open Wd

theorem tb_md {x : Int} (h0 : 0 ≤ x) (k i : Nat) : tb (x % 2 ^ k) i = (decide (i < k) && tb x i) := by
  unfold tb
  have e : (x % 2 ^ k).toNat = x.toNat % 2 ^ k := by
    obtain ⟨m, rfl⟩ := Int.eq_ofNat_of_zero_le h0
    rw [pow_cast, ← Int.natCast_emod, Int.toNat_natCast, Int.toNat_natCast]
  rw [e, Nat.testBit_mod_two_pow]
theorem tb_join {q a : Int} (hq : 0 ≤ q) (ha : 0 ≤ a) (k : Nat) (hl : a < 2 ^ k) (i : Nat) : tb (q * 2 ^ k + a) i = if i < k then tb a i else tb q (i - k) := by
  obtain ⟨m, rfl⟩ := Int.eq_ofNat_of_zero_le hq
  obtain ⟨b, rfl⟩ := Int.eq_ofNat_of_zero_le ha
  have hb : b < 2 ^ k := by rw [pow_cast] at hl; omega
  unfold tb
  have e : ((m : Int) * 2 ^ k + (b : Int)).toNat = 2 ^ k * m + b := by
    rw [pow_cast, ← Int.natCast_mul, ← Int.natCast_add, Int.toNat_natCast, Nat.mul_comm]
  rw [e, Nat.testBit_two_pow_mul_add _ hb, Int.toNat_natCast, Int.toNat_natCast]
theorem and_low {x : Int} (h0 : 0 ≤ x) (h1 : x < 18446744073709551616) : bits .and .u64 x 4294967295 = x % 4294967296 := by
  refine ext (and_range h0 h1 (by decide) (by decide)).1 (and_range h0 h1 (by decide) (by decide)).2 (by omega) (by omega) fun i hi => ?_
  have e1 := tb_pow_sub_one 32 i
  have e2 := tb_md h0 32 i
  rw [show ((2 : Int) ^ 32 - 1) = 4294967295 by decide] at e1
  rw [show ((2 : Int) ^ 32) = 4294967296 by decide] at e2
  rw [tb_and h0 h1 (by decide) (by decide), e1, e2, Bool.and_comm]
theorem and_all {x : Int} (h0 : 0 ≤ x) (h1 : x < 18446744073709551616) : bits .and .u64 x 18446744073709551615 = x := by
  refine ext (and_range h0 h1 (by decide) (by decide)).1 (and_range h0 h1 (by decide) (by decide)).2 h0 h1 fun i hi => ?_
  rw [tb_and h0 h1 (by decide) (by decide), tb_ones hi, Bool.and_true]
theorem and_one {x : Int} (h0 : 0 ≤ x) (h1 : x < 18446744073709551616) : bits .and .u64 x 1 = x % 2 := by
  refine ext (and_range h0 h1 (by decide) (by decide)).1 (and_range h0 h1 (by decide) (by decide)).2 (by omega) (by omega) fun i hi => ?_
  have e1 := tb_pow_sub_one 1 i
  have e2 := tb_md h0 1 i
  rw [show ((2 : Int) ^ 1 - 1) = 1 by decide] at e1
  rw [show ((2 : Int) ^ 1) = 2 by decide] at e2
  rw [tb_and h0 h1 (by decide) (by decide), e1, e2, Bool.and_comm]
theorem not_all {x : Int} (h0 : 0 ≤ x) (h1 : x < 18446744073709551616) : bits .andNot .u64 x 18446744073709551615 = 0 := by
  refine ext (andNot_range h0 h1 (by decide) (by decide)).1 (andNot_range h0 h1 (by decide) (by decide)).2 (by decide) (by decide) fun i hi => ?_
  rw [tb_andNot h0 h1 (by decide) (by decide), tb_ones hi, tb_zero, Bool.not_true, Bool.and_false]
theorem or_zero {x : Int} (h0 : 0 ≤ x) (h1 : x < 18446744073709551616) : bits .or .u64 0 x = x := by
  refine ext (or_range (by decide) (by decide) h0 h1).1 (or_range (by decide) (by decide) h0 h1).2 h0 h1 fun i hi => ?_
  rw [tb_or (by decide) (by decide) h0 h1, tb_zero, Bool.false_or]
theorem not_low {x : Int} (h0 : 0 ≤ x) (h1 : x < 18446744073709551616) : bits .andNot .u64 x 4294967295 = x - x % 4294967296 := by
  refine ext (andNot_range h0 h1 (by decide) (by decide)).1 (andNot_range h0 h1 (by decide) (by decide)).2 (by omega) (by omega) fun i hi => ?_
  have e1 := tb_pow_sub_one 32 i
  rw [show ((2 : Int) ^ 32 - 1) = 4294967295 by decide] at e1
  have e2 := tb_join (q := x / 4294967296) (a := 0) (by omega) (by omega) 32 (by decide) i
  rw [show ((2 : Int) ^ 32) = 4294967296 by decide] at e2
  rw [show x - x % 4294967296 = x / 4294967296 * 4294967296 + 0 by omega, e2, tb_andNot h0 h1 (by decide) (by decide), e1]
  have e3 := tb_div h0 32 (i - 32)
  rw [show ((2 : Int) ^ 32) = 4294967296 by decide] at e3
  by_cases h : i < 32
  · simp [h, tb_zero]
  · rw [if_neg h, e3, show i - 32 + 32 = i by omega]
    simp [h]
theorem tb_high (i : Nat) (hi : i < 64) : tb 18446744069414584320 i = decide (32 ≤ i) := by
  have e2 := tb_join (q := 4294967295) (a := 0) (by omega) (by omega) 32 (by decide) i
  have e1 := tb_pow_sub_one 32 (i - 32)
  rw [show ((2 : Int) ^ 32 - 1) = 4294967295 by decide] at e1
  rw [show ((4294967295 : Int) * 2 ^ 32 + 0) = 18446744069414584320 by decide] at e2
  rw [e2, e1, tb_zero]
  by_cases h : i < 32
  · simp [h]
  · simp [h]; omega
theorem not_high {x : Int} (h0 : 0 ≤ x) (h1 : x < 18446744073709551616) : bits .andNot .u64 x 18446744069414584320 = x % 4294967296 := by
  refine ext (andNot_range h0 h1 (by decide) (by decide)).1 (andNot_range h0 h1 (by decide) (by decide)).2 (by omega) (by omega) fun i hi => ?_
  have e2 := tb_md h0 32 i
  rw [show ((2 : Int) ^ 32) = 4294967296 by decide] at e2
  rw [tb_andNot h0 h1 (by decide) (by decide), tb_high i hi, e2]
  by_cases h : i < 32
  · simp [h, show ¬ 32 ≤ i by omega]
  · simp [h, show 32 ≤ i by omega]
/-- What is put below or above. -/
theorem or_low {q a : Int} (hq : 0 ≤ q) (hq1 : q < 4294967296) (ha : 0 ≤ a) (ha1 : a < 4294967296) : bits .or .u64 (q * 4294967296) a = q * 4294967296 + a := by
  refine ext (or_range (by omega) (by omega) ha (by omega)).1 (or_range (by omega) (by omega) ha (by omega)).2 (by omega) (by omega) fun i hi => ?_
  have e1 := tb_join hq ha 32 (by rw [show ((2 : Int) ^ 32) = 4294967296 by decide]; omega) i
  have e2 := tb_join (a := 0) hq (by omega) 32 (by decide) i
  rw [show ((2 : Int) ^ 32) = 4294967296 by decide] at e1 e2
  rw [tb_or (by omega) (by omega) ha (by omega), e1, show q * 4294967296 = q * 4294967296 + 0 by omega, e2, tb_zero]
  by_cases h : i < 32
  · simp [h]
  · have e3 : tb a i = false := by
      have := tb_md ha 32 i
      rw [show ((2 : Int) ^ 32) = 4294967296 by decide, Int.emod_eq_of_lt ha ha1] at this
      rw [this]; simp [h]
    simp [h, e3]
theorem or_comm {x y : Int} (h0 : 0 ≤ x) (h1 : x < 18446744073709551616) (g0 : 0 ≤ y) (g1 : y < 18446744073709551616) : bits .or .u64 x y = bits .or .u64 y x := by
  refine ext (or_range h0 h1 g0 g1).1 (or_range h0 h1 g0 g1).2 (or_range g0 g1 h0 h1).1 (or_range g0 g1 h0 h1).2 fun i hi => ?_
  rw [tb_or h0 h1 g0 g1, tb_or g0 g1 h0 h1, Bool.or_comm]
theorem put_low {x v : Int} (h0 : 0 ≤ x) (h1 : x < 18446744073709551616) (g0 : 0 ≤ v) (g1 : v < 18446744073709551616) :
    bits .or .u64 (bits .andNot .u64 x 4294967295) (bits .and .u64 v 4294967295) = x - x % 4294967296 + v % 4294967296 := by
  rw [not_low h0 h1, and_low g0 g1, show x - x % 4294967296 = x / 4294967296 * 4294967296 by omega]
  exact or_low (by omega) (by omega) (by omega) (by omega)
theorem put_high {x v : Int} (h0 : 0 ≤ x) (h1 : x < 18446744073709551616) :
    bits .or .u64 (bits .andNot .u64 x 18446744069414584320) (v % 4294967296 * 4294967296) = x % 4294967296 + v % 4294967296 * 4294967296 := by
  rw [not_high h0 h1, or_comm (by omega) (by omega) (by omega) (by omega), or_low (by omega) (by omega) (by omega) (by omega)]
  omega
end Go.Proofs.YtfjdalepaacmgaaGreat.Ct
set_option maxRecDepth 20000
namespace Go.Proofs.YtfjdalepaacmgaaGreat
open Go.RowKit

abbrev CT : TypeId := 71
abbrev X15 : TypeId := 42
def ctV (n : Nat) (ws : List Int) : Array Value := (Value.int .i64 n :: ws.map (Value.int .u64)).toArray
def x15V (n : Nat) (ws : List Int) : Array Value := (Value.int .i64 n :: ((ws.take 9).map (Value.int .u64) ++ (ws.drop 9).map (fun x => Value.bool (x == 1)))).toArray
section
variable {n : Nat} {ws : List Int}
theorem ctV_0 : (ctV n ws)[0]? = some (.int .i64 n) := rfl
theorem ctV_at {i : Nat} (h : i < ws.length) : (ctV n ws)[i + 1]? = some (.int .u64 (ws.getD i 0)) := by
  simp [ctV, List.getD, List.getElem?_eq_getElem h]
theorem ctV_size : (ctV n ws).size = ws.length + 1 := by simp [ctV]
theorem ctV_one : (ctV n ws).all (·.oneCell') = true := by
  rw [Array.all_eq_true_iff_forall_mem]
  intro v hv
  simp [ctV] at hv
  rcases hv with rfl | ⟨a, -, rfl⟩ <;> rfl
theorem ctV_set (i : Nat) (v : Int) : (ctV n ws).setIfInBounds (i + 1) (.int .u64 v) = ctV n (ws.set i v) := by simp [ctV, List.map_set]
theorem x15V_0 : (x15V n ws)[0]? = some (.int .i64 n) := rfl
theorem x15V_w (hl : ws.length = 17) {i : Nat} (h : i < 9) : (x15V n ws)[i + 1]? = some (.int .u64 (ws.getD i 0)) := by
  simp only [x15V, List.getElem?_toArray, List.getElem?_cons_succ]
  rw [List.getElem?_append_left (by simp; omega), List.getElem?_map, List.getElem?_take, if_pos h, List.getD, List.getElem?_eq_getElem (by omega)]
  rfl
theorem x15V_b (hl : ws.length = 17) {i : Nat} (h : i < 8) : (x15V n ws)[i + 10]? = some (.bool (ws.getD (9 + i) 0 == 1)) := by
  simp only [x15V, List.getElem?_toArray, List.getElem?_cons_succ]
  rw [List.getElem?_append_right (by simp; omega), List.getElem?_map, List.getElem?_drop]
  rw [show 9 + (i + 9 - (List.map (Value.int .u64) (ws.take 9)).length) = 9 + i by simp; omega, List.getD, List.getElem?_eq_getElem (by omega)]
  rfl
theorem x15V_size (hl : ws.length = 17) : (x15V n ws).size = 18 := by simp [x15V, hl]
theorem x15V_one : (x15V n ws).all (·.oneCell') = true := by
  rw [Array.all_eq_true_iff_forall_mem]
  intro v hv
  simp only [x15V, List.mem_toArray, List.mem_cons, List.mem_append, List.mem_map] at hv
  rcases hv with rfl | ⟨a, -, rfl⟩ | ⟨a, -, rfl⟩ <;> rfl
theorem x15V_setW (hl : ws.length = 17) {i : Nat} (h : i < 9) (v : Int) : (x15V n ws).setIfInBounds (i + 1) (.int .u64 v) = x15V n (ws.set i v) := by
  simp only [x15V, List.setIfInBounds_toArray, List.set_cons_succ]
  rw [List.set_append_left _ _ (by simp; omega), ← List.map_set, List.take_set, List.drop_set_of_lt (by omega)]
theorem x15V_setB (hl : ws.length = 17) {i : Nat} (h : i < 8) (v : Int) : (x15V n ws).setIfInBounds (i + 10) (.bool (v == 1)) = x15V n (ws.set (9 + i) v) := by
  simp only [x15V, List.setIfInBounds_toArray, List.set_cons_succ]
  rw [List.set_append_right _ _ (by simp; omega), List.take_set_of_le (by omega), List.drop_set]
  rw [if_neg (by omega), List.map_set, show i + 9 - (List.map (Value.int .u64) (ws.take 9)).length = 9 + i - 9 by simp; omega]
end
theorem info_CT : (Tryz.prog.info? CT).map (·.size) = some 18 := by kernel_rfl
theorem info_X15 : (Tryz.prog.info? X15).map (·.size) = some 18 := by kernel_rfl
theorem iCT {n : Nat} {ws : List Int} (h : ws.length = 17) : (Tryz.prog.info? CT).map (·.size) = some (ctV n ws).size := by rw [ctV_size, h]; exact info_CT
theorem iX15 {n : Nat} {ws : List Int} (h : ws.length = 17) : (Tryz.prog.info? X15).map (·.size) = some (x15V n ws).size := by rw [x15V_size h]; exact info_X15
/-- A clint in a block, or none. -/
structure CtAt (w : World) (b : Nat) (n : Nat) (ws : List Int) : Prop where
  row : CsAt w b CT (ctV n ws)
  ok : Ct.Ok n ws
section
variable {w w' : World} {b n : Nat} {ws : List Int}
theorem CtAt.lt (h : CtAt w b n ws) : b < w.heap.size := h.row.lt
theorem CtAt.low (h : CtAt w b n ws) (hb : Below w.heap.size w w') : CtAt w' b n ws := ⟨h.row.low hb, h.ok⟩
theorem CtAt.n0 (h : CtAt w b n ws) : w.cell? ⟨b, 0, none⟩ = some (.int .i64 n) := by rw [h.row.cell]; exact ctV_0
theorem CtAt.cell (h : CtAt w b n ws) {i : Nat} (hi : i < 17) : w.cell? ⟨b, i + 1, none⟩ = some (.int .u64 (ws.getD i 0)) := by
  rw [h.row.cell]; exact ctV_at (by rw [h.ok.len]; exact hi)
theorem CtAt.set (h : CtAt w b n ws) {i : Nat} (v : Int) (hk : Ct.Ok n (ws.set i v)) : CtAt (w.setCell ⟨b, i + 1, none⟩ (.int .u64 v)) b n (ws.set i v) := by
  refine ⟨?_, hk⟩
  unfold CsAt
  rw [heap_setCell_same w b (i + 1) _ CT _ h.row, ctV_set]
end
namespace Ct
theorem set_ok {n : Nat} {ws : List Int} (h : Ok n ws) {i : Nat} {v : Int} (hi : i < 9) (h0 : 0 ≤ v) (h1 : v ≤ 18446744073709551615) : Ok n (ws.set i v) := by
  refine ⟨h.n8, by simp [h.len], fun j => ?_, fun j => ?_⟩
  · by_cases e : i = j
    · subst e
      rw [List.getD, List.getElem?_set, if_pos rfl, if_pos (by rw [h.len]; omega)]
      exact ⟨h0, h1⟩
    · rw [List.getD, List.getElem?_set, if_neg e]; exact h.rng j
  · rw [List.getD, List.getElem?_set, if_neg (by omega)]; exact h.bit j
theorem bit_ok {n : Nat} {ws : List Int} (h : Ok n ws) {i : Nat} {v : Int} (hi : i < 8) (h0 : v = 0 ∨ v = 1) : Ok n (ws.set (9 + i) v) := by
  refine ⟨h.n8, by simp [h.len], fun j => ?_, fun j => ?_⟩
  · by_cases e : 9 + i = j
    · subst e
      rw [List.getD, List.getElem?_set, if_pos rfl, if_pos (by rw [h.len]; omega)]
      simp only [Option.getD_some]; omega
    · rw [List.getD, List.getElem?_set, if_neg e]; exact h.rng j
  · by_cases e : i = j
    · subst e
      rw [List.getD, List.getElem?_set, if_pos rfl, if_pos (by rw [h.len]; omega)]
      exact h0
    · rw [List.getD, List.getElem?_set, if_neg (by omega)]; exact h.bit j
theorem part_rng {w : Int} (h : 0 ≤ w ∧ w ≤ 18446744073709551615) (b : Nat) : 0 ≤ part w b ∧ part w b ≤ 18446744073709551615 := by
  unfold part
  split
  · omega
  · split <;> omega
theorem with_rng {w v : Int} (h : 0 ≤ w ∧ w ≤ 18446744073709551615) (hv : 0 ≤ v ∧ v ≤ 18446744073709551615) (b : Nat) : 0 ≤ with_ w b v ∧ with_ w b v ≤ 18446744073709551615 := by
  unfold with_
  split
  · omega
  · split <;> omega
theorem write_ok {n : Nat} {ws : List Int} (h : Ok n ws) {off : Int} (h0 : 0 ≤ off) (size : Int) {v : Int} (hv : 0 ≤ v ∧ v ≤ 18446744073709551615) : Ok n (writeC n ws off size v) := by
  have hn := h.n8
  have hl := at_lt (n := n) (size := size) h0
  unfold writeC
  split
  · exact h
  · rename_i hne
    obtain ⟨l1, l2, l3, l4⟩ : (at_ n off size).2.1 < n ∧ (at_ n off size).1 < 4 ∧ (at_ n off size).2.2 < 3 ∧ ((at_ n off size).1 = 3 → (at_ n off size).2.1 = 0) := by
      rcases hl with hl | hl
      · exact absurd hl hne
      · exact hl
    split
    · exact bit_ok h (by omega) (by omega)
    · refine set_ok h ?_ (with_rng (h.rng _) hv _).1 (with_rng (h.rng _) hv _).2
      unfold idx
      split
      · contradiction
      · split <;> omega
theorem tick_ok {n : Nat} {ws : List Int} (h : Ok n ws) (t : Int) : Ok n (tickC n ws t) := by
  unfold tickC
  split
  · exact set_ok h (by omega) (by omega) (by omega)
  · exact h
end Ct
end Go.Proofs.YtfjdalepaacmgaaGreat
set_option maxRecDepth 20000
namespace Go.Proofs.YtfjdalepaacmgaaGreat
open Go.ChangeShapes Go.WideShapes Go.ChangeAt Go.RowKit

/-- A slice whose cells can be read. -/
def Vw (w : World) (p : Option Addr) (cs : List Value) : Prop :=
  cs = [] ∨ ∃ b off, p = some ⟨b, off, none⟩ ∧ b < w.heap.size ∧ ∀ j u, cs[j]? = some u → w.cell? ⟨b, off + j, none⟩ = some u
theorem Vw.low {w w' : World} {p : Option Addr} {cs : List Value} (h : Vw w p cs) (hb : Below w.heap.size w w') : Vw w' p cs :=
  h.imp id fun ⟨b, off, hp, hlt, hc⟩ => ⟨b, off, hp, Nat.lt_of_lt_of_le hlt hb.size, fun j u hj => (hb.cell (p := ⟨b, off + j, none⟩) hlt).trans (hc j u hj)⟩
section
variable {w w' : World} {base : Nat} {e : TypeId} {size : Nat} {v : Value} {n : Nat} {xs : List Value}
theorem own_len (h : w.ownsRow base e size v n xs) : xs.length = n * size := h.1
theorem own_on {B : Nat} (h : w.ownsRow base e size v n xs) (hb : Below B w w') (hB : ∀ k, v.ownBlock = some k → k < B) : w'.ownsRow base e size v n xs := by
  refine ⟨h.1, h.2.imp id ?_⟩
  rintro ⟨g, cap, cur, rfl, h1, h2, h3⟩
  exact ⟨g, cap, cur, rfl, h1, (hb.block g (hB g rfl)).trans h2, h3⟩
theorem own_low (h : w.ownsRow base e size v n xs) (hb : Below w.heap.size w w') : w'.ownsRow base e size v n xs := own_on h hb fun k hk => (h.lt k hk).2
theorem own_mono {b : Nat} (h : w.ownsRow base e size v n xs) (hb : b ≤ base) : w.ownsRow b e size v n xs := by
  refine ⟨h.1, h.2.imp id ?_⟩
  rintro ⟨g, cap, cur, rfl, h1, h2⟩
  exact ⟨g, cap, cur, rfl, Nat.le_trans hb h1, h2⟩
/-- How such a slice looks. -/
theorem own_form (h : w.ownsRow base e size v n xs) : ∃ p cap, v = .slice p n cap ∧ Vw w p xs ∧ n ≤ cap ∧ cap ≤ maxLen := by
  rcases h.2 with ⟨rfl, rfl⟩ | ⟨g, cap, cur, rfl, hb, hg, hc, hm, hs, ht⟩
  · refine ⟨none, 0, rfl, .inl ?_, Nat.le_refl _, Nat.zero_le _⟩
    have := h.1
    simpa using this
  · refine ⟨_, cap, rfl, .inr ⟨g, 0, rfl, (Array.getElem?_eq_some_iff.1 hg).1, fun j u hj => ?_⟩, hc, hm⟩
    have hl : j < n * size := by
      have := (List.getElem?_eq_some_iff.1 hj).1
      rwa [h.1] at this
    rw [Nat.zero_add, h.cellAt j hl, hj]
theorem own_pos (h : w.ownsRow base e size v n xs) (hn : 0 < n) : ∃ g cap, v = .slice (some ⟨g, 0, none⟩) n cap ∧ base ≤ g ∧ g < w.heap.size ∧ n ≤ cap := by
  rcases h.2 with ⟨rfl, rfl⟩ | ⟨g, cap, cur, rfl, hb, hg, hc, hm, hs, ht⟩
  · omega
  · exact ⟨g, cap, rfl, hb, (Array.getElem?_eq_some_iff.1 hg).1, hc⟩
end
theorem CsAt.far {w : World} {b : Nat} {t : TypeId} {cs : Array Value} (h : CsAt w b t cs) {c i : Nat} (hne : b ≠ c) (v : Value) : CsAt (w.setCell ⟨c, i, none⟩ v) b t cs := (heap_setCell_other w ⟨c, i, none⟩ b v hne).trans h
theorem add_plain (b off j : Nat) : (⟨b, off, none⟩ : Addr).add j = ⟨b, off + j, none⟩ := by unfold Addr.add; split <;> simp_all
variable {P : Program}
/-- An element more: its cells lie in the block that was made last. -/
theorem wpList_push {ops : Array Oper} {rest : List Oper} {o : Oper} {a : Act} {Q : Exit → Act → World → Prop} {w1 : World} (hgd : o.guard = none) (s x : Operand) (t : TypeId)
    (ho : o.op = .call { callee := .builtin .append, args := #[s, x], argTypes := #[t, t] })
    (base : Nat) (e : TypeId) (z : Value) (size bytes : Nat) (ht : P.underlying t = some (.slice e)) (hi : (P.info? e).map (fun i => (i.zero, i.size, i.bytes)) = some (some z, size, bytes))
    (hzs : z.cells.size = size) (hsz : 0 < size) (hby : bytes ≤ 64)
    (v : Value) (n : Nat) (xs : List Value) (hs : a.eval s = v) (hown : w1.ownsRow base e size v n xs) (cs : Array Value) (hcs : cs.size = size) (h1 : cs.all (·.oneCell') = true)
    (b : Nat) (hx : a.eval x = .slice (some ⟨b, 0, none⟩) 1 1) (hb : b = w1.heap.size) (hn : n < 1000000) (hbase : base ≤ w1.heap.size)
    (h : ∀ v' w', w'.ownsRow base e size v' (n + 1) (xs ++ cs.toList) → Below base w1 w' → wpList P ops Q rest (a.put o.dst v') w') : wpList P ops Q (o :: rest) a (w1.alloc (.cells cs e)) := by
  subst hb
  obtain ⟨i, hi, hz⟩ := Option.map_eq_some_iff.1 hi
  simp only [Prod.mk.injEq] at hz
  refine wpList_append_own _ hgd s x t ho base e i z size bytes ht hi hz.1 hz.2.1 hz.2.2 hzs hsz v n xs hs (hown.alloc _) ⟨w1.heap.size, 0, none⟩ 1 1 cs.toList hx (by simpa using hcs) ?_ ?_ (by unfold maxLen; omega) ?_ (by simp; omega) ?_
  · intro j u hj
    rw [add_plain, Nat.zero_add, (CsAt.new w1 e cs).cell]
    simpa using hj
  · intro u hu
    exact (Array.all_eq_true_iff_forall_mem.1 h1) u (by simpa using hu)
  · have : (n + 1) * bytes ≤ 1000000 * 64 := Nat.mul_le_mul (by omega) hby
    omega
  · intro v' w' hown' hg _
    refine h v' w' hown' ?_
    exact ((Below.refl base w1).alloc hbase _).grown hg (by simp; omega) (fun r hr => (hown.lt r hr).1)
/-- Nothing is appended: a nil slice. -/
theorem run_append_none (w : World) (base : Nat) (t ty e : TypeId) (i : TypeInfo) (size : Nat) (ht : P.underlying t = some (.slice e)) (hi : P.info? e = some i)
    (v : Value) (n : Nat) (xs : List Value) (hown : w.ownsRow base e size v n xs) (hn : n < 1000000) (c : Nat) : (Builtin.append_ #[t, t] ty #[v, .slice none 0 c]).run P w = .ok v w := by
  rcases hown.2 with ⟨rfl, rfl⟩ | ⟨g, cap, cur, rfl, hb, hg, hc, hm, hs, hk⟩
  · simp [Builtin.append_, run_underlying ht, sizeOf, typeInfo, hi, Builtin.lenOf, Builtin.firstCells]
  · have : n ≤ maxLen := by unfold maxLen; omega
    simp [Builtin.append_, run_underlying ht, sizeOf, typeInfo, hi, Builtin.lenOf, Builtin.firstCells, loadCells, hc, storeCells]
/-- A slice at the end of one that the call owns. -/
theorem wp_cat {o : Oper} {a : Act} {w : World} {K : Act → World → Prop} {Q : Exit → Act → World → Prop} (s x : Operand) (t : TypeId)
    (ho : o.op = .call { callee := .builtin .append, args := #[s, x], argTypes := #[t, t] })
    (base : Nat) (e : TypeId) (z : Value) (size bytes : Nat) (ht : P.underlying t = some (.slice e)) (hi : (P.info? e).map (fun i => (i.zero, i.size, i.bytes)) = some (some z, size, bytes))
    (hzs : z.cells.size = size) (hsz : 0 < size) (hby : bytes ≤ 64)
    (v : Value) (n : Nat) (xs : List Value) (hs : a.eval s = v) (hown : w.ownsRow base e size v n xs)
    (p : Option Addr) (m c : Nat) (news : List Value) (hx : a.eval x = .slice p m c) (hv : Vw w p news) (hl : news.length = m * size) (h1 : ∀ u ∈ news, u.oneCell' = true)
    (hn : n + m < 1000000) (hbase : base ≤ w.heap.size)
    (h : ∀ v' w', w'.ownsRow base e size v' (n + m) (xs ++ news) → Below base w w' → K (a.put o.dst v') w') : o.wp P a w K Q := by
  obtain ⟨i, hi, hz⟩ := Option.map_eq_some_iff.1 hi
  simp only [Prod.mk.injEq] at hz
  by_cases hp : p = none
  · subst hp
    have hnil : news = [] := hv.resolve_right (fun ⟨_, _, h, _⟩ => by cases h)
    subst hnil
    have hm : m = 0 := by
      have : m * size = 0 := hl.symm
      rcases Nat.mul_eq_zero.1 this with h | h
      · exact h
      · omega
    subst hm
    have hr := run_append_none (P := P) w base t o.type e i size ht hi v n xs hown (by omega) c
    unfold Oper.wp execOp
    simp only [ho, resolve, invoke, builtin, Sem.run_bind, Sem.run_pure, Result.andThen_ok, List.map_toArray, List.map_cons, List.map_nil, hs, hx, hr]
    exact h v w (by simpa using hown) (Below.refl _ _)
  · obtain ⟨ad, rfl⟩ := Option.ne_none_iff_exists'.1 hp
    refine wp_append_own w s x t ho base e i z size bytes ht hi hz.1 hz.2.1 hz.2.2 hzs hsz v n xs hs hown ad m c news hx hl ?_ h1 (by unfold maxLen; omega) ?_ hbase ?_
    · intro j u hj
      rcases hv with rfl | ⟨b, off, hb, hlt, hc⟩
      · cases hj
      · cases hb
        rw [add_plain]
        exact hc j u hj
    · have : (n + m) * bytes ≤ 1000000 * 64 := Nat.mul_le_mul (by omega) hby
      omega
    · intro v' w' hown' hg _
      exact h v' w' hown' ((Below.refl base w).grown hg hbase (fun r hr => (hown.lt r hr).1))
theorem wpList_cat {ops : Array Oper} {rest : List Oper} {o : Oper} {a : Act} {w : World} {Q : Exit → Act → World → Prop} (hgd : o.guard = none) (s x : Operand) (t : TypeId)
    (ho : o.op = .call { callee := .builtin .append, args := #[s, x], argTypes := #[t, t] })
    (base : Nat) (e : TypeId) (z : Value) (size bytes : Nat) (ht : P.underlying t = some (.slice e)) (hi : (P.info? e).map (fun i => (i.zero, i.size, i.bytes)) = some (some z, size, bytes))
    (hzs : z.cells.size = size) (hsz : 0 < size) (hby : bytes ≤ 64)
    (v : Value) (n : Nat) (xs : List Value) (hs : a.eval s = v) (hown : w.ownsRow base e size v n xs)
    (p : Option Addr) (m c : Nat) (news : List Value) (hx : a.eval x = .slice p m c) (hv : Vw w p news) (hl : news.length = m * size) (h1 : ∀ u ∈ news, u.oneCell' = true)
    (hn : n + m < 1000000) (hbase : base ≤ w.heap.size)
    (h : ∀ v' w', w'.ownsRow base e size v' (n + m) (xs ++ news) → Below base w w' → wpList P ops Q rest (a.put o.dst v') w') : wpList P ops Q (o :: rest) a w :=
  wpList_plain hgd fun _ hK => wp_cat s x t ho base e z size bytes ht hi hzs hsz hby v n xs hs hown p m c news hx hv hl h1 hn hbase fun v' w' h2 h3 => hK _ _ (h v' w' h2 h3)
/-! Steps of a region that draws its order. -/
theorem wpOp_wpX {ops : Array Oper} {Q : Exit → Act → World → Prop} {i : Nat} {o : Oper} {a : Act} {w : World} {K : Act → World → Prop} (hi : ops[i]? = some o) (hw : Region.wanted o (yielded ops a.tmps) = true) (h : o.wp P a w K Q) : Go.wpOp P ops Q i K a w := by
  unfold Go.wpOp
  simp only [hi, hw, if_true]
  exact .inl h
theorem wpOp_callX {ops : Array Oper} {Q : Exit → Act → World → Prop} {i : Nat} {o : Oper} {a : Act} {w : World} {K : Act → World → Prop} (f : FuncId) (args : Array Value) (hi : ops[i]? = some o) (hw : Region.wanted o (yielded ops a.tmps) = true) (hr : (execOp a.eval o).run P w = .ok (.enter f args) w)
    (h : Calls P f args w fun e w'' => ∃ v, e = .returned v ∧ K (a.put o.dst v) w'') : Go.wpOp P ops Q i K a w := by
  refine wpOp_wpX hi hw ?_
  unfold Oper.wp
  rw [hr]
  simp only [Oper.upon]
  exact h.mono fun e w'' ⟨v, he, hk⟩ => by subst he; exact hk
/-- A literal of one element. -/
theorem own_one (w : World) (e : TypeId) (cs : Array Value) (size : Nat) (hs : cs.size = size) : (w.alloc (.cells cs e)).ownsRow w.heap.size e size (.slice (some ⟨w.heap.size, 0, none⟩) 1 1) 1 cs.toList :=
  World.ownsRow_lit w cs 1 (Nat.le_refl _) (by unfold maxLen; omega) (by omega)
end Go.Proofs.YtfjdalepaacmgaaGreat
