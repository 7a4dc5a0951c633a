/-
  Plain: what the reference's steps leave, as words (layer 16).
-/
import Derived.Test.YtjeolfcefeglpaaPcY
import Derived.Test.YtjeolfcefeglpaaPcF
set_option maxRecDepth 20000
namespace Go.Proofs.Ytjeolfcefeglpaa
open Wd
namespace Pc
/-- A word with one bit laid. -/
def stb (x : Int) (i : Nat) (q : Bool) : Int := word fun j => if i = j then q else tb x j
theorem tb_stb {x : Int} {i : Nat} {q : Bool} {j : Nat} (hj : j < 32) : tb (stb x i q) j = if i = j then q else tb x j := by
  rw [stb, tb_word, show decide (j < 64) = true by simp; omega, Bool.true_and]
theorem tb_oneN {s : Nat} (h1 : 1 ≤ s) (h2 : s < 32) (j : Nat) : tb (one (s : Int)) j = decide (s = j) := by
  rw [tb_one, show decide (1 ≤ (s : Int) ∧ (s : Int) < 32) = true by simp; omega, Bool.and_true]
  apply decide_eq_decide.2
  omega
section
variable {x y z u : Int} {s j : Nat}
theorem stb_no (hx : St x) (h1 : 1 ≤ s) (h2 : s < 32) (hj : j < 32) : tb (stb x s false) j = tb (Go.bits .andNot .u64 x (one (s : Int))) j := by
  rw [tb_stb hj, tb_andNot hx.lo hx.hi (one_range _).1 (one_range _).2, tb_oneN h1 h2]
  by_cases e : s = j
  · simp [e]
  · simp [e]
theorem stb_or (hx : St x) (h1 : 1 ≤ s) (h2 : s < 32) (hj : j < 32) : tb (stb x s true) j = tb (Go.bits .or .u64 x (one (s : Int))) j := by
  rw [tb_stb hj, tb_or hx.lo hx.hi (one_range _).1 (one_range _).2, tb_oneN h1 h2]
  by_cases e : s = j
  · simp [e]
  · simp [e]
theorem stb_noor (hx : St x) (h1 : 1 ≤ s) (h2 : s < 32) (hj : j < 32) : tb (stb x s true) j = tb (Go.bits .or .u64 (Go.bits .andNot .u64 x (one (s : Int))) (one (s : Int))) j := by
  have ha := hx.andNot (one_range (s : Int)).1 (one_range _).2
  rw [tb_stb hj, tb_or ha.lo ha.hi (one_range _).1 (one_range _).2, tb_andNot hx.lo hx.hi (one_range _).1 (one_range _).2, tb_oneN h1 h2]
  by_cases e : s = j
  · simp [e]
  · simp [e]
theorem tb_orno (hx : St x) (hy : St y) (h1 : 1 ≤ s) (h2 : s < 32) : tb (Go.bits .or .u64 x (Go.bits .andNot .u64 (one (s : Int)) y)) j = (tb x j || (decide (s = j) && !tb y j)) := by
  have ho := St.one (s : Int)
  have ha := ho.andNot hy.lo hy.hi
  rw [tb_or hx.lo hx.hi ha.lo ha.hi, tb_andNot ho.lo ho.hi hy.lo hy.hi, tb_oneN h1 h2]
theorem stb_orno (hx : St x) (hy : St y) (h1 : 1 ≤ s) (h2 : s < 32) (hs : tb y s = false) (hj : j < 32) : tb (stb x s true) j = tb (Go.bits .or .u64 x (Go.bits .andNot .u64 (one (s : Int)) y)) j := by
  rw [tb_stb hj, tb_orno hx hy h1 h2]
  by_cases e : s = j
  · rw [← e]; simp [hs]
  · simp [e]
theorem same_orno (hx : St x) (hy : St y) (h1 : 1 ≤ s) (h2 : s < 32) (hs : tb y s = true) : tb x j = tb (Go.bits .or .u64 x (Go.bits .andNot .u64 (one (s : Int)) y)) j := by
  rw [tb_orno hx hy h1 h2]
  by_cases e : s = j
  · rw [← e]; simp [hs]
  · simp [e]
end
section
variable {n : Nat} {ws : List Int}
theorem tri_id (hl : ws.length = 67) : tri ws (ws.getD 0 0) (ws.getD 1 0) (ws.getD 2 0) = ws := by
  unfold tri
  rw [set0 (by omega), set1 (by omega), set2 (by omega)]
theorem tri_two (hl : ws.length = 67) (y : Int) : ws.set 2 y = tri ws (ws.getD 0 0) (ws.getD 1 0) y := by
  unfold tri
  rw [set0 (by omega), set1 (by omega)]
theorem tri_01 (hl : ws.length = 67) (a b : Int) : (ws.set 0 a).set 1 b = tri ws a b (ws.getD 2 0) := by
  unfold tri
  have e : ((ws.set 0 a).set 1 b).getD 2 0 = ws.getD 2 0 := by rw [get_set (by simp; omega), if_neg (by omega), get_set (by omega), if_neg (by omega)]
  have := set2 (ws := (ws.set 0 a).set 1 b) (by simp; omega)
  rw [e] at this
  exact this.symm
theorem tb_endedN (h : Ok n ws) {c : Nat} (hc : c < 16) {s : Nat} (h1 : 1 ≤ s) (h2 : s < 32) (j : Nat) : tb (ended ws c (s : Int)) j = (decide (s = j) && tb (ws.getD (35 + c) 0) s && tb (ws.getD 2 0) s) := by
  rw [tb_ended h hc, tb_oneN h1 h2]
  by_cases e : s = j
  · rw [e]
  · simp [e]
end
end Pc
theorem x16_bits {n : Nat} {vs us : List Int} (h0 : ∀ j, j < 32 → tb (vs.getD 0 0) j = tb (us.getD 0 0) j) (h1 : ∀ j, j < 32 → tb (vs.getD 1 0) j = tb (us.getD 1 0) j) (h2 : ∀ j, j < 32 → tb (vs.getD 2 0) j = tb (us.getD 2 0) j)
    (hp : ∀ i, i < 32 → vs.getD (3 + i) 0 = us.getD (3 + i) 0) (ho : ∀ c, c < 16 → ∀ j, j < 32 → tb (vs.getD (35 + c) 0) j = tb (us.getD (35 + c) 0) j) (hl : ∀ c, c < 16 → vs.getD (51 + c) 0 = us.getD (51 + c) 0) : x16V n vs = x16V n us := by
  unfold x16V
  congr 1
  refine List.map_congr_left fun j hj => ?_
  have hj := List.mem_range.1 hj
  exact xc_same hj (fun _ _ => hp _ (by omega)) (fun _ _ => h0 _ (by omega)) (fun _ _ => h1 _ (by omega)) (fun _ _ => h2 _ (by omega)) (fun _ _ => ho _ (by omega) _ (by omega)) (fun _ => hl _ (by omega))
theorem x16_tri {n : Nat} {ws : List Int} (hl : ws.length = 67) {a b c a' b' c' : Int} (ha : ∀ j, j < 32 → tb a j = tb a' j) (hb : ∀ j, j < 32 → tb b j = tb b' j) (hc : ∀ j, j < 32 → tb c j = tb c' j) : x16V n (Pc.tri ws a b c) = x16V n (Pc.tri ws a' b' c') := by
  have g := Pc.tri_get hl a b c
  have g' := Pc.tri_get hl a' b' c'
  refine x16_bits (fun j hj => ?_) (fun j hj => ?_) (fun j hj => ?_) (fun i hi => ?_) (fun c hc j hj => ?_) (fun c hc => ?_)
  · rw [g, g', if_pos rfl, if_pos rfl]; exact ha j hj
  · rw [g, g', if_neg (by omega), if_pos rfl, if_neg (by omega), if_pos rfl]; exact hb j hj
  · rw [g, g', if_neg (by omega), if_neg (by omega), if_pos rfl, if_neg (by omega), if_neg (by omega), if_pos rfl]; exact hc j hj
  · rw [g, g', if_neg (by omega), if_neg (by omega), if_neg (by omega), if_neg (by omega), if_neg (by omega), if_neg (by omega)]
  · rw [g, g', if_neg (by omega), if_neg (by omega), if_neg (by omega), if_neg (by omega), if_neg (by omega), if_neg (by omega)]
  · rw [g, g', if_neg (by omega), if_neg (by omega), if_neg (by omega), if_neg (by omega), if_neg (by omega), if_neg (by omega)]
section
variable {n : Nat} {ws : List Int}
open Pc
theorem x_claim (h : Ok n ws) {c m : Nat} (hm : bst ws c 0 = m) (h1 : 1 ≤ m) (h2 : m < 32) : x16V n ((ws.set 1 (stb (ws.getD 1 0) m false)).set 2 (stb (ws.getD 2 0) m true)) = x16V n (claimP ws c) := by
  rw [tri_claim (by rw [h.len]; omega), claimP, hm]
  exact x16_tri h.len (fun _ _ => rfl) (fun j hj => stb_no h.wait h1 h2 hj) (fun j hj => stb_or h.serv h1 h2 hj)
theorem x_claim0 (h : Ok n ws) {c : Nat} (hm : bst ws c 0 = 0) : claimP ws c = ws := by
  rw [claimP, hm]
  have e1 : Go.bits .andNot .u64 (ws.getD 1 0) (one ((0 : Nat) : Int)) = ws.getD 1 0 := by
    have hs := h.wait.andNot (one_range ((0 : Nat) : Int)).1 (one_range _).2
    refine ext hs.lo hs.hi h.wait.lo h.wait.hi fun i _ => ?_
    rw [tb_andNot h.wait.lo h.wait.hi (one_range _).1 (one_range _).2, tb_one]
    simp
  have e2 : Go.bits .or .u64 (ws.getD 2 0) (one ((0 : Nat) : Int)) = ws.getD 2 0 := by
    have hs := h.serv.or (St.one ((0 : Nat) : Int))
    refine ext hs.lo hs.hi h.serv.lo h.serv.hi fun i _ => ?_
    rw [tb_or h.serv.lo h.serv.hi (one_range _).1 (one_range _).2, tb_one]
    simp
  rw [e1, e2, tri_id h.len]
theorem x_end (h : Ok n ws) {c : Nat} (hc : c < 16) {s : Nat} (h1 : 1 ≤ s) (h2 : s < 32) (ho : tb (ws.getD (35 + c) 0) s = true) (hs : tb (ws.getD 2 0) s = true) (hw : tb (ws.getD 0 0) s = true) :
    x16V n ((ws.set 2 (stb (ws.getD 2 0) s false)).set 1 (stb (ws.getD 1 0) s true)) = x16V n (endP ws c (s : Int)) := by
  have hE := ended_st h hc (s : Int)
  have hEw := hE.and h.wire.lo h.wire.hi
  rw [tri_end (by rw [h.len]; omega), endP]
  refine x16_tri h.len (fun _ _ => rfl) (fun j hj => ?_) (fun j hj => ?_)
  · rw [tb_stb hj, tb_or h.wait.lo h.wait.hi hEw.lo hEw.hi, tb_and hE.lo hE.hi h.wire.lo h.wire.hi, tb_endedN h hc h1 h2, ho, hs]
    by_cases e : s = j
    · rw [← e, hw]; simp
    · simp [e]
  · rw [tb_stb hj, tb_andNot h.serv.lo h.serv.hi hE.lo hE.hi, tb_endedN h hc h1 h2, ho, hs]
    by_cases e : s = j
    · simp [e]
    · simp [e]
theorem x_endOff (h : Ok n ws) {c : Nat} (hc : c < 16) {s : Nat} (h1 : 1 ≤ s) (h2 : s < 32) (ho : tb (ws.getD (35 + c) 0) s = true) (hs : tb (ws.getD 2 0) s = true) (hw : tb (ws.getD 0 0) s = false) :
    x16V n (ws.set 2 (stb (ws.getD 2 0) s false)) = x16V n (endP ws c (s : Int)) := by
  have hE := ended_st h hc (s : Int)
  have hEw := hE.and h.wire.lo h.wire.hi
  rw [tri_two h.len, endP]
  refine x16_tri h.len (fun _ _ => rfl) (fun j hj => ?_) (fun j hj => ?_)
  · rw [tb_or h.wait.lo h.wait.hi hEw.lo hEw.hi, tb_and hE.lo hE.hi h.wire.lo h.wire.hi, tb_endedN h hc h1 h2, ho, hs]
    by_cases e : s = j
    · rw [← e, hw]; simp
    · simp [e]
  · rw [tb_stb hj, tb_andNot h.serv.lo h.serv.hi hE.lo hE.hi, tb_endedN h hc h1 h2, ho, hs]
    by_cases e : s = j
    · simp [e]
    · simp [e]
theorem x_endNo (h : Ok n ws) {c : Nat} (hc : c < 16) {s : Int} (hno : ¬ (1 ≤ s ∧ s < 32) ∨ (tb (ws.getD (35 + c) 0) s.toNat = false ∨ tb (ws.getD 2 0) s.toNat = false)) : endP ws c s = ws := by
  have hE := ended_st h hc s
  have e0 : ended ws c s = 0 := by
    refine ext hE.lo hE.hi (by omega) (by omega) fun i _ => ?_
    rw [tb_ended h hc, tb_zero, tb_one]
    by_cases e : (i : Int) = s
    · have ei : s.toNat = i := by omega
      rw [ei] at hno
      rcases hno with hno | hno | hno
      · simp [hno]
      · rw [hno]; simp
      · rw [hno]; simp
    · simp [e]
  have z1 : Go.bits .or .u64 (ws.getD 1 0) (Go.bits .and .u64 0 (ws.getD 0 0)) = ws.getD 1 0 := by
    have ha := St.zero.and h.wire.lo h.wire.hi
    have hs := h.wait.or ha
    refine ext hs.lo hs.hi h.wait.lo h.wait.hi fun i _ => ?_
    rw [tb_or h.wait.lo h.wait.hi ha.lo ha.hi, tb_and (by omega) (by omega) h.wire.lo h.wire.hi, tb_zero]
    simp
  have z2 : Go.bits .andNot .u64 (ws.getD 2 0) 0 = ws.getD 2 0 := by
    have hs := h.serv.andNot (y := 0) (by omega) (by omega)
    refine ext hs.lo hs.hi h.serv.lo h.serv.hi fun i _ => ?_
    rw [tb_andNot h.serv.lo h.serv.hi (by omega) (by omega), tb_zero]
    simp
  rw [endP, e0, z1, z2, tri_id h.len]
theorem x_wireOff (h : Ok n ws) {s : Nat} (h1 : 1 ≤ s) (h2 : s < 32) : x16V n (ws.set 0 (stb (ws.getD 0 0) s false)) = x16V n (wireP ws (s : Int) false) := by
  rw [tri_off h.len, wireP, if_neg (by simp)]
  exact x16_tri h.len (fun j hj => stb_no h.wire h1 h2 hj) (fun _ _ => rfl) (fun _ _ => rfl)
theorem x_wireOn (h : Ok n ws) {s : Nat} (h1 : 1 ≤ s) (h2 : s < 32) (hs : tb (ws.getD 2 0) s = false) : x16V n ((ws.set 0 (stb (ws.getD 0 0) s true)).set 1 (stb (ws.getD 1 0) s true)) = x16V n (wireP ws (s : Int) true) := by
  rw [tri_01 h.len, wireP, if_pos rfl]
  exact x16_tri h.len (fun j hj => stb_noor h.wire h1 h2 hj) (fun j hj => stb_orno h.wait h.serv h1 h2 hs hj) (fun _ _ => rfl)
theorem x_wireHeld (h : Ok n ws) {s : Nat} (h1 : 1 ≤ s) (h2 : s < 32) (hs : tb (ws.getD 2 0) s = true) : x16V n (ws.set 0 (stb (ws.getD 0 0) s true)) = x16V n (wireP ws (s : Int) true) := by
  rw [tri_off h.len, wireP, if_pos rfl]
  exact x16_tri h.len (fun j hj => stb_noor h.wire h1 h2 hj) (fun j _ => same_orno h.wait h.serv h1 h2 hs) (fun _ _ => rfl)
/-- What is enabled while the reference lays it, source by source. -/
def onY (old v : Int) (k : Nat) : Int := word fun j => if 1 ≤ j ∧ j < k then tb v j else tb old j
theorem tb_onY {old v : Int} {k j : Nat} (hj : j < 32) : tb (onY old v k) j = if 1 ≤ j ∧ j < k then tb v j else tb old j := by
  rw [onY, tb_word, show decide (j < 64) = true by simp; omega, Bool.true_and]
theorem onY_next {old v : Int} {k : Nat} (h1 : 1 ≤ k) : ∀ j, j < 32 → tb (onY old v (k + 1)) j = if k = j then tb v k else tb (onY old v k) j := fun j hj => by
  rw [tb_onY hj, tb_onY hj]
  by_cases e : k = j
  · rw [if_pos e, if_pos (by omega), e]
  · rw [if_neg e]
    by_cases h : 1 ≤ j ∧ j < k
    · rw [if_pos h, if_pos (by omega)]
    · rw [if_neg h, if_neg (by omega)]
theorem x_on1 (h : Ok n ws) {c : Nat} (hc : c < 16) (v : Int) : x16V n ws = x16V n (ws.set (35 + c) (onY (ws.getD (35 + c) 0) v 1)) := by
  have g := get_set (l := ws) (i := 35 + c) (by rw [h.len]; omega) (onY (ws.getD (35 + c) 0) v 1)
  refine x16_bits (fun j hj => ?_) (fun j hj => ?_) (fun j hj => ?_) (fun i hi => ?_) (fun d hd j hj => ?_) (fun d hd => ?_)
  · rw [g, if_neg (by omega)]
  · rw [g, if_neg (by omega)]
  · rw [g, if_neg (by omega)]
  · rw [g, if_neg (by omega)]
  · rw [g]
    by_cases e : 35 + c = 35 + d
    · rw [if_pos e, tb_onY hj, if_neg (by omega), e]
    · rw [if_neg e]
  · rw [g, if_neg (by omega)]
theorem x_on32 (h : Ok n ws) {c : Nat} (hc : c < 16) {v : Int} (v0 : 0 ≤ v) (v1 : v < 18446744073709551616) : x16V n (ws.set (35 + c) (onY (ws.getD (35 + c) 0) v 32)) = x16V n (ws.set (35 + c) (Go.bits .and .u64 v (onesS 1 31))) := by
  have g := get_set (l := ws) (i := 35 + c) (by rw [h.len]; omega) (onY (ws.getD (35 + c) 0) v 32)
  have g' := get_set (l := ws) (i := 35 + c) (by rw [h.len]; omega) (Go.bits .and .u64 v (onesS 1 31))
  refine x16_bits (fun j hj => ?_) (fun j hj => ?_) (fun j hj => ?_) (fun i hi => ?_) (fun d hd j hj => ?_) (fun d hd => ?_)
  · rw [g, g', if_neg (by omega), if_neg (by omega)]
  · rw [g, g', if_neg (by omega), if_neg (by omega)]
  · rw [g, g', if_neg (by omega), if_neg (by omega)]
  · rw [g, g', if_neg (by omega), if_neg (by omega)]
  · rw [g, g']
    by_cases e : 35 + c = 35 + d
    · rw [if_pos e, if_pos e, tb_onY hj, tb_and v0 v1 (onesS_range _ _).1 (onesS_range _ _).2]
      have ho : tb (onesS 1 31) j = decide (1 ≤ j) := by
        unfold onesS
        rw [tb_word]
        by_cases h1 : 1 ≤ j
        · simp [inP, h1]; omega
        · simp [inP, h1]; omega
      rw [ho]
      by_cases h1 : 1 ≤ j
      · rw [if_pos ⟨h1, hj⟩]; simp [h1]
      · rw [if_neg (by omega), show j = 0 by omega]
        have := (h.en c hc).at0
        rw [this]; simp
    · rw [if_neg e, if_neg e]
  · rw [g, g', if_neg (by omega), if_neg (by omega)]
theorem set_set {l : List Int} (i : Nat) (x y : Int) : (l.set i x).set i y = l.set i y := by simp
/-- What v halved is, bit by bit. -/
theorem half_bit {v : Int} (v0 : 0 ≤ v) (k : Nat) : (v / 2 ^ k % 2 == 1) = tb v k := by
  have h3 := tb_div v0 k 0
  rw [Nat.zero_add] at h3
  rw [← h3, tb, Nat.testBit_zero]
  have h2 : 0 ≤ v / 2 ^ k := Int.ediv_nonneg v0 (Int.pow_nonneg (by omega))
  have h4 : ((v / 2 ^ k).toNat : Int) = v / 2 ^ k := Int.toNat_of_nonneg h2
  rw [show (v / 2 ^ k % 2 == 1) = decide (v / 2 ^ k % 2 = 1) from rfl]
  apply decide_eq_decide.2
  omega
end
end Go.Proofs.Ytjeolfcefeglpaa
