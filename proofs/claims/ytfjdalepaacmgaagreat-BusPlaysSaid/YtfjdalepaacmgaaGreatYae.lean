/-
  Plain numbers and lists, no program: the words of a controller, and what is read, written, claimed, completed and wired (layer 16). Contracts of package bits (layer 1) but Gather: each call returns what Spec says, and leaves the world alone. A bus in memory: the port's pointer, the number of harts, and within the same block a clint and a plic.
-/
import Derived.Test.YtfjdalepaacmgaaGreatYad
import Derived.Test.YtfjdalepaacmgaaGreatRows
import Derived.WalkKit
import Derived.ProofKit
import Derived.OpenShut
import Derived.Lib.Hide
namespace Go.Proofs.YtfjdalepaacmgaaGreat.Pc
open Wd

theorem get_set {l : List Int} {i : Nat} (h : i < l.length) (x : Int) (j : Nat) : (l.set i x).getD j 0 = if i = j then x else l.getD j 0 := by
  by_cases e : i = j
  · subst e
    rw [List.getD, List.getElem?_set, if_pos rfl, if_pos h, if_pos rfl]; rfl
  · rw [List.getD, List.getElem?_set, if_neg e, if_neg e]; rfl
/-- A set of sources. -/
structure St (x : Int) : Prop where
  lo : 0 ≤ x
  hi : x < 18446744073709551616
  bits : ∀ i, tb x i = true → 1 ≤ i ∧ i < 32
theorem St.zero : St 0 := ⟨by omega, by omega, fun i h => by rw [tb_zero] at h; cases h⟩
theorem St.and {x y : Int} (hx : St x) (hy0 : 0 ≤ y) (hy : y < 18446744073709551616) : St (Go.bits .and .u64 x y) :=
  ⟨(and_range hx.lo hx.hi hy0 hy).1, (and_range hx.lo hx.hi hy0 hy).2, fun i h => by rw [tb_and hx.lo hx.hi hy0 hy] at h; simp at h; exact hx.bits i h.1⟩
theorem St.andR {x y : Int} (hx : St x) (hy0 : 0 ≤ y) (hy : y < 18446744073709551616) : St (Go.bits .and .u64 y x) :=
  ⟨(and_range hy0 hy hx.lo hx.hi).1, (and_range hy0 hy hx.lo hx.hi).2, fun i h => by rw [tb_and hy0 hy hx.lo hx.hi] at h; simp at h; exact hx.bits i h.2⟩
theorem St.or {x y : Int} (hx : St x) (hy : St y) : St (Go.bits .or .u64 x y) :=
  ⟨(or_range hx.lo hx.hi hy.lo hy.hi).1, (or_range hx.lo hx.hi hy.lo hy.hi).2, fun i h => by
    rw [tb_or hx.lo hx.hi hy.lo hy.hi] at h; simp at h
    rcases h with h | h
    · exact hx.bits i h
    · exact hy.bits i h⟩
theorem St.andNot {x y : Int} (hx : St x) (hy0 : 0 ≤ y) (hy : y < 18446744073709551616) : St (Go.bits .andNot .u64 x y) :=
  ⟨(andNot_range hx.lo hx.hi hy0 hy).1, (andNot_range hx.lo hx.hi hy0 hy).2, fun i h => by rw [tb_andNot hx.lo hx.hi hy0 hy] at h; simp at h; exact hx.bits i h.1⟩
theorem St.one (s : Int) : St (one s) := ⟨(one_range s).1, (one_range s).2, fun i h => by rw [tb_one] at h; simp at h; omega⟩
theorem St.ones : St (onesS 1 31) := ⟨(onesS_range _ _).1, (onesS_range _ _).2, fun i h => by unfold onesS at h; rw [tb_word] at h; simp [inP] at h; omega⟩
theorem tb_hi {x : Int} (h0 : 0 ≤ x) {k : Nat} (h : ∀ i, k ≤ i → tb x i = false) : x < 2 ^ k := by
  have : x.toNat < 2 ^ k := by
    apply Nat.lt_pow_two_of_testBit
    intro i hi
    exact h i hi
  have h2 : (x.toNat : Int) < ((2 ^ k : Nat) : Int) := by exact_mod_cast this
  rw [Int.toNat_of_nonneg h0] at h2
  simpa using h2
theorem St.lt32 {x : Int} (h : St x) : x < 4294967296 := by
  have := tb_hi h.lo (k := 32) (fun i hi => by
    cases e : tb x i with
    | false => rfl
    | true => have := h.bits i e; omega)
  simpa using this
theorem St.at0 {x : Int} (h : St x) : tb x 0 = false := by
  cases e : tb x 0 with
  | false => rfl
  | true => have := h.bits 0 e; omega
/-- The words of a controller: 0 the wires, 1 who waits, 2 who is served, from 3 on the priorities, from 35 on what is enabled, from 51 on the thresholds. -/
structure Ok (n : Nat) (ws : List Int) : Prop where
  n8 : n ≤ 8
  len : ws.length = 67
  wire : St (ws.getD 0 0)
  wait : St (ws.getD 1 0)
  serv : St (ws.getD 2 0)
  pri : ∀ i, i < 32 → 0 ≤ ws.getD (3 + i) 0 ∧ ws.getD (3 + i) 0 < 8
  en : ∀ c, c < 16 → St (ws.getD (35 + c) 0)
  thr : ∀ c, c < 16 → 0 ≤ ws.getD (51 + c) 0 ∧ ws.getD (51 + c) 0 < 8
  apart : ∀ i, tb (ws.getD 1 0) i = true → tb (ws.getD 2 0) i = false
  cover : ∀ i, tb (ws.getD 0 0) i = true → (tb (ws.getD 1 0) i || tb (ws.getD 2 0) i) = true
def tri (ws : List Int) (a b c : Int) : List Int := ((ws.set 0 a).set 1 b).set 2 c
section
variable {n : Nat} {ws : List Int}
theorem tri_get (h : ws.length = 67) (a b c : Int) (j : Nat) : (tri ws a b c).getD j 0 = if j = 0 then a else if j = 1 then b else if j = 2 then c else ws.getD j 0 := by
  unfold tri
  rw [get_set (by simp; omega), get_set (by simp; omega), get_set (by omega)]
  repeat' split
  all_goals first | rfl | (subst_vars; contradiction) | (exfalso; omega)
theorem tri_len (a b c : Int) : (tri ws a b c).length = ws.length := by simp [tri]
theorem Ok.tri (h : Ok n ws) {a b c : Int} (ha : St a) (hb : St b) (hc : St c) (hap : ∀ i, tb b i = true → tb c i = false) (hcv : ∀ i, tb a i = true → (tb b i || tb c i) = true) : Ok n (tri ws a b c) := by
  have g := tri_get h.len a b c
  refine ⟨h.n8, by rw [tri_len]; exact h.len, ?_, ?_, ?_, fun i hi => ?_, fun i hi => ?_, fun i hi => ?_, ?_, ?_⟩
  · rw [g]; exact ha
  · rw [g]; exact hb
  · rw [g]; exact hc
  · rw [g, if_neg (by omega), if_neg (by omega), if_neg (by omega)]; exact h.pri i hi
  · rw [g, if_neg (by omega), if_neg (by omega), if_neg (by omega)]; exact h.en i hi
  · rw [g, if_neg (by omega), if_neg (by omega), if_neg (by omega)]; exact h.thr i hi
  · rw [g, g]; exact hap
  · rw [g, g, g]; exact hcv
theorem Ok.put (h : Ok n ws) {k : Nat} (hk3 : 3 ≤ k) {v : Int} (hp : k < 35 → 0 ≤ v ∧ v < 8) (he : 35 ≤ k → k < 51 → St v) (ht : 51 ≤ k → 0 ≤ v ∧ v < 8) (hk : k < 67) : Ok n (ws.set k v) := by
  have g := get_set (l := ws) (i := k) (by rw [h.len]; exact hk) v
  refine ⟨h.n8, by simp [h.len], ?_, ?_, ?_, fun i hi => ?_, fun i hi => ?_, fun i hi => ?_, ?_, ?_⟩
  · rw [g, if_neg (by omega)]; exact h.wire
  · rw [g, if_neg (by omega)]; exact h.wait
  · rw [g, if_neg (by omega)]; exact h.serv
  · rw [g]; split
    · exact hp (by omega)
    · exact h.pri i hi
  · rw [g]; split
    · exact he (by omega) (by omega)
    · exact h.en i hi
  · rw [g]; split
    · exact ht (by omega)
    · exact h.thr i hi
  · rw [g, g, if_neg (by omega), if_neg (by omega)]; exact h.apart
  · rw [g, g, g, if_neg (by omega), if_neg (by omega), if_neg (by omega)]; exact h.cover
/-- The best source of a context above a level. -/
def bst (ws : List Int) (c : Nat) (lv : Int) : Nat := best (Go.bits .and .u64 (ws.getD 1 0) (ws.getD (35 + c) 0)) (fun i => ws.getD (3 + i) 0) lv
def claimP (ws : List Int) (c : Nat) : List Int :=
  tri ws (ws.getD 0 0) (Go.bits .andNot .u64 (ws.getD 1 0) (one (bst ws c 0))) (Go.bits .or .u64 (ws.getD 2 0) (one (bst ws c 0)))
def ended (ws : List Int) (c : Nat) (s : Int) : Int := Go.bits .and .u64 (Go.bits .and .u64 (one s) (ws.getD (35 + c) 0)) (ws.getD 2 0)
def endP (ws : List Int) (c : Nat) (s : Int) : List Int :=
  tri ws (ws.getD 0 0) (Go.bits .or .u64 (ws.getD 1 0) (Go.bits .and .u64 (ended ws c s) (ws.getD 0 0))) (Go.bits .andNot .u64 (ws.getD 2 0) (ended ws c s))
def wireP (ws : List Int) (s : Int) (on : Bool) : List Int :=
  if on then tri ws (Go.bits .or .u64 (Go.bits .andNot .u64 (ws.getD 0 0) (one s)) (one s)) (Go.bits .or .u64 (ws.getD 1 0) (Go.bits .andNot .u64 (one s) (ws.getD 2 0))) (ws.getD 2 0)
  else tri ws (Go.bits .andNot .u64 (ws.getD 0 0) (one s)) (ws.getD 1 0) (ws.getD 2 0)
theorem bst_of (h : Ok n ws) {c : Nat} (hc : c < 16) (lv : Int) : bst ws c lv = 0 ∨ (1 ≤ bst ws c lv ∧ bst ws c lv < 32 ∧ tb (ws.getD 1 0) (bst ws c lv) = true ∧ tb (ws.getD 2 0) (bst ws c lv) = false ∧ tb (ws.getD (35 + c) 0) (bst ws c lv) = true) := by
  have he := h.en c hc
  rcases best_in (Go.bits .and .u64 (ws.getD 1 0) (ws.getD (35 + c) 0)) (fun i => ws.getD (3 + i) 0) lv with hb | hb
  · exact .inl hb
  · have h2 := hb.2
    rw [tb_and h.wait.lo h.wait.hi he.lo he.hi] at h2
    simp only [Bool.and_eq_true] at h2
    exact .inr ⟨(h.wait.bits _ h2.1).1, hb.1, h2.1, h.apart _ h2.1, h2.2⟩
theorem claim_ok (h : Ok n ws) {c : Nat} (hc : c < 16) : Ok n (claimP ws c) := by
  have hb := bst_of h hc 0
  have ho := St.one (bst ws c 0)
  refine h.tri h.wire (h.wait.andNot ho.lo ho.hi) (h.serv.or ho) (fun i hi => ?_) (fun i hi => ?_)
  · rw [tb_andNot h.wait.lo h.wait.hi ho.lo ho.hi] at hi
    rw [tb_or h.serv.lo h.serv.hi ho.lo ho.hi]
    simp only [Bool.and_eq_true, Bool.not_eq_true'] at hi
    rw [hi.2, h.apart i hi.1]; rfl
  · have := h.cover i hi
    rw [tb_andNot h.wait.lo h.wait.hi ho.lo ho.hi, tb_or h.serv.lo h.serv.hi ho.lo ho.hi]
    revert this
    cases tb (ws.getD 1 0) i <;> cases tb (ws.getD 2 0) i <;> cases tb (one (bst ws c 0)) i <;> simp
theorem ended_st (h : Ok n ws) {c : Nat} (hc : c < 16) (s : Int) : St (ended ws c s) := by
  have he := h.en c hc
  exact ((St.one s).and he.lo he.hi).and h.serv.lo h.serv.hi
theorem tb_ended (h : Ok n ws) {c : Nat} (hc : c < 16) (s : Int) (i : Nat) : tb (ended ws c s) i = (tb (one s) i && tb (ws.getD (35 + c) 0) i && tb (ws.getD 2 0) i) := by
  have he := h.en c hc
  have ho := St.one s
  have h2 := ho.and he.lo he.hi
  rw [ended, tb_and h2.lo h2.hi h.serv.lo h.serv.hi, tb_and ho.lo ho.hi he.lo he.hi]
theorem end_ok (h : Ok n ws) {c : Nat} (hc : c < 16) (s : Int) : Ok n (endP ws c s) := by
  have hE := ended_st h hc s
  have hEw := hE.and h.wire.lo h.wire.hi
  have hT := tb_ended h hc s
  refine h.tri h.wire (h.wait.or hEw) (h.serv.andNot hE.lo hE.hi) (fun i hi => ?_) (fun i hi => ?_)
  · rw [tb_or h.wait.lo h.wait.hi hEw.lo hEw.hi, tb_and hE.lo hE.hi h.wire.lo h.wire.hi] at hi
    rw [tb_andNot h.serv.lo h.serv.hi hE.lo hE.hi]
    have := h.apart i
    revert hi this
    cases tb (ws.getD 1 0) i <;> cases tb (ws.getD 2 0) i <;> cases tb (ended ws c s) i <;> simp
  · have := h.cover i hi
    rw [tb_or h.wait.lo h.wait.hi hEw.lo hEw.hi, tb_and hE.lo hE.hi h.wire.lo h.wire.hi, tb_andNot h.serv.lo h.serv.hi hE.lo hE.hi, hi]
    revert this
    cases tb (ws.getD 1 0) i <;> cases tb (ws.getD 2 0) i <;> cases tb (ended ws c s) i <;> simp
theorem wire_ok (h : Ok n ws) (s : Int) (on : Bool) : Ok n (wireP ws s on) := by
  have ho := St.one s
  have hA := h.wire.andNot ho.lo ho.hi
  unfold wireP
  cases on with
  | true =>
    rw [if_pos rfl]
    have hN := ho.andNot h.serv.lo h.serv.hi
    refine h.tri (hA.or ho) (h.wait.or hN) h.serv (fun i hi => ?_) (fun i hi => ?_)
    · rw [tb_or h.wait.lo h.wait.hi hN.lo hN.hi, tb_andNot ho.lo ho.hi h.serv.lo h.serv.hi] at hi
      have := h.apart i
      revert hi this
      cases tb (ws.getD 1 0) i <;> cases tb (ws.getD 2 0) i <;> simp
    · rw [tb_or hA.lo hA.hi ho.lo ho.hi, tb_andNot h.wire.lo h.wire.hi ho.lo ho.hi] at hi
      rw [tb_or h.wait.lo h.wait.hi hN.lo hN.hi, tb_andNot ho.lo ho.hi h.serv.lo h.serv.hi]
      have := h.cover i
      revert hi this
      cases tb (ws.getD 0 0) i <;> cases tb (ws.getD 1 0) i <;> cases tb (ws.getD 2 0) i <;> cases tb (one s) i <;> simp
  | false =>
    rw [if_neg (by simp)]
    refine h.tri hA h.wait h.serv h.apart (fun i hi => ?_)
    rw [tb_andNot h.wire.lo h.wire.hi ho.lo ho.hi] at hi
    simp only [Bool.and_eq_true] at hi
    exact h.cover i hi.1
/-- What is read at an offset. -/
def readV (n : Nat) (ws : List Int) (off size : Int) : Int :=
  if (at_ n off size).1 = 1 then ws.getD (3 + (at_ n off size).2) 0 else if (at_ n off size).1 = 2 then ws.getD 1 0 else if (at_ n off size).1 = 3 then ws.getD (35 + (at_ n off size).2) 0
  else if (at_ n off size).1 = 4 then ws.getD (51 + (at_ n off size).2) 0 else if (at_ n off size).1 = 5 then bst ws (at_ n off size).2 0 else 0
def readW (n : Nat) (ws : List Int) (off size : Int) : List Int := if (at_ n off size).1 = 5 then claimP ws (at_ n off size).2 else ws
def is (n : Int) (off size : Int) : Bool := decide ((at_ n off size).1 ≠ 0)
def writeW (n : Nat) (ws : List Int) (off size v : Int) : List Int :=
  if (at_ n off size).1 = 1 then ws.set (3 + (at_ n off size).2) (cutS v 0 3) else if (at_ n off size).1 = 3 then ws.set (35 + (at_ n off size).2) (Go.bits .and .u64 v (onesS 1 31))
  else if (at_ n off size).1 = 4 then ws.set (51 + (at_ n off size).2) (cutS v 0 3) else if (at_ n off size).1 = 5 then endP ws (at_ n off size).2 (cutS v 0 32) else ws
def wires (n : Nat) (s : Int) : Bool := decide (0 < n ∧ 1 ≤ s ∧ s < 32)
def wireW (n : Nat) (ws : List Int) (s : Int) (on : Bool) : List Int := if wires n s = true then wireP ws s on else ws
def lineP (n : Nat) (ws : List Int) (c : Int) : Bool := decide (0 ≤ c ∧ c < 2 * (n : Int) ∧ bst ws c.toNat (ws.getD (51 + c.toNat) 0) ≠ 0)
theorem cut3 {v : Int} (h0 : 0 ≤ v) (h1 : v < 18446744073709551616) : cutS v 0 3 = v % 8 := by
  rw [← cut_and, show lowerS v 0 = v from ?_, show maskS 3 = 2 ^ 3 - 1 by decide, and_low h0 h1 3 (by omega)]; rfl
  refine (eq_word h0 h1 fun i hi => ?_).symm
  simp
theorem cut32 {v : Int} (h0 : 0 ≤ v) (h1 : v < 18446744073709551616) : cutS v 0 32 = v % 4294967296 := by
  rw [← cut_and, show lowerS v 0 = v from ?_, show maskS 32 = 2 ^ 32 - 1 by decide, and_low h0 h1 32 (by omega)]; rfl
  refine (eq_word h0 h1 fun i hi => ?_).symm
  simp
theorem read_ok (h : Ok n ws) (off size : Int) : Ok n (readW n ws off size) := by
  unfold readW
  split
  · refine claim_ok h ?_
    have := at_of (n := n) (off := off) (size := size)
    have := h.n8
    omega
  · exact h
theorem write_ok (h : Ok n ws) (off size : Int) {v : Int} (v0 : 0 ≤ v) (v1 : v < 18446744073709551616) : Ok n (writeW n ws off size v) := by
  have ha := at_of (n := n) (off := off) (size := size)
  have hn := h.n8
  unfold writeW
  split
  · refine h.put (by omega) (fun _ => by rw [cut3 v0 v1]; omega) (fun _ _ => by omega) (fun _ => by omega) (by omega)
  · split
    · exact h.put (by omega) (fun _ => by omega) (fun _ _ => St.ones.andR v0 v1) (fun _ => by omega) (by omega)
    · split
      · exact h.put (by omega) (fun _ => by omega) (fun _ _ => by omega) (fun _ => by rw [cut3 v0 v1]; omega) (by omega)
      · split
        · exact end_ok h (by omega) _
        · exact h
theorem wireW_ok (h : Ok n ws) (s : Int) (on : Bool) : Ok n (wireW n ws s on) := by
  unfold wireW
  split
  · exact wire_ok h s on
  · exact h
end
def zeros : List Int := List.replicate 67 0
theorem zeros_get (i : Nat) : zeros.getD i 0 = 0 := by
  rw [List.getD, zeros, List.getElem?_replicate]; split <;> rfl
theorem zeros_ok {n : Nat} (h : n ≤ 8) : Ok n zeros := by
  refine ⟨h, rfl, ?_, ?_, ?_, fun i _ => ?_, fun i _ => ?_, fun i _ => ?_, fun i hi => ?_, fun i hi => ?_⟩
  all_goals try rw [zeros_get]
  all_goals first | exact St.zero | omega | skip
  · rw [zeros_get, tb_zero] at hi; cases hi
  · rw [zeros_get, tb_zero] at hi; cases hi
end Go.Proofs.YtfjdalepaacmgaaGreat.Pc
set_option maxRecDepth 20000
namespace Go.Proofs.YtfjdalepaacmgaaGreat
open Go.ChangeShapes Go.WideShapes Go.ChangeAt Go.RowKit Wd

theorem ret_u {k : IntKind} {a b : Int} (h : a = b) : Ending.returned (.int k a) = .returned (.int k b) := by rw [h]
theorem ret_b {a b : Bool} (h : a = b) : Ending.returned (.bool a) = .returned (.bool b) := by rw [h]

theorem mask_c (s : Int) (w : World) : Calls Tryz.prog 100 #[.int .i64 s] w fun e w' => e = .returned (.int .u64 (maskS s)) ∧ w = w' := by
  by_cases h1 : s < 1
  · go_enter Tryz.func100, Tryz.ntmps100
    go_wp2
    go_ret
    exact ⟨ret_u (mask_low h1), rfl⟩
  · by_cases h2 : 63 < s
    · have H1 := Lib.hid h1
      go_enter Tryz.func100, Tryz.ntmps100
      go_wp2
      go_ret
      exact ⟨ret_u (mask_all h2), rfl⟩
    · go_enter Tryz.func100, Tryz.ntmps100
      go_wp2
      go_ret
      exact ⟨ret_u (mask_mid (by omega) (by omega)), rfl⟩

theorem raise_c (x p : Int) (w : World) (hx0 : 0 ≤ x) (hx : x < 18446744073709551616) (hp0 : -9223372036854775808 ≤ p) (hp : p < 9223372036854775808) :
    Calls Tryz.prog 101 #[.int .u64 x, .int .i64 p] w fun e w' => e = .returned (.int .u64 (raiseS x p)) ∧ w = w' := by
  have H := Lib.hid (And.intro (And.intro hx0 hx) (And.intro hp0 hp))
  clear hx0 hx hp0 hp
  by_cases h1 : p < 0
  · go_enter Tryz.func101, Tryz.ntmps101
    go_wp2
    go_ret
    exact ⟨ret_u (raise_neg H.out.1.1 H.out.1.2 h1 H.out.2.1), rfl⟩
  · go_enter Tryz.func101, Tryz.ntmps101
    go_wp2
    go_ret
    exact ⟨ret_u (raise_pos H.out.1.1 (by omega) H.out.2.2), rfl⟩

theorem lower_c (x p : Int) (w : World) (hx0 : 0 ≤ x) (hx : x < 18446744073709551616) (hp0 : -9223372036854775808 ≤ p) (hp : p < 9223372036854775808) :
    Calls Tryz.prog 102 #[.int .u64 x, .int .i64 p] w fun e w' => e = .returned (.int .u64 (lowerS x p)) ∧ w = w' := by
  have H := Lib.hid (And.intro (And.intro hx0 hx) (And.intro hp0 hp))
  clear hx0 hx hp0 hp
  by_cases h1 : p < 0
  · go_enter Tryz.func102, Tryz.ntmps102
    go_wp2
    go_ret
    exact ⟨ret_u (lower_neg H.out.1.1 h1 H.out.2.1), rfl⟩
  · go_enter Tryz.func102, Tryz.ntmps102
    go_wp2
    go_ret
    exact ⟨ret_u (lower_pos H.out.1.1 H.out.1.2 (by omega) H.out.2.2), rfl⟩

theorem ones_c (p s : Int) (w : World) (hp0 : -9223372036854775808 ≤ p) (hp : p < 9223372036854775808) (hs0 : -9223372036854775808 ≤ s) (hs : s < 9223372036854775808) :
    Calls Tryz.prog 93 #[.int .i64 p, .int .i64 s] w fun e w' => e = .returned (.int .u64 (onesS p s)) ∧ w = w' := by
  by_cases h1 : s < 1
  · go_enter Tryz.func93, Tryz.ntmps93
    go_wp2
    go_ret
    exact ⟨ret_u (ones_low h1), rfl⟩
  · by_cases h2 : p < 0
    · go_enter Tryz.func93, Tryz.ntmps93
      go_wp2_with fail
      refine (mask_c _ _).mono ?_
      rintro e w' ⟨rfl, rfl⟩
      go_wp2_with fail
      go_ret
      exact ⟨ret_u (ones_neg (by omega) h2), rfl⟩
    · go_enter Tryz.func93, Tryz.ntmps93
      go_wp2_with fail
      refine (mask_c _ _).mono ?_
      rintro e w' ⟨rfl, rfl⟩
      have hr := maskS_range s
      go_wp2_with fail
      refine (raise_c _ _ _ hr.1 hr.2 hp0 hp).mono ?_
      rintro e w' ⟨rfl, rfl⟩
      go_wp2_with fail
      go_ret
      exact ⟨ret_u (ones_pos (by omega) (by omega)), rfl⟩

theorem cut_c (x p s : Int) (w : World) (hx0 : 0 ≤ x) (hx : x < 18446744073709551616) (hp0 : -9223372036854775808 ≤ p) (hp : p < 9223372036854775808) :
    Calls Tryz.prog 99 #[.int .u64 x, .int .i64 p, .int .i64 s] w fun e w' => e = .returned (.int .u64 (cutS x p s)) ∧ w = w' := by
  go_enter Tryz.func99, Tryz.ntmps99
  go_wp2_with fail
  refine (lower_c _ _ _ hx0 hx hp0 hp).mono ?_
  rintro e w' ⟨rfl, rfl⟩
  go_wp2_with fail
  refine (mask_c _ _).mono ?_
  rintro e w' ⟨rfl, rfl⟩
  have H := Lib.hid (cut_and x p s)
  go_wp2_with fail
  go_ret
  exact ⟨ret_u H.out, rfl⟩

theorem low_c (x s : Int) (w : World) (hx0 : 0 ≤ x) (hx : x < 18446744073709551616) :
    Calls Tryz.prog 92 #[.int .u64 x, .int .i64 s] w fun e w' => e = .returned (.int .u64 (cutS x 0 s)) ∧ w = w' := by
  go_enter Tryz.func92, Tryz.ntmps92
  go_wp2_with fail
  refine (cut_c _ _ _ _ hx0 hx (by omega) (by omega)).mono ?_
  rintro e w' ⟨rfl, rfl⟩
  go_wp2_with fail
  go_ret
  exact ⟨rfl, rfl⟩

def lessS (a b : Int) : Bool := decide (wrap64 a < wrap64 b)
def sllS (x n : Int) : Int := IntKind.u64.wrap (x * 2 ^ (n % 64).toNat)
def srlS (x n : Int) : Int := x / 2 ^ (n % 64).toNat
def sraS (x n : Int) : Int := IntKind.u64.wrap (wrap64 x / 2 ^ (n % 64).toNat)
def sllwS (x n : Int) : Int := signS (IntKind.u64.wrap (x * 2 ^ (n % 32).toNat)) 32
def srlwS (x n : Int) : Int := signS (cutS x 0 32 / 2 ^ (n % 32).toNat) 32
def srawS (x n : Int) : Int := sraS (signS x 32) (n % 32)

end Go.Proofs.YtfjdalepaacmgaaGreat
set_option maxRecDepth 20000
namespace Go.Proofs.YtfjdalepaacmgaaGreat
open Go.ChangeShapes Go.WideShapes Go.ChangeAt Go.RowKit

abbrev BuT : TypeId := 79
abbrev PT : TypeId := 76
theorem info_PT : (Tryz.prog.info? PT).map (·.size) = some 68 := by kernel_rfl
theorem info_Bu : (Tryz.prog.info? BuT).map (·.size) = some 88 := by kernel_rfl
theorem iPT {n : Nat} {ws : List Int} (h : ws.length = 67) : (Tryz.prog.info? PT).map (·.size) = some (ctV n ws).size := by rw [ctV_size, h]; exact info_PT
/-- The cells of a bus. -/
def buV (u : Value) (n : Nat) (ws ps : List Int) : Array Value := (u :: .int .i64 n :: ((ctV n ws).toList ++ (ctV n ps).toList)).toArray
section
variable {u : Value} {n : Nat} {ws ps : List Int}
theorem buV_size (h : ws.length = 17) (k : ps.length = 67) : (buV u n ws ps).size = 88 := by simp [buV, ctV_size, h, k]
theorem buV_u : (buV u n ws ps)[0]? = some u := rfl
theorem buV_n : (buV u n ws ps)[1]? = some (.int .i64 n) := rfl
theorem buV_c (h : ws.length = 17) {i : Nat} (hi : i < 18) : (buV u n ws ps)[i + 2]? = (ctV n ws)[i]? := by
  simp only [buV, List.getElem?_toArray, List.getElem?_cons_succ]
  rw [List.getElem?_append_left (by simp [ctV_size, h]; omega)]
  simp
theorem buV_p (h : ws.length = 17) (i : Nat) : (buV u n ws ps)[i + 20]? = (ctV n ps)[i]? := by
  simp only [buV, List.getElem?_toArray, List.getElem?_cons_succ]
  rw [List.getElem?_append_right (by simp [ctV_size, h])]
  simp [ctV_size, h]
theorem buV_setC (h : ws.length = 17) {i : Nat} (hi : i < 17) (v : Int) : (buV u n ws ps).setIfInBounds (i + 3) (.int .u64 v) = buV u n (ws.set i v) ps := by
  simp only [buV, List.setIfInBounds_toArray, List.set_cons_succ]
  rw [List.set_append_left _ _ (by simp [ctV_size, h]; omega), ← ctV_set (n := n) (ws := ws)]
  simp
theorem buV_setP (h : ws.length = 17) {i : Nat} (v : Int) : (buV u n ws ps).setIfInBounds (i + 21) (.int .u64 v) = buV u n ws (ps.set i v) := by
  simp only [buV, List.setIfInBounds_toArray, List.set_cons_succ]
  rw [List.set_append_right _ _ (by simp [ctV_size, h]), ← ctV_set (n := n) (ws := ps)]
  simp [ctV_size, h]
theorem buV_one (hu : u.oneCell' = true) : (buV u n ws ps).all (·.oneCell') = true := by
  have h1 := ctV_one (n := n) (ws := ws)
  have h2 := ctV_one (n := n) (ws := ps)
  rw [Array.all_eq_true_iff_forall_mem] at h1 h2 ⊢
  intro v hv
  simp only [buV, List.mem_toArray, List.mem_cons, List.mem_append, Array.mem_toList_iff] at hv
  rcases hv with rfl | rfl | hv | hv
  · exact hu
  · rfl
  · exact h1 v hv
  · exact h2 v hv
end
/-- What lies around a clint: the port's pointer, the controller's words. -/
abbrev SurC := Value × List Int
structure SurP where
  u : Value
  cs : List Int
  len : cs.length = 17
abbrev rowP (S : SurP) (n : Nat) (ps : List Int) : Array Value := buV S.u n S.cs ps
/-- A clint within a bus. -/
structure BmAt (S : SurC) (w : World) (b : Nat) (n : Nat) (ws : List Int) : Prop where
  row : CsAt w b BuT (buV S.1 n ws S.2)
  ok : Ct.Ok n ws
/-- A controller within a bus. -/
structure BpAt (S : SurP) (w : World) (b : Nat) (n : Nat) (ps : List Int) : Prop where
  row : CsAt w b BuT (rowP S n ps)
  ok : Pc.Ok n ps
section
variable {S : SurC} {w w' : World} {b n : Nat} {ws : List Int}
theorem BmAt.lt (h : BmAt S w b n ws) : b < w.heap.size := h.row.lt
theorem BmAt.low (h : BmAt S w b n ws) (hb : Below w.heap.size w w') : BmAt S w' b n ws := ⟨h.row.low hb, h.ok⟩
theorem BmAt.n0 (h : BmAt S w b n ws) : w.cell? ⟨b, 2, none⟩ = some (.int .i64 n) := by
  rw [h.row.cell]; exact (buV_c h.ok.len (i := 0) (by omega)).trans ctV_0
theorem BmAt.cell (h : BmAt S w b n ws) {i : Nat} (hi : i < 17) : w.cell? ⟨b, i + 3, none⟩ = some (.int .u64 (ws.getD i 0)) := by
  rw [h.row.cell]; exact (buV_c h.ok.len (i := i + 1) (by omega)).trans (ctV_at (by rw [h.ok.len]; exact hi))
theorem BmAt.set (h : BmAt S w b n ws) {i : Nat} (hi : i < 17) (v : Int) (hk : Ct.Ok n (ws.set i v)) : BmAt S (w.setCell ⟨b, i + 3, none⟩ (.int .u64 v)) b n (ws.set i v) := by
  refine ⟨?_, hk⟩
  unfold CsAt
  rw [heap_setCell_same w b (i + 3) _ BuT _ h.row, buV_setC h.ok.len hi]
end
section
variable {S : SurP} {w w' : World} {b n : Nat} {ps : List Int}
theorem bpV_at {i : Nat} (h : i < ps.length) : (rowP S n ps)[i + 21]? = some (.int .u64 (ps.getD i 0)) := (buV_p S.len (i + 1)).trans (ctV_at h)
theorem BpAt.lt (h : BpAt S w b n ps) : b < w.heap.size := h.row.lt
theorem BpAt.low (h : BpAt S w b n ps) (hb : Below w.heap.size w w') : BpAt S w' b n ps := ⟨h.row.low hb, h.ok⟩
theorem BpAt.n0 (h : BpAt S w b n ps) : w.cell? ⟨b, 20, none⟩ = some (.int .i64 n) := by
  rw [h.row.cell]; exact (buV_p S.len 0).trans ctV_0
theorem BpAt.cell (h : BpAt S w b n ps) {i : Nat} (hi : i < 67) : w.cell? ⟨b, i + 21, none⟩ = some (.int .u64 (ps.getD i 0)) := by
  rw [h.row.cell]; exact bpV_at (by rw [h.ok.len]; exact hi)
theorem bu_setP {t : TypeId} (h : CsAt w b t (rowP S n ps)) (i : Nat) (v : Int) : CsAt (w.setCell ⟨b, i + 21, none⟩ (.int .u64 v)) b t (rowP S n (ps.set i v)) := by
  unfold CsAt
  rw [heap_setCell_same w b (i + 21) _ t _ h, buV_setP S.len]
end
end Go.Proofs.YtfjdalepaacmgaaGreat
