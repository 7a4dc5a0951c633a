/-
  Plain numbers: a trap changes no register of the other privilege's traps; behind it nothing that it takes is taken again, and behind its return the same interrupt is taken.
-/
import Derived.Test.YtkbgmppbkllnmaaDoorUba
set_option maxRecDepth 20000
namespace Go.Proofs.YtkbgmppbkllnmaaDoor
open Go.ChangeShapes Go.WideShapes Go.ChangeAt Go.RowKit Wd Csr Sta Cf Cau

def numA (a : Int) (k : Nat) : Int := if a = 3 then 321 + k else 833 + k
theorem trap_other (s : S) {a m : Int} (p pc c tv : Int) (h1 : m ≠ 768) (h2 : m ≠ epI a) (h3 : m ≠ caI a) (h4 : m ≠ vaI a) : (trapS s a p pc c tv).f m = s.f m := by
  unfold trapS
  rw [put_ne _ _ h1, layS_ne _ _ h4, layS_ne _ _ h3, layS_ne _ _ h2]
theorem apart_get (s : S) {a : Int} (ha : a = 3 ∨ a = 1) {k : Nat} (hk : k < 3) (p pc c tv : Int) : getS (trapS s a p pc c tv) (numA a k) 0 = getS s (numA a k) 0 := by
  obtain rfl | rfl | rfl : k = 0 ∨ k = 1 ∨ k = 2 := by omega
  all_goals rcases ha with rfl | rfl
  · exact trap_other (m := 321) s p pc c tv (by decide) (by decide) (by decide) (by decide)
  · exact trap_other (m := 833) s p pc c tv (by decide) (by decide) (by decide) (by decide)
  · exact trap_other (m := 322) s p pc c tv (by decide) (by decide) (by decide) (by decide)
  · exact trap_other (m := 834) s p pc c tv (by decide) (by decide) (by decide) (by decide)
  · exact trap_other (m := 323) s p pc c tv (by decide) (by decide) (by decide) (by decide)
  · exact trap_other (m := 835) s p pc c tv (by decide) (by decide) (by decide) (by decide)
theorem trap_st (s : S) (a p pc c tv : Int) : (trapS s a p pc c tv).f 768 = enterV (s.f 768) p a := put_at _ _ _
theorem priv_in {p : Int} (hp : p = 0 ∨ p = 1 ∨ p = 3) : isPriv p = true := by rcases hp with rfl | rfl | rfl <;> rfl
theorem ent3 {x p : Int} (hp : p = 0 ∨ p = 1 ∨ p = 3) : enterV x p 3 = enterM x p := by
  unfold enterV
  rw [priv_in hp, if_pos rfl, if_pos rfl]
theorem ent1 {x p : Int} (hp : p = 0 ∨ p = 1 ∨ p = 3) : enterV x p 1 = enterU x (if p = 1 then 1 else 0) := by
  unfold enterV
  rw [priv_in hp, if_pos rfl, if_neg (by decide), if_pos rfl]
theorem next_enter {s : S} (ok : Ok s) {a p pc cw tv l d : Int} (ha : a = 3 ∨ a = 1) (hp : p = 0 ∨ p = 1 ∨ p = 3) (hl : W64 l) {c : Nat} (h : nextG (getS (trapS s a p pc cw tv)) a l = some c) :
    (toK true c a d ((trapS s a p pc cw tv).f 771) == a) = false := by
  obtain ⟨hc, -, hk⟩ := next_cases (w64_file (trap_ok ok ha p pc cw tv)) hl h
  have hk' : (letsS ((trapS s a p pc cw tv).f 768) a 3 = true ∧ tb ((trapS s a p pc cw tv).f 771) c = false) ∨ (letsS ((trapS s a p pc cw tv).f 768) a 1 = true ∧ tb ((trapS s a p pc cw tv).f 771) c = true) := hk
  rw [trap_st, lets3, lets1] at hk'
  rcases ha with rfl | rfl
  · rw [ent3 hp, tb_enterM _ _ (by omega), tb_enterM _ _ (by omega), if_neg (by omega), if_neg (by omega), if_pos rfl] at hk'
    simp at hk'
  · rw [ent1 hp, tb_enterU _ _ (by omega), tb_enterU _ _ (by omega)] at hk'
    simp at hk'
    rw [toK_bitI hc, if_neg (by rw [hk']; simp)]
    rfl
theorem back_other (u : S) (a : Int) {m : Int} (h : m ≠ 768) : (backS u a).f m = u.f m := by
  unfold backS
  split
  · exact put_ne _ _ h
  · rfl
theorem back_st {s : S} {a p pc cw tv : Int} (ha : a = 3 ∨ a = 1) (hp : p = 0 ∨ p = 1 ∨ p = 3) :
    tb ((backS (trapS s a p pc cw tv) a).f 768) 3 = tb (s.f 768) 3 ∧ tb ((backS (trapS s a p pc cw tv) a).f 768) 1 = tb (s.f 768) 1 := by
  have e : (backS (trapS s a p pc cw tv) a).f 768 = leaveV (enterV (s.f 768) p a) a := by
    unfold backS
    rw [if_pos ha, put_at, trap_st]
  rw [e]
  rcases ha with rfl | rfl
  · rw [ent3 hp, show leaveV (enterM (s.f 768) p) 3 = leaveM (enterM (s.f 768) p) from if_pos rfl]
    constructor
    · rw [leaveM_3, enterM_7]
    · rw [tb_leaveM _ (by omega) (by omega), tb_backM _ (by omega), if_neg (by omega), if_neg (by omega), if_neg (by omega), if_neg (by omega), tb_enterM _ _ (by omega), if_neg (by omega), if_neg (by omega), if_neg (by omega), if_neg (by omega)]
  · have e1 : leaveV (enterU (s.f 768) (if p = 1 then 1 else 0)) 1 = leaveU (enterU (s.f 768) (if p = 1 then 1 else 0)) := by
      unfold leaveV
      rw [if_neg (by decide), if_pos rfl]
    rw [ent1 hp, e1]
    constructor
    · rw [tb_leaveU _ (by omega) (by omega), if_neg (by omega), if_neg (by omega), if_neg (by omega), tb_enterU _ _ (by omega), if_neg (by omega), if_neg (by omega), if_neg (by omega)]
    · rw [leaveU_1, enterU_5]
theorem next_again {s : S} {a p pc cw tv : Int} (ha : a = 3 ∨ a = 1) (hp : p = 0 ∨ p = 1 ∨ p = 3) (l : Int) : nextG (getS (backS (trapS s a p pc cw tv) a)) p l = nextG (getS s) p l := by
  obtain ⟨h3, h1⟩ := back_st (s := s) (pc := pc) (cw := cw) (tv := tv) ha hp
  have hf : ∀ m, m = 771 ∨ m = 772 ∨ m = 836 → (backS (trapS s a p pc cw tv) a).f m = s.f m := by
    intro m hm
    rw [back_other _ _ (by omega)]
    rcases hm with rfl | rfl | rfl
    all_goals
      refine trap_other s p pc cw tv (by decide) ?_ ?_ ?_
      all_goals rcases ha with rfl | rfl <;> decide
  generalize backS (trapS s a p pc cw tv) a = v at *
  have hw : waitG (getS v) l = waitG (getS s) l := by
    show bits .and .u64 (bits .or .u64 (v.f 836) (bits .and .u64 l 2696)) (v.f 772) = bits .and .u64 (bits .or .u64 (s.f 836) (bits .and .u64 l 2696)) (s.f 772)
    rw [hf 836 (by omega), hf 772 (by omega)]
  have hm : forM (getS v) l = forM (getS s) l := by
    unfold forM
    rw [hw, get_771, get_771, hf 771 (by omega)]
  have hs : forS (getS v) l = forS (getS s) l := by
    unfold forS
    rw [hw, get_771, get_771, hf 771 (by omega)]
  have hr : ∀ k, rowO (getS v) p l k = rowO (getS s) p l k := by
    intro k
    unfold rowO
    rw [hm, hs, get_768, get_768]
    by_cases e : k = 0
    · rw [if_pos e, lets3, lets3, h3]
    · rw [if_neg e, lets1, lets1, h1]
  unfold nextG
  rw [hr 0, hr 1]
end Go.Proofs.YtkbgmppbkllnmaaDoor
