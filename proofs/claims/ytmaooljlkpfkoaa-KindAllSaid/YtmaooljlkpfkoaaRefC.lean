/-
  Contracts of the reference of layer 1: Ones, Sign, Cut.
-/
import Derived.Test.YtmaooljlkpfkoaaRefB
namespace Go.Proofs.Ytmaooljlkpfkoaa
open Go.ChangeShapes Go.WideShapes Go.ChangeAt Go.RowKit Wd

theorem one_cell' (n : Int) : ∀ u ∈ [Value.int .u64 n], u.oneCell' = true := by
  intro u hu; simp at hu; subst hu; rfl

theorem signS_pos {x s : Int} (h : 1 ≤ s) : signS x s = word fun i => if (i : Int) < s then tb x i else tb x (s - 1).toNat := by
  unfold signS
  rw [if_neg (by omega)]

/-! ### Cut -/
def hit (x p : Int) (k i : Nat) : Bool := decide (0 ≤ p + k ∧ p + k < i) && tb x (p + k).toNat
theorem hit_zero (x p : Int) (k : Nat) : hit x p k 0 = false := by
  unfold hit
  have : ¬ (0 ≤ p + k ∧ p + k < ((0 : Nat) : Int)) := by omega
  rw [decide_eq_false this, Bool.false_and]
theorem hit_at {x p : Int} {k i : Nat} (hi : i < 64) (h : (i : Int) - p = k) : tbI x i = hit x p k (i + 1) := by
  unfold hit
  have a : 0 ≤ p + k ∧ p + k < ((i + 1 : Nat) : Int) := by omega
  rw [decide_eq_true a, tbI_nat x i hi]
  have : (p + k).toNat = i := by omega
  simp [this]
theorem hit_not {x p : Int} {k i : Nat} (h : ¬ (i : Int) - p = k) : hit x p k i = hit x p k (i + 1) := by
  unfold hit
  congr 1
  apply decide_eq_decide.2
  omega
theorem hit_all {x p : Int} {k : Nat} (hx : x < 18446744073709551616) : hit x p k 64 = (decide (0 ≤ p + k) && tb x (p + k).toNat) := by
  unfold hit
  by_cases c : p + k < ((64 : Nat) : Int)
  · congr 1
    apply decide_eq_decide.2
    omega
  · rw [tb_big hx (by omega), Bool.and_false, Bool.and_false]
theorem inK_eq {p : Int} {k i : Nat} (hk : k < 64) (h : (i : Int) - p = k) : (inK p i == (k : Int)) = true := by
  unfold inK
  rw [if_neg (by omega), beq_iff_eq]
  omega
theorem inK_ne {p : Int} {k i : Nat} (hk : k < 64) (h : ¬ (i : Int) - p = k) : (inK p i == (k : Int)) = false := by
  unfold inK
  rw [beq_eq_false_iff_ne]
  split <;> omega
theorem cut_true {x p s : Int} {k : Nat} (hx : x < 18446744073709551616) (h : (k : Int) < s) : hit x p k 64 = (decide ((k : Int) < s ∧ 0 ≤ p + k) && tb x (p + k).toNat) := by
  rw [hit_all hx]
  congr 1
  apply decide_eq_decide.2
  omega
theorem cut_false {x p s : Int} {k : Nat} (h : ¬ (k : Int) < s) : false = (decide ((k : Int) < s ∧ 0 ≤ p + k) && tb x (p + k).toNat) := by
  have : ¬ ((k : Int) < s ∧ 0 ≤ p + k) := by omega
  rw [decide_eq_false this, Bool.false_and]

end Go.Proofs.Ytmaooljlkpfkoaa
