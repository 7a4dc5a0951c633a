/-
  The contract of bits.Gather: what the parts of a slice of pairs come to; only new memory is made.
-/
import Derived.Test.YtgfdielipbcfeaaRefC
import Derived.Deep.QuietTactic
import Derived.BigQuiet
namespace Go.Proofs.Ytgfdielipbcfeaa
open Go.ChangeShapes Go.WideShapes Go.ChangeAt Go.RowKit Wd

theorem below_dn {B : Nat} {a w : World} (h : Below B a w) (n : Nat) : Below B a (w.drewN n) := h.trans ⟨rfl, rfl, rfl, Nat.le_refl _, fun _ _ => rfl⟩

def gstep (x acc : Int) (q : Int × Int) : Int := bits .or .u64 (raiseS acc (if q.2 < 0 then 0 else q.2)) (cutS x q.1 q.2)
def gatherS (x : Int) (ps : List (Int × Int)) : Int := ps.foldl (gstep x) 0
theorem gstep_range (x acc : Int) (q : Int × Int) : 0 ≤ gstep x acc q ∧ gstep x acc q < 18446744073709551616 := by
  have a := raiseS_range acc (if q.2 < 0 then 0 else q.2)
  have b := cutS_range x q.1 q.2
  exact or_range a.1 a.2 b.1 b.2
theorem gatherS_succ (x : Int) (ps : List (Int × Int)) (k : Nat) (h : k < ps.length) : gatherS x (ps.take (k + 1)) = gstep x (gatherS x (ps.take k)) (ps.getD k (0, 0)) := by
  unfold gatherS
  rw [List.take_succ_eq_append_getElem h, List.foldl_append]
  simp [List.getD, h]
theorem gatherS_range (x : Int) (ps : List (Int × Int)) (k : Nat) (hk : k ≤ ps.length) : 0 ≤ gatherS x (ps.take k) ∧ gatherS x (ps.take k) < 18446744073709551616 := by
  rcases k with _ | k
  · simp [gatherS]
  · rw [gatherS_succ x ps k (by omega)]; exact gstep_range _ _ _
theorem gstep_neg {x acc p s : Int} (h : s < 0) : bits .or .u64 (raiseS acc 0) (cutS x p s) = gstep x acc (p, s) := by
  unfold gstep
  simp [h]
theorem gstep_pos {x acc p s : Int} (h : 0 ≤ s) : bits .or .u64 (raiseS acc s) (cutS x p s) = gstep x acc (p, s) := by
  unfold gstep
  rw [if_neg (by simp; omega)]

def FitAll (ps : List (Int × Int)) : Prop := ∀ j, -9223372036854775808 ≤ (ps.getD j (0, 0)).1 ∧ (ps.getD j (0, 0)).1 < 9223372036854775808 ∧ -9223372036854775808 ≤ (ps.getD j (0, 0)).2 ∧ (ps.getD j (0, 0)).2 < 9223372036854775808
def Pairs (w : World) (b off : Nat) (ps : List (Int × Int)) : Prop :=
  ∀ j, j < ps.length → w.cell? ⟨b, off + j * 2, none⟩ = some (.int .i64 (ps.getD j (0, 0)).1) ∧ w.cell? ⟨b, off + j * 2 + 1, none⟩ = some (.int .i64 (ps.getD j (0, 0)).2)

end Go.Proofs.Ytgfdielipbcfeaa
