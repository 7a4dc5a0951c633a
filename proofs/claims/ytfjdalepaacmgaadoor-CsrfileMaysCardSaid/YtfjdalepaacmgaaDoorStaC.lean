/-
  Contracts of status.Enter, Leave.
-/
import Derived.Test.YtfjdalepaacmgaaDoorStaB
import Derived.Test.YtfjdalepaacmgaaDoorSteady
set_option maxRecDepth 20000
namespace Go.Proofs.YtfjdalepaacmgaaDoor
open Go.ChangeShapes Go.WideShapes Go.ChangeAt Go.RowKit Wd Csr Sta

theorem prv_cases {p : Int} (h : isPriv p = true) : p = 0 ∨ p = 1 ∨ p = 3 := by
  unfold isPriv at h
  simp at h
  omega
theorem prv_no {p : Int} (h : isPriv p = false) : ¬ (p = 0 ∨ p = 1 ∨ p = 3) := by
  unfold isPriv at h
  simp at h
  omega
theorem numS_1 {frm : Int} (h : frm = 0 ∨ frm = 1 ∨ frm = 3) : numS frm 1 = if frm = 1 then 1 else 0 := by rcases h with rfl | rfl | rfl <;> rfl
theorem numS_3 (frm : Int) : numS frm 3 = frm := by unfold numS; rw [if_neg (by omega)]
theorem cut1_lt (x : Int) {k : Nat} (hk : k < 64) : 0 ≤ cutS x k 1 ∧ cutS x k 1 ≤ 1 := by rw [cut1 x hk]; exact bi_range _
theorem prv_cut8 (x : Int) : prvS (cutS x 8 1) = cutS x 8 1 := by
  have := cut1_lt x (k := 8) (by omega)
  unfold prvS
  rw [if_neg (by have h : cutS x ((8 : Nat) : Int) 1 = cutS x 8 1 := rfl; rw [h] at this; omega)]
end Go.Proofs.YtfjdalepaacmgaaDoor
