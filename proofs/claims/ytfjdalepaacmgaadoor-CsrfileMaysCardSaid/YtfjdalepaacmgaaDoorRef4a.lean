/-
  Contracts of the reference of layer 4: ends.
-/
import Derived.Test.YtfjdalepaacmgaaDoorRef3g
set_option maxRecDepth 20000
namespace Go.Proofs.YtfjdalepaacmgaaDoor
open Go.ChangeShapes Go.WideShapes Go.ChangeAt Go.RowKit Wd

set_option maxHeartbeats 2000000 in
theorem refEnds_no (s t : ByteArray) (w : World) (h : s.size < t.size) : Calls Tryd.prog 90 #[.string s, .string t] w fun e w' => e = .returned (.bool false) ∧ w = w' := by
  have g : decide ((t.size : Int) ≤ s.size) = false := decide_eq_false (by omega)
  go_enter Tryd.func90, Tryd.ntmps90
  go_wp2
  go_ret
  exact ⟨rfl, rfl⟩
set_option maxHeartbeats 2000000 in
theorem refEnds_yes (s t : ByteArray) (w : World) (h : t.size ≤ s.size) (hs : s.size < 1000) : Calls Tryd.prog 90 #[.string s, .string t] w fun e w' => e = .returned (.bool ((s.extract (s.size - t.size) s.size).toList == t.toList)) ∧ w = w' := by
  have g : decide ((t.size : Int) ≤ s.size) = true := decide_eq_true (by omega)
  go_enter Tryd.func90, Tryd.ntmps90
  go_wp2
  go_ret
  exact ⟨rfl, rfl⟩
theorem refEnds_is (s t : ByteArray) (b : Bool) (w : World) (hs : s.size < 1000) (hb : (decide (t.size ≤ s.size) && (s.extract (s.size - t.size) s.size).toList == t.toList) = b) : Calls Tryd.prog 90 #[.string s, .string t] w fun e w' => e = .returned (.bool b) ∧ w = w' := by
  by_cases h : t.size ≤ s.size
  · rw [decide_eq_true h, Bool.true_and] at hb
    rw [← hb]
    exact refEnds_yes s t w h hs
  · rw [decide_eq_false h, Bool.false_and] at hb
    rw [← hb]
    exact refEnds_no s t w (by omega)
end Go.Proofs.YtfjdalepaacmgaaDoor
