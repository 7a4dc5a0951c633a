/-
  Contracts of insn.isField, flag.
-/
import Derived.Test.YteknlcigfjdmdaaDoorInJ
namespace Go.Proofs.YteknlcigfjdmdaaDoor
open Go.ChangeShapes Go.WideShapes Go.ChangeAt Go.RowKit Wd

def inF (n m : Int) : Bool := decide (0 ≤ n) && decide (n < m)
theorem inF_iff {n m : Int} : inF n m = true ↔ 0 ≤ n ∧ n < m := by simp [inF]
set_option maxHeartbeats 1000000 in
theorem isField5_c (n : Int) (b : Bool) (hb : inF n 32 = b) (w : World) : Calls Tryd.prog 27 #[.int .i64 n, .int .i64 5] w fun e w' => e = .returned (.bool b) ∧ w = w' := by
  by_cases h1 : 0 ≤ n
  · have d1 : decide (0 ≤ n) = true := by simpa using h1
    have HB := Lib.hid (show decide (n < 32) = b by rw [← hb]; simp [inF, d1])
    clear h1 hb
    go_enter Tryd.func27, Tryd.ntmps27
    go_wp2_with fail
    go_ret
    exact ⟨ret_b HB.out, rfl⟩
  · have d1 : decide (0 ≤ n) = false := by simpa using h1
    have HB := Lib.hid (show false = b by rw [← hb]; simp [inF, d1])
    clear h1 hb
    go_enter Tryd.func27, Tryd.ntmps27
    go_wp2_with fail
    go_ret
    exact ⟨ret_b HB.out, rfl⟩
set_option maxHeartbeats 1000000 in
theorem isField12_c (n : Int) (b : Bool) (hb : inF n 4096 = b) (w : World) : Calls Tryd.prog 27 #[.int .i64 n, .int .i64 12] w fun e w' => e = .returned (.bool b) ∧ w = w' := by
  by_cases h1 : 0 ≤ n
  · have d1 : decide (0 ≤ n) = true := by simpa using h1
    have HB := Lib.hid (show decide (n < 4096) = b by rw [← hb]; simp [inF, d1])
    clear h1 hb
    go_enter Tryd.func27, Tryd.ntmps27
    go_wp2_with fail
    go_ret
    exact ⟨ret_b HB.out, rfl⟩
  · have d1 : decide (0 ≤ n) = false := by simpa using h1
    have HB := Lib.hid (show false = b by rw [← hb]; simp [inF, d1])
    clear h1 hb
    go_enter Tryd.func27, Tryd.ntmps27
    go_wp2_with fail
    go_ret
    exact ⟨ret_b HB.out, rfl⟩
def flagS (on : Bool) (n : Int) : Int := if on then n else 0
set_option maxHeartbeats 1000000 in
theorem flag26_c (on : Bool) (w : World) : Calls Tryd.prog 23 #[.bool on, .int .i64 26] w fun e w' => e = .returned (.int .u32 (flagS on 67108864)) ∧ w = w' := by
  cases on <;>
  · go_enter Tryd.func23, Tryd.ntmps23
    go_wp2_with fail
    go_ret
    exact ⟨rfl, rfl⟩
set_option maxHeartbeats 1000000 in
theorem flag25_c (on : Bool) (w : World) : Calls Tryd.prog 23 #[.bool on, .int .i64 25] w fun e w' => e = .returned (.int .u32 (flagS on 33554432)) ∧ w = w' := by
  cases on <;>
  · go_enter Tryd.func23, Tryd.ntmps23
    go_wp2_with fail
    go_ret
    exact ⟨rfl, rfl⟩
end Go.Proofs.YteknlcigfjdmdaaDoor
