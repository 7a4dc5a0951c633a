/-
  Contracts of kind.between, Class, Size, Signed, Writes, and of the reference's Signed.
-/
import Derived.Test.YtfjdalepaacmgaaDoorRef4c
set_option maxRecDepth 20000
namespace Go.Proofs.YtfjdalepaacmgaaDoor
open Go.ChangeShapes Go.WideShapes Go.ChangeAt Go.RowKit Wd

def btw (op a b : Int) : Bool := decide (a ≤ op) && decide (op ≤ b)
theorem btw_iff {op a b : Int} : btw op a b = true ↔ a ≤ op ∧ op ≤ b := by simp [btw]
set_option maxHeartbeats 400000 in
theorem between_c (op a b : Int) (w : World) : Calls Tryd.prog 89 #[.int .i64 op, .int .i64 a, .int .i64 b] w fun e w' => e = .returned (.bool (btw op a b)) ∧ w = w' := by
  by_cases h1 : a ≤ op
  · have d1 : decide (a ≤ op) = true := by simpa using h1
    have HB := Lib.hid (show decide (op ≤ b) = btw op a b by simp [btw, d1])
    clear h1
    go_enter Tryd.func89, Tryd.ntmps89
    go_wp2_with fail
    go_ret
    exact ⟨ret_b HB.out, rfl⟩
  · have d1 : decide (a ≤ op) = false := by simpa using h1
    have HB := Lib.hid (show false = btw op a b by simp [btw, d1])
    clear h1
    go_enter Tryd.func89, Tryd.ntmps89
    go_wp2_with fail
    go_ret
    exact ⟨ret_b HB.out, rfl⟩

theorem btw_no {op a b : Int} (h : ¬ (a ≤ op ∧ op ≤ b)) : btw op a b = false := by
  cases hb : btw op a b
  · rfl
  · exact absurd (btw_iff.1 hb) h
def classI (op : Int) : Int := if btw op 1 2 then 2 else if btw op 3 4 then 3 else if btw op 5 10 then 4 else if btw op 11 17 then 5 else if btw op 18 21 then 6 else if btw op 22 49 then 1 else if btw op 54 66 then 1 else if btw op 50 51 then 9 else if btw op 67 88 then 7 else if btw op 89 94 then 8 else if btw op 52 53 then 10 else if btw op 95 98 then 10 else 0
theorem class_tab (op : Int) : classS op = classI op := by
  by_cases h : 1 ≤ op ∧ op ≤ 98
  · have l : ∀ k : Fin 99, 1 ≤ k.val → ((classL.getD k.val 0 : Nat) : Int) = classI (k.val : Nat) := by decide +kernel
    have := l ⟨op.toNat, by omega⟩ (by simp only; omega)
    simp only at this
    unfold classS
    rw [if_pos h, this]
    congr 1; omega
  · unfold classS classI
    rw [if_neg h]
    have n : ∀ a b : Int, 1 ≤ a → b ≤ 98 → btw op a b = false := fun a b ha hb => btw_no (by omega)
    rw [n 1 2, n 3 4, n 5 10, n 11 17, n 18 21, n 22 49, n 54 66, n 50 51, n 67 88, n 89 94, n 52 53, n 95 98] <;> first | rfl | decide
def sizeI (op : Int) : Int := if op == 11 then 1 else if op == 15 then 1 else if op == 18 then 1 else if op == 12 then 2 else if op == 16 then 2 else if op == 19 then 2 else if op == 13 then 4 else if op == 17 then 4 else if op == 20 then 4 else if op == 14 then 8 else if op == 21 then 8 else if btw op 67 77 then 4 else if btw op 78 88 then 8 else 0
theorem size_tab (op : Int) : sizeS op = sizeI op := by
  by_cases h : 1 ≤ op ∧ op ≤ 98
  · have l : ∀ k : Fin 99, 1 ≤ k.val → ((sizeL.getD k.val 0 : Nat) : Int) = sizeI (k.val : Nat) := by decide +kernel
    have := l ⟨op.toNat, by omega⟩ (by simp only; omega)
    simp only at this
    unfold sizeS
    rw [if_pos h, this]
    congr 1; omega
  · unfold sizeS sizeI
    rw [if_neg h]
    have n : ∀ a b : Int, 1 ≤ a → b ≤ 98 → btw op a b = false := fun a b ha hb => btw_no (by omega)
    have m : ∀ a : Int, 1 ≤ a → a ≤ 98 → (op == a) = false := fun a ha hb => by simp; omega
    rw [n 67 77, n 78 88, m 11, m 12, m 13, m 14, m 15, m 16, m 17, m 18, m 19, m 20, m 21] <;> first | rfl | decide
set_option maxHeartbeats 4000000 in
theorem class_c (op : Int) (w : World) : Calls Tryd.prog 61 #[.int .i64 op] w fun e w' => e = .returned (.int .i64 (classS op)) ∧ w = w' := by
  generalize hc : classS op = c
  rw [class_tab] at hc
  have HC := Lib.hid hc
  clear hc
  go_enter Tryd.func61, Tryd.ntmps61
  go_wp2_with (go_at_call 89; refine (between_c _ _ _ _).mono ?_; rintro e w' ⟨rfl, rfl⟩)
  all_goals
    first
    | (exfalso; simp_all; done)
    | (go_ret; exact ⟨ret_u (by rw [← HC.out]; simp_all [classI]), rfl⟩)
def signS4 (op : Int) : Bool := btw op 11 14 || classS op == 7
theorem sign_tab : ∀ k : Fin 99, classL.getD k.val 0 = 5 → ((Tab.names4.getD k.val []).length == 2) = btw (k.val : Nat) 11 14 := by decide +kernel
theorem sign_tab2 : ∀ k : Fin 99, btw (k.val : Nat) 11 14 = true → classL.getD k.val 0 = 5 := by decide +kernel
theorem signS_not {op : Int} (h7 : classS op ≠ 7) (h5 : classS op ≠ 5) : signS4 op = false := by
  unfold signS4
  have e7 : (classS op == 7) = false := by simpa using h7
  rw [e7, Bool.or_false]
  apply btw_no
  intro hb
  apply h5
  have := sign_tab2 ⟨op.toNat, by omega⟩ (btw_iff.2 (by simp only; omega))
  unfold classS
  rw [if_pos (by omega), this]
  rfl
end Go.Proofs.YtfjdalepaacmgaaDoor
