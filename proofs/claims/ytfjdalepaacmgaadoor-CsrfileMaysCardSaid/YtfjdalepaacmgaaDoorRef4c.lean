/-
  Contracts of the reference of layer 4: Size, Signed, Writes.
-/
import Derived.Test.YtfjdalepaacmgaaDoorRef4b
set_option maxRecDepth 20000
namespace Go.Proofs.YtfjdalepaacmgaaDoor
open Go.ChangeShapes Go.WideShapes Go.ChangeAt Go.RowKit Wd


theorem refClass_yes (k : Nat) (h0 : 1 ≤ k) (h1 : k ≤ 98) (w : World) : Calls Tryd.prog 62 #[.int .i64 k] w fun e w' => e = .returned (.int .i64 (classL.getD k 0 : Nat)) ∧ Below w.heap.size w w' := by
  match k, h0, h1 with
  | 1, _, _ => exact refClass_1 w
  | 2, _, _ => exact refClass_2 w
  | 3, _, _ => exact refClass_3 w
  | 4, _, _ => exact refClass_4 w
  | 5, _, _ => exact refClass_5 w
  | 6, _, _ => exact refClass_6 w
  | 7, _, _ => exact refClass_7 w
  | 8, _, _ => exact refClass_8 w
  | 9, _, _ => exact refClass_9 w
  | 10, _, _ => exact refClass_10 w
  | 11, _, _ => exact refClass_11 w
  | 12, _, _ => exact refClass_12 w
  | 13, _, _ => exact refClass_13 w
  | 14, _, _ => exact refClass_14 w
  | 15, _, _ => exact refClass_15 w
  | 16, _, _ => exact refClass_16 w
  | 17, _, _ => exact refClass_17 w
  | 18, _, _ => exact refClass_18 w
  | 19, _, _ => exact refClass_19 w
  | 20, _, _ => exact refClass_20 w
  | 21, _, _ => exact refClass_21 w
  | 22, _, _ => exact refClass_22 w
  | 23, _, _ => exact refClass_23 w
  | 24, _, _ => exact refClass_24 w
  | 25, _, _ => exact refClass_25 w
  | 26, _, _ => exact refClass_26 w
  | 27, _, _ => exact refClass_27 w
  | 28, _, _ => exact refClass_28 w
  | 29, _, _ => exact refClass_29 w
  | 30, _, _ => exact refClass_30 w
  | 31, _, _ => exact refClass_31 w
  | 32, _, _ => exact refClass_32 w
  | 33, _, _ => exact refClass_33 w
  | 34, _, _ => exact refClass_34 w
  | 35, _, _ => exact refClass_35 w
  | 36, _, _ => exact refClass_36 w
  | 37, _, _ => exact refClass_37 w
  | 38, _, _ => exact refClass_38 w
  | 39, _, _ => exact refClass_39 w
  | 40, _, _ => exact refClass_40 w
  | 41, _, _ => exact refClass_41 w
  | 42, _, _ => exact refClass_42 w
  | 43, _, _ => exact refClass_43 w
  | 44, _, _ => exact refClass_44 w
  | 45, _, _ => exact refClass_45 w
  | 46, _, _ => exact refClass_46 w
  | 47, _, _ => exact refClass_47 w
  | 48, _, _ => exact refClass_48 w
  | 49, _, _ => exact refClass_49 w
  | 50, _, _ => exact refClass_50 w
  | 51, _, _ => exact refClass_51 w
  | 52, _, _ => exact refClass_52 w
  | 53, _, _ => exact refClass_53 w
  | 54, _, _ => exact refClass_54 w
  | 55, _, _ => exact refClass_55 w
  | 56, _, _ => exact refClass_56 w
  | 57, _, _ => exact refClass_57 w
  | 58, _, _ => exact refClass_58 w
  | 59, _, _ => exact refClass_59 w
  | 60, _, _ => exact refClass_60 w
  | 61, _, _ => exact refClass_61 w
  | 62, _, _ => exact refClass_62 w
  | 63, _, _ => exact refClass_63 w
  | 64, _, _ => exact refClass_64 w
  | 65, _, _ => exact refClass_65 w
  | 66, _, _ => exact refClass_66 w
  | 67, _, _ => exact refClass_67 w
  | 68, _, _ => exact refClass_68 w
  | 69, _, _ => exact refClass_69 w
  | 70, _, _ => exact refClass_70 w
  | 71, _, _ => exact refClass_71 w
  | 72, _, _ => exact refClass_72 w
  | 73, _, _ => exact refClass_73 w
  | 74, _, _ => exact refClass_74 w
  | 75, _, _ => exact refClass_75 w
  | 76, _, _ => exact refClass_76 w
  | 77, _, _ => exact refClass_77 w
  | 78, _, _ => exact refClass_78 w
  | 79, _, _ => exact refClass_79 w
  | 80, _, _ => exact refClass_80 w
  | 81, _, _ => exact refClass_81 w
  | 82, _, _ => exact refClass_82 w
  | 83, _, _ => exact refClass_83 w
  | 84, _, _ => exact refClass_84 w
  | 85, _, _ => exact refClass_85 w
  | 86, _, _ => exact refClass_86 w
  | 87, _, _ => exact refClass_87 w
  | 88, _, _ => exact refClass_88 w
  | 89, _, _ => exact refClass_89 w
  | 90, _, _ => exact refClass_90 w
  | 91, _, _ => exact refClass_91 w
  | 92, _, _ => exact refClass_92 w
  | 93, _, _ => exact refClass_93 w
  | 94, _, _ => exact refClass_94 w
  | 95, _, _ => exact refClass_95 w
  | 96, _, _ => exact refClass_96 w
  | 97, _, _ => exact refClass_97 w
  | 98, _, _ => exact refClass_98 w
  | n + 99, _, h => exact absurd h (by omega)
theorem refClass_c (op : Int) (w : World) : Calls Tryd.prog 62 #[.int .i64 op] w fun e w' => e = .returned (.int .i64 (classS op)) ∧ Below w.heap.size w w' := by
  by_cases h : 1 ≤ op ∧ op ≤ 98
  · have e : classS op = (classL.getD op.toNat 0 : Nat) := by unfold classS; rw [if_pos h]
    rw [e]
    have := refClass_yes op.toNat (by omega) (by omega) w
    rw [show ((op.toNat : Nat) : Int) = op by omega] at this
    exact this
  · have e : classS op = 0 := by unfold classS; rw [if_neg h]
    rw [e]
    exact refClass_no op h w

theorem class_of {op : Int} : classS op = 0 ∨ classS op = 1 ∨ classS op = 2 ∨ classS op = 3 ∨ classS op = 4 ∨ classS op = 5 ∨ classS op = 6 ∨ classS op = 7 ∨ classS op = 8 ∨ classS op = 9 ∨ classS op = 10 := by
  by_cases h : 1 ≤ op ∧ op ≤ 98
  · have e : classS op = (classL.getD op.toNat 0 : Nat) := by unfold classS; rw [if_pos h]
    have l : ∀ k : Fin 99, classL.getD k.val 0 ≤ 10 := by decide +kernel
    have := l ⟨op.toNat, by omega⟩
    simp only at this
    omega
  · exact .inl (by unfold classS; rw [if_neg h])
def writesS (op : Int) : Bool := classS op == 1 || classS op == 2 || classS op == 3 || classS op == 5 || classS op == 7 || classS op == 8
def sizeL : List Nat := [0, 0, 0, 0, 0, 0, 0, 0, 0, 0, 0, 1, 2, 4, 8, 1, 2, 4, 1, 2, 4, 8, 0, 0, 0, 0, 0, 0, 0, 0, 0, 0, 0, 0, 0, 0, 0, 0, 0, 0, 0, 0, 0, 0, 0, 0, 0, 0, 0, 0, 0, 0, 0, 0, 0, 0, 0, 0, 0, 0, 0, 0, 0, 0, 0, 0, 0, 4, 4, 4, 4, 4, 4, 4, 4, 4, 4, 4, 8, 8, 8, 8, 8, 8, 8, 8, 8, 8, 8, 0, 0, 0, 0, 0, 0, 0, 0, 0, 0]
def sizeS (op : Int) : Int := if 1 ≤ op ∧ op ≤ 98 then (sizeL.getD op.toNat 0 : Nat) else 0
theorem class_mem : ∀ k : Fin 99, ¬ (11 ≤ k.val ∧ k.val ≤ 21 ∨ 67 ≤ k.val ∧ k.val ≤ 88) → classL.getD k.val 0 ≠ 5 ∧ classL.getD k.val 0 ≠ 6 ∧ classL.getD k.val 0 ≠ 7 ∧ sizeL.getD k.val 0 = 0 := by decide +kernel
end Go.Proofs.YtfjdalepaacmgaaDoor
