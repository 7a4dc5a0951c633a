/-
  What layer 5's statements ask of the chapter's examples (live): true. The listed variables: the table of names in memory.
-/
import Derived.Test.YtbhmnkamfkadiaaDoorReg4
import Derived.Test.YtbhmnkamfkadiaaDoorFrame
import Derived.LaidMore
import Derived.Stop.Joined
namespace Go.Proofs.YtbhmnkamfkadiaaDoor
open Go.ChangeShapes Go.WideShapes Go.ChangeAt Go.RowKit

theorem find_x31 : findV ⟨#[120, 51, 49]⟩ = .tuple #[.int .i64 31, .bool true] := by kernel_rfl
theorem find_x07 : findV ⟨#[120, 48, 55]⟩ = .tuple #[.int .i64 0, .bool false] := by kernel_rfl
theorem name_10 : nameR 10 = [97, 48] := by decide +kernel
set_option maxHeartbeats 400000 in
theorem live5_c (w : World) (hN : NamesAt w) : Calls Tryd.prog 7 #[] w fun e w' => e = .returned (.bool true) ∧ w = w' := by
  have e1 : ((bsR [97, 48]).toList == [97, 48]) = true := by decide +kernel
  have HN := Lib.hid hN
  clear hN
  go_enter Tryd.func7, Tryd.ntmps7
  go_wp2_with fail
  refine (rfind_c _ _ HN.out).mono ?_
  rintro e w1 ⟨rfl, rfl⟩
  rw [find_x31]
  go_wp2_with fail
  refine (rfind_c _ _ HN.out).mono ?_
  rintro e w1 ⟨rfl, rfl⟩
  rw [find_x07]
  go_wp2_with fail
  refine (name_c _ _ HN.out).mono ?_
  rintro e w1 ⟨rfl, rfl⟩
  rw [name_10]
  go_wp2_with fail
  go_ret
  exact ⟨rfl, rfl⟩
abbrev laid5 {H : Type} : List (String × DataW H) := [("math/bits.deBruijn32tab", Rows.laid_math_bits_deBruijn32tab), ("math/bits.deBruijn64tab", Rows.laid_math_bits_deBruijn64tab), ("internal/strconv.uint64pow10", Rows.laid_internal_strconv_uint64pow10), ("roebuck/regs.names", Rows.laid_roebuck_regs_names)]
theorem gNames : Tryd.prog.globalNamed "roebuck/regs.names" = some 0 := by kernel_rfl
theorem tNames : (Tryd.prog.globals[0]?).map (·.type) = some 51 := by kernel_rfl
theorem names_are {H : Type} : (Rows.laid_roebuck_regs_names : DataW H) = .agg ((List.range 32).map fun k => .lit (.string (nmR k))) := by kernel_rfl
theorem door5_met (os : Os) (args : Array Value) : laidMetH Tryd.prog laid5 ((World.doorLaid Tryd.prog 400 os).forCall (fun _ _ => 0) ⟨#[], args, []⟩).memory :=
  laidMetH_of_parts3 (fuel := 8) (laidMet_of_run' 8 (by kernel_rfl) (by kernel_rfl)) (by kernel_rfl) (by kernel_rfl)
end Go.Proofs.YtbhmnkamfkadiaaDoor
