/-
  Contracts of alu.Taken, Target, Up (layer 7) and of the reference's: both come to the same.
-/
import Derived.Test.YtahamhpibjlgnaaSignsLaw
import Derived.Test.YtahamhpibjlgnaaKind
import Derived.Test.YtahamhpibjlgnaaAluA
namespace Go.Proofs.Ytahamhpibjlgnaa
open Go.ChangeShapes Go.WideShapes Go.ChangeAt Go.RowKit Wd

theorem andNot1 {t : Int} (h0 : 0 ≤ t) (h : t < 18446744073709551616) : bits .andNot .u64 t 1 = IntKind.u64.wrap (t - t % 2) := by
  have r := andNot_range h0 h (y := 1) (by omega) (by omega)
  have e : IntKind.u64.wrap (t - t % 2) = t - t % 2 := by rw [IntKind.wrap_u64]; omega
  rw [e]
  apply ext r.1 r.2 (by omega) (by omega)
  intro i hi
  rw [tb_andNot h0 h (by omega) (by omega)]
  obtain ⟨T, rfl⟩ := Int.eq_ofNat_of_zero_le h0
  have e2 : ((T : Int) - (T : Int) % 2).toNat = 2 * (T / 2) := by omega
  unfold tb
  rw [e2, Int.toNat_natCast]
  rcases i with _ | i
  · simp
  · have e3 : (1 : Int).toNat.testBit (i + 1) = false := by simp [Nat.testBit_succ]
    rw [e3, Nat.testBit_succ, Nat.testBit_succ]
    simp

theorem taken_5 (a b : Int) (w : World) (_ha0 : 0 ≤ a) (_ha : a < 18446744073709551616) (_hb0 : 0 ≤ b) (_hb : b < 18446744073709551616) :
    Calls Try.prog 9 #[.int .i64 5, .int .u64 a, .int .u64 b] w fun e w' => e = .returned (.tuple #[.bool (a == b), .bool true]) ∧ w = w' := by
  go_enter Try.func9, Try.ntmps9
  go_wp2_with fail
  go_ret2
  exact ⟨rfl, rfl⟩
theorem reftaken_5 (a b : Int) (w : World) (_ha0 : 0 ≤ a) (_ha : a < 18446744073709551616) (_hb0 : 0 ≤ b) (_hb : b < 18446744073709551616) :
    Calls Try.prog 10 #[.int .i64 5, .int .u64 a, .int .u64 b] w fun e w' => e = .returned (.tuple #[.bool (a == b), .bool true]) ∧ w = w' := by
  go_enter Try.func10, Try.ntmps10
  go_wp2_with fail
  go_ret2
  exact ⟨rfl, rfl⟩
theorem taken_6 (a b : Int) (w : World) (_ha0 : 0 ≤ a) (_ha : a < 18446744073709551616) (_hb0 : 0 ≤ b) (_hb : b < 18446744073709551616) :
    Calls Try.prog 9 #[.int .i64 6, .int .u64 a, .int .u64 b] w fun e w' => e = .returned (.tuple #[.bool (a != b), .bool true]) ∧ w = w' := by
  go_enter Try.func9, Try.ntmps9
  go_wp2_with fail
  go_ret2
  exact ⟨rfl, rfl⟩
theorem reftaken_6 (a b : Int) (w : World) (_ha0 : 0 ≤ a) (_ha : a < 18446744073709551616) (_hb0 : 0 ≤ b) (_hb : b < 18446744073709551616) :
    Calls Try.prog 10 #[.int .i64 6, .int .u64 a, .int .u64 b] w fun e w' => e = .returned (.tuple #[.bool (a != b), .bool true]) ∧ w = w' := by
  go_enter Try.func10, Try.ntmps10
  go_wp2_with fail
  go_ret2
  exact ⟨rfl, rfl⟩
theorem taken_7 (a b : Int) (w : World) (_ha0 : 0 ≤ a) (_ha : a < 18446744073709551616) (_hb0 : 0 ≤ b) (_hb : b < 18446744073709551616) :
    Calls Try.prog 9 #[.int .i64 7, .int .u64 a, .int .u64 b] w fun e w' => e = .returned (.tuple #[.bool (lessS a b), .bool true]) ∧ w = w' := by
  go_enter Try.func9, Try.ntmps9
  go_wp2_with fail
  refine (less_c _ _ _).mono ?_
  rintro e w' ⟨rfl, rfl⟩
  go_wp2_with fail
  go_ret2
  exact ⟨rfl, rfl⟩
theorem reftaken_7 (a b : Int) (w : World) (ha0 : 0 ≤ a) (ha : a < 18446744073709551616) (hb0 : 0 ≤ b) (hb : b < 18446744073709551616) :
    Calls Try.prog 10 #[.int .i64 7, .int .u64 a, .int .u64 b] w fun e w' => e = .returned (.tuple #[.bool (lessS a b), .bool true]) ∧ w = w' := by
  go_enter Try.func10, Try.ntmps10
  go_wp2_with fail
  refine (refLess_c _ _ _ ha0 ha hb0 hb).mono ?_
  rintro e w' ⟨rfl, rfl⟩
  go_wp2_with fail
  go_ret2
  exact ⟨rfl, rfl⟩
theorem taken_8 (a b : Int) (w : World) (_ha0 : 0 ≤ a) (_ha : a < 18446744073709551616) (_hb0 : 0 ≤ b) (_hb : b < 18446744073709551616) :
    Calls Try.prog 9 #[.int .i64 8, .int .u64 a, .int .u64 b] w fun e w' => e = .returned (.tuple #[.bool (!lessS a b), .bool true]) ∧ w = w' := by
  go_enter Try.func9, Try.ntmps9
  go_wp2_with fail
  refine (less_c _ _ _).mono ?_
  rintro e w' ⟨rfl, rfl⟩
  go_wp2_with fail
  go_ret2
  exact ⟨rfl, rfl⟩
theorem reftaken_8 (a b : Int) (w : World) (ha0 : 0 ≤ a) (ha : a < 18446744073709551616) (hb0 : 0 ≤ b) (hb : b < 18446744073709551616) :
    Calls Try.prog 10 #[.int .i64 8, .int .u64 a, .int .u64 b] w fun e w' => e = .returned (.tuple #[.bool (!lessS a b), .bool true]) ∧ w = w' := by
  go_enter Try.func10, Try.ntmps10
  go_wp2_with fail
  refine (refLess_c _ _ _ ha0 ha hb0 hb).mono ?_
  rintro e w' ⟨rfl, rfl⟩
  go_wp2_with fail
  go_ret2
  exact ⟨rfl, rfl⟩
theorem taken_9 (a b : Int) (w : World) (_ha0 : 0 ≤ a) (_ha : a < 18446744073709551616) (_hb0 : 0 ≤ b) (_hb : b < 18446744073709551616) :
    Calls Try.prog 9 #[.int .i64 9, .int .u64 a, .int .u64 b] w fun e w' => e = .returned (.tuple #[.bool (decide (a < b)), .bool true]) ∧ w = w' := by
  go_enter Try.func9, Try.ntmps9
  go_wp2_with fail
  go_ret2
  exact ⟨rfl, rfl⟩
theorem reftaken_9 (a b : Int) (w : World) (_ha0 : 0 ≤ a) (_ha : a < 18446744073709551616) (_hb0 : 0 ≤ b) (_hb : b < 18446744073709551616) :
    Calls Try.prog 10 #[.int .i64 9, .int .u64 a, .int .u64 b] w fun e w' => e = .returned (.tuple #[.bool (decide (a < b)), .bool true]) ∧ w = w' := by
  go_enter Try.func10, Try.ntmps10
  go_wp2_with fail
  go_ret2
  exact ⟨rfl, rfl⟩
theorem taken_10 (a b : Int) (w : World) (_ha0 : 0 ≤ a) (_ha : a < 18446744073709551616) (_hb0 : 0 ≤ b) (_hb : b < 18446744073709551616) :
    Calls Try.prog 9 #[.int .i64 10, .int .u64 a, .int .u64 b] w fun e w' => e = .returned (.tuple #[.bool (decide (b ≤ a)), .bool true]) ∧ w = w' := by
  go_enter Try.func9, Try.ntmps9
  go_wp2_with fail
  go_ret2
  exact ⟨rfl, rfl⟩
theorem reftaken_10 (a b : Int) (w : World) (_ha0 : 0 ≤ a) (_ha : a < 18446744073709551616) (_hb0 : 0 ≤ b) (_hb : b < 18446744073709551616) :
    Calls Try.prog 10 #[.int .i64 10, .int .u64 a, .int .u64 b] w fun e w' => e = .returned (.tuple #[.bool (decide (b ≤ a)), .bool true]) ∧ w = w' := by
  go_enter Try.func10, Try.ntmps10
  go_wp2_with fail
  go_ret2
  exact ⟨rfl, rfl⟩
theorem taken_no (op a b : Int) (h : ¬ (5 ≤ op ∧ op ≤ 10)) (w : World) :
    Calls Try.prog 9 #[.int .i64 op, .int .u64 a, .int .u64 b] w fun e w' => e = .returned (.tuple #[.bool false, .bool false]) ∧ w = w' := by
  have h5 : (op == 5) = false := by simp; omega
  have h6 : (op == 6) = false := by simp; omega
  have h7 : (op == 7) = false := by simp; omega
  have h8 : (op == 8) = false := by simp; omega
  have h9 : (op == 9) = false := by simp; omega
  have h10 : (op == 10) = false := by simp; omega
  clear h
  go_enter Try.func9, Try.ntmps9
  go_wp2_with fail
  go_ret2
  exact ⟨rfl, rfl⟩
theorem reftaken_no (op a b : Int) (h : ¬ (5 ≤ op ∧ op ≤ 10)) (w : World) :
    Calls Try.prog 10 #[.int .i64 op, .int .u64 a, .int .u64 b] w fun e w' => e = .returned (.tuple #[.bool false, .bool false]) ∧ w = w' := by
  have h5 : (op == 5) = false := by simp; omega
  have h6 : (op == 6) = false := by simp; omega
  have h7 : (op == 7) = false := by simp; omega
  have h8 : (op == 8) = false := by simp; omega
  have h9 : (op == 9) = false := by simp; omega
  have h10 : (op == 10) = false := by simp; omega
  clear h
  go_enter Try.func10, Try.ntmps10
  go_wp2_with fail
  go_ret2
  exact ⟨rfl, rfl⟩
theorem taken_both (op a b : Int) (ha0 : 0 ≤ a) (ha : a < 18446744073709551616) (hb0 : 0 ≤ b) (hb : b < 18446744073709551616) : ∃ v ok, (∀ w : World, Calls Try.prog 9 #[.int .i64 op, .int .u64 a, .int .u64 b] w fun e w' => e = .returned (.tuple #[.bool v, .bool ok]) ∧ w = w') ∧
    (∀ w : World, Calls Try.prog 10 #[.int .i64 op, .int .u64 a, .int .u64 b] w fun e w' => e = .returned (.tuple #[.bool v, .bool ok]) ∧ w = w') := by
  by_cases h : 5 ≤ op ∧ op ≤ 10
  · have : op = 5 ∨ op = 6 ∨ op = 7 ∨ op = 8 ∨ op = 9 ∨ op = 10 := by omega
    rcases this with rfl | rfl | rfl | rfl | rfl | rfl
    · exact ⟨_, _, fun w => taken_5 a b w ha0 ha hb0 hb, fun w => reftaken_5 a b w ha0 ha hb0 hb⟩
    · exact ⟨_, _, fun w => taken_6 a b w ha0 ha hb0 hb, fun w => reftaken_6 a b w ha0 ha hb0 hb⟩
    · exact ⟨_, _, fun w => taken_7 a b w ha0 ha hb0 hb, fun w => reftaken_7 a b w ha0 ha hb0 hb⟩
    · exact ⟨_, _, fun w => taken_8 a b w ha0 ha hb0 hb, fun w => reftaken_8 a b w ha0 ha hb0 hb⟩
    · exact ⟨_, _, fun w => taken_9 a b w ha0 ha hb0 hb, fun w => reftaken_9 a b w ha0 ha hb0 hb⟩
    · exact ⟨_, _, fun w => taken_10 a b w ha0 ha hb0 hb, fun w => reftaken_10 a b w ha0 ha hb0 hb⟩
  · exact ⟨_, _, fun w => taken_no op a b h w, fun w => reftaken_no op a b h w⟩
set_option maxHeartbeats 1000000 in
theorem target_3 (pc base imm : Int) (w : World) :
    Calls Try.prog 11 #[.int .i64 3, .int .u64 pc, .int .u64 base, .int .i64 imm] w fun e w' => e = .returned (.tuple #[.int .u64 (IntKind.u64.wrap (pc + IntKind.u64.wrap imm)), .bool true]) ∧ w = w' := by
  go_enter Try.func11, Try.ntmps11
  go_wp2_with fail
  go_ret2
  exact ⟨rfl, rfl⟩
set_option maxHeartbeats 1000000 in
theorem reftarget_3 (pc base imm : Int) (w : World) :
    Calls Try.prog 12 #[.int .i64 3, .int .u64 pc, .int .u64 base, .int .i64 imm] w fun e w' => e = .returned (.tuple #[.int .u64 (IntKind.u64.wrap (pc + IntKind.u64.wrap imm)), .bool true]) ∧ w = w' := by
  go_enter Try.func12, Try.ntmps12
  go_wp2_with fail
  go_ret2
  exact ⟨rfl, rfl⟩
set_option maxHeartbeats 1000000 in
theorem target_4 (pc base imm : Int) (w : World) :
    Calls Try.prog 11 #[.int .i64 4, .int .u64 pc, .int .u64 base, .int .i64 imm] w fun e w' => e = .returned (.tuple #[.int .u64 (bits .andNot .u64 (IntKind.u64.wrap (base + IntKind.u64.wrap imm)) 1), .bool true]) ∧ w = w' := by
  have hcl : classS 4 = 3 := by decide +kernel
  go_enter Try.func11, Try.ntmps11
  go_wp2_with fail
  refine (class_c _ _).mono ?_
  rintro e w' ⟨rfl, rfl⟩
  rw [hcl]
  go_wp2_with fail
  go_ret2
  exact ⟨rfl, rfl⟩
set_option maxHeartbeats 1000000 in
theorem reftarget_4 (pc base imm : Int) (w : World) :
    Calls Try.prog 12 #[.int .i64 4, .int .u64 pc, .int .u64 base, .int .i64 imm] w fun e w' => e = .returned (.tuple #[.int .u64 (bits .andNot .u64 (IntKind.u64.wrap (base + IntKind.u64.wrap imm)) 1), .bool true]) ∧ w = w' := by
  rw [andNot1 (wrap_range _).1 (wrap_range _).2]
  obtain ⟨t0, t1⟩ := wrap_range (base + IntKind.u64.wrap imm)
  rw [show ∀ t : Int, 0 ≤ t → t < 18446744073709551616 → IntKind.u64.wrap (t - t % 2) = t - t % 2 from fun t _ _ => by rw [IntKind.wrap_u64]; omega] <;> try assumption
  go_enter Try.func12, Try.ntmps12
  go_wp2_with fail
  go_ret2
  exact ⟨rfl, rfl⟩
set_option maxHeartbeats 1000000 in
theorem target_5 (pc base imm : Int) (w : World) :
    Calls Try.prog 11 #[.int .i64 5, .int .u64 pc, .int .u64 base, .int .i64 imm] w fun e w' => e = .returned (.tuple #[.int .u64 (IntKind.u64.wrap (pc + IntKind.u64.wrap imm)), .bool true]) ∧ w = w' := by
  have hcl : classS 5 = 4 := by decide +kernel
  go_enter Try.func11, Try.ntmps11
  go_wp2_with fail
  refine (class_c _ _).mono ?_
  rintro e w' ⟨rfl, rfl⟩
  rw [hcl]
  go_wp2_with fail
  go_ret2
  exact ⟨rfl, rfl⟩
set_option maxHeartbeats 1000000 in
theorem reftarget_5 (pc base imm : Int) (w : World) :
    Calls Try.prog 12 #[.int .i64 5, .int .u64 pc, .int .u64 base, .int .i64 imm] w fun e w' => e = .returned (.tuple #[.int .u64 (IntKind.u64.wrap (pc + IntKind.u64.wrap imm)), .bool true]) ∧ w = w' := by
  go_enter Try.func12, Try.ntmps12
  go_wp2_with fail
  go_ret2
  exact ⟨rfl, rfl⟩
set_option maxHeartbeats 1000000 in
theorem target_6 (pc base imm : Int) (w : World) :
    Calls Try.prog 11 #[.int .i64 6, .int .u64 pc, .int .u64 base, .int .i64 imm] w fun e w' => e = .returned (.tuple #[.int .u64 (IntKind.u64.wrap (pc + IntKind.u64.wrap imm)), .bool true]) ∧ w = w' := by
  have hcl : classS 6 = 4 := by decide +kernel
  go_enter Try.func11, Try.ntmps11
  go_wp2_with fail
  refine (class_c _ _).mono ?_
  rintro e w' ⟨rfl, rfl⟩
  rw [hcl]
  go_wp2_with fail
  go_ret2
  exact ⟨rfl, rfl⟩
set_option maxHeartbeats 1000000 in
theorem reftarget_6 (pc base imm : Int) (w : World) :
    Calls Try.prog 12 #[.int .i64 6, .int .u64 pc, .int .u64 base, .int .i64 imm] w fun e w' => e = .returned (.tuple #[.int .u64 (IntKind.u64.wrap (pc + IntKind.u64.wrap imm)), .bool true]) ∧ w = w' := by
  go_enter Try.func12, Try.ntmps12
  go_wp2_with fail
  go_ret2
  exact ⟨rfl, rfl⟩
set_option maxHeartbeats 1000000 in
theorem target_7 (pc base imm : Int) (w : World) :
    Calls Try.prog 11 #[.int .i64 7, .int .u64 pc, .int .u64 base, .int .i64 imm] w fun e w' => e = .returned (.tuple #[.int .u64 (IntKind.u64.wrap (pc + IntKind.u64.wrap imm)), .bool true]) ∧ w = w' := by
  have hcl : classS 7 = 4 := by decide +kernel
  go_enter Try.func11, Try.ntmps11
  go_wp2_with fail
  refine (class_c _ _).mono ?_
  rintro e w' ⟨rfl, rfl⟩
  rw [hcl]
  go_wp2_with fail
  go_ret2
  exact ⟨rfl, rfl⟩
set_option maxHeartbeats 1000000 in
theorem reftarget_7 (pc base imm : Int) (w : World) :
    Calls Try.prog 12 #[.int .i64 7, .int .u64 pc, .int .u64 base, .int .i64 imm] w fun e w' => e = .returned (.tuple #[.int .u64 (IntKind.u64.wrap (pc + IntKind.u64.wrap imm)), .bool true]) ∧ w = w' := by
  go_enter Try.func12, Try.ntmps12
  go_wp2_with fail
  go_ret2
  exact ⟨rfl, rfl⟩
set_option maxHeartbeats 1000000 in
theorem target_8 (pc base imm : Int) (w : World) :
    Calls Try.prog 11 #[.int .i64 8, .int .u64 pc, .int .u64 base, .int .i64 imm] w fun e w' => e = .returned (.tuple #[.int .u64 (IntKind.u64.wrap (pc + IntKind.u64.wrap imm)), .bool true]) ∧ w = w' := by
  have hcl : classS 8 = 4 := by decide +kernel
  go_enter Try.func11, Try.ntmps11
  go_wp2_with fail
  refine (class_c _ _).mono ?_
  rintro e w' ⟨rfl, rfl⟩
  rw [hcl]
  go_wp2_with fail
  go_ret2
  exact ⟨rfl, rfl⟩
set_option maxHeartbeats 1000000 in
theorem reftarget_8 (pc base imm : Int) (w : World) :
    Calls Try.prog 12 #[.int .i64 8, .int .u64 pc, .int .u64 base, .int .i64 imm] w fun e w' => e = .returned (.tuple #[.int .u64 (IntKind.u64.wrap (pc + IntKind.u64.wrap imm)), .bool true]) ∧ w = w' := by
  go_enter Try.func12, Try.ntmps12
  go_wp2_with fail
  go_ret2
  exact ⟨rfl, rfl⟩
set_option maxHeartbeats 1000000 in
theorem target_9 (pc base imm : Int) (w : World) :
    Calls Try.prog 11 #[.int .i64 9, .int .u64 pc, .int .u64 base, .int .i64 imm] w fun e w' => e = .returned (.tuple #[.int .u64 (IntKind.u64.wrap (pc + IntKind.u64.wrap imm)), .bool true]) ∧ w = w' := by
  have hcl : classS 9 = 4 := by decide +kernel
  go_enter Try.func11, Try.ntmps11
  go_wp2_with fail
  refine (class_c _ _).mono ?_
  rintro e w' ⟨rfl, rfl⟩
  rw [hcl]
  go_wp2_with fail
  go_ret2
  exact ⟨rfl, rfl⟩
set_option maxHeartbeats 1000000 in
theorem reftarget_9 (pc base imm : Int) (w : World) :
    Calls Try.prog 12 #[.int .i64 9, .int .u64 pc, .int .u64 base, .int .i64 imm] w fun e w' => e = .returned (.tuple #[.int .u64 (IntKind.u64.wrap (pc + IntKind.u64.wrap imm)), .bool true]) ∧ w = w' := by
  go_enter Try.func12, Try.ntmps12
  go_wp2_with fail
  go_ret2
  exact ⟨rfl, rfl⟩
set_option maxHeartbeats 1000000 in
theorem target_10 (pc base imm : Int) (w : World) :
    Calls Try.prog 11 #[.int .i64 10, .int .u64 pc, .int .u64 base, .int .i64 imm] w fun e w' => e = .returned (.tuple #[.int .u64 (IntKind.u64.wrap (pc + IntKind.u64.wrap imm)), .bool true]) ∧ w = w' := by
  have hcl : classS 10 = 4 := by decide +kernel
  go_enter Try.func11, Try.ntmps11
  go_wp2_with fail
  refine (class_c _ _).mono ?_
  rintro e w' ⟨rfl, rfl⟩
  rw [hcl]
  go_wp2_with fail
  go_ret2
  exact ⟨rfl, rfl⟩
set_option maxHeartbeats 1000000 in
theorem reftarget_10 (pc base imm : Int) (w : World) :
    Calls Try.prog 12 #[.int .i64 10, .int .u64 pc, .int .u64 base, .int .i64 imm] w fun e w' => e = .returned (.tuple #[.int .u64 (IntKind.u64.wrap (pc + IntKind.u64.wrap imm)), .bool true]) ∧ w = w' := by
  go_enter Try.func12, Try.ntmps12
  go_wp2_with fail
  go_ret2
  exact ⟨rfl, rfl⟩
theorem class4 {op : Int} (h : ¬ (5 ≤ op ∧ op ≤ 10)) : (classS op == 4) = false := by
  have l : ∀ k : Fin 99, ¬ (5 ≤ k.val ∧ k.val ≤ 10) → classL.getD k.val 0 ≠ 4 := by decide +kernel
  unfold classS
  split
  · have := l ⟨op.toNat, by omega⟩ (by simp only; omega)
    simp only at this
    rw [beq_eq_false_iff_ne]
    omega
  · rfl
set_option maxHeartbeats 1000000 in
theorem target_no (op pc base imm : Int) (h : ¬ (5 ≤ op ∧ op ≤ 10)) (h3 : ¬ op = 3) (h4 : ¬ op = 4) (w : World) :
    Calls Try.prog 11 #[.int .i64 op, .int .u64 pc, .int .u64 base, .int .i64 imm] w fun e w' => e = .returned (.tuple #[.int .u64 0, .bool false]) ∧ w = w' := by
  have hc := class4 h
  have e3 : (op == 3) = false := by simpa using h3
  have e4 : (op == 4) = false := by simpa using h4
  clear h h3 h4
  go_enter Try.func11, Try.ntmps11
  go_wp2_with fail
  refine (class_c _ _).mono ?_
  rintro e w' ⟨rfl, rfl⟩
  go_wp2_with fail
  go_ret2
  exact ⟨rfl, rfl⟩
set_option maxHeartbeats 1000000 in
theorem reftarget_no (op pc base imm : Int) (h : ¬ (5 ≤ op ∧ op ≤ 10)) (h3 : ¬ op = 3) (h4 : ¬ op = 4) (w : World) :
    Calls Try.prog 12 #[.int .i64 op, .int .u64 pc, .int .u64 base, .int .i64 imm] w fun e w' => e = .returned (.tuple #[.int .u64 0, .bool false]) ∧ w = w' := by
  have e3 : (op == 3) = false := by simpa using h3
  have e4 : (op == 4) = false := by simpa using h4
  by_cases c : 5 ≤ op
  · have d1 : decide (5 ≤ op) = true := decide_eq_true c
    have d2 : decide (op ≤ 10) = false := decide_eq_false (by omega)
    clear h h3 h4 c
    go_enter Try.func12, Try.ntmps12
    go_wp2_with fail
    go_ret2
    exact ⟨rfl, rfl⟩
  · have d1 : decide (5 ≤ op) = false := decide_eq_false c
    clear h h3 h4 c
    go_enter Try.func12, Try.ntmps12
    go_wp2_with fail
    go_ret2
    exact ⟨rfl, rfl⟩
theorem target_both (op pc base imm : Int) : ∃ v ok, (∀ w : World, Calls Try.prog 11 #[.int .i64 op, .int .u64 pc, .int .u64 base, .int .i64 imm] w fun e w' => e = .returned (.tuple #[.int .u64 v, .bool ok]) ∧ w = w') ∧
    (∀ w : World, Calls Try.prog 12 #[.int .i64 op, .int .u64 pc, .int .u64 base, .int .i64 imm] w fun e w' => e = .returned (.tuple #[.int .u64 v, .bool ok]) ∧ w = w') := by
  by_cases h : 3 ≤ op ∧ op ≤ 10
  · have : op = 3 ∨ op = 4 ∨ op = 5 ∨ op = 6 ∨ op = 7 ∨ op = 8 ∨ op = 9 ∨ op = 10 := by omega
    rcases this with rfl | rfl | rfl | rfl | rfl | rfl | rfl | rfl
    · exact ⟨_, _, fun w => target_3 pc base imm w, fun w => reftarget_3 pc base imm w⟩
    · exact ⟨_, _, fun w => target_4 pc base imm w, fun w => reftarget_4 pc base imm w⟩
    · exact ⟨_, _, fun w => target_5 pc base imm w, fun w => reftarget_5 pc base imm w⟩
    · exact ⟨_, _, fun w => target_6 pc base imm w, fun w => reftarget_6 pc base imm w⟩
    · exact ⟨_, _, fun w => target_7 pc base imm w, fun w => reftarget_7 pc base imm w⟩
    · exact ⟨_, _, fun w => target_8 pc base imm w, fun w => reftarget_8 pc base imm w⟩
    · exact ⟨_, _, fun w => target_9 pc base imm w, fun w => reftarget_9 pc base imm w⟩
    · exact ⟨_, _, fun w => target_10 pc base imm w, fun w => reftarget_10 pc base imm w⟩
  · exact ⟨_, _, fun w => target_no op pc base imm (by omega) (by omega) (by omega) w, fun w => reftarget_no op pc base imm (by omega) (by omega) (by omega) w⟩
theorem up_1 (pc imm : Int) (w : World) :
    Calls Try.prog 13 #[.int .i64 1, .int .u64 pc, .int .i64 imm] w fun e w' => e = .returned (.tuple #[.int .u64 (IntKind.u64.wrap imm), .bool true]) ∧ w = w' := by
  go_enter Try.func13, Try.ntmps13
  go_wp2_with fail
  go_ret2
  exact ⟨rfl, rfl⟩
theorem refup_1 (pc imm : Int) (w : World) :
    Calls Try.prog 14 #[.int .i64 1, .int .u64 pc, .int .i64 imm] w fun e w' => e = .returned (.tuple #[.int .u64 (IntKind.u64.wrap imm), .bool true]) ∧ w = w' := by
  go_enter Try.func14, Try.ntmps14
  go_wp2_with fail
  go_ret2
  exact ⟨rfl, rfl⟩
theorem up_2 (pc imm : Int) (w : World) :
    Calls Try.prog 13 #[.int .i64 2, .int .u64 pc, .int .i64 imm] w fun e w' => e = .returned (.tuple #[.int .u64 (IntKind.u64.wrap (pc + IntKind.u64.wrap imm)), .bool true]) ∧ w = w' := by
  go_enter Try.func13, Try.ntmps13
  go_wp2_with fail
  go_ret2
  exact ⟨rfl, rfl⟩
theorem refup_2 (pc imm : Int) (w : World) :
    Calls Try.prog 14 #[.int .i64 2, .int .u64 pc, .int .i64 imm] w fun e w' => e = .returned (.tuple #[.int .u64 (IntKind.u64.wrap (IntKind.u64.wrap imm + pc)), .bool true]) ∧ w = w' := by
  go_enter Try.func14, Try.ntmps14
  go_wp2_with fail
  go_ret2
  exact ⟨rfl, rfl⟩
theorem up_no (op pc imm : Int) (h1 : ¬ op = 1) (h2 : ¬ op = 2) (w : World) :
    Calls Try.prog 13 #[.int .i64 op, .int .u64 pc, .int .i64 imm] w fun e w' => e = .returned (.tuple #[.int .u64 0, .bool false]) ∧ w = w' := by
  have e3 : (op == 1) = false := by simpa using h1
  have e4 : (op == 2) = false := by simpa using h2
  clear h1 h2
  go_enter Try.func13, Try.ntmps13
  go_wp2_with fail
  go_ret2
  exact ⟨rfl, rfl⟩
theorem refup_no (op pc imm : Int) (h1 : ¬ op = 1) (h2 : ¬ op = 2) (w : World) :
    Calls Try.prog 14 #[.int .i64 op, .int .u64 pc, .int .i64 imm] w fun e w' => e = .returned (.tuple #[.int .u64 0, .bool false]) ∧ w = w' := by
  have e3 : (op == 1) = false := by simpa using h1
  have e4 : (op == 2) = false := by simpa using h2
  clear h1 h2
  go_enter Try.func14, Try.ntmps14
  go_wp2_with fail
  go_ret2
  exact ⟨rfl, rfl⟩
theorem up_both (op pc imm : Int) : ∃ v ok, (∀ w : World, Calls Try.prog 13 #[.int .i64 op, .int .u64 pc, .int .i64 imm] w fun e w' => e = .returned (.tuple #[.int .u64 v, .bool ok]) ∧ w = w') ∧
    (∀ w : World, Calls Try.prog 14 #[.int .i64 op, .int .u64 pc, .int .i64 imm] w fun e w' => e = .returned (.tuple #[.int .u64 v, .bool ok]) ∧ w = w') := by
  by_cases h1 : op = 1
  · subst h1; exact ⟨_, _, fun w => up_1 pc imm w, fun w => refup_1 pc imm w⟩
  · by_cases h2 : op = 2
    · subst h2; exact ⟨_, _, fun w => up_2 pc imm w, fun w => by rw [Int.add_comm]; exact refup_2 pc imm w⟩
    · exact ⟨_, _, fun w => up_no op pc imm h1 h2 w, fun w => refup_no op pc imm h1 h2 w⟩
end Go.Proofs.Ytahamhpibjlgnaa
