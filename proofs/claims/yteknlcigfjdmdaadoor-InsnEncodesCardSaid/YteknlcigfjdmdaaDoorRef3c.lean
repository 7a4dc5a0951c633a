/-
  The contract of the reference's masked (layer 3): the bits of a word that a mask has, the lowest 32.
-/
import Derived.Test.YteknlcigfjdmdaaDoorRefC
namespace Go.Proofs.YteknlcigfjdmdaaDoor
open Go.ChangeShapes Go.WideShapes Go.ChangeAt Go.RowKit Wd

def maskedS (x m : Int) : Int := ((x.toNat &&& m.toNat) % 2 ^ 32 : Nat)
theorem masked_step (X M k : Nat) : (X &&& M) % 2 ^ (k + 1) = (X &&& M) % 2 ^ k + (if X / 2 ^ k % 2 = 1 ∧ M / 2 ^ k % 2 = 1 then 2 ^ k else 0) := by
  have h := Nat.mod_pow_succ (b := 2) (k := k) (x := X &&& M)
  have t : (X &&& M).testBit k = (X.testBit k && M.testBit k) := Nat.testBit_and _ _ _
  rw [Nat.testBit_eq_decide_div_mod_eq, Nat.testBit_eq_decide_div_mod_eq, Nat.testBit_eq_decide_div_mod_eq] at t
  rw [h]
  by_cases c : X / 2 ^ k % 2 = 1 ∧ M / 2 ^ k % 2 = 1
  · rw [if_pos c]
    have : (X &&& M) / 2 ^ k % 2 = 1 := by simpa [c.1, c.2] using t
    rw [this, Nat.mul_one]
  · rw [if_neg c]
    have : ¬ (X &&& M) / 2 ^ k % 2 = 1 := by
      intro h1
      simp [h1] at t
      exact c t
    have h0 : (X &&& M) / 2 ^ k % 2 = 0 := by omega
    rw [h0, Nat.mul_zero]
theorem masked_lt (X M k : Nat) : (X &&& M) % 2 ^ k < 2 ^ k := Nat.mod_lt _ (Nat.two_pow_pos k)
set_option maxHeartbeats 1000000 in
theorem refMasked_nat (X M : Nat) (w : World) (hX : X < 18446744073709551616) (hM : M < 18446744073709551616) :
    Calls Tryd.prog 16 #[.int .u64 X, .int .u64 M] w fun e w' => e = .returned (.int .u64 (((X &&& M) % 2 ^ 32 : Nat) : Int)) ∧ w = w' := by
  go_enter Tryd.func16, Tryd.ntmps16
  go_wp2
  go_loop [0, 1, 5, 6, 7] (fun x m o t i => ∃ k : Nat, k ≤ 32 ∧ i = .int .i64 k ∧ x = .int .u64 ((X / 2 ^ k : Nat) : Int) ∧ m = .int .u64 ((M / 2 ^ k : Nat) : Int) ∧ o = .int .u64 (((X &&& M) % 2 ^ k : Nat) : Int) ∧ t = .int .u64 ((2 ^ k : Nat) : Int)) (fun _ _ _ _ i => 32 - (intOf i).toNat)
  case atStart => exact ⟨0, by omega, rfl, by simp, by simp, by simp [Nat.mod_one], by simp⟩
  case round =>
    obtain ⟨k, hk, rfl, rfl, rfl, rfl, rfl⟩ := hrel
    by_cases hlt : k < 32
    · have hp : 2 ^ k ≤ 2 ^ 31 := Nat.pow_le_pow_right (by decide) (by omega)
      have hp0 : 0 < 2 ^ k := Nat.two_pow_pos k
      have hst := masked_step X M k
      have ho := masked_lt X M k
      have e1 : X / 2 ^ (k + 1) = X / 2 ^ k / 2 := by rw [Nat.pow_succ, Nat.div_div_eq_div_mul]
      have e2 : M / 2 ^ (k + 1) = M / 2 ^ k / 2 := by rw [Nat.pow_succ, Nat.div_div_eq_div_mul]
      have e3 : 2 ^ (k + 1) = 2 ^ k * 2 := Nat.pow_succ _ _
      have x1 : X / 2 ^ k < 18446744073709551616 := Nat.lt_of_le_of_lt (Nat.div_le_self _ _) hX
      have m1 : M / 2 ^ k < 18446744073709551616 := Nat.lt_of_le_of_lt (Nat.div_le_self _ _) hM
      generalize X / 2 ^ k = x at *
      generalize M / 2 ^ k = m at *
      generalize (X &&& M) % 2 ^ k = o at *
      generalize 2 ^ k = p at *
      have HE := Lib.hid (And.intro e1 (And.intro e2 (And.intro e3 hst)))
      clear e1 e2 e3 hst
      by_cases c1 : x % 2 = 1
      · by_cases c2 : m % 2 = 1
        · have g1 : (((x : Int) % 2) == 1) = true := by simp; omega
          have g2 : (((m : Int) % 2) == 1) = true := by simp; omega
          go_wp2
          go_round
          case rel => exact ⟨k + 1, by omega, by go_num, congrArg (Value.int .u64) (by rw [HE.out.1]; omega), congrArg (Value.int .u64) (by rw [HE.out.2.1]; omega), congrArg (Value.int .u64) (by rw [HE.out.2.2.2, if_pos ⟨c1, c2⟩]; omega), congrArg (Value.int .u64) (by rw [HE.out.2.2.1]; omega)⟩
          case measure => simp [intOf]; omega
        · have g1 : (((x : Int) % 2) == 1) = true := by simp; omega
          have g2 : (((m : Int) % 2) == 1) = false := by simp; omega
          go_wp2
          go_round
          case rel => exact ⟨k + 1, by omega, by go_num, congrArg (Value.int .u64) (by rw [HE.out.1]; omega), congrArg (Value.int .u64) (by rw [HE.out.2.1]; omega), congrArg (Value.int .u64) (by rw [HE.out.2.2.2, if_neg (fun h => c2 h.2)]; omega), congrArg (Value.int .u64) (by rw [HE.out.2.2.1]; omega)⟩
          case measure => simp [intOf]; omega
      · have g1 : (((x : Int) % 2) == 1) = false := by simp; omega
        go_wp2
        go_round
        case rel => exact ⟨k + 1, by omega, by go_num, congrArg (Value.int .u64) (by rw [HE.out.1]; omega), congrArg (Value.int .u64) (by rw [HE.out.2.1]; omega), congrArg (Value.int .u64) (by rw [HE.out.2.2.2, if_neg (fun h => c1 h.1)]; omega), congrArg (Value.int .u64) (by rw [HE.out.2.2.1]; omega)⟩
        case measure => simp [intOf]; omega
    · obtain rfl : k = 32 := by omega
      go_wp2
      go_ret
      exact ⟨rfl, rfl⟩
theorem refMasked_c (x m : Int) (w : World) (hx0 : 0 ≤ x) (hx : x < 18446744073709551616) (hm0 : 0 ≤ m) (hm : m < 18446744073709551616) :
    Calls Tryd.prog 16 #[.int .u64 x, .int .u64 m] w fun e w' => e = .returned (.int .u64 (maskedS x m)) ∧ w = w' := by
  obtain ⟨X, rfl⟩ := Int.eq_ofNat_of_zero_le hx0
  obtain ⟨M, rfl⟩ := Int.eq_ofNat_of_zero_le hm0
  exact refMasked_nat X M w (by omega) (by omega)
end Go.Proofs.YteknlcigfjdmdaaDoor
