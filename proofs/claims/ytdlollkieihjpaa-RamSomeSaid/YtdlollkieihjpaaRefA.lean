/-
  Contracts of the reference of layer 1: Bit, Of, in.
-/
import Derived.Test.YtdlollkieihjpaaBits
namespace Go.Proofs.Ytdlollkieihjpaa
open Go.ChangeShapes Go.WideShapes Go.ChangeAt Go.RowKit Wd

def bi (b : Bool) : Int := if b then 1 else 0
theorem bi_range (b : Bool) : 0 ≤ bi b ∧ bi b ≤ 1 := by cases b <;> simp [bi]
def tbI (x i : Int) : Bool := decide (0 ≤ i ∧ i ≤ 63) && tb x i.toNat
theorem tbI_nat (x : Int) (k : Nat) (h : k < 64) : tbI x k = tb x k := by
  unfold tbI
  have : (0 : Int) ≤ k ∧ (k : Int) ≤ 63 := by omega
  simp [this]
theorem bi_bit {x : Int} (h0 : 0 ≤ x) (k : Nat) (hk : k < 64) : x / 2 ^ k % 2 = bi (tbI x k) := by
  rw [tbI_nat x k hk]
  unfold tb
  rw [Nat.testBit_eq_decide_div_mod_eq]
  obtain ⟨X, rfl⟩ := Int.eq_ofNat_of_zero_le h0
  rw [Int.toNat_natCast, pow_cast, ← Int.natCast_ediv]
  unfold bi
  generalize X / 2 ^ k = q
  by_cases c : q % 2 = 1
  · simp [c]; omega
  · simp [c]; omega

/-! ### Of -/
def bl (f : Nat → Bool) (k : Nat) : List Value := (List.range k).map fun j => Value.int .u64 (bi (f j))
theorem bl_len (f : Nat → Bool) (k : Nat) : (bl f k).length = k := by simp [bl]
theorem bl_succ (f : Nat → Bool) (k : Nat) : bl f (k + 1) = bl f k ++ [.int .u64 (bi (f k))] := by simp [bl, List.range_succ]
theorem bl_at (f : Nat → Bool) (k j : Nat) (h : j < k) : (bl f k)[j]? = some (.int .u64 (bi (f j))) := by simp [bl, h]

theorem of_step (f : Nat → Bool) (n k : Nat) (hk : k < n) : 2 * (((sumTo f n : Nat) : Int) / 2 ^ (k + 1)) + bi (f k) = ((sumTo f n : Nat) : Int) / 2 ^ k := by
  have h := testBit_sumTo f n k
  rw [Nat.testBit_eq_decide_div_mod_eq] at h
  simp only [hk, decide_true, Bool.true_and] at h
  rw [pow_cast, pow_cast, ← Int.natCast_ediv, ← Int.natCast_ediv, Nat.pow_succ, ← Nat.div_div_eq_div_mul]
  generalize sumTo f n / 2 ^ k = q at *
  rw [← h]
  unfold bi
  by_cases c : q % 2 = 1
  · simp [c]; omega
  · simp [c]; omega
theorem of_range (f : Nat → Bool) (n : Nat) (hn : n ≤ 64) (k : Nat) : 0 ≤ ((sumTo f n : Nat) : Int) / 2 ^ k ∧ ((sumTo f n : Nat) : Int) / 2 ^ k < 18446744073709551616 := by
  apply div_range (by omega)
  have a := sumTo_lt f n
  have b : 2 ^ n ≤ 2 ^ 64 := Nat.pow_le_pow_right (by decide) hn
  omega
theorem of_end (f : Nat → Bool) (n : Nat) : ((sumTo f n : Nat) : Int) / 2 ^ n = 0 := by
  have a := sumTo_lt f n
  rw [pow_cast, ← Int.natCast_ediv, Nat.div_eq_of_lt a]
  rfl
theorem of_wrap {a b c : Int} (h : 2 * a + b = c) (h0 : 0 ≤ c) (h1 : c < 18446744073709551616) : IntKind.u64.wrap (IntKind.u64.wrap (2 * a) + b) = c := by
  rw [IntKind.wrap_u64, IntKind.wrap_u64]; omega

end Go.Proofs.Ytdlollkieihjpaa
