/-
  Plain numbers, and contracts of the reference's digits and word (layer 2).
-/
import Derived.Test.YtgfdielipbcfeaaQuot
namespace Go.Proofs.Ytgfdielipbcfeaa
open Go.ChangeShapes Go.WideShapes Go.ChangeAt Go.RowKit Wd

def val : List Nat → Nat
  | [] => 0
  | d :: ds => d + 65536 * val ds
theorem val_set (L : List Nat) (A d : Nat) (h : A < L.length) : val (L.set A d) + L[A] * 65536 ^ A = val L + d * 65536 ^ A := by
  induction L generalizing A with
  | nil => simp at h
  | cons x xs ih =>
    cases A with
    | zero => simp [val]; omega
    | succ A =>
      have hA : A < xs.length := by simpa using h
      have := ih A hA
      simp only [List.set_cons_succ, val, List.getElem_cons_succ, Nat.pow_succ]
      have e1 : xs[A] * (65536 ^ A * 65536) = 65536 * (xs[A] * 65536 ^ A) := by rw [← Nat.mul_assoc, Nat.mul_comm]
      have e2 : d * (65536 ^ A * 65536) = 65536 * (d * 65536 ^ A) := by rw [← Nat.mul_assoc, Nat.mul_comm]
      rw [e1, e2]
      omega
def dg (a i : Nat) : Nat := a / 65536 ^ i % 65536
theorem dg_lt (a i : Nat) : dg a i < 65536 := Nat.mod_lt _ (by decide)
theorem mod_succ (a i : Nat) : a % 65536 ^ (i + 1) = a % 65536 ^ i + 65536 ^ i * dg a i := Nat.mod_pow_succ
def part (a b i k : Nat) : Nat := (a % 65536 ^ i) * b + dg a i * 65536 ^ i * (b % 65536 ^ k)
theorem part_step (a b i k : Nat) : part a b i k + dg a i * dg b k * 65536 ^ (i + k) = part a b i (k + 1) := by
  unfold part
  rw [mod_succ b k, Nat.mul_add, Nat.pow_add]
  have : dg a i * dg b k * (65536 ^ i * 65536 ^ k) = dg a i * 65536 ^ i * (65536 ^ k * dg b k) := by
    rw [Nat.mul_mul_mul_comm, Nat.mul_comm (dg b k)]
  omega
theorem part_row {a b : Nat} (hb : b < 65536 ^ 4) (i : Nat) : part a b i 4 = part a b (i + 1) 0 := by
  unfold part
  rw [Nat.mod_eq_of_lt hb, Nat.pow_zero, Nat.mod_one, Nat.mul_zero, Nat.add_zero, mod_succ, Nat.add_mul, Nat.mul_comm (65536 ^ i)]
theorem part_le (a b i k : Nat) : part a b i k ≤ a * b := by
  unfold part
  have h1 : b % 65536 ^ k ≤ b := Nat.mod_le _ _
  have h2 : dg a i * 65536 ^ i * (b % 65536 ^ k) ≤ dg a i * 65536 ^ i * b := Nat.mul_le_mul_left _ h1
  have h3 : (a % 65536 ^ i) * b + dg a i * 65536 ^ i * b = (a % 65536 ^ (i + 1)) * b := by rw [mod_succ, Nat.add_mul, Nat.mul_comm (65536 ^ i)]
  have h4 : (a % 65536 ^ (i + 1)) * b ≤ a * b := Nat.mul_le_mul_right _ (Nat.mod_le _ _)
  omega
theorem part_zero (a b : Nat) : part a b 0 0 = 0 := by
  unfold part
  simp [Nat.mod_one]
theorem part_all {a b : Nat} (ha : a < 65536 ^ 4) : part a b 4 0 = a * b := by
  unfold part
  rw [Nat.mod_eq_of_lt ha, Nat.pow_zero, Nat.mod_one, Nat.mul_zero, Nat.add_zero]
theorem prod_lt {a b : Nat} (ha : a < 65536 ^ 4) (hb : b < 65536 ^ 4) : a * b < 65536 ^ 8 := by
  have : a * b < 65536 ^ 4 * 65536 ^ 4 := Nat.mul_lt_mul'' ha hb
  rwa [← Nat.pow_add] at this
/-- One round of the carry. -/
theorem carry_step {L : List Nat} {A n : Nat} (h : A < L.length) : val (L.set A ((n + L[A]) % 65536)) + (n + L[A]) / 65536 * 65536 ^ (A + 1) = val L + n * 65536 ^ A := by
  have e := val_set L A ((n + L[A]) % 65536) h
  have h1 := Nat.mod_add_div (n + L[A]) 65536
  have e2 : (n + L[A]) / 65536 * 65536 ^ (A + 1) = 65536 * ((n + L[A]) / 65536) * 65536 ^ A := by
    rw [Nat.pow_succ, Nat.mul_comm 65536, Nat.mul_assoc, Nat.mul_comm 65536]
  rw [e2]
  generalize (n + L[A]) % 65536 = r at *
  generalize 65536 * ((n + L[A]) / 65536) = q at *
  have e3 : r * 65536 ^ A + q * 65536 ^ A = n * 65536 ^ A + L[A] * 65536 ^ A := by rw [← Nat.add_mul, h1, Nat.add_mul]
  omega

set_option maxHeartbeats 400000 in
theorem digits_c (a : Nat) (w : World) (h : a < 18446744073709551616) :
    Calls Try.prog 48 #[.int .u64 a] w fun e w' => e = .returned (.slice (some ⟨w.heap.size, 0, none⟩) 4 4) ∧ w.alloc (.cells #[.int .u64 (dg a 0), .int .u64 (dg a 1), .int .u64 (dg a 2), .int .u64 (dg a 3)] 22) = w' := by
  have e0 : ((dg a 0 : Nat) : Int) = (a : Int) % 65536 := by unfold dg; omega
  have e1 : ((dg a 1 : Nat) : Int) = (a : Int) / 65536 % 65536 := by unfold dg; omega
  have e2 : ((dg a 2 : Nat) : Int) = (a : Int) / 4294967296 % 65536 := by unfold dg; omega
  have e3 : ((dg a 3 : Nat) : Int) = (a : Int) / 281474976710656 := by unfold dg; omega
  rw [e0, e1, e2, e3]
  clear e0 e1 e2 e3
  go_enter Try.func48, Try.ntmps48
  go_wp2
  go_ret
  exact ⟨rfl, rfl⟩

def wordOf4 (d0 d1 d2 d3 : Int) : Int := ((d3 * 65536 + d2) * 65536 + d1) * 65536 + d0
set_option maxHeartbeats 1000000 in
theorem wordAt_c (d0 d1 d2 d3 : Int) (g A n cap : Nat) (w : World) (a0 : 0 ≤ d0) (b0 : d0 < 65536) (a1 : 0 ≤ d1) (b1 : d1 < 65536) (a2 : 0 ≤ d2) (b2 : d2 < 65536) (a3 : 0 ≤ d3) (b3 : d3 < 65536) (hA : A + 4 ≤ n) (hn : n ≤ 8)
    (c0 : w.cell? ⟨g, A, none⟩ = some (.int .u64 d0)) (c1 : w.cell? ⟨g, A + 1, none⟩ = some (.int .u64 d1)) (c2 : w.cell? ⟨g, A + 2, none⟩ = some (.int .u64 d2)) (c3 : w.cell? ⟨g, A + 3, none⟩ = some (.int .u64 d3)) :
    Calls Try.prog 49 #[.slice (some ⟨g, 0, none⟩) n cap, .int .i64 A] w fun e w' => e = .returned (.int .u64 (wordOf4 d0 d1 d2 d3)) ∧ w = w' := by
  unfold wordOf4
  obtain ⟨y2, h2⟩ : ∃ y : Int, y = d3 * 65536 + d2 := ⟨_, rfl⟩
  have y20 : 0 ≤ y2 := by omega
  have y21 : y2 < 4294967296 := by omega
  obtain ⟨y1, h1⟩ : ∃ y : Int, y = y2 * 65536 + d1 := ⟨_, rfl⟩
  have y10 : 0 ≤ y1 := by omega
  have y11 : y1 < 281474976710656 := by omega
  rw [← h2, ← h1]
  have H2 := Lib.hid h2
  have H1 := Lib.hid h1
  clear h1 h2
  go_enter Try.func49, Try.ntmps49
  go_wp2
  go_loop [5, 6] (fun t i => (i = .int .i64 (-1) ∧ t = .int .u64 (y1 * 65536 + d0)) ∨ (i = .int .i64 0 ∧ t = .int .u64 y1) ∨ (i = .int .i64 1 ∧ t = .int .u64 y2) ∨ (i = .int .i64 2 ∧ t = .int .u64 d3) ∨ (i = .int .i64 3 ∧ t = .int .u64 0)) (fun _ i => (intOf i + 1).toNat)
  case atStart => exact .inr (.inr (.inr (.inr ⟨rfl, rfl⟩)))
  case round =>
    rcases hrel with ⟨rfl, rfl⟩ | ⟨rfl, rfl⟩ | ⟨rfl, rfl⟩ | ⟨rfl, rfl⟩ | ⟨rfl, rfl⟩
    · go_wp2
      go_ret
      exact ⟨rfl, rfl⟩
    · go_wp2
      go_round
      case rel => exact .inl ⟨rfl, rfl⟩
      case measure => simp [intOf]
    · go_wp2
      go_round
      case rel => exact .inr (.inl ⟨rfl, by rw [H1.out]⟩)
      case measure => simp [intOf]
    · go_wp2
      go_round
      case rel => exact .inr (.inr (.inl ⟨rfl, by rw [H2.out]⟩))
      case measure => simp [intOf]
    · go_wp2
      go_round
      case rel => exact .inr (.inr (.inr (.inl ⟨rfl, rfl⟩)))
      case measure => simp [intOf]
end Go.Proofs.Ytgfdielipbcfeaa
