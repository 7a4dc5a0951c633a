/-
  Contracts of the reference of layer 1: Bit, Of, in.
-/
import Derived.Test.YtmieabafiijfjaaDoorBits
set_option maxRecDepth 4000
namespace Go.Proofs.YtmieabafiijfjaaDoor
open Go.ChangeShapes Go.WideShapes Go.ChangeAt Go.RowKit Wd

def bi (b : Bool) : Int := if b then 1 else 0
theorem bi_range (b : Bool) : 0 ≤ bi b ∧ bi b ≤ 1 := by cases b <;> simp [bi]
def tbI (x i : Int) : Bool := decide (0 ≤ i ∧ i ≤ 63) && tb x i.toNat
theorem tbI_nat (x : Int) (k : Nat) (h : k < 64) : tbI x k = tb x k := by
  unfold tbI
  have : (0 : Int) ≤ k ∧ (k : Int) ≤ 63 := by omega
  simp [this]
theorem bi_bit {x : Int} (h0 : 0 ≤ x) (k : Nat) (hk : k < 64) : x / 2 ^ k % 2 = bi (tbI x k) := by
  rw [tbI_nat x k hk]
  unfold tb
  rw [Nat.testBit_eq_decide_div_mod_eq]
  obtain ⟨X, rfl⟩ := Int.eq_ofNat_of_zero_le h0
  rw [Int.toNat_natCast, pow_cast, ← Int.natCast_ediv]
  unfold bi
  generalize X / 2 ^ k = q
  by_cases c : q % 2 = 1
  · simp [c]; omega
  · simp [c]; omega

set_option maxHeartbeats 400000 in
theorem bit_c (x i : Int) (w : World) (hx0 : 0 ≤ x) (hx : x < 18446744073709551616) :
    Calls Tryd.prog 26 #[.int .u64 x, .int .i64 i] w fun e w' => e = .returned (.int .u64 (bi (tbI x i))) ∧ w = w' := by
  by_cases h1 : i < 0
  · have e : bi (tbI x i) = 0 := by
      have : ¬ (0 ≤ i ∧ i ≤ 63) := by omega
      simp [tbI, this, bi]
    have H := Lib.hid e
    clear e
    go_enter Tryd.func26, Tryd.ntmps26
    go_wp2
    go_ret
    exact ⟨ret_u H.out.symm, rfl⟩
  · by_cases h2 : 63 < i
    · have e : bi (tbI x i) = 0 := by
        have : ¬ (0 ≤ i ∧ i ≤ 63) := by omega
        simp [tbI, this, bi]
      have H := Lib.hid e
      clear e
      go_enter Tryd.func26, Tryd.ntmps26
      go_wp2
      go_ret
      exact ⟨ret_u H.out.symm, rfl⟩
    · obtain ⟨n, rfl⟩ := Int.eq_ofNat_of_zero_le (a := i) (by omega)
      have hn : n ≤ 63 := by omega
      have H := Lib.hid (bi_bit hx0 n (by omega))
      clear h1 h2
      go_enter Tryd.func26, Tryd.ntmps26
      go_wp2
      go_loop [0, 5] (fun t i => ∃ k : Nat, k ≤ n ∧ i = .int .i64 k ∧ t = .int .u64 (x / 2 ^ k)) (fun _ i => n - (intOf i).toNat)
      case atStart => exact ⟨0, Nat.zero_le _, rfl, by simp⟩
      case round =>
        obtain ⟨k, hk, rfl, rfl⟩ := hrel
        have hd := div_range hx0 hx k
        obtain ⟨hd0, hd1⟩ := hd
        by_cases hlt : k < n
        · have hE := Lib.hid (show x / 2 ^ k / 2 = x / 2 ^ (k + 1) from by rw [Int.pow_succ, Int.ediv_ediv_of_nonneg (Int.le_of_lt (Int.pow_pos (by decide)))])
          go_wp2
          go_round
          case rel => exact ⟨k + 1, by omega, by go_num, by rw [hE.out]⟩
          case measure => simp [intOf]; omega
        · obtain rfl : n = k := by omega
          go_wp2
          go_ret
          exact ⟨ret_u H.out, rfl⟩

/-! ### Of -/
def bl (f : Nat → Bool) (k : Nat) : List Value := (List.range k).map fun j => Value.int .u64 (bi (f j))
theorem bl_len (f : Nat → Bool) (k : Nat) : (bl f k).length = k := by simp [bl]
theorem bl_succ (f : Nat → Bool) (k : Nat) : bl f (k + 1) = bl f k ++ [.int .u64 (bi (f k))] := by simp [bl, List.range_succ]
theorem bl_at (f : Nat → Bool) (k j : Nat) (h : j < k) : (bl f k)[j]? = some (.int .u64 (bi (f j))) := by simp [bl, h]

theorem of_step (f : Nat → Bool) (n k : Nat) (hk : k < n) : 2 * (((sumTo f n : Nat) : Int) / 2 ^ (k + 1)) + bi (f k) = ((sumTo f n : Nat) : Int) / 2 ^ k := by
  have h := testBit_sumTo f n k
  rw [Nat.testBit_eq_decide_div_mod_eq] at h
  simp only [hk, decide_true, Bool.true_and] at h
  rw [pow_cast, pow_cast, ← Int.natCast_ediv, ← Int.natCast_ediv, Nat.pow_succ, ← Nat.div_div_eq_div_mul]
  generalize sumTo f n / 2 ^ k = q at *
  rw [← h]
  unfold bi
  by_cases c : q % 2 = 1
  · simp [c]; omega
  · simp [c]; omega
theorem of_range (f : Nat → Bool) (n : Nat) (hn : n ≤ 64) (k : Nat) : 0 ≤ ((sumTo f n : Nat) : Int) / 2 ^ k ∧ ((sumTo f n : Nat) : Int) / 2 ^ k < 18446744073709551616 := by
  apply div_range (by omega)
  have a := sumTo_lt f n
  have b : 2 ^ n ≤ 2 ^ 64 := Nat.pow_le_pow_right (by decide) hn
  omega
theorem of_end (f : Nat → Bool) (n : Nat) : ((sumTo f n : Nat) : Int) / 2 ^ n = 0 := by
  have a := sumTo_lt f n
  rw [pow_cast, ← Int.natCast_ediv, Nat.div_eq_of_lt a]
  rfl
theorem of_wrap {a b c : Int} (h : 2 * a + b = c) (h0 : 0 ≤ c) (h1 : c < 18446744073709551616) : IntKind.u64.wrap (IntKind.u64.wrap (2 * a) + b) = c := by
  rw [IntKind.wrap_u64, IntKind.wrap_u64]; omega

set_option maxHeartbeats 400000 in
theorem of_c (f : Nat → Bool) (n : Nat) (v : Value) (base : Nat) (w : World) (h0 : 0 < n) (hn : n ≤ 64) (hown : w.ownsRow base 22 1 v n (bl f n)) :
    Calls Tryd.prog 27 #[v] w fun e w' => e = .returned (.int .u64 ((sumTo f n : Nat) : Int)) ∧ w = w' := by
  obtain ⟨g, cap, cur, rfl, hb, hg, hcap, hmax, hcs, htake⟩ := hown.2.resolve_left (fun h => by omega)
  have hcell : ∀ j, j < n → w.cell? ⟨g, j, none⟩ = some (.int .u64 (bi (f j))) := fun j hj => by
    rw [hown.cellAt j (by omega), bl_at f n j hj]
  have HC := Lib.hid hcell
  clear hcell hg hcs htake hb hmax
  have HO := Lib.hid hown
  clear hown
  go_enter Tryd.func27, Tryd.ntmps27
  go_wp2
  go_loop [3, 4] (fun t i => ∃ k : Nat, k ≤ n ∧ i = .int .i64 ((k : Int) - 1) ∧ t = .int .u64 (((sumTo f n : Nat) : Int) / 2 ^ k)) (fun _ i => ((intOf i) + 1).toNat)
  case atStart => exact ⟨n, Nat.le_refl _, rfl, by rw [of_end]⟩
  case round =>
    obtain ⟨k, hk, rfl, rfl⟩ := hrel
    rcases k with _ | k
    · go_wp2
      go_ret
      exact ⟨ret_u (by simp), rfl⟩
    · have hc := HC.out k (by omega)
      have hs := of_step f n k (by omega)
      obtain ⟨hr0, hr1⟩ := of_range f n hn k
      have hE := Lib.hid (of_wrap hs hr0 hr1)
      clear hs hr0 hr1
      have hi : (((k + 1 : Nat) : Int) - 1) = k := by omega
      rw [hi]
      go_wp2
      go_round
      case rel => exact ⟨k, by omega, rfl, by rw [hE.out]⟩
      case measure => simp [intOf]
end Go.Proofs.YtmieabafiijfjaaDoor
