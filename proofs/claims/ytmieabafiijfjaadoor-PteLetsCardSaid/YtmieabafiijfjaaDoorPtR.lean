/-
  The reference of layer 25: an entry's bits by their letters, its frame's number.
-/
import Derived.Test.YtmieabafiijfjaaDoorStaA
import Derived.Test.YtmieabafiijfjaaDoorRefC
import Derived.Test.YtmieabafiijfjaaDoorRow
set_option maxRecDepth 4000
namespace Go.Proofs.YtmieabafiijfjaaDoor
open Go.ChangeShapes Go.WideShapes Go.ChangeAt Go.RowKit Wd Csr Sta

set_option maxHeartbeats 1000000 in
theorem ebit_V (p : Int) (hp : W64 p) (w : World) : Calls Tryd.prog 17 #[.int .u64 p, .int .u8 86] w fun e w' => e = .returned (.bool (tb p 0)) ∧ w = w' := by
  have HB := Lib.hid (fun W => bit_c p ((0 : Nat) : Int) W hp.1 hp.2)
  rw [tbI_nat p 0 (by omega)] at HB
  clear hp
  generalize tb p 0 = x at *
  go_enter Tryd.func17, Tryd.ntmps17
  go_wp2_with fail
  go_loopw [6] (fun i wr => ∃ k : Nat, k ≤ 0 ∧ i = .int .i64 k ∧ w = wr) (fun i _ => 1 - (intOf i).toNat)
  case atStart => exact ⟨0, Nat.zero_le _, rfl, rfl⟩
  case round =>
    obtain ⟨k, hk, rfl, rfl⟩ := hrel
    obtain rfl : k = 0 := by omega
    · cases x
      all_goals
        go_wp2_with fail
        refine (HB.out _).mono ?_
        rintro e w2 ⟨rfl, rfl⟩
        go_wp2_with fail
        go_ret
        exact ⟨rfl, rfl⟩
set_option maxHeartbeats 1000000 in
theorem ebit_R (p : Int) (hp : W64 p) (w : World) : Calls Tryd.prog 17 #[.int .u64 p, .int .u8 82] w fun e w' => e = .returned (.bool (tb p 1)) ∧ w = w' := by
  have HB := Lib.hid (fun W => bit_c p ((1 : Nat) : Int) W hp.1 hp.2)
  rw [tbI_nat p 1 (by omega)] at HB
  clear hp
  generalize tb p 1 = x at *
  go_enter Tryd.func17, Tryd.ntmps17
  go_wp2_with fail
  go_loopw [6] (fun i wr => ∃ k : Nat, k ≤ 1 ∧ i = .int .i64 k ∧ w = wr) (fun i _ => 2 - (intOf i).toNat)
  case atStart => exact ⟨0, Nat.zero_le _, rfl, rfl⟩
  case round =>
    obtain ⟨k, hk, rfl, rfl⟩ := hrel
    obtain rfl | rfl : k = 0 ∨ k = 1 := by omega
    · go_wp2_with fail
      go_roundw
      case rel => exact ⟨1, by omega, rfl, by trivial⟩
      case measure => simp [intOf]
    · cases x
      all_goals
        go_wp2_with fail
        refine (HB.out _).mono ?_
        rintro e w2 ⟨rfl, rfl⟩
        go_wp2_with fail
        go_ret
        exact ⟨rfl, rfl⟩
set_option maxHeartbeats 1000000 in
theorem ebit_W (p : Int) (hp : W64 p) (w : World) : Calls Tryd.prog 17 #[.int .u64 p, .int .u8 87] w fun e w' => e = .returned (.bool (tb p 2)) ∧ w = w' := by
  have HB := Lib.hid (fun W => bit_c p ((2 : Nat) : Int) W hp.1 hp.2)
  rw [tbI_nat p 2 (by omega)] at HB
  clear hp
  generalize tb p 2 = x at *
  go_enter Tryd.func17, Tryd.ntmps17
  go_wp2_with fail
  go_loopw [6] (fun i wr => ∃ k : Nat, k ≤ 2 ∧ i = .int .i64 k ∧ w = wr) (fun i _ => 3 - (intOf i).toNat)
  case atStart => exact ⟨0, Nat.zero_le _, rfl, rfl⟩
  case round =>
    obtain ⟨k, hk, rfl, rfl⟩ := hrel
    obtain rfl | rfl | rfl : k = 0 ∨ k = 1 ∨ k = 2 := by omega
    · go_wp2_with fail
      go_roundw
      case rel => exact ⟨1, by omega, rfl, by trivial⟩
      case measure => simp [intOf]
    · go_wp2_with fail
      go_roundw
      case rel => exact ⟨2, by omega, rfl, by trivial⟩
      case measure => simp [intOf]
    · cases x
      all_goals
        go_wp2_with fail
        refine (HB.out _).mono ?_
        rintro e w2 ⟨rfl, rfl⟩
        go_wp2_with fail
        go_ret
        exact ⟨rfl, rfl⟩
set_option maxHeartbeats 1000000 in
theorem ebit_X (p : Int) (hp : W64 p) (w : World) : Calls Tryd.prog 17 #[.int .u64 p, .int .u8 88] w fun e w' => e = .returned (.bool (tb p 3)) ∧ w = w' := by
  have HB := Lib.hid (fun W => bit_c p ((3 : Nat) : Int) W hp.1 hp.2)
  rw [tbI_nat p 3 (by omega)] at HB
  clear hp
  generalize tb p 3 = x at *
  go_enter Tryd.func17, Tryd.ntmps17
  go_wp2_with fail
  go_loopw [6] (fun i wr => ∃ k : Nat, k ≤ 3 ∧ i = .int .i64 k ∧ w = wr) (fun i _ => 4 - (intOf i).toNat)
  case atStart => exact ⟨0, Nat.zero_le _, rfl, rfl⟩
  case round =>
    obtain ⟨k, hk, rfl, rfl⟩ := hrel
    obtain rfl | rfl | rfl | rfl : k = 0 ∨ k = 1 ∨ k = 2 ∨ k = 3 := by omega
    · go_wp2_with fail
      go_roundw
      case rel => exact ⟨1, by omega, rfl, by trivial⟩
      case measure => simp [intOf]
    · go_wp2_with fail
      go_roundw
      case rel => exact ⟨2, by omega, rfl, by trivial⟩
      case measure => simp [intOf]
    · go_wp2_with fail
      go_roundw
      case rel => exact ⟨3, by omega, rfl, by trivial⟩
      case measure => simp [intOf]
    · cases x
      all_goals
        go_wp2_with fail
        refine (HB.out _).mono ?_
        rintro e w2 ⟨rfl, rfl⟩
        go_wp2_with fail
        go_ret
        exact ⟨rfl, rfl⟩
set_option maxHeartbeats 1000000 in
theorem ebit_U (p : Int) (hp : W64 p) (w : World) : Calls Tryd.prog 17 #[.int .u64 p, .int .u8 85] w fun e w' => e = .returned (.bool (tb p 4)) ∧ w = w' := by
  have HB := Lib.hid (fun W => bit_c p ((4 : Nat) : Int) W hp.1 hp.2)
  rw [tbI_nat p 4 (by omega)] at HB
  clear hp
  generalize tb p 4 = x at *
  go_enter Tryd.func17, Tryd.ntmps17
  go_wp2_with fail
  go_loopw [6] (fun i wr => ∃ k : Nat, k ≤ 4 ∧ i = .int .i64 k ∧ w = wr) (fun i _ => 5 - (intOf i).toNat)
  case atStart => exact ⟨0, Nat.zero_le _, rfl, rfl⟩
  case round =>
    obtain ⟨k, hk, rfl, rfl⟩ := hrel
    obtain rfl | rfl | rfl | rfl | rfl : k = 0 ∨ k = 1 ∨ k = 2 ∨ k = 3 ∨ k = 4 := by omega
    · go_wp2_with fail
      go_roundw
      case rel => exact ⟨1, by omega, rfl, by trivial⟩
      case measure => simp [intOf]
    · go_wp2_with fail
      go_roundw
      case rel => exact ⟨2, by omega, rfl, by trivial⟩
      case measure => simp [intOf]
    · go_wp2_with fail
      go_roundw
      case rel => exact ⟨3, by omega, rfl, by trivial⟩
      case measure => simp [intOf]
    · go_wp2_with fail
      go_roundw
      case rel => exact ⟨4, by omega, rfl, by trivial⟩
      case measure => simp [intOf]
    · cases x
      all_goals
        go_wp2_with fail
        refine (HB.out _).mono ?_
        rintro e w2 ⟨rfl, rfl⟩
        go_wp2_with fail
        go_ret
        exact ⟨rfl, rfl⟩
set_option maxHeartbeats 1000000 in
theorem ebit_G (p : Int) (hp : W64 p) (w : World) : Calls Tryd.prog 17 #[.int .u64 p, .int .u8 71] w fun e w' => e = .returned (.bool (tb p 5)) ∧ w = w' := by
  have HB := Lib.hid (fun W => bit_c p ((5 : Nat) : Int) W hp.1 hp.2)
  rw [tbI_nat p 5 (by omega)] at HB
  clear hp
  generalize tb p 5 = x at *
  go_enter Tryd.func17, Tryd.ntmps17
  go_wp2_with fail
  go_loopw [6] (fun i wr => ∃ k : Nat, k ≤ 5 ∧ i = .int .i64 k ∧ w = wr) (fun i _ => 6 - (intOf i).toNat)
  case atStart => exact ⟨0, Nat.zero_le _, rfl, rfl⟩
  case round =>
    obtain ⟨k, hk, rfl, rfl⟩ := hrel
    obtain rfl | rfl | rfl | rfl | rfl | rfl : k = 0 ∨ k = 1 ∨ k = 2 ∨ k = 3 ∨ k = 4 ∨ k = 5 := by omega
    · go_wp2_with fail
      go_roundw
      case rel => exact ⟨1, by omega, rfl, by trivial⟩
      case measure => simp [intOf]
    · go_wp2_with fail
      go_roundw
      case rel => exact ⟨2, by omega, rfl, by trivial⟩
      case measure => simp [intOf]
    · go_wp2_with fail
      go_roundw
      case rel => exact ⟨3, by omega, rfl, by trivial⟩
      case measure => simp [intOf]
    · go_wp2_with fail
      go_roundw
      case rel => exact ⟨4, by omega, rfl, by trivial⟩
      case measure => simp [intOf]
    · go_wp2_with fail
      go_roundw
      case rel => exact ⟨5, by omega, rfl, by trivial⟩
      case measure => simp [intOf]
    · cases x
      all_goals
        go_wp2_with fail
        refine (HB.out _).mono ?_
        rintro e w2 ⟨rfl, rfl⟩
        go_wp2_with fail
        go_ret
        exact ⟨rfl, rfl⟩
set_option maxHeartbeats 1000000 in
theorem ebit_A (p : Int) (hp : W64 p) (w : World) : Calls Tryd.prog 17 #[.int .u64 p, .int .u8 65] w fun e w' => e = .returned (.bool (tb p 6)) ∧ w = w' := by
  have HB := Lib.hid (fun W => bit_c p ((6 : Nat) : Int) W hp.1 hp.2)
  rw [tbI_nat p 6 (by omega)] at HB
  clear hp
  generalize tb p 6 = x at *
  go_enter Tryd.func17, Tryd.ntmps17
  go_wp2_with fail
  go_loopw [6] (fun i wr => ∃ k : Nat, k ≤ 6 ∧ i = .int .i64 k ∧ w = wr) (fun i _ => 7 - (intOf i).toNat)
  case atStart => exact ⟨0, Nat.zero_le _, rfl, rfl⟩
  case round =>
    obtain ⟨k, hk, rfl, rfl⟩ := hrel
    obtain rfl | rfl | rfl | rfl | rfl | rfl | rfl : k = 0 ∨ k = 1 ∨ k = 2 ∨ k = 3 ∨ k = 4 ∨ k = 5 ∨ k = 6 := by omega
    · go_wp2_with fail
      go_roundw
      case rel => exact ⟨1, by omega, rfl, by trivial⟩
      case measure => simp [intOf]
    · go_wp2_with fail
      go_roundw
      case rel => exact ⟨2, by omega, rfl, by trivial⟩
      case measure => simp [intOf]
    · go_wp2_with fail
      go_roundw
      case rel => exact ⟨3, by omega, rfl, by trivial⟩
      case measure => simp [intOf]
    · go_wp2_with fail
      go_roundw
      case rel => exact ⟨4, by omega, rfl, by trivial⟩
      case measure => simp [intOf]
    · go_wp2_with fail
      go_roundw
      case rel => exact ⟨5, by omega, rfl, by trivial⟩
      case measure => simp [intOf]
    · go_wp2_with fail
      go_roundw
      case rel => exact ⟨6, by omega, rfl, by trivial⟩
      case measure => simp [intOf]
    · cases x
      all_goals
        go_wp2_with fail
        refine (HB.out _).mono ?_
        rintro e w2 ⟨rfl, rfl⟩
        go_wp2_with fail
        go_ret
        exact ⟨rfl, rfl⟩
set_option maxHeartbeats 1000000 in
theorem ebit_D (p : Int) (hp : W64 p) (w : World) : Calls Tryd.prog 17 #[.int .u64 p, .int .u8 68] w fun e w' => e = .returned (.bool (tb p 7)) ∧ w = w' := by
  have HB := Lib.hid (fun W => bit_c p ((7 : Nat) : Int) W hp.1 hp.2)
  rw [tbI_nat p 7 (by omega)] at HB
  clear hp
  generalize tb p 7 = x at *
  go_enter Tryd.func17, Tryd.ntmps17
  go_wp2_with fail
  go_loopw [6] (fun i wr => ∃ k : Nat, k ≤ 7 ∧ i = .int .i64 k ∧ w = wr) (fun i _ => 8 - (intOf i).toNat)
  case atStart => exact ⟨0, Nat.zero_le _, rfl, rfl⟩
  case round =>
    obtain ⟨k, hk, rfl, rfl⟩ := hrel
    obtain rfl | rfl | rfl | rfl | rfl | rfl | rfl | rfl : k = 0 ∨ k = 1 ∨ k = 2 ∨ k = 3 ∨ k = 4 ∨ k = 5 ∨ k = 6 ∨ k = 7 := by omega
    · go_wp2_with fail
      go_roundw
      case rel => exact ⟨1, by omega, rfl, by trivial⟩
      case measure => simp [intOf]
    · go_wp2_with fail
      go_roundw
      case rel => exact ⟨2, by omega, rfl, by trivial⟩
      case measure => simp [intOf]
    · go_wp2_with fail
      go_roundw
      case rel => exact ⟨3, by omega, rfl, by trivial⟩
      case measure => simp [intOf]
    · go_wp2_with fail
      go_roundw
      case rel => exact ⟨4, by omega, rfl, by trivial⟩
      case measure => simp [intOf]
    · go_wp2_with fail
      go_roundw
      case rel => exact ⟨5, by omega, rfl, by trivial⟩
      case measure => simp [intOf]
    · go_wp2_with fail
      go_roundw
      case rel => exact ⟨6, by omega, rfl, by trivial⟩
      case measure => simp [intOf]
    · go_wp2_with fail
      go_roundw
      case rel => exact ⟨7, by omega, rfl, by trivial⟩
      case measure => simp [intOf]
    · cases x
      all_goals
        go_wp2_with fail
        refine (HB.out _).mono ?_
        rintro e w2 ⟨rfl, rfl⟩
        go_wp2_with fail
        go_ret
        exact ⟨rfl, rfl⟩
theorem rppn_c (p : Int) (hp : W64 p) (w : World) : Calls Tryd.prog 20 #[.int .u64 p] w fun e w' => e = .returned (.int .u64 (cutS p 10 44)) ∧ Below w.heap.size w w' := by
  have HC := Lib.hid (fun W => refCut_c p 10 44 W hp.1 hp.2 (by omega) (by omega))
  generalize cutS p 10 44 = x at *
  clear hp
  go_enter Tryd.func20, Tryd.ntmps20
  go_wp2_with fail
  refine (HC.out _).mono ?_
  rintro e w1 ⟨rfl, hb⟩
  have HB := Lib.hid hb
  clear hb
  go_wp2_with fail
  go_ret
  exact ⟨rfl, HB.out⟩
/-! ### what an entry is -/
def kindS (p l : Int) : Int :=
  if decide (l < 0) || decide (l > 2) || !tb p 0 || (tb p 2 && !tb p 1) || (cutS p 54 10 != 0) then 0
  else if tb p 1 || tb p 3 then (if (cutS (cutS p 10 44) 0 (9 * l) != 0) then 0 else 2)
  else if decide (l > 0) && !tb p 4 && !tb p 6 && !tb p 7 then 1 else 0
end Go.Proofs.YtmieabafiijfjaaDoor
