/-
  The reference of layer 25: an entry's bits by their letters, its frame's number.
-/
import Derived.Test.YtmieabafiijfjaaStaA
import Derived.Test.YtmieabafiijfjaaRefC
import Derived.Test.YtmieabafiijfjaaRow
set_option maxRecDepth 4000
namespace Go.Proofs.Ytmieabafiijfjaa
open Go.ChangeShapes Go.WideShapes Go.ChangeAt Go.RowKit Wd Csr Sta

set_option maxHeartbeats 1000000 in
theorem ebit_V (p : Int) (hp : W64 p) (w : World) : Calls Try.prog 14 #[.int .u64 p, .int .u8 86] w fun e w' => e = .returned (.bool (tb p 0)) ∧ w = w' := by
  have HB := Lib.hid (fun W => bit_c p ((0 : Nat) : Int) W hp.1 hp.2)
  rw [tbI_nat p 0 (by omega)] at HB
  clear hp
  generalize tb p 0 = x at *
  go_enter Try.func14, Try.ntmps14
  go_wp2_with fail
  go_loopw [6] (fun i wr => ∃ k : Nat, k ≤ 0 ∧ i = .int .i64 k ∧ w = wr) (fun i _ => 1 - (intOf i).toNat)
  case atStart => exact ⟨0, Nat.zero_le _, rfl, rfl⟩
  case round =>
    obtain ⟨k, hk, rfl, rfl⟩ := hrel
    obtain rfl : k = 0 := by omega
    · cases x
      all_goals
        go_wp2_with fail
        refine (HB.out _).mono ?_
        rintro e w2 ⟨rfl, rfl⟩
        go_wp2_with fail
        go_ret
        exact ⟨rfl, rfl⟩
set_option maxHeartbeats 1000000 in
theorem ebit_R (p : Int) (hp : W64 p) (w : World) : Calls Try.prog 14 #[.int .u64 p, .int .u8 82] w fun e w' => e = .returned (.bool (tb p 1)) ∧ w = w' := by
  have HB := Lib.hid (fun W => bit_c p ((1 : Nat) : Int) W hp.1 hp.2)
  rw [tbI_nat p 1 (by omega)] at HB
  clear hp
  generalize tb p 1 = x at *
  go_enter Try.func14, Try.ntmps14
  go_wp2_with fail
  go_loopw [6] (fun i wr => ∃ k : Nat, k ≤ 1 ∧ i = .int .i64 k ∧ w = wr) (fun i _ => 2 - (intOf i).toNat)
  case atStart => exact ⟨0, Nat.zero_le _, rfl, rfl⟩
  case round =>
    obtain ⟨k, hk, rfl, rfl⟩ := hrel
    obtain rfl | rfl : k = 0 ∨ k = 1 := by omega
    · go_wp2_with fail
      go_roundw
      case rel => exact ⟨1, by omega, rfl, by trivial⟩
      case measure => simp [intOf]
    · cases x
      all_goals
        go_wp2_with fail
        refine (HB.out _).mono ?_
        rintro e w2 ⟨rfl, rfl⟩
        go_wp2_with fail
        go_ret
        exact ⟨rfl, rfl⟩
set_option maxHeartbeats 1000000 in
theorem ebit_W (p : Int) (hp : W64 p) (w : World) : Calls Try.prog 14 #[.int .u64 p, .int .u8 87] w fun e w' => e = .returned (.bool (tb p 2)) ∧ w = w' := by
  have HB := Lib.hid (fun W => bit_c p ((2 : Nat) : Int) W hp.1 hp.2)
  rw [tbI_nat p 2 (by omega)] at HB
  clear hp
  generalize tb p 2 = x at *
  go_enter Try.func14, Try.ntmps14
  go_wp2_with fail
  go_loopw [6] (fun i wr => ∃ k : Nat, k ≤ 2 ∧ i = .int .i64 k ∧ w = wr) (fun i _ => 3 - (intOf i).toNat)
  case atStart => exact ⟨0, Nat.zero_le _, rfl, rfl⟩
  case round =>
    obtain ⟨k, hk, rfl, rfl⟩ := hrel
    obtain rfl | rfl | rfl : k = 0 ∨ k = 1 ∨ k = 2 := by omega
    · go_wp2_with fail
      go_roundw
      case rel => exact ⟨1, by omega, rfl, by trivial⟩
      case measure => simp [intOf]
    · go_wp2_with fail
      go_roundw
      case rel => exact ⟨2, by omega, rfl, by trivial⟩
      case measure => simp [intOf]
    · cases x
      all_goals
        go_wp2_with fail
        refine (HB.out _).mono ?_
        rintro e w2 ⟨rfl, rfl⟩
        go_wp2_with fail
        go_ret
        exact ⟨rfl, rfl⟩
set_option maxHeartbeats 1000000 in
theorem ebit_X (p : Int) (hp : W64 p) (w : World) : Calls Try.prog 14 #[.int .u64 p, .int .u8 88] w fun e w' => e = .returned (.bool (tb p 3)) ∧ w = w' := by
  have HB := Lib.hid (fun W => bit_c p ((3 : Nat) : Int) W hp.1 hp.2)
  rw [tbI_nat p 3 (by omega)] at HB
  clear hp
  generalize tb p 3 = x at *
  go_enter Try.func14, Try.ntmps14
  go_wp2_with fail
  go_loopw [6] (fun i wr => ∃ k : Nat, k ≤ 3 ∧ i = .int .i64 k ∧ w = wr) (fun i _ => 4 - (intOf i).toNat)
  case atStart => exact ⟨0, Nat.zero_le _, rfl, rfl⟩
  case round =>
    obtain ⟨k, hk, rfl, rfl⟩ := hrel
    obtain rfl | rfl | rfl | rfl : k = 0 ∨ k = 1 ∨ k = 2 ∨ k = 3 := by omega
    · go_wp2_with fail
      go_roundw
      case rel => exact ⟨1, by omega, rfl, by trivial⟩
      case measure => simp [intOf]
    · go_wp2_with fail
      go_roundw
      case rel => exact ⟨2, by omega, rfl, by trivial⟩
      case measure => simp [intOf]
    · go_wp2_with fail
      go_roundw
      case rel => exact ⟨3, by omega, rfl, by trivial⟩
      case measure => simp [intOf]
    · cases x
      all_goals
        go_wp2_with fail
        refine (HB.out _).mono ?_
        rintro e w2 ⟨rfl, rfl⟩
        go_wp2_with fail
        go_ret
        exact ⟨rfl, rfl⟩
set_option maxHeartbeats 1000000 in
theorem ebit_U (p : Int) (hp : W64 p) (w : World) : Calls Try.prog 14 #[.int .u64 p, .int .u8 85] w fun e w' => e = .returned (.bool (tb p 4)) ∧ w = w' := by
  have HB := Lib.hid (fun W => bit_c p ((4 : Nat) : Int) W hp.1 hp.2)
  rw [tbI_nat p 4 (by omega)] at HB
  clear hp
  generalize tb p 4 = x at *
  go_enter Try.func14, Try.ntmps14
  go_wp2_with fail
  go_loopw [6] (fun i wr => ∃ k : Nat, k ≤ 4 ∧ i = .int .i64 k ∧ w = wr) (fun i _ => 5 - (intOf i).toNat)
  case atStart => exact ⟨0, Nat.zero_le _, rfl, rfl⟩
  case round =>
    obtain ⟨k, hk, rfl, rfl⟩ := hrel
    obtain rfl | rfl | rfl | rfl | rfl : k = 0 ∨ k = 1 ∨ k = 2 ∨ k = 3 ∨ k = 4 := by omega
    · go_wp2_with fail
      go_roundw
      case rel => exact ⟨1, by omega, rfl, by trivial⟩
      case measure => simp [intOf]
    · go_wp2_with fail
      go_roundw
      case rel => exact ⟨2, by omega, rfl, by trivial⟩
      case measure => simp [intOf]
    · go_wp2_with fail
      go_roundw
      case rel => exact ⟨3, by omega, rfl, by trivial⟩
      case measure => simp [intOf]
    · go_wp2_with fail
      go_roundw
      case rel => exact ⟨4, by omega, rfl, by trivial⟩
      case measure => simp [intOf]
    · cases x
      all_goals
        go_wp2_with fail
        refine (HB.out _).mono ?_
        rintro e w2 ⟨rfl, rfl⟩
        go_wp2_with fail
        go_ret
        exact ⟨rfl, rfl⟩
set_option maxHeartbeats 1000000 in
theorem ebit_G (p : Int) (hp : W64 p) (w : World) : Calls Try.prog 14 #[.int .u64 p, .int .u8 71] w fun e w' => e = .returned (.bool (tb p 5)) ∧ w = w' := by
  have HB := Lib.hid (fun W => bit_c p ((5 : Nat) : Int) W hp.1 hp.2)
  rw [tbI_nat p 5 (by omega)] at HB
  clear hp
  generalize tb p 5 = x at *
  go_enter Try.func14, Try.ntmps14
  go_wp2_with fail
  go_loopw [6] (fun i wr => ∃ k : Nat, k ≤ 5 ∧ i = .int .i64 k ∧ w = wr) (fun i _ => 6 - (intOf i).toNat)
  case atStart => exact ⟨0, Nat.zero_le _, rfl, rfl⟩
  case round =>
    obtain ⟨k, hk, rfl, rfl⟩ := hrel
    obtain rfl | rfl | rfl | rfl | rfl | rfl : k = 0 ∨ k = 1 ∨ k = 2 ∨ k = 3 ∨ k = 4 ∨ k = 5 := by omega
    · go_wp2_with fail
      go_roundw
      case rel => exact ⟨1, by omega, rfl, by trivial⟩
      case measure => simp [intOf]
    · go_wp2_with fail
      go_roundw
      case rel => exact ⟨2, by omega, rfl, by trivial⟩
      case measure => simp [intOf]
    · go_wp2_with fail
      go_roundw
      case rel => exact ⟨3, by omega, rfl, by trivial⟩
      case measure => simp [intOf]
    · go_wp2_with fail
      go_roundw
      case rel => exact ⟨4, by omega, rfl, by trivial⟩
      case measure => simp [intOf]
    · go_wp2_with fail
      go_roundw
      case rel => exact ⟨5, by omega, rfl, by trivial⟩
      case measure => simp [intOf]
    · cases x
      all_goals
        go_wp2_with fail
        refine (HB.out _).mono ?_
        rintro e w2 ⟨rfl, rfl⟩
        go_wp2_with fail
        go_ret
        exact ⟨rfl, rfl⟩
set_option maxHeartbeats 1000000 in
theorem ebit_A (p : Int) (hp : W64 p) (w : World) : Calls Try.prog 14 #[.int .u64 p, .int .u8 65] w fun e w' => e = .returned (.bool (tb p 6)) ∧ w = w' := by
  have HB := Lib.hid (fun W => bit_c p ((6 : Nat) : Int) W hp.1 hp.2)
  rw [tbI_nat p 6 (by omega)] at HB
  clear hp
  generalize tb p 6 = x at *
  go_enter Try.func14, Try.ntmps14
  go_wp2_with fail
  go_loopw [6] (fun i wr => ∃ k : Nat, k ≤ 6 ∧ i = .int .i64 k ∧ w = wr) (fun i _ => 7 - (intOf i).toNat)
  case atStart => exact ⟨0, Nat.zero_le _, rfl, rfl⟩
  case round =>
    obtain ⟨k, hk, rfl, rfl⟩ := hrel
    obtain rfl | rfl | rfl | rfl | rfl | rfl | rfl : k = 0 ∨ k = 1 ∨ k = 2 ∨ k = 3 ∨ k = 4 ∨ k = 5 ∨ k = 6 := by omega
    · go_wp2_with fail
      go_roundw
      case rel => exact ⟨1, by omega, rfl, by trivial⟩
      case measure => simp [intOf]
    · go_wp2_with fail
      go_roundw
      case rel => exact ⟨2, by omega, rfl, by trivial⟩
      case measure => simp [intOf]
    · go_wp2_with fail
      go_roundw
      case rel => exact ⟨3, by omega, rfl, by trivial⟩
      case measure => simp [intOf]
    · go_wp2_with fail
      go_roundw
      case rel => exact ⟨4, by omega, rfl, by trivial⟩
      case measure => simp [intOf]
    · go_wp2_with fail
      go_roundw
      case rel => exact ⟨5, by omega, rfl, by trivial⟩
      case measure => simp [intOf]
    · go_wp2_with fail
      go_roundw
      case rel => exact ⟨6, by omega, rfl, by trivial⟩
      case measure => simp [intOf]
    · cases x
      all_goals
        go_wp2_with fail
        refine (HB.out _).mono ?_
        rintro e w2 ⟨rfl, rfl⟩
        go_wp2_with fail
        go_ret
        exact ⟨rfl, rfl⟩
set_option maxHeartbeats 1000000 in
theorem ebit_D (p : Int) (hp : W64 p) (w : World) : Calls Try.prog 14 #[.int .u64 p, .int .u8 68] w fun e w' => e = .returned (.bool (tb p 7)) ∧ w = w' := by
  have HB := Lib.hid (fun W => bit_c p ((7 : Nat) : Int) W hp.1 hp.2)
  rw [tbI_nat p 7 (by omega)] at HB
  clear hp
  generalize tb p 7 = x at *
  go_enter Try.func14, Try.ntmps14
  go_wp2_with fail
  go_loopw [6] (fun i wr => ∃ k : Nat, k ≤ 7 ∧ i = .int .i64 k ∧ w = wr) (fun i _ => 8 - (intOf i).toNat)
  case atStart => exact ⟨0, Nat.zero_le _, rfl, rfl⟩
  case round =>
    obtain ⟨k, hk, rfl, rfl⟩ := hrel
    obtain rfl | rfl | rfl | rfl | rfl | rfl | rfl | rfl : k = 0 ∨ k = 1 ∨ k = 2 ∨ k = 3 ∨ k = 4 ∨ k = 5 ∨ k = 6 ∨ k = 7 := by omega
    · go_wp2_with fail
      go_roundw
      case rel => exact ⟨1, by omega, rfl, by trivial⟩
      case measure => simp [intOf]
    · go_wp2_with fail
      go_roundw
      case rel => exact ⟨2, by omega, rfl, by trivial⟩
      case measure => simp [intOf]
    · go_wp2_with fail
      go_roundw
      case rel => exact ⟨3, by omega, rfl, by trivial⟩
      case measure => simp [intOf]
    · go_wp2_with fail
      go_roundw
      case rel => exact ⟨4, by omega, rfl, by trivial⟩
      case measure => simp [intOf]
    · go_wp2_with fail
      go_roundw
      case rel => exact ⟨5, by omega, rfl, by trivial⟩
      case measure => simp [intOf]
    · go_wp2_with fail
      go_roundw
      case rel => exact ⟨6, by omega, rfl, by trivial⟩
      case measure => simp [intOf]
    · go_wp2_with fail
      go_roundw
      case rel => exact ⟨7, by omega, rfl, by trivial⟩
      case measure => simp [intOf]
    · cases x
      all_goals
        go_wp2_with fail
        refine (HB.out _).mono ?_
        rintro e w2 ⟨rfl, rfl⟩
        go_wp2_with fail
        go_ret
        exact ⟨rfl, rfl⟩
theorem rppn_c (p : Int) (hp : W64 p) (w : World) : Calls Try.prog 11 #[.int .u64 p] w fun e w' => e = .returned (.int .u64 (cutS p 10 44)) ∧ Below w.heap.size w w' := by
  have HC := Lib.hid (fun W => refCut_c p 10 44 W hp.1 hp.2 (by omega) (by omega))
  generalize cutS p 10 44 = x at *
  clear hp
  go_enter Try.func11, Try.ntmps11
  go_wp2_with fail
  refine (HC.out _).mono ?_
  rintro e w1 ⟨rfl, hb⟩
  have HB := Lib.hid hb
  clear hb
  go_wp2_with fail
  go_ret
  exact ⟨rfl, HB.out⟩
/-! ### what an entry is -/
def kindS (p l : Int) : Int :=
  if decide (l < 0) || decide (l > 2) || !tb p 0 || (tb p 2 && !tb p 1) || (cutS p 54 10 != 0) then 0
  else if tb p 1 || tb p 3 then (if (cutS (cutS p 10 44) 0 (9 * l) != 0) then 0 else 2)
  else if decide (l > 0) && !tb p 4 && !tb p 6 && !tb p 7 then 1 else 0
set_option maxHeartbeats 8000000 in
theorem rkind_c (p l : Int) (hp : W64 p) (w : World) : Calls Try.prog 9 #[.int .u64 p, .int .i64 l] w fun e w' => e = .returned (.int .i64 (kindS p l)) ∧ Below w.heap.size w w' := by
  have HK := Lib.hid (show kindS p l = (if decide (l < 0) || decide (l > 2) || !tb p 0 || (tb p 2 && !tb p 1) || (cutS p 54 10 != 0) then 0
    else if tb p 1 || tb p 3 then (if (cutS (cutS p 10 44) 0 (9 * l) != 0) then 0 else 2)
    else if decide (l > 0) && !tb p 4 && !tb p 6 && !tb p 7 then 1 else 0) from rfl)
  have HV := Lib.hid (fun W => ebit_V p hp W)
  have HR := Lib.hid (fun W => ebit_R p hp W)
  have HW := Lib.hid (fun W => ebit_W p hp W)
  have HX := Lib.hid (fun W => ebit_X p hp W)
  have HU := Lib.hid (fun W => ebit_U p hp W)
  have HA := Lib.hid (fun W => ebit_A p hp W)
  have HD := Lib.hid (fun W => ebit_D p hp W)
  have HC := Lib.hid (fun W => refCut_c p 54 10 W hp.1 hp.2 (by omega) (by omega))
  have HP := Lib.hid (fun W => rppn_c p hp W)
  have hpp := cutS_range p 10 44
  have HN := Lib.hid (fun W (h0 : 0 ≤ l) (h2 : l ≤ 2) => refCut_c (cutS p 10 44) 0 (9 * l) W hpp.1 hpp.2 (by omega) (by omega))
  clear hp hpp
  generalize kindS p l = r at *
  generalize tb p 0 = b0 at *
  generalize tb p 1 = b1 at *
  generalize tb p 2 = b2 at *
  generalize tb p 3 = b3 at *
  generalize tb p 4 = b4 at *
  generalize tb p 6 = b6 at *
  generalize tb p 7 = b7 at *
  generalize cutS p 54 10 = x at *
  generalize cutS p 10 44 = pn at *
  generalize cutS pn 0 (9 * l) = y at *
  generalize hx : (x != 0) = cx at *
  generalize hy : (y != 0) = cy at *
  by_cases hl : 0 ≤ l ∧ l ≤ 2
  · have hd0 : decide (l < 0) = false := decide_eq_false (by omega)
    have hd2 : decide (l > 2) = false := decide_eq_false (by omega)
    have HN2 := Lib.hid (fun W => HN.out W hl.1 hl.2)
    rw [hd0, hd2] at HK
    have hl1 : 0 ≤ l := hl.1
    have hl2 : l ≤ 2 := hl.2
    have HB := Lib.hid (Below.refl w.heap.size w)
    clear HN hl
    go_enter Try.func9, Try.ntmps9
    cases b0
    · go_wp2_with fail
      refine (HV.out _).mono ?_
      rintro e w2 ⟨rfl, rfl⟩
      go_wp2_with fail
      go_ret
      exact ⟨by rw [HK.out]; rfl, HB.out⟩
    · go_wp2_with fail
      refine (HV.out _).mono ?_
      rintro e w2 ⟨rfl, rfl⟩
      cases b2
      · go_wp2_with fail
        refine (HW.out _).mono ?_
        rintro e w2 ⟨rfl, rfl⟩
        go_wp2_with fail
        refine (HC.out _).mono ?_
        rintro e w3 ⟨rfl, hb⟩
        replace HB := Lib.hid (HB.out.trans (hb.mono HB.out.size))
        clear hb
        cases cx
        · cases b1
          · go_wp2_with fail
            refine (HR.out _).mono ?_
            rintro e w2 ⟨rfl, rfl⟩
            cases b3
            · go_wp2_with fail
              refine (HX.out _).mono ?_
              rintro e w2 ⟨rfl, rfl⟩
              cases hdp : decide (l > 0)
              · rw [hdp] at HK
                go_wp2_with fail
                go_ret
                exact ⟨by rw [HK.out]; rfl, HB.out⟩
              · rw [hdp] at HK
                cases b4
                · go_wp2_with fail
                  refine (HU.out _).mono ?_
                  rintro e w2 ⟨rfl, rfl⟩
                  cases b6
                  · go_wp2_with fail
                    refine (HA.out _).mono ?_
                    rintro e w2 ⟨rfl, rfl⟩
                    cases b7
                    · go_wp2_with fail
                      refine (HD.out _).mono ?_
                      rintro e w2 ⟨rfl, rfl⟩
                      go_wp2_with fail
                      go_ret
                      exact ⟨by rw [HK.out]; rfl, HB.out⟩
                    · go_wp2_with fail
                      refine (HD.out _).mono ?_
                      rintro e w2 ⟨rfl, rfl⟩
                      go_wp2_with fail
                      go_ret
                      exact ⟨by rw [HK.out]; rfl, HB.out⟩
                  · go_wp2_with fail
                    refine (HA.out _).mono ?_
                    rintro e w2 ⟨rfl, rfl⟩
                    go_wp2_with fail
                    go_ret
                    exact ⟨by rw [HK.out]; rfl, HB.out⟩
                · go_wp2_with fail
                  refine (HU.out _).mono ?_
                  rintro e w2 ⟨rfl, rfl⟩
                  go_wp2_with fail
                  go_ret
                  exact ⟨by rw [HK.out]; rfl, HB.out⟩
            · go_wp2_with fail
              refine (HX.out _).mono ?_
              rintro e w2 ⟨rfl, rfl⟩
              go_wp2_with fail
              refine (HP.out _).mono ?_
              rintro e w3 ⟨rfl, hb⟩
              replace HB := Lib.hid (HB.out.trans (hb.mono HB.out.size))
              clear hb
              go_wp2_with fail
              refine (HN2.out _).mono ?_
              rintro e w3 ⟨rfl, hb⟩
              replace HB := Lib.hid (HB.out.trans (hb.mono HB.out.size))
              clear hb
              cases cy
              · go_wp2_with fail
                go_ret
                exact ⟨by rw [HK.out]; rfl, HB.out⟩
              · go_wp2_with fail
                go_ret
                exact ⟨by rw [HK.out]; rfl, HB.out⟩
          · go_wp2_with fail
            refine (HR.out _).mono ?_
            rintro e w2 ⟨rfl, rfl⟩
            go_wp2_with fail
            refine (HP.out _).mono ?_
            rintro e w3 ⟨rfl, hb⟩
            replace HB := Lib.hid (HB.out.trans (hb.mono HB.out.size))
            clear hb
            go_wp2_with fail
            refine (HN2.out _).mono ?_
            rintro e w3 ⟨rfl, hb⟩
            replace HB := Lib.hid (HB.out.trans (hb.mono HB.out.size))
            clear hb
            cases cy
            · go_wp2_with fail
              go_ret
              exact ⟨by rw [HK.out]; rfl, HB.out⟩
            · go_wp2_with fail
              go_ret
              exact ⟨by rw [HK.out]; rfl, HB.out⟩
        · go_wp2_with fail
          go_ret
          exact ⟨by rw [HK.out]; rfl, HB.out⟩
      · go_wp2_with fail
        refine (HW.out _).mono ?_
        rintro e w2 ⟨rfl, rfl⟩
        cases b1
        · go_wp2_with fail
          refine (HR.out _).mono ?_
          rintro e w2 ⟨rfl, rfl⟩
          go_wp2_with fail
          go_ret
          exact ⟨by rw [HK.out]; rfl, HB.out⟩
        · go_wp2_with fail
          refine (HR.out _).mono ?_
          rintro e w2 ⟨rfl, rfl⟩
          go_wp2_with fail
          refine (HC.out _).mono ?_
          rintro e w3 ⟨rfl, hb⟩
          replace HB := Lib.hid (HB.out.trans (hb.mono HB.out.size))
          clear hb
          cases cx
          · go_wp2_with fail
            refine (HR.out _).mono ?_
            rintro e w2 ⟨rfl, rfl⟩
            go_wp2_with fail
            refine (HP.out _).mono ?_
            rintro e w3 ⟨rfl, hb⟩
            replace HB := Lib.hid (HB.out.trans (hb.mono HB.out.size))
            clear hb
            go_wp2_with fail
            refine (HN2.out _).mono ?_
            rintro e w3 ⟨rfl, hb⟩
            replace HB := Lib.hid (HB.out.trans (hb.mono HB.out.size))
            clear hb
            cases cy
            · go_wp2_with fail
              go_ret
              exact ⟨by rw [HK.out]; rfl, HB.out⟩
            · go_wp2_with fail
              go_ret
              exact ⟨by rw [HK.out]; rfl, HB.out⟩
          · go_wp2_with fail
            go_ret
            exact ⟨by rw [HK.out]; rfl, HB.out⟩
  · have HB := Lib.hid (Below.refl w.heap.size w)
    have HK0 := Lib.hid (show r = 0 by
      rw [HK.out]
      by_cases h : l < 0
      · rw [decide_eq_true h]; simp
      · rw [decide_eq_true (show l > 2 by omega)]; simp)
    clear HK HN HV HR HW HX HU HA HD HC HP hx hy
    by_cases h : l < 0
    · have hd0 : decide (l < 0) = true := decide_eq_true h
      go_enter Try.func9, Try.ntmps9
      go_wp2_with fail
      go_ret
      exact ⟨by rw [HK0.out]; rfl, HB.out⟩
    · have hd0 : decide (l < 0) = false := decide_eq_false h
      have hd2 : decide (l > 2) = true := decide_eq_true (by omega)
      go_enter Try.func9, Try.ntmps9
      go_wp2_with fail
      go_ret
      exact ⟨by rw [HK0.out]; rfl, HB.out⟩
end Go.Proofs.Ytmieabafiijfjaa
