/-
  The reference of layer 15: New, At, Read, Write, Tick, Lines.
-/
import Derived.Test.YtkknfhbaldeigaaCtF
import Derived.OwnWalk
set_option maxRecDepth 20000
namespace Go.Proofs.Ytkknfhbaldeigaa
open Go.ChangeShapes Go.WideShapes Go.ChangeAt Go.RowKit

namespace Ct
/-- None of the harts below h has a register there. -/
def rno (off size : Int) (h : Nat) : Prop := ∀ j : Nat, j < h → ¬ (size = 4 ∧ off = 4 * (j : Int)) ∧ ¬ (size = 8 ∧ off = 16384 + 8 * (j : Int)) ∧ ¬ (size = 4 ∧ off = 16384 + 8 * (j : Int)) ∧ ¬ (size = 4 ∧ off = 16384 + 8 * (j : Int) + 4)
section
variable {n h : Nat} {off : Int}
theorem ra1 (_hn : n ≤ 8) (hh : h < n) (e : off = 4 * (h : Int)) : at_ n off 4 = (1, h, 0) := by
  unfold at_
  rw [if_pos (by omega), show (off / 4).toNat = h by omega]
theorem ra2 (hn : n ≤ 8) (hh : h < n) (e : off = 16384 + 8 * (h : Int)) : at_ n off 8 = (2, h, 0) := by
  unfold at_
  rw [if_neg (by omega), if_pos (by omega), show ((off - 16384) / 8).toNat = h by omega]
theorem ra3 (hn : n ≤ 8) (hh : h < n) (e : off = 16384 + 8 * (h : Int)) : at_ n off 4 = (2, h, 1) := by
  unfold at_
  rw [if_neg (by omega), if_neg (by omega), if_pos (by omega), show ((off - 16384) / 8).toNat = h by omega]
theorem ra4 (hn : n ≤ 8) (hh : h < n) (e : off = 16384 + 8 * (h : Int) + 4) : at_ n off 4 = (2, h, 2) := by
  unfold at_
  rw [if_neg (by omega), if_neg (by omega), if_neg (by omega), if_pos (by omega), show ((off - 16384) / 8).toNat = h by omega]
theorem ra5 {size : Int} (hn : n ≤ 8) (h0 : 0 ≤ off) (hr : rno off size n) : at_ n off size = if 0 < n ∧ size = 8 ∧ off = 49144 then (3, 0, 0) else if 0 < n ∧ size = 4 ∧ off = 49144 then (3, 0, 1) else if 0 < n ∧ size = 4 ∧ off = 49148 then (3, 0, 2) else (0, 0, 0) := by
  unfold at_
  rw [if_neg (fun h => by have := hr (off / 4).toNat; omega), if_neg (fun h => by have := hr ((off - 16384) / 8).toNat; omega), if_neg (fun h => by have := hr ((off - 16384) / 8).toNat; omega), if_neg (fun h => by have := hr ((off - 16384) / 8).toNat; omega)]
  by_cases hz : 0 < n
  · by_cases e8 : size = 8
    · subst e8
      by_cases e : off = 49144
      · rw [if_pos (by omega), if_pos (by omega)]
      · rw [if_neg (by omega), if_neg (by omega), if_neg (by omega), if_neg (by omega), if_neg (by omega), if_neg (by omega)]
    · by_cases e4 : size = 4
      · subst e4
        by_cases e : off = 49144
        · rw [if_neg (by omega), if_pos (by omega), if_neg (by omega), if_pos (by omega)]
        · by_cases e2 : off = 49148
          · rw [if_neg (by omega), if_neg (by omega), if_pos (by omega), if_neg (by omega), if_neg (by omega), if_pos (by omega)]
          · rw [if_neg (by omega), if_neg (by omega), if_neg (by omega), if_neg (by omega), if_neg (by omega), if_neg (by omega)]
      · rw [if_neg (by omega), if_neg (by omega), if_neg (by omega), if_neg (by omega), if_neg (by omega), if_neg (by omega)]
  · rw [if_neg (by omega), if_neg (by omega), if_neg (by omega), if_neg (by omega), if_neg (by omega), if_neg (by omega)]
theorem rmore {size : Int} (hr : rno off size h) (hm : ¬ (size = 4 ∧ off = 4 * (h : Int)) ∧ ¬ (size = 8 ∧ off = 16384 + 8 * (h : Int)) ∧ ¬ (size = 4 ∧ off = 16384 + 8 * (h : Int)) ∧ ¬ (size = 4 ∧ off = 16384 + 8 * (h : Int) + 4)) : rno off size (h + 1) := fun j hj => by
  by_cases e : j = h
  · rw [e]; exact hm
  · exact hr j (by omega)
end
end Ct
def atT (t : Nat × Nat × Nat) : Value := .tuple #[.int .i64 t.1, .int .i64 t.2.1, .int .i64 t.2.2]
set_option maxHeartbeats 16000000 in
theorem rat15_c (n : Nat) (hn : n ≤ 8) (off size : Int) (o0 : 0 ≤ off) (w : World) :
    Calls Try.prog 39 #[.int .i64 n, .int .u64 off, .int .i64 size] w fun e w' => e = .returned (atT (Ct.at_ n off size)) ∧ w' = w := by
  by_cases s4 : size = 4
  · subst s4
    go_enter Try.func39, Try.ntmps39
    go_wp2_with fail
    go_loopw [9] (fun i wr => ∃ h : Nat, h ≤ n ∧ i = .int .i64 h ∧ Ct.rno off 4 h ∧ wr = w) (fun i _ => n - (intOf i).toNat)
    case atStart => exact ⟨0, by omega, rfl, fun j hj => by omega, rfl⟩
    case round =>
      obtain ⟨h, hk, rfl, hno, hwr⟩ := hrel
      have HWR := Lib.hid hwr
      have HNO := Lib.hid hno
      clear hno hwr
      by_cases hlt : h < n
      · have e0 : decide ((h : Int) < (n : Int)) = true := by simp; omega
        have e1 : decide ((h : Int) < 8) = true := by simp; omega
        have gh : (h : Int) < 8 := by omega
        by_cases c0 : off = 4 * (h : Int)
        · have HE := Lib.hid (Ct.ra1 hn hlt c0)
          have g0 : (off == 4 * (h : Int)) = true := by simpa using c0
          clear HNO c0
          go_wp2_with fail
          go_ret3
          exact ⟨by rw [HE.out]; rfl, HWR.out⟩
        have g0 : (off == 4 * (h : Int)) = false := by simpa using c0
        by_cases c1 : off = 16384 + 8 * (h : Int)
        · have HE := Lib.hid (Ct.ra3 hn hlt c1)
          have g1 : (off == 16384 + 8 * (h : Int)) = true := by simpa using c1
          clear HNO c0 c1
          go_wp2_with fail
          go_ret3
          exact ⟨by rw [HE.out]; rfl, HWR.out⟩
        have g1 : (off == 16384 + 8 * (h : Int)) = false := by simpa using c1
        by_cases c2 : off = 16384 + 8 * (h : Int) + 4
        · have HE := Lib.hid (Ct.ra4 hn hlt c2)
          have g2 : (off == 16384 + 8 * (h : Int) + 4) = true := by simpa using c2
          clear HNO c0 c1 c2
          go_wp2_with fail
          go_ret3
          exact ⟨by rw [HE.out]; rfl, HWR.out⟩
        have g2 : (off == 16384 + 8 * (h : Int) + 4) = false := by simpa using c2
        have HN2 := Lib.hid (Ct.rmore HNO.out (by omega))
        clear HNO c0 c1 c2
        go_wp2_with fail
        go_roundw
        case rel => exact ⟨h + 1, by omega, by go_num, HN2.out, HWR.out⟩
        case measure => simp [intOf]; omega
      · obtain rfl : h = n := by omega
        have e0 : decide ((h : Int) < (h : Int)) = false := by simp
        have HR := Lib.hid (Ct.ra5 hn o0 HNO.out)
        clear HNO
        by_cases hz : 0 < h
        · have z0 : decide ((h : Int) > 0) = true := by simp; omega
          by_cases c : off = 49144
          · have HE := Lib.hid (HR.out.trans ((if_neg (by omega)).trans (if_pos (by omega))))
            have g : (off == 49144) = true := by simpa using c
            clear c HR
            go_wp2_with fail
            go_ret3
            exact ⟨by rw [HE.out]; rfl, HWR.out⟩
          have g : (off == 49144) = false := by simpa using c
          by_cases d : off = 49148
          · have HE := Lib.hid (HR.out.trans ((if_neg (by omega)).trans ((if_neg (by omega)).trans (if_pos (by omega)))))
            have g' : (off == 49148) = true := by simpa using d
            clear c d HR
            go_wp2_with fail
            go_ret3
            exact ⟨by rw [HE.out]; rfl, HWR.out⟩
          · have HE := Lib.hid (HR.out.trans ((if_neg (by omega)).trans ((if_neg (by omega)).trans (if_neg (by omega)))))
            have g' : (off == 49148) = false := by simpa using d
            clear c d HR
            go_wp2_with fail
            go_ret3
            exact ⟨by rw [HE.out]; rfl, HWR.out⟩
        · have z0 : decide ((h : Int) > 0) = false := by simp; omega
          have HE := Lib.hid (HR.out.trans ((if_neg (by omega)).trans ((if_neg (by omega)).trans (if_neg (by omega)))))
          clear HR
          go_wp2_with fail
          go_ret3
          exact ⟨by rw [HE.out]; rfl, HWR.out⟩
  · by_cases s8 : size = 8
    · subst s8
      clear s4
      go_enter Try.func39, Try.ntmps39
      go_wp2_with fail
      go_loopw [9] (fun i wr => ∃ h : Nat, h ≤ n ∧ i = .int .i64 h ∧ Ct.rno off 8 h ∧ wr = w) (fun i _ => n - (intOf i).toNat)
      case atStart => exact ⟨0, by omega, rfl, fun j hj => by omega, rfl⟩
      case round =>
        obtain ⟨h, hk, rfl, hno, hwr⟩ := hrel
        have HWR := Lib.hid hwr
        have HNO := Lib.hid hno
        clear hno hwr
        by_cases hlt : h < n
        · have e0 : decide ((h : Int) < (n : Int)) = true := by simp; omega
          have e1 : decide ((h : Int) < 8) = true := by simp; omega
          have gh : (h : Int) < 8 := by omega
          by_cases c0 : off = 16384 + 8 * (h : Int)
          · have HE := Lib.hid (Ct.ra2 hn hlt c0)
            have g0 : (off == 16384 + 8 * (h : Int)) = true := by simpa using c0
            clear HNO c0
            go_wp2_with fail
            go_ret3
            exact ⟨by rw [HE.out]; rfl, HWR.out⟩
          have g0 : (off == 16384 + 8 * (h : Int)) = false := by simpa using c0
          have HN2 := Lib.hid (Ct.rmore HNO.out (by omega))
          clear HNO c0
          go_wp2_with fail
          go_roundw
          case rel => exact ⟨h + 1, by omega, by go_num, HN2.out, HWR.out⟩
          case measure => simp [intOf]; omega
        · obtain rfl : h = n := by omega
          have e0 : decide ((h : Int) < (h : Int)) = false := by simp
          have HR := Lib.hid (Ct.ra5 hn o0 HNO.out)
          clear HNO
          by_cases hz : 0 < h
          · have z0 : decide ((h : Int) > 0) = true := by simp; omega
            by_cases c : off = 49144
            · have HE := Lib.hid (HR.out.trans (if_pos (by omega)))
              have g : (off == 49144) = true := by simpa using c
              clear c HR
              go_wp2_with fail
              go_ret3
              exact ⟨by rw [HE.out]; rfl, HWR.out⟩
            · have HE := Lib.hid (HR.out.trans ((if_neg (by omega)).trans ((if_neg (by omega)).trans (if_neg (by omega)))))
              have g : (off == 49144) = false := by simpa using c
              clear c HR
              go_wp2_with fail
              go_ret3
              exact ⟨by rw [HE.out]; rfl, HWR.out⟩
          · have z0 : decide ((h : Int) > 0) = false := by simp; omega
            have HE := Lib.hid (HR.out.trans ((if_neg (by omega)).trans ((if_neg (by omega)).trans (if_neg (by omega)))))
            clear HR
            go_wp2_with fail
            go_ret3
            exact ⟨by rw [HE.out]; rfl, HWR.out⟩
    · have k4 : (size == 4) = false := by simpa using s4
      have k8 : (size == 8) = false := by simpa using s8
      go_enter Try.func39, Try.ntmps39
      go_wp2_with fail
      go_loopw [9] (fun i wr => ∃ h : Nat, h ≤ n ∧ i = .int .i64 h ∧ Ct.rno off size h ∧ wr = w) (fun i _ => n - (intOf i).toNat)
      case atStart => exact ⟨0, by omega, rfl, fun j hj => by omega, rfl⟩
      case round =>
        obtain ⟨h, hk, rfl, hno, hwr⟩ := hrel
        have HWR := Lib.hid hwr
        have HNO := Lib.hid hno
        clear hno hwr
        by_cases hlt : h < n
        · have e0 : decide ((h : Int) < (n : Int)) = true := by simp; omega
          have e1 : decide ((h : Int) < 8) = true := by simp; omega
          have gh : (h : Int) < 8 := by omega
          have HN2 := Lib.hid (Ct.rmore HNO.out (by omega))
          clear HNO
          go_wp2_with fail
          go_roundw
          case rel => exact ⟨h + 1, by omega, by go_num, HN2.out, HWR.out⟩
          case measure => simp [intOf]; omega
        · obtain rfl : h = n := by omega
          have e0 : decide ((h : Int) < (h : Int)) = false := by simp
          have HR := Lib.hid (Ct.ra5 hn o0 HNO.out)
          clear HNO
          by_cases hz : 0 < h
          · have z0 : decide ((h : Int) > 0) = true := by simp; omega
            have HE := Lib.hid (HR.out.trans ((if_neg (by omega)).trans ((if_neg (by omega)).trans (if_neg (by omega)))))
            clear HR
            go_wp2_with fail
            go_ret3
            exact ⟨by rw [HE.out]; rfl, HWR.out⟩
          · have z0 : decide ((h : Int) > 0) = false := by simp; omega
            have HE := Lib.hid (HR.out.trans ((if_neg (by omega)).trans ((if_neg (by omega)).trans (if_neg (by omega)))))
            clear HR
            go_wp2_with fail
            go_ret3
            exact ⟨by rw [HE.out]; rfl, HWR.out⟩
end Go.Proofs.Ytkknfhbaldeigaa
