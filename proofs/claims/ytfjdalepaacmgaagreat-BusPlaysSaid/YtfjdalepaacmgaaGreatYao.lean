/-
  Contracts of bus.Time, Out, Waiting. The reference of layer 15: New, At, Read, Write, Tick, Lines. The reference of layer 15: New, Read, Write, Tick, Lines.
-/
import Derived.Test.YtfjdalepaacmgaaGreatYan
import Derived.Test.YtfjdalepaacmgaaGreatYad
import Derived.OwnWalk
set_option maxRecDepth 20000
namespace Go.Proofs.YtfjdalepaacmgaaGreat
open Go.ChangeShapes Go.WideShapes Go.ChangeAt Go.RowKit

section
variable {F : Nat → Prop} {w : World} {b : Nat} {X : Bs.B}
theorem Bu.bm (h : Bu F w b X) : ∃ g, BmAt (.pointer (some ⟨g, 0, none⟩), X.p) w b X.n X.c := by
  obtain ⟨g, h1, -⟩ := h.ex
  exact ⟨g, h1, h.okc⟩
theorem Bu.port (h : Bu F w b X) : ∃ g, w.cell? ⟨b, 0, none⟩ = some (.pointer (some ⟨g, 0, none⟩)) ∧ Pt F w g X.u := by
  obtain ⟨g, h1, h2⟩ := h.ex
  exact ⟨g, (h1.cell 0).trans buV_u, h2⟩
end
set_option maxHeartbeats 4000000 in
theorem btime_c (F : Nat → Prop) (b : Nat) (X : Bs.B) (h1 : 1 ≤ X.n) (w : World) (h : Bu F w b X) : Calls Tryz.prog 43 #[.pointer (some ⟨b, 0, none⟩)] w fun e w' => e = .returned (.int .u64 (X.c.getD 0 0)) ∧ w' = w := by
  obtain ⟨g, hg⟩ := h.bm
  have HC := Lib.hid (Bm.time_c (S := (.pointer (some ⟨g, 0, none⟩), X.p)) (some ⟨b, 2, none⟩) X.n X.c w (.inr ⟨b, rfl, hg⟩) (fun h0 => by omega))
  clear h hg
  go_enter Tryz.func43, Tryz.ntmps43
  go_wp2_with fail
  refine HC.out.mono ?_
  rintro e w1 ⟨rfl, rfl⟩
  go_wp2_with fail
  go_ret
  exact ⟨rfl, rfl⟩
set_option maxHeartbeats 4000000 in
theorem bout_c (F : Nat → Prop) (b : Nat) (X : Bs.B) (hn : X.u.out.length ≤ 900) (w : World) (h : Bu F w b X) :
    Calls Tryz.prog 45 #[.pointer (some ⟨b, 0, none⟩)] w fun e w' => ∃ v, e = .returned v ∧ w'.ownsRow w.heap.size U8 1 v X.u.out.length (u8V X.u.out) ∧ Below w.heap.size w w' := by
  obtain ⟨g, hc, hg⟩ := h.port
  have HC := Lib.hid (uout_c hn hg)
  clear h hg
  go_enter Tryz.func45, Tryz.ntmps45
  go_wp2_with fail
  refine HC.out.mono ?_
  rintro e w1 ⟨v, rfl, h1, h2⟩
  have H1 := Lib.hid h1
  have H2 := Lib.hid h2
  clear h1 h2
  go_wp2_with fail
  go_ret
  exact ⟨_, rfl, H1.out, H2.out⟩
set_option maxHeartbeats 4000000 in
theorem bwait_c (F : Nat → Prop) (b : Nat) (X : Bs.B) (w : World) (h : Bu F w b X) :
    Calls Tryz.prog 46 #[.pointer (some ⟨b, 0, none⟩)] w fun e w' => ∃ v, e = .returned v ∧ w'.ownsRow w.heap.size U8 1 v X.u.q.length (u8V X.u.q) ∧ Below w.heap.size w w' := by
  obtain ⟨g, hc, hg⟩ := h.port
  have HC := Lib.hid (uwaiting_c hg)
  clear h hg
  go_enter Tryz.func46, Tryz.ntmps46
  go_wp2_with fail
  refine HC.out.mono ?_
  rintro e w1 ⟨v, rfl, h1, h2⟩
  have H1 := Lib.hid h1
  have H2 := Lib.hid h2
  clear h1 h2
  go_wp2_with fail
  go_ret
  exact ⟨_, rfl, H1.out, H2.out⟩
end Go.Proofs.YtfjdalepaacmgaaGreat
set_option maxRecDepth 20000
namespace Go.Proofs.YtfjdalepaacmgaaGreat
open Go.ChangeShapes Go.WideShapes Go.ChangeAt Go.RowKit

namespace Ct
/-- None of the harts below h has a register there. -/
def rno (off size : Int) (h : Nat) : Prop := ∀ j : Nat, j < h → ¬ (size = 4 ∧ off = 4 * (j : Int)) ∧ ¬ (size = 8 ∧ off = 16384 + 8 * (j : Int)) ∧ ¬ (size = 4 ∧ off = 16384 + 8 * (j : Int)) ∧ ¬ (size = 4 ∧ off = 16384 + 8 * (j : Int) + 4)
section
variable {n h : Nat} {off : Int}
theorem ra1 (_hn : n ≤ 8) (hh : h < n) (e : off = 4 * (h : Int)) : at_ n off 4 = (1, h, 0) := by
  unfold at_
  rw [if_pos (by omega), show (off / 4).toNat = h by omega]
theorem ra2 (hn : n ≤ 8) (hh : h < n) (e : off = 16384 + 8 * (h : Int)) : at_ n off 8 = (2, h, 0) := by
  unfold at_
  rw [if_neg (by omega), if_pos (by omega), show ((off - 16384) / 8).toNat = h by omega]
theorem ra3 (hn : n ≤ 8) (hh : h < n) (e : off = 16384 + 8 * (h : Int)) : at_ n off 4 = (2, h, 1) := by
  unfold at_
  rw [if_neg (by omega), if_neg (by omega), if_pos (by omega), show ((off - 16384) / 8).toNat = h by omega]
theorem ra4 (hn : n ≤ 8) (hh : h < n) (e : off = 16384 + 8 * (h : Int) + 4) : at_ n off 4 = (2, h, 2) := by
  unfold at_
  rw [if_neg (by omega), if_neg (by omega), if_neg (by omega), if_pos (by omega), show ((off - 16384) / 8).toNat = h by omega]
theorem ra5 {size : Int} (hn : n ≤ 8) (h0 : 0 ≤ off) (hr : rno off size n) : at_ n off size = if 0 < n ∧ size = 8 ∧ off = 49144 then (3, 0, 0) else if 0 < n ∧ size = 4 ∧ off = 49144 then (3, 0, 1) else if 0 < n ∧ size = 4 ∧ off = 49148 then (3, 0, 2) else (0, 0, 0) := by
  unfold at_
  rw [if_neg (fun h => by have := hr (off / 4).toNat; omega), if_neg (fun h => by have := hr ((off - 16384) / 8).toNat; omega), if_neg (fun h => by have := hr ((off - 16384) / 8).toNat; omega), if_neg (fun h => by have := hr ((off - 16384) / 8).toNat; omega)]
  by_cases hz : 0 < n
  · by_cases e8 : size = 8
    · subst e8
      by_cases e : off = 49144
      · rw [if_pos (by omega), if_pos (by omega)]
      · rw [if_neg (by omega), if_neg (by omega), if_neg (by omega), if_neg (by omega), if_neg (by omega), if_neg (by omega)]
    · by_cases e4 : size = 4
      · subst e4
        by_cases e : off = 49144
        · rw [if_neg (by omega), if_pos (by omega), if_neg (by omega), if_pos (by omega)]
        · by_cases e2 : off = 49148
          · rw [if_neg (by omega), if_neg (by omega), if_pos (by omega), if_neg (by omega), if_neg (by omega), if_pos (by omega)]
          · rw [if_neg (by omega), if_neg (by omega), if_neg (by omega), if_neg (by omega), if_neg (by omega), if_neg (by omega)]
      · rw [if_neg (by omega), if_neg (by omega), if_neg (by omega), if_neg (by omega), if_neg (by omega), if_neg (by omega)]
  · rw [if_neg (by omega), if_neg (by omega), if_neg (by omega), if_neg (by omega), if_neg (by omega), if_neg (by omega)]
theorem rmore {size : Int} (hr : rno off size h) (hm : ¬ (size = 4 ∧ off = 4 * (h : Int)) ∧ ¬ (size = 8 ∧ off = 16384 + 8 * (h : Int)) ∧ ¬ (size = 4 ∧ off = 16384 + 8 * (h : Int)) ∧ ¬ (size = 4 ∧ off = 16384 + 8 * (h : Int) + 4)) : rno off size (h + 1) := fun j hj => by
  by_cases e : j = h
  · rw [e]; exact hm
  · exact hr j (by omega)
end
end Ct
def atT (t : Nat × Nat × Nat) : Value := .tuple #[.int .i64 t.1, .int .i64 t.2.1, .int .i64 t.2.2]
set_option maxHeartbeats 16000000 in
theorem rat15_c (n : Nat) (hn : n ≤ 8) (off size : Int) (o0 : 0 ≤ off) (w : World) :
    Calls Tryz.prog 66 #[.int .i64 n, .int .u64 off, .int .i64 size] w fun e w' => e = .returned (atT (Ct.at_ n off size)) ∧ w' = w := by
  by_cases s4 : size = 4
  · subst s4
    go_enter Tryz.func66, Tryz.ntmps66
    go_wp2_with fail
    go_loopw [9] (fun i wr => ∃ h : Nat, h ≤ n ∧ i = .int .i64 h ∧ Ct.rno off 4 h ∧ wr = w) (fun i _ => n - (intOf i).toNat)
    case atStart => exact ⟨0, by omega, rfl, fun j hj => by omega, rfl⟩
    case round =>
      obtain ⟨h, hk, rfl, hno, hwr⟩ := hrel
      have HWR := Lib.hid hwr
      have HNO := Lib.hid hno
      clear hno hwr
      by_cases hlt : h < n
      · have e0 : decide ((h : Int) < (n : Int)) = true := by simp; omega
        have e1 : decide ((h : Int) < 8) = true := by simp; omega
        have gh : (h : Int) < 8 := by omega
        by_cases c0 : off = 4 * (h : Int)
        · have HE := Lib.hid (Ct.ra1 hn hlt c0)
          have g0 : (off == 4 * (h : Int)) = true := by simpa using c0
          clear HNO c0
          go_wp2_with fail
          go_ret3
          exact ⟨by rw [HE.out]; rfl, HWR.out⟩
        have g0 : (off == 4 * (h : Int)) = false := by simpa using c0
        by_cases c1 : off = 16384 + 8 * (h : Int)
        · have HE := Lib.hid (Ct.ra3 hn hlt c1)
          have g1 : (off == 16384 + 8 * (h : Int)) = true := by simpa using c1
          clear HNO c0 c1
          go_wp2_with fail
          go_ret3
          exact ⟨by rw [HE.out]; rfl, HWR.out⟩
        have g1 : (off == 16384 + 8 * (h : Int)) = false := by simpa using c1
        by_cases c2 : off = 16384 + 8 * (h : Int) + 4
        · have HE := Lib.hid (Ct.ra4 hn hlt c2)
          have g2 : (off == 16384 + 8 * (h : Int) + 4) = true := by simpa using c2
          clear HNO c0 c1 c2
          go_wp2_with fail
          go_ret3
          exact ⟨by rw [HE.out]; rfl, HWR.out⟩
        have g2 : (off == 16384 + 8 * (h : Int) + 4) = false := by simpa using c2
        have HN2 := Lib.hid (Ct.rmore HNO.out (by omega))
        clear HNO c0 c1 c2
        go_wp2_with fail
        go_roundw
        case rel => exact ⟨h + 1, by omega, by go_num, HN2.out, HWR.out⟩
        case measure => simp [intOf]; omega
      · obtain rfl : h = n := by omega
        have e0 : decide ((h : Int) < (h : Int)) = false := by simp
        have HR := Lib.hid (Ct.ra5 hn o0 HNO.out)
        clear HNO
        by_cases hz : 0 < h
        · have z0 : decide ((h : Int) > 0) = true := by simp; omega
          by_cases c : off = 49144
          · have HE := Lib.hid (HR.out.trans ((if_neg (by omega)).trans (if_pos (by omega))))
            have g : (off == 49144) = true := by simpa using c
            clear c HR
            go_wp2_with fail
            go_ret3
            exact ⟨by rw [HE.out]; rfl, HWR.out⟩
          have g : (off == 49144) = false := by simpa using c
          by_cases d : off = 49148
          · have HE := Lib.hid (HR.out.trans ((if_neg (by omega)).trans ((if_neg (by omega)).trans (if_pos (by omega)))))
            have g' : (off == 49148) = true := by simpa using d
            clear c d HR
            go_wp2_with fail
            go_ret3
            exact ⟨by rw [HE.out]; rfl, HWR.out⟩
          · have HE := Lib.hid (HR.out.trans ((if_neg (by omega)).trans ((if_neg (by omega)).trans (if_neg (by omega)))))
            have g' : (off == 49148) = false := by simpa using d
            clear c d HR
            go_wp2_with fail
            go_ret3
            exact ⟨by rw [HE.out]; rfl, HWR.out⟩
        · have z0 : decide ((h : Int) > 0) = false := by simp; omega
          have HE := Lib.hid (HR.out.trans ((if_neg (by omega)).trans ((if_neg (by omega)).trans (if_neg (by omega)))))
          clear HR
          go_wp2_with fail
          go_ret3
          exact ⟨by rw [HE.out]; rfl, HWR.out⟩
  · by_cases s8 : size = 8
    · subst s8
      clear s4
      go_enter Tryz.func66, Tryz.ntmps66
      go_wp2_with fail
      go_loopw [9] (fun i wr => ∃ h : Nat, h ≤ n ∧ i = .int .i64 h ∧ Ct.rno off 8 h ∧ wr = w) (fun i _ => n - (intOf i).toNat)
      case atStart => exact ⟨0, by omega, rfl, fun j hj => by omega, rfl⟩
      case round =>
        obtain ⟨h, hk, rfl, hno, hwr⟩ := hrel
        have HWR := Lib.hid hwr
        have HNO := Lib.hid hno
        clear hno hwr
        by_cases hlt : h < n
        · have e0 : decide ((h : Int) < (n : Int)) = true := by simp; omega
          have e1 : decide ((h : Int) < 8) = true := by simp; omega
          have gh : (h : Int) < 8 := by omega
          by_cases c0 : off = 16384 + 8 * (h : Int)
          · have HE := Lib.hid (Ct.ra2 hn hlt c0)
            have g0 : (off == 16384 + 8 * (h : Int)) = true := by simpa using c0
            clear HNO c0
            go_wp2_with fail
            go_ret3
            exact ⟨by rw [HE.out]; rfl, HWR.out⟩
          have g0 : (off == 16384 + 8 * (h : Int)) = false := by simpa using c0
          have HN2 := Lib.hid (Ct.rmore HNO.out (by omega))
          clear HNO c0
          go_wp2_with fail
          go_roundw
          case rel => exact ⟨h + 1, by omega, by go_num, HN2.out, HWR.out⟩
          case measure => simp [intOf]; omega
        · obtain rfl : h = n := by omega
          have e0 : decide ((h : Int) < (h : Int)) = false := by simp
          have HR := Lib.hid (Ct.ra5 hn o0 HNO.out)
          clear HNO
          by_cases hz : 0 < h
          · have z0 : decide ((h : Int) > 0) = true := by simp; omega
            by_cases c : off = 49144
            · have HE := Lib.hid (HR.out.trans (if_pos (by omega)))
              have g : (off == 49144) = true := by simpa using c
              clear c HR
              go_wp2_with fail
              go_ret3
              exact ⟨by rw [HE.out]; rfl, HWR.out⟩
            · have HE := Lib.hid (HR.out.trans ((if_neg (by omega)).trans ((if_neg (by omega)).trans (if_neg (by omega)))))
              have g : (off == 49144) = false := by simpa using c
              clear c HR
              go_wp2_with fail
              go_ret3
              exact ⟨by rw [HE.out]; rfl, HWR.out⟩
          · have z0 : decide ((h : Int) > 0) = false := by simp; omega
            have HE := Lib.hid (HR.out.trans ((if_neg (by omega)).trans ((if_neg (by omega)).trans (if_neg (by omega)))))
            clear HR
            go_wp2_with fail
            go_ret3
            exact ⟨by rw [HE.out]; rfl, HWR.out⟩
    · have k4 : (size == 4) = false := by simpa using s4
      have k8 : (size == 8) = false := by simpa using s8
      go_enter Tryz.func66, Tryz.ntmps66
      go_wp2_with fail
      go_loopw [9] (fun i wr => ∃ h : Nat, h ≤ n ∧ i = .int .i64 h ∧ Ct.rno off size h ∧ wr = w) (fun i _ => n - (intOf i).toNat)
      case atStart => exact ⟨0, by omega, rfl, fun j hj => by omega, rfl⟩
      case round =>
        obtain ⟨h, hk, rfl, hno, hwr⟩ := hrel
        have HWR := Lib.hid hwr
        have HNO := Lib.hid hno
        clear hno hwr
        by_cases hlt : h < n
        · have e0 : decide ((h : Int) < (n : Int)) = true := by simp; omega
          have e1 : decide ((h : Int) < 8) = true := by simp; omega
          have gh : (h : Int) < 8 := by omega
          have HN2 := Lib.hid (Ct.rmore HNO.out (by omega))
          clear HNO
          go_wp2_with fail
          go_roundw
          case rel => exact ⟨h + 1, by omega, by go_num, HN2.out, HWR.out⟩
          case measure => simp [intOf]; omega
        · obtain rfl : h = n := by omega
          have e0 : decide ((h : Int) < (h : Int)) = false := by simp
          have HR := Lib.hid (Ct.ra5 hn o0 HNO.out)
          clear HNO
          by_cases hz : 0 < h
          · have z0 : decide ((h : Int) > 0) = true := by simp; omega
            have HE := Lib.hid (HR.out.trans ((if_neg (by omega)).trans ((if_neg (by omega)).trans (if_neg (by omega)))))
            clear HR
            go_wp2_with fail
            go_ret3
            exact ⟨by rw [HE.out]; rfl, HWR.out⟩
          · have z0 : decide ((h : Int) > 0) = false := by simp; omega
            have HE := Lib.hid (HR.out.trans ((if_neg (by omega)).trans ((if_neg (by omega)).trans (if_neg (by omega)))))
            clear HR
            go_wp2_with fail
            go_ret3
            exact ⟨by rw [HE.out]; rfl, HWR.out⟩
theorem part_c (v : Int) (b : Nat) (w : World) (h0 : 0 ≤ v) (hv : v ≤ 18446744073709551615) : Calls Tryz.prog 68 #[.int .u64 v, .int .i64 b] w fun e w' => e = .returned (.int .u64 (Ct.part v b)) ∧ w' = w := by
  by_cases b1 : b = 1
  · subst b1
    go_enter Tryz.func68, Tryz.ntmps68
    go_wp2_with fail
    go_ret
    exact ⟨rfl, rfl⟩
  · have g1 : ((b : Int) == 1) = false := by simp; omega
    by_cases b2 : b = 2
    · subst b2
      go_enter Tryz.func68, Tryz.ntmps68
      go_wp2_with fail
      go_ret
      exact ⟨rfl, rfl⟩
    · have g2 : ((b : Int) == 2) = false := by simp; omega
      have HE := Lib.hid (show Ct.part v b = v by unfold Ct.part; rw [if_neg b1, if_neg b2])
      rw [HE.out]
      clear b1 b2
      go_enter Tryz.func68, Tryz.ntmps68
      go_wp2_with fail
      go_ret
      exact ⟨rfl, rfl⟩
theorem with_c (x : Int) (b : Nat) (v : Int) (w : World) (h0 : 0 ≤ x) (hx : x ≤ 18446744073709551615) (v0 : 0 ≤ v) (hv : v ≤ 18446744073709551615) : Calls Tryz.prog 72 #[.int .u64 x, .int .i64 b, .int .u64 v] w fun e w' => e = .returned (.int .u64 (Ct.with_ x b v)) ∧ w' = w := by
  by_cases b1 : b = 1
  · subst b1
    have HE := Lib.hid (show Ct.with_ x 1 v = x - x % 4294967296 + v % 4294967296 from rfl)
    rw [HE.out]
    have p1 : IntKind.u64.wrap (x - x % 4294967296) = x - x % 4294967296 := by rw [IntKind.wrap_u64]; omega
    have p2 : IntKind.u64.wrap (x - x % 4294967296 + v % 4294967296) = x - x % 4294967296 + v % 4294967296 := by rw [IntKind.wrap_u64]; omega
    go_enter Tryz.func72, Tryz.ntmps72
    go_wp2_with fail
    go_ret
    exact ⟨rfl, rfl⟩
  · have g1 : ((b : Int) == 1) = false := by simp; omega
    by_cases b2 : b = 2
    · subst b2
      have HE := Lib.hid (show Ct.with_ x 2 v = x % 4294967296 + v % 4294967296 * 4294967296 from rfl)
      rw [HE.out]
      have p1 : IntKind.u64.wrap (v % 4294967296 * 4294967296) = v % 4294967296 * 4294967296 := by rw [IntKind.wrap_u64]; omega
      have p2 : IntKind.u64.wrap (x % 4294967296 + v % 4294967296 * 4294967296) = x % 4294967296 + v % 4294967296 * 4294967296 := by rw [IntKind.wrap_u64]; omega
      go_enter Tryz.func72, Tryz.ntmps72
      go_wp2_with fail
      go_ret
      exact ⟨rfl, rfl⟩
    · have g2 : ((b : Int) == 2) = false := by simp; omega
      have HE := Lib.hid (show Ct.with_ x b v = v by unfold Ct.with_; rw [if_neg b1, if_neg b2])
      rw [HE.out]
      clear b1 b2
      go_enter Tryz.func72, Tryz.ntmps72
      go_wp2_with fail
      go_ret
      exact ⟨rfl, rfl⟩
end Go.Proofs.YtfjdalepaacmgaaGreat
set_option maxRecDepth 20000
namespace Go.Proofs.YtfjdalepaacmgaaGreat
open Go.ChangeShapes Go.WideShapes Go.ChangeAt Go.RowKit

theorem zero_x15 (W : World) : (zeroValue X15).run Tryz.prog W = .ok (.agg (x15V 0 (Ct.newW 0))) W := by kernel_rfl
theorem build_x15 (n : Nat) : (x15V 0 (Ct.newW 0)).setIfInBounds 0 (.int .i64 n) = x15V n (Ct.newW 0) := rfl
/-- The reference's value in a block. -/
structure XcAt (w : World) (b : Nat) (n : Nat) (ws : List Int) : Prop where
  row : CsAt w b X15 (x15V n ws)
  ok : Ct.Ok n ws
section
variable {w w' : World} {b n : Nat} {ws : List Int}
theorem XcAt.low (h : XcAt w b n ws) (hb : Below w.heap.size w w') : XcAt w' b n ws := ⟨h.row.low hb, h.ok⟩
theorem XcAt.n0 (h : XcAt w b n ws) : w.cell? ⟨b, 0, none⟩ = some (.int .i64 n) := by rw [h.row.cell]; exact x15V_0
theorem XcAt.cw (h : XcAt w b n ws) {i : Nat} (hi : i < 9) : w.cell? ⟨b, i + 1, none⟩ = some (.int .u64 (ws.getD i 0)) := by rw [h.row.cell]; exact x15V_w h.ok.len hi
theorem XcAt.cb (h : XcAt w b n ws) {i : Nat} (hi : i < 8) : w.cell? ⟨b, i + 10, none⟩ = some (.bool (ws.getD (9 + i) 0 == 1)) := by rw [h.row.cell]; exact x15V_b h.ok.len hi
theorem XcAt.setW (h : XcAt w b n ws) {i : Nat} (hi : i < 9) (v : Int) (hk : Ct.Ok n (ws.set i v)) : XcAt (w.setCell ⟨b, i + 1, none⟩ (.int .u64 v)) b n (ws.set i v) := by
  refine ⟨?_, hk⟩
  unfold CsAt
  rw [heap_setCell_same w b (i + 1) _ X15 _ h.row, x15V_setW h.ok.len hi]
theorem XcAt.setB (h : XcAt w b n ws) {i : Nat} (hi : i < 8) (v : Int) (hk : Ct.Ok n (ws.set (9 + i) v)) : XcAt (w.setCell ⟨b, i + 10, none⟩ (.bool (v == 1))) b n (ws.set (9 + i) v) := by
  refine ⟨?_, hk⟩
  unfold CsAt
  rw [heap_setCell_same w b (i + 10) _ X15 _ h.row, x15V_setB h.ok.len hi]
theorem XcAt.box (w : World) (hk : Ct.Ok n ws) : XcAt (w.alloc (Obj.cells (x15V n ws) X15)) w.heap.size n ws := ⟨CsAt.new w X15 _, hk⟩
end
set_option maxRecDepth 100000 in
set_option maxHeartbeats 4000000 in
theorem rnew15_c (harts : Int) (w : World) : Calls Tryz.prog 19 #[.int .i64 harts] w fun e w' => e = .returned (.agg (x15V (Ct.cnt harts) (Ct.newW (Ct.cnt harts)))) ∧ Below w.heap.size w w' := by
  have HB0 := Lib.hid ((Below.refl w.heap.size w).alloc (Nat.le_refl _) (Obj.cells (x15V 0 (Ct.newW 0)) X15))
  have HR0 := Lib.hid (CsAt.new w X15 (x15V 0 (Ct.newW 0)))
  have hz := zero_x15
  have i0 : (Tryz.prog.info? X15).map (·.size) = some (x15V 0 (Ct.newW 0)).size := iX15 rfl
  by_cases hlo : harts < 1
  · have HE := Lib.hid (show Ct.cnt harts = 0 by unfold Ct.cnt; rw [if_neg (by omega)])
    rw [HE.out]
    have g0 : decide (harts < 1) = true := by simpa using hlo
    clear hlo
    go_enter Tryz.func19, Tryz.ntmps19
    go_upto_region 1 with fail
    go_wp2_with (refine wpList_storeNew (w0 := w) rfl X15 _ _ rfl _ (x15V 0 (Ct.newW 0)) _ rfl rfl i0 rfl x15V_one ?_)
    exact bodyPost_ret (results_cell_row Tryz.results19 _ _ _ _ _ _ _ rfl HR0.out Tryz.underlying42 rfl i0) rfl ⟨rfl, HB0.out⟩
  by_cases hhi : 8 < harts
  · have HE := Lib.hid (show Ct.cnt harts = 0 by unfold Ct.cnt; rw [if_neg (by omega)])
    rw [HE.out]
    have g0 : decide (harts < 1) = false := by simpa using hlo
    have g1 : decide (harts > 8) = true := by simpa using hhi
    clear hlo hhi
    go_enter Tryz.func19, Tryz.ntmps19
    go_upto_region 1 with fail
    go_wp2_with (refine wpList_storeNew (w0 := w) rfl X15 _ _ rfl _ (x15V 0 (Ct.newW 0)) _ rfl rfl i0 rfl x15V_one ?_)
    exact bodyPost_ret (results_cell_row Tryz.results19 _ _ _ _ _ _ _ rfl HR0.out Tryz.underlying42 rfl i0) rfl ⟨rfl, HB0.out⟩
  · skip
    obtain ⟨n, hn⟩ : ∃ n : Nat, harts = n := ⟨harts.toNat, by omega⟩
    subst hn
    have HE := Lib.hid (show Ct.cnt (n : Int) = n by unfold Ct.cnt; rw [if_pos (by omega)]; omega)
    rw [HE.out]
    have hn1 : 1 ≤ n := by omega
    have hn8 : n ≤ 8 := by omega
    have g0 : decide ((n : Int) < 1) = false := by simp; omega
    have g1 : decide ((n : Int) > 8) = false := by simp; omega
    have i1 : (Tryz.prog.info? X15).map (·.size) = some (x15V n (Ct.newW 0)).size := iX15 rfl
    clear HE hlo hhi
    go_enter Tryz.func19, Tryz.ntmps19
    go_upto_region 1 with fail
    generalize w.alloc (Obj.cells (x15V 0 (Ct.newW 0)) X15) = w1 at *
    go_upto_region 4 with (refine wpList_storeNew (w0 := w1) rfl X15 _ _ rfl _ (x15V n (Ct.newW 0)) _ rfl rfl i1 rfl x15V_one ?_)
    have HB1 := Lib.hid (HB0.out.alloc HB0.out.size (Obj.cells (x15V n (Ct.newW 0)) X15))
    have HR1 := Lib.hid (CsAt.new w1 X15 (x15V n (Ct.newW 0)))
    have HQ1 := Lib.hid (HR0.out.alloc (Obj.cells (x15V n (Ct.newW 0)) X15))
    have hlt := HB0.out.size
    have hlt2 := HR0.out.lt
    clear HB0 HR0
    generalize w1.alloc (Obj.cells (x15V n (Ct.newW 0)) X15) = w2 at *
    go_wp2_with fail
    go_loopw [4] (fun i wr => ∃ k : Nat, k ≤ n ∧ i = .int .i64 k ∧ CsAt wr w1.heap.size X15 (x15V n (Ct.newW k)) ∧ CsAt wr w.heap.size X15 (x15V 0 (Ct.newW 0)) ∧ Below w.heap.size w wr) (fun i _ => n - (intOf i).toNat)
    case atStart => exact ⟨0, Nat.zero_le _, rfl, HR1.out, HQ1.out, HB1.out⟩
    case round =>
      obtain ⟨k, hk, rfl, hr, hq, hb⟩ := hrel
      have HRR := Lib.hid hr
      have HQR := Lib.hid hq
      have HBR := Lib.hid hb
      clear hr hq hb HR1 HQ1 HB1
      by_cases hkn : k < n
      · have e0 : decide (k < n) = true := by simpa using hkn
        have gk : (k : Int) < 8 := by omega
        have hc : wr.cell? ⟨w1.heap.size, 2 + k, none⟩ = some (.int .u64 ((Ct.newW k).getD (1 + k) 0)) := by
          rw [HRR.out.cell, show 2 + k = (1 + k) + 1 by omega]; exact x15V_w (Ct.newW_len (by omega)) (by omega)
        have hf := HRR.out.frozen (2 + k)
        generalize (Ct.newW k).getD (1 + k) 0 = v at *
        go_wp2_with fail
        go_roundw
        case rel =>
          refine ⟨k + 1, by omega, by go_num, ?_, HQR.out.far (by omega) _, HBR.out.setCell (by simp; omega) _⟩
          have := HRR.out
          unfold CsAt at this ⊢
          rw [heap_setCell_same wr w1.heap.size (2 + k) _ X15 _ this, show 2 + k = (1 + k) + 1 by omega, x15V_setW (Ct.newW_len (by omega)) (by omega), Ct.newW_set (by omega)]
        case measure => simp [intOf]; omega
      · obtain rfl : k = n := by omega
        have e0 : decide (k < k) = false := by simp
        have ik : (Tryz.prog.info? X15).map (·.size) = some (x15V k (Ct.newW k)).size := iX15 (Ct.newW_len (by omega))
        go_wp2_with (first | (refine wpList_load_row rfl X15 _ rfl w1.heap.size rfl X15 _ (0, 0) _ HRR.out Tryz.underlying42 rfl ik ?_) | (refine wpList_store_row rfl X15 _ _ rfl w.heap.size (x15V k (Ct.newW k)) rfl rfl X15 (x15V 0 (Ct.newW 0)) HQR.out ik (by rw [x15V_size rfl, x15V_size (Ct.newW_len (by omega))]) x15V_one ?_))
        exact bodyPost_ret (results_cell_row Tryz.results19 _ _ _ _ _ _ _ rfl (HQR.out.row _) Tryz.underlying42 rfl ik) rfl ⟨rfl, below_setRow HBR.out (Nat.le_refl _) _⟩
/-- What stands at a place, and which one. -/
theorem four {t : Nat × Nat × Nat} (h : t.1 < 4) : t.1 = 0 ∨ t.1 = 1 ∨ t.1 = 2 ∨ t.1 = 3 := by omega
set_option maxHeartbeats 8000000 in
theorem rread15_c (n : Nat) (ws : List Int) (hk : Ct.Ok n ws) (off size : Int) (o0 : 0 ≤ off) (w : World) :
    Calls Tryz.prog 32 #[.agg (x15V n ws), .int .u64 off, .int .i64 size] w fun e w' => e = .returned (.tuple #[.int .u64 (Ct.readC n ws off size), .bool (Ct.is n off size)]) ∧ Below w.heap.size w w' := by
  have HA := Lib.hid (XcAt.box w hk)
  have HB := Lib.hid ((Below.refl w.heap.size w).alloc (Nat.le_refl _) (Obj.cells (x15V n ws) X15))
  have hn8 := hk.n8
  have HAT := Lib.hid (rat15_c n hn8 off size o0)
  have hl := Ct.at_lt (n := n) (size := size) o0
  have HBT := Lib.hid (fun h => Ct.at_bit (n := n) (off := off) (size := size) h)
  have HRD := Lib.hid (show Ct.readC n ws off size = if (Ct.at_ n off size).1 = 0 then 0 else Ct.part (ws.getD (Ct.idx (Ct.at_ n off size).1 (Ct.at_ n off size).2.1) 0) (Ct.at_ n off size).2.2 from rfl)
  have HIS := Lib.hid (show Ct.is n off size = decide ((Ct.at_ n off size).1 ≠ 0) from rfl)
  have HBI := Lib.hid hk.bit
  have HRG := Lib.hid hk.rng
  rw [HRD.out, HIS.out]
  generalize Ct.at_ n off size = t at *
  obtain ⟨t1, h, b⟩ := t
  simp only at hl HBT HRD HIS ⊢
  have ht : t1 = 0 ∨ (t1 = 1 ∧ h < n) ∨ (t1 = 2 ∧ h < n) ∨ (t1 = 3) := by omega
  clear hl hk HRD HIS
  rcases ht with rfl | ⟨rfl, hh⟩ | ⟨rfl, hh⟩ | rfl
  · simp only [if_true]
    have q0 := HA.out.n0
    go_enter Tryz.func32, Tryz.ntmps32
    go_upto_region 1 with fail
    generalize w.alloc (Obj.cells (x15V n ws) X15) = w1 at *
    go_wp2_with fail
    refine (HAT.out w1).mono ?_
    rintro e w2 ⟨rfl, rfl⟩
    simp only [atT]
    go_wp2_with fail
    go_ret2
    exact ⟨rfl, HB.out⟩
  · simp only [Nat.reduceEqDiff, if_false]
    rw [HBT.out rfl, show Ct.idx 1 h = 9 + h from rfl, show Ct.part (ws.getD (9 + h) 0) 0 = ws.getD (9 + h) 0 from rfl]
    have q := HA.out.cb (i := h) (by omega)
    rw [show h + 10 = 10 + h by omega] at q
    have gh : (h : Int) < 8 := by omega
    have hbit := HBI.out h
    generalize ws.getD (9 + h) 0 = v at *
    have q0 := HA.out.n0
    go_enter Tryz.func32, Tryz.ntmps32
    go_upto_region 1 with fail
    generalize w.alloc (Obj.cells (x15V n ws) X15) = w1 at *
    rcases hbit with rfl | rfl
    all_goals
      go_wp2_with fail
      refine (HAT.out w1).mono ?_
      rintro e w2 ⟨rfl, rfl⟩
      simp only [atT]
      go_wp2_with fail
      go_ret2
      exact ⟨rfl, HB.out⟩
  · simp only [Nat.reduceEqDiff, if_false]
    rw [show Ct.idx 2 h = 1 + h from rfl]
    have q := HA.out.cw (i := 1 + h) (by omega)
    rw [show 1 + h + 1 = 2 + h by omega] at q
    have gh : (h : Int) < 8 := by omega
    have hr := HRG.out (1 + h)
    generalize ws.getD (1 + h) 0 = v at *
    have q0 := HA.out.n0
    go_enter Tryz.func32, Tryz.ntmps32
    go_upto_region 1 with fail
    generalize w.alloc (Obj.cells (x15V n ws) X15) = w1 at *
    go_wp2_with fail
    refine (HAT.out w1).mono ?_
    rintro e w2 ⟨rfl, rfl⟩
    simp only [atT]
    go_wp2_with fail
    refine (part_c v b w2 hr.1 hr.2).mono ?_
    rintro e w3 ⟨rfl, rfl⟩
    go_wp2_with fail
    go_ret2
    exact ⟨rfl, HB.out⟩
  · simp only [Nat.reduceEqDiff, if_false]
    rw [show Ct.idx 3 h = 0 from rfl]
    have q := HA.out.cw (i := 0) (by omega)
    have hr := HRG.out 0
    generalize ws.getD 0 0 = v at *
    have q0 := HA.out.n0
    go_enter Tryz.func32, Tryz.ntmps32
    go_upto_region 1 with fail
    generalize w.alloc (Obj.cells (x15V n ws) X15) = w1 at *
    go_wp2_with fail
    refine (HAT.out w1).mono ?_
    rintro e w2 ⟨rfl, rfl⟩
    simp only [atT]
    go_wp2_with fail
    refine (part_c v b w2 hr.1 hr.2).mono ?_
    rintro e w3 ⟨rfl, rfl⟩
    go_wp2_with fail
    go_ret2
    exact ⟨rfl, HB.out⟩
end Go.Proofs.YtfjdalepaacmgaaGreat
