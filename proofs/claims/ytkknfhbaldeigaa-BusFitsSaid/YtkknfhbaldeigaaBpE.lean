/-
  A controller within a bus: contract of best.
-/
import Derived.Test.YtkknfhbaldeigaaBpD
import Derived.BigQuiet
import Derived.BigRegion
set_option maxRecDepth 20000
namespace Go.Proofs.Ytkknfhbaldeigaa
open Go.ChangeShapes Go.WideShapes Go.ChangeAt Go.RowKit
namespace Pc
open Wd
theorem div_zero {S : Int} (h0 : 0 ≤ S) {k : Nat} (h : S / 2 ^ k = 0) : ∀ j, k ≤ j → tb S j = false := fun j hj => by
  have := tb_div h0 k (j - k)
  rw [h, tb_zero, show j - k + k = j by omega] at this
  exact this.symm
theorem div_lt {S : Int} (h : St S) {k : Nat} (hk : ¬ S / 2 ^ k = 0) : k < 32 := by
  apply Nat.lt_of_not_le
  intro hc
  apply hk
  refine Int.ediv_eq_zero_of_lt h.lo (Int.lt_of_lt_of_le h.lt32 ?_)
  have h2 : 2 ^ 32 ≤ 2 ^ k := Nat.pow_le_pow_right (by omega) hc
  have h3 : ((2 ^ 32 : Nat) : Int) ≤ ((2 ^ k : Nat) : Int) := by exact_mod_cast h2
  simpa using h3
theorem div_tb {S : Int} (h0 : 0 ≤ S) (h1 : S < 18446744073709551616) (k : Nat) : (Go.bits .and .u64 (S / 2 ^ k) 1 == 1) = tb S k := by
  have hr := div_range h0 h1 k
  rw [Ct.and_one hr.1 hr.2]
  have := tb_div h0 k 0
  rw [Nat.zero_add] at this
  rw [← this, tb, Nat.testBit_zero]
  have h2 : ((S / 2 ^ k).toNat : Int) = S / 2 ^ k := Int.toNat_of_nonneg hr.1
  apply Bool.eq_iff_iff.2
  simp only [beq_iff_eq, decide_eq_true_eq]
  omega
theorem div_next {S : Int} (k : Nat) : S / 2 ^ k / 2 = S / 2 ^ (k + 1) := by
  rw [Int.pow_succ, ← Int.ediv_ediv_of_nonneg (Int.pow_nonneg (by omega))]
theorem up_rng {S : Int} {pr : Nat → Int} {lv : Int} (hp : ∀ i, i < 32 → 0 ≤ pr i ∧ pr i < 8) (hl : 0 ≤ lv ∧ lv ≤ 18446744073709551615) : ∀ k, k ≤ 32 → 0 ≤ (up S pr lv k).2 ∧ (up S pr lv k).2 ≤ 18446744073709551615
  | 0, _ => hl
  | k + 1, hk => by
    have := up_rng (S := S) hp hl k (by omega)
    have := hp k (by omega)
    unfold up
    split
    · simp only; omega
    · omega
end Pc
namespace Bp
section
variable {S : SurP}
set_option maxHeartbeats 8000000 in
theorem pbest_c (b n : Nat) (ws : List Int) (c : Nat) (hc : c < 16) (lv : Int) (l0 : 0 ≤ lv) (l1 : lv ≤ 18446744073709551615) (w : World) (h : BpAt S w b n ws) :
    Calls Try.prog 71 #[.pointer (some ⟨b, 20, none⟩), .int .u64 c, .int .u64 lv] w fun e w' => e = .returned (.int .u64 (Pc.bst ws c lv)) ∧ Below w.heap.size w w' := by
  have hc1 := h.cell (show 1 < 67 by omega)
  have hc2 := h.cell (show 35 + c < 67 by omega)
  rw [show 35 + c + 21 = 56 + c by omega] at hc2
  have gc : (c : Int) < 16 := by omega
  have hS : Pc.St (bits .and .u64 (ws.getD 1 0) (ws.getD (35 + c) 0)) := h.ok.wait.and (h.ok.en c hc).lo (h.ok.en c hc).hi
  have HG := Lib.hid (show Pc.bst ws c lv = Pc.best (bits .and .u64 (ws.getD 1 0) (ws.getD (35 + c) 0)) (fun i => ws.getD (3 + i) 0) lv from rfl)
  rw [HG.out]
  have HP := Lib.hid h.ok.pri
  have HA := Lib.hid h
  clear h HG
  obtain ⟨pr, hpr⟩ : ∃ pr : Nat → Int, pr = fun i => ws.getD (3 + i) 0 := ⟨_, rfl⟩
  have HPK := Lib.hid (fun i => show ws.getD (3 + i) 0 = pr i by rw [hpr])
  rw [← hpr]
  clear hpr
  generalize ws.getD 1 0 = wa at *
  generalize ws.getD (35 + c) 0 = we at *
  obtain ⟨S, hSe⟩ : ∃ S, bits .and .u64 wa we = S := ⟨_, rfl⟩
  rw [hSe] at hS ⊢
  have HS := Lib.hid hS
  clear hS
  go_enter Try.func71, Try.ntmps71
  go_wp2_with fail
  go_quiet (fail)
  have HB := Lib.hid (below_dnC (Below.refl w.heap.size w) nq)
  clear hc1 hc2 hSe
  go_wp2_with fail
  go_loopw [2, 7, 8, 9] (fun lvv fv sv kv wr => ∃ k : Nat, k ≤ 32 ∧ kv = .int .u64 k ∧ sv = .int .u64 (S / 2 ^ k) ∧ fv = .int .u64 ((Pc.up S pr lv k).1 : Nat) ∧ lvv = .int .u64 (Pc.up S pr lv k).2 ∧ Below w.heap.size w wr) (fun _ _ _ kv _ => 32 - (intOf kv).toNat)
  case atStart => exact ⟨0, by omega, rfl, by simp, rfl, rfl, HB.out⟩
  case round =>
    obtain ⟨k, hk, rfl, rfl, rfl, rfl, hb⟩ := hrel
    have HBR := Lib.hid hb
    have hup := Pc.up_rng (S := S) (pr := pr) (lv := lv) (fun i hi => by rw [← HPK.out]; exact HP.out i hi) ⟨l0, l1⟩ k hk
    clear hb HB
    by_cases hz : S / 2 ^ k = 0
    · have HF := Lib.hid (show Pc.best S pr lv = (Pc.up S pr lv k).1 by rw [Pc.best, Pc.up_stop (Pc.div_zero HS.out.lo hz) 32 hk])
      rw [hz]
      clear hz
      generalize Pc.up S pr lv k = u at *
      obtain ⟨u1, u2⟩ := u
      simp only at *
      go_wp2_with fail
      go_ret
      exact ⟨by rw [HF.out]; rfl, HBR.out⟩
    · have hk32 := Pc.div_lt HS.out hz
      have gb := Pc.div_tb HS.out.lo HS.out.hi k
      have HN := Lib.hid (Pc.div_next (S := S) k)
      have e0 : (S / 2 ^ k != 0) = true := by simpa using hz
      have hx := Wd.div_range HS.out.lo HS.out.hi k
      have HUP := Lib.hid (show Pc.up S pr lv (k + 1) = if Wd.tb S k = true ∧ pr k > (Pc.up S pr lv k).2 then (k, pr k) else Pc.up S pr lv k from rfl)
      have gk : (k : Int) < 32 := by omega
      clear hz
      generalize S / 2 ^ k = x at *
      generalize Pc.up S pr lv k = u at *
      obtain ⟨u1, u2⟩ := u
      simp only at *
      cases ht : Wd.tb S k with
      | true =>
        rw [ht] at gb HUP
        have hcp := (HA.out.low HBR.out).cell (show 3 + k < 67 by omega)
        rw [show 3 + k + 21 = 24 + k by omega, HPK.out] at hcp
        have hpk := HP.out k hk32
        rw [HPK.out] at hpk
        by_cases hg : u2 < pr k
        · have e1 : decide (pr k > u2) = true := by simpa using hg
          rw [if_pos ⟨rfl, hg⟩] at HUP
          clear hg ht
          generalize pr k = p at *
          go_wp2_with fail
          go_quiet (fail)
          have HB3 := Lib.hid (below_dnC HBR.out nq)
          go_wp2_with fail
          go_roundw
          case rel => exact ⟨k + 1, by omega, by go_num, by rw [← HN.out], by rw [HUP.out], by rw [HUP.out], HB3.out⟩
          case measure => simp [intOf]; omega
        · have e1 : decide (pr k > u2) = false := by simpa using hg
          rw [if_neg (by omega)] at HUP
          clear hg ht
          generalize pr k = p at *
          go_wp2_with fail
          go_roundw
          case rel => exact ⟨k + 1, by omega, by go_num, by rw [← HN.out], by rw [HUP.out], by rw [HUP.out], HBR.out⟩
          case measure => simp [intOf]; omega
      | false =>
        rw [ht] at gb HUP
        rw [if_neg (by simp)] at HUP
        clear ht
        go_wp2_with fail
        go_roundw
        case rel => exact ⟨k + 1, by omega, by go_num, by rw [← HN.out], by rw [HUP.out], by rw [HUP.out], HBR.out⟩
        case measure => simp [intOf]; omega
end
end Bp
end Go.Proofs.Ytkknfhbaldeigaa
