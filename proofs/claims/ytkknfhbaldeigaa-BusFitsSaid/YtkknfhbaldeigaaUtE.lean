/-
  Contracts of uart's tellCause, tellLine, modemLines, New, Fits, Line, Waiting, Out.
-/
import Derived.Test.YtkknfhbaldeigaaUtD
set_option maxRecDepth 20000
namespace Go.Proofs.Ytkknfhbaldeigaa
open Go.ChangeShapes Go.WideShapes Go.ChangeAt Go.RowKit

namespace Ut
theorem cause_of (s : S) : cause s = 1 ∨ cause s = 2 ∨ cause s = 4 ∨ cause s = 6 := by
  unfold cause
  split
  · simp
  · split
    · simp
    · split <;> simp
theorem read2_v (s : S) : readV s 2 = cause s + (if s.fifo = true then 192 else 0) := rfl
theorem read2_s (s : S) : readS s 2 = if cause s = 2 then { s with empty := false } else s := rfl
theorem read5_v (s : S) : readV s 5 = 96 + (if s.q ≠ [] then 1 else 0) + (if s.lost = true then 2 else 0) := rfl
theorem read5_s (s : S) : readS s 5 = { s with lost := false } := rfl
def mdI (k : Nat) : Nat := if k = 0 then 1 else if k = 1 then 0 else k
def md (m : Int) : Nat → Int
  | 0 => 0
  | k + 1 => md m k + 2 ^ (4 + k) * b2i (bt m (mdI k))
theorem md_step : ∀ m : Fin 32, ∀ k : Fin 4, Go.bits .or .u8 (md ((m : Nat) : Int) k) (IntKind.u8.wrap (Go.bits .and .u8 (((m : Nat) : Int) / 2 ^ (mdI k)) 1 * 2 ^ (4 + (k : Nat)))) = md ((m : Nat) : Int) (k + 1) := by decide +kernel
theorem md_next {m : Int} (h0 : 0 ≤ m) (h1 : m < 32) (k : Nat) (hk : k < 4) : Go.bits .or .u8 (md m k) (IntKind.u8.wrap (Go.bits .and .u8 (m / 2 ^ (mdI k)) 1 * 2 ^ (4 + k))) = md m (k + 1) := by
  obtain ⟨n, rfl⟩ := Int.eq_ofNat_of_zero_le h0
  exact md_step ⟨n, by omega⟩ ⟨k, hk⟩
theorem md_all (m : Int) (h : bt m 4 = true) : modem m = md m 4 := by
  unfold modem
  rw [if_pos h]
  simp [md, mdI]
theorem modem_no (m : Int) (h : bt m 4 = false) : modem m = 176 := by
  unfold modem
  rw [if_neg (by rw [h]; simp)]
end Ut
set_option maxHeartbeats 4000000 in
theorem tellCause_c {F : Nat → Prop} {w : World} {b : Nat} {s : Ut.S} (h : Pt F w b s) :
    Calls Try.prog 84 #[.pointer (some ⟨b, 0, none⟩)] w fun e w' => e = .returned (.int .u8 (Ut.readV s 2)) ∧ PtQ F w w' b (Ut.readS s 2) := by
  obtain ⟨qv, sv, h⟩ := h
  obtain ⟨-, -, -, -, -, -, c6, -, c8, -, -⟩ := h.cells
  have f8 := h.row.frozen 8
  have HW := Lib.hid (why_c h)
  have hok := Ut.read_ok h.ok 2
  rw [Ut.read2_s] at hok ⊢
  rw [Ut.read2_v]
  have hc := Ut.cause_of s
  by_cases h2 : Ut.cause s = 2
  · rw [if_pos h2] at hok ⊢
    have HP := Lib.hid (PtQ.of (h.upd (i := 8) (v := .bool false) (t := { s with empty := false }) rfl rfl rfl hok).p (Chg.of_cell (w := w) h.fb 8 (.bool false)))
    have k6 : (w.setCell ⟨b, 8, none⟩ (.bool false)).cell? ⟨b, 6, none⟩ = some (.bool s.fifo) := (h.upd (i := 8) (v := .bool false) (t := { s with empty := false }) rfl rfl rfl hok).row.cell 6
    rw [h2] at HW ⊢
    clear hc h hok
    obtain hf | hf : s.fifo = false ∨ s.fifo = true := by cases s.fifo <;> simp
    all_goals
      rw [hf] at c6 k6
      simp only [hf, if_true, if_false, Bool.false_eq_true]
      go_enter Try.func84, Try.ntmps84
      go_wp2_with fail
      refine HW.out.mono ?_
      rintro e w1 ⟨rfl, rfl⟩
      go_wp2_with fail
      go_ret
      first | exact ⟨rfl, HP.out⟩ | (rw [hf] at HP; exact ⟨rfl, HP.out⟩)
  · rw [if_neg h2] at hok ⊢
    have HP := Lib.hid (PtQ.of h.p (Chg.refl F w))
    clear h hok
    have hc3 : Ut.cause s = 1 ∨ Ut.cause s = 4 ∨ Ut.cause s = 6 := by omega
    clear hc h2
    obtain hf | hf : s.fifo = false ∨ s.fifo = true := by cases s.fifo <;> simp
    all_goals
      rw [hf] at c6
      simp only [hf, if_true, if_false, Bool.false_eq_true]
      rcases hc3 with e | e | e
      all_goals
        rw [e] at HW ⊢
        clear e
        go_enter Try.func84, Try.ntmps84
        go_wp2_with fail
        refine HW.out.mono ?_
        rintro e w1 ⟨rfl, rfl⟩
        go_wp2_with fail
        go_ret
        exact ⟨rfl, HP.out⟩
set_option maxHeartbeats 4000000 in
theorem tellLine_c {F : Nat → Prop} {w : World} {b : Nat} {s : Ut.S} (h : Pt F w b s) :
    Calls Try.prog 85 #[.pointer (some ⟨b, 0, none⟩)] w fun e w' => e = .returned (.int .u8 (Ut.readV s 5)) ∧ PtQ F w w' b (Ut.readS s 5) := by
  obtain ⟨qv, sv, h⟩ := h
  obtain ⟨-, -, -, -, -, -, -, c7, -, c9, -⟩ := h.cells
  have f7 := h.row.frozen 7
  have hok := Ut.read_ok h.ok 5
  rw [Ut.read5_s] at hok ⊢
  rw [Ut.read5_v]
  have HP := Lib.hid (PtQ.of (h.upd (i := 7) (v := .bool false) (t := { s with lost := false }) rfl rfl rfl hok).p (Chg.of_cell (w := w) h.fb 7 (.bool false)))
  obtain ⟨p, cap, hqv, -⟩ := own_form h.q
  subst hqv
  clear h hok
  obtain hf | hf : s.lost = false ∨ s.lost = true := by cases s.lost <;> simp
  all_goals
    rw [hf] at c7
    simp only [hf, if_true, if_false, Bool.false_eq_true]
    by_cases hq : s.q = []
    · have e0 : decide (0 < s.q.length) = false := by rw [hq]; rfl
      rw [if_neg (by simpa using hq)]
      clear hq
      go_enter Try.func85, Try.ntmps85
      go_wp2_with fail
      go_ret
      exact ⟨rfl, HP.out⟩
    · have e0 : decide (0 < s.q.length) = true := by
        have := mt List.length_eq_zero_iff.1 hq
        simp only [decide_eq_true_eq]
        omega
      rw [if_pos (by simpa using hq)]
      clear hq
      go_enter Try.func85, Try.ntmps85
      go_wp2_with fail
      go_ret
      exact ⟨rfl, HP.out⟩
theorem info_StT2 : (Try.prog.info? StT).map (·.size) = some (stV Ut.zero).size := by kernel_rfl
set_option maxHeartbeats 4000000 in
theorem modemLines_c (s : Ut.S) (ok : Ut.Ok s) (w : World) : Calls Try.prog 86 #[.agg (stV s)] w fun e w' => e = .returned (.int .u8 (Ut.modem s.mcr)) ∧ Below w.heap.size w w' := by
  have HB := Lib.hid ((Below.refl w.heap.size w).alloc (Nat.le_refl _) (Obj.cells (stV s) StT))
  have HR := Lib.hid (CsAt.new w StT (stV s))
  have HL := Lib.hid (looped_c s ok)
  have hm := ok.mcr
  have HM := Lib.hid (fun k hk => Ut.md_next hm.1 hm.2 k hk)
  cases hl : Ut.lp s with
  | false =>
    rw [Ut.modem_no s.mcr hl]
    rw [hl] at HL
    clear hl hm
    go_enter Try.func86, Try.ntmps86
    go_wp2_with (refine wpList_load_row rfl StT _ rfl w.heap.size rfl StT _ (0, 0) _ HR.out Try.underlying131 rfl info_StT ?_)
    refine (HL.out _).mono ?_
    rintro e w1 ⟨rfl, hb1⟩
    have HB1 := Lib.hid (HB.out.trans (hb1.mono HB.out.size))
    clear hb1
    go_wp2_with fail
    go_ret
    exact ⟨rfl, HB1.out⟩
  | true =>
    rw [Ut.md_all s.mcr hl]
    rw [hl] at HL
    clear hl
    go_enter Try.func86, Try.ntmps86
    go_wp2_with (refine wpList_load_row rfl StT _ rfl w.heap.size rfl StT _ (0, 0) _ HR.out Try.underlying131 rfl info_StT ?_)
    refine (HL.out _).mono ?_
    rintro e w1 ⟨rfl, hb1⟩
    have HB1 := Lib.hid (HB.out.trans (hb1.mono HB.out.size))
    have HR1 := Lib.hid (HR.out.low hb1)
    clear hb1 HB HR HL
    go_wp2_with fail
    go_loopw [3, 10] (fun v i wr => ∃ k : Nat, k ≤ 4 ∧ i = .int .i64 k ∧ v = .int .u8 (Ut.md s.mcr k) ∧ wr = w1) (fun _ i _ => 4 - (intOf i).toNat)
    case atStart => exact ⟨0, by omega, rfl, rfl, rfl⟩
    case round =>
      obtain ⟨k, hk, rfl, rfl, rfl⟩ := hrel
      have c2 := HR1.out.cell 2
      simp only [stV, List.getElem?_toArray, List.getElem?_cons_succ, List.getElem?_cons_zero] at c2
      have ix0 : ∀ W : World, (Instr.index 163 (.agg #[.int .i64 1, .int .i64 0, .int .i64 2, .int .i64 3]) (.int .i64 0)).run Try.prog W = .ok (.int .i64 1) W := fun W => by kernel_rfl
      have ix1 : ∀ W : World, (Instr.index 163 (.agg #[.int .i64 1, .int .i64 0, .int .i64 2, .int .i64 3]) (.int .i64 1)).run Try.prog W = .ok (.int .i64 0) W := fun W => by kernel_rfl
      have ix2 : ∀ W : World, (Instr.index 163 (.agg #[.int .i64 1, .int .i64 0, .int .i64 2, .int .i64 3]) (.int .i64 2)).run Try.prog W = .ok (.int .i64 2) W := fun W => by kernel_rfl
      have ix3 : ∀ W : World, (Instr.index 163 (.agg #[.int .i64 1, .int .i64 0, .int .i64 2, .int .i64 3]) (.int .i64 3)).run Try.prog W = .ok (.int .i64 3) W := fun W => by kernel_rfl
      obtain rfl | rfl | rfl | rfl | rfl : k = 0 ∨ k = 1 ∨ k = 2 ∨ k = 3 ∨ k = 4 := by omega
      · have e := HM.out 0 (by omega)
        generalize Ut.md s.mcr 0 = v at *
        go_wp2_with fail
        go_roundw
        case rel => exact ⟨1, by omega, rfl, by rw [← e]; rfl, trivial⟩
        case measure => simp [intOf]
      · have e := HM.out 1 (by omega)
        generalize Ut.md s.mcr 1 = v at *
        go_wp2_with fail
        go_roundw
        case rel => exact ⟨2, by omega, rfl, by rw [← e]; simp [Ut.mdI, IntKind.wrap_u8], trivial⟩
        case measure => simp [intOf]
      · have e := HM.out 2 (by omega)
        generalize Ut.md s.mcr 2 = v at *
        go_wp2_with fail
        go_roundw
        case rel => exact ⟨3, by omega, rfl, by rw [← e]; rfl, trivial⟩
        case measure => simp [intOf]
      · have e := HM.out 3 (by omega)
        generalize Ut.md s.mcr 3 = v at *
        go_wp2_with fail
        go_roundw
        case rel => exact ⟨4, by omega, rfl, by rw [← e]; rfl, trivial⟩
        case measure => simp [intOf]
      · go_wp2_with fail
        go_ret
        exact ⟨rfl, HB1.out⟩
end Go.Proofs.Ytkknfhbaldeigaa
