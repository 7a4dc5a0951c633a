/-
  Contracts of uart.Read, of a port.
-/
import Derived.Test.YtkknfhbaldeigaaUtE
set_option maxRecDepth 20000
namespace Go.Proofs.Ytkknfhbaldeigaa
open Go.ChangeShapes Go.WideShapes Go.ChangeAt Go.RowKit

namespace Ut
theorem read_far {s : S} {off : Int} (h : 8 ≤ off) : readV s off = 0 ∧ readS s off = s ∧ is off = false := by
  unfold readV readS is
  refine ⟨?_, ?_, by simp; omega⟩
  · repeat (first | rw [if_neg (by omega)])
  · repeat (first | rw [if_neg (by omega)])
theorem is_lt {off : Int} (h : off < 8) : is off = true := by unfold is; simpa using h
theorem read0_v (s : S) : readV s 0 = if hi s = true then s.dll else s.q.getD 0 0 := rfl
theorem read0_s (s : S) : readS s 0 = if hi s = true then s else { s with q := s.q.drop 1 } := rfl
theorem read1_v (s : S) : readV s 1 = if hi s = true then s.dlm else s.ier := rfl
theorem read1_s (s : S) : readS s 1 = s := rfl
theorem read3_v (s : S) : readV s 3 = s.lcr := rfl
theorem read3_s (s : S) : readS s 3 = s := rfl
theorem read4_v (s : S) : readV s 4 = s.mcr := rfl
theorem read4_s (s : S) : readS s 4 = s := rfl
theorem read6_v (s : S) : readV s 6 = modem s.mcr := rfl
theorem read6_s (s : S) : readS s 6 = s := rfl
theorem read7_v (s : S) : readV s 7 = s.scr := rfl
theorem read7_s (s : S) : readS s 7 = s := rfl
end Ut
set_option maxHeartbeats 16000000 in
theorem uread_c {F : Nat → Prop} {w : World} {b : Nat} {s : Ut.S} (off : Int) (h0 : 0 ≤ off) (_h1 : off ≤ 18446744073709551615) (h : Pt F w b s) :
    Calls Try.prog 60 #[.pointer (some ⟨b, 0, none⟩), .int .u64 off] w fun e w' => e = .returned (.tuple #[.int .u8 (Ut.readV s off), .bool (Ut.is off)]) ∧ PtQ F w w' b (Ut.readS s off) := by
  have HC := Lib.hid (tellCause_c h)
  have HT := Lib.hid (tellLine_c h)
  have HK := Lib.hid (take_c h)
  have HLa := Lib.hid (latched_c s h.ok w)
  have HMo := Lib.hid (modemLines_c s h.ok w)
  have H0 := Lib.hid h
  obtain ⟨qv, sv, hp⟩ := h
  obtain ⟨c0, c1, c2, c3, c4, c5, c6, c7, c8, -, -⟩ := hp.cells
  have HST := Lib.hid hp.st
  have HR := Lib.hid (PtQ.of H0.out (Chg.refl F w))
  have HLow := Lib.hid (fun (w' : World) (hb : Below w.heap.size w w') => PtQ.of (F := F) (H0.out.low hb) (Chg.of_below hb))
  have hbl : b < w.heap.size := hp.lt b hp.fb
  clear hp
  by_cases hf : 8 ≤ off
  · obtain ⟨e1, e2, e3⟩ := Ut.read_far (s := s) hf
    rw [e1, e2, e3]
    have g0 : decide (off ≥ 8) = true := by simpa using hf
    clear HC HT HK HLa HMo hf
    go_enter Try.func60, Try.ntmps60
    go_wp2_with fail
    go_ret2
    exact ⟨rfl, HR.out⟩
  · rw [Ut.is_lt (by omega)]
    obtain rfl | rfl | rfl | rfl | rfl | rfl | rfl | rfl : off = 0 ∨ off = 1 ∨ off = 2 ∨ off = 3 ∨ off = 4 ∨ off = 5 ∨ off = 6 ∨ off = 7 := by omega
    · rw [Ut.read0_v, Ut.read0_s]
      cases hl : Ut.hi s with
      | true =>
        rw [hl] at HLa
        rw [if_pos rfl, if_pos rfl]
        clear hl HC HT HMo HK
        go_enter Try.func60, Try.ntmps60
        go_wp2_with (refine wpList_load_midW (by kernel_rfl) StT _ rfl b 0 rfl (stV s).toList _ HST.out Try.underlying131 rfl info_StT ?_)
        refine HLa.out.mono ?_
        rintro e w1 ⟨rfl, hb1⟩
        have HB1 := Lib.hid hb1
        have k := (hb1.cell (p := ⟨b, 4, none⟩) hbl).trans c4
        clear hb1 HLa HR
        go_wp2_with fail
        go_ret2
        exact ⟨rfl, HLow.out _ HB1.out⟩
      | false =>
        rw [hl] at HLa
        rw [if_neg (by simp), if_neg (by simp)]
        clear hl HC HT HMo
        go_enter Try.func60, Try.ntmps60
        go_wp2_with (refine wpList_load_midW (by kernel_rfl) StT _ rfl b 0 rfl (stV s).toList _ HST.out Try.underlying131 rfl info_StT ?_)
        refine HLa.out.mono ?_
        rintro e w1 ⟨rfl, hb1⟩
        have HB1 := Lib.hid hb1
        have HK1 := Lib.hid (take_c (H0.out.low hb1))
        have HC1 := Lib.hid (Chg.of_below (S := F) hb1)
        have HF1 := Lib.hid (fun (w2 : World) (s2 : Ut.S) (h : PtQ F w1 w2 b s2) => PtQ.seq HC1.out h)
        clear hb1 HK HLa HLow HR
        go_wp2_with fail
        refine HK1.out.mono ?_
        rintro e w2 ⟨rfl, hp2⟩
        have HP2 := Lib.hid (HF1.out _ _ hp2)
        clear hp2 HF1 HK1
        go_wp2_with fail
        go_ret2
        exact ⟨rfl, HP2.out⟩
    · rw [Ut.read1_v, Ut.read1_s]
      cases hl : Ut.hi s with
      | true =>
        rw [hl] at HLa
        rw [if_pos rfl]
        clear hl HC HT HMo HK
        go_enter Try.func60, Try.ntmps60
        go_wp2_with (refine wpList_load_midW (by kernel_rfl) StT _ rfl b 0 rfl (stV s).toList _ HST.out Try.underlying131 rfl info_StT ?_)
        refine HLa.out.mono ?_
        rintro e w1 ⟨rfl, hb1⟩
        have HB1 := Lib.hid hb1
        have k := (hb1.cell (p := ⟨b, 5, none⟩) hbl).trans c5
        clear hb1 HLa HR
        go_wp2_with fail
        go_ret2
        exact ⟨rfl, HLow.out _ HB1.out⟩
      | false =>
        rw [hl] at HLa
        rw [if_neg (by simp)]
        clear hl HC HT HMo HK
        go_enter Try.func60, Try.ntmps60
        go_wp2_with (refine wpList_load_midW (by kernel_rfl) StT _ rfl b 0 rfl (stV s).toList _ HST.out Try.underlying131 rfl info_StT ?_)
        refine HLa.out.mono ?_
        rintro e w1 ⟨rfl, hb1⟩
        have HB1 := Lib.hid hb1
        have k := (hb1.cell (p := ⟨b, 0, none⟩) hbl).trans c0
        clear hb1 HLa HR
        go_wp2_with fail
        go_ret2
        exact ⟨rfl, HLow.out _ HB1.out⟩
    · skip
      clear HK HLa HMo HLow HR HT
      go_enter Try.func60, Try.ntmps60
      go_wp2_with fail
      refine HC.out.mono ?_
      rintro e w2 ⟨rfl, hp2⟩
      have HP2 := Lib.hid hp2
      clear hp2 HC
      go_wp2_with fail
      go_ret2
      exact ⟨rfl, HP2.out⟩
    · rw [Ut.read3_v, Ut.read3_s]
      clear HC HT HK HLa HMo
      go_enter Try.func60, Try.ntmps60
      go_wp2_with fail
      go_ret2
      exact ⟨rfl, HR.out⟩
    · rw [Ut.read4_v, Ut.read4_s]
      clear HC HT HK HLa HMo
      go_enter Try.func60, Try.ntmps60
      go_wp2_with fail
      go_ret2
      exact ⟨rfl, HR.out⟩
    · skip
      clear HK HLa HMo HLow HR HC
      go_enter Try.func60, Try.ntmps60
      go_wp2_with fail
      refine HT.out.mono ?_
      rintro e w2 ⟨rfl, hp2⟩
      have HP2 := Lib.hid hp2
      clear hp2 HT
      go_wp2_with fail
      go_ret2
      exact ⟨rfl, HP2.out⟩
    · rw [Ut.read6_v, Ut.read6_s]
      clear HC HT HK HLa HR
      go_enter Try.func60, Try.ntmps60
      go_wp2_with (refine wpList_load_mid rfl StT _ rfl b 0 rfl (stV s).toList _ HST.out Try.underlying131 rfl info_StT ?_)
      refine HMo.out.mono ?_
      rintro e w1 ⟨rfl, hb1⟩
      have HB1 := Lib.hid hb1
      clear hb1 HMo
      go_wp2_with fail
      go_ret2
      exact ⟨rfl, HLow.out _ HB1.out⟩
    · rw [Ut.read7_v, Ut.read7_s]
      clear HC HT HK HLa HMo
      go_enter Try.func60, Try.ntmps60
      go_wp2_with fail
      go_ret2
      exact ⟨rfl, HR.out⟩
end Go.Proofs.Ytkknfhbaldeigaa
