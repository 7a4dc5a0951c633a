/-
  Contracts of uart's New, Fits, Input, Line, Waiting, Out; of a port that isn't there.
-/
import Derived.Test.YtkknfhbaldeigaaUtG
set_option maxRecDepth 20000
namespace Go.Proofs.Ytkknfhbaldeigaa
open Go.ChangeShapes Go.WideShapes Go.ChangeAt Go.RowKit

theorem zero_PoT (W : World) : (zeroValue PoT).run Try.prog W = .ok (.agg (ptV Ut.zero (.slice none 0 0) (.slice none 0 0))) W := by kernel_rfl
theorem unew_c (w : World) : Calls Try.prog 42 #[] w fun e w' => e = .returned (.pointer (some ⟨w.heap.size, 0, none⟩)) ∧ w' = w.alloc (.cells (ptV Ut.zero (.slice none 0 0) (.slice none 0 0)) PoT) := by
  go_enter Try.func42, Try.ntmps42
  go_wp2_with fail
  go_ret
  exact ⟨rfl, rfl⟩
/-- A new port. -/
theorem PtS.new (w : World) : PtS (fun k => k = w.heap.size) (w.alloc (.cells (ptV Ut.zero (.slice none 0 0) (.slice none 0 0)) PoT)) w.heap.size Ut.zero (.slice none 0 0) (.slice none 0 0) :=
  ⟨CsAt.new _ _ _, World.ownsRow_nil _ _ _ _, World.ownsRow_nil _ _ _ _, rfl, (fun k hk => by cases hk), (fun k hk => by cases hk), (fun k hk => by cases hk), (fun k hk => by subst hk; simp), Ut.zero_ok⟩
theorem ufits_c (off size : Int) (_h0 : 0 ≤ off) (_h1 : off ≤ 18446744073709551615) (w : World) : Calls Try.prog 89 #[.int .u64 off, .int .i64 size] w fun e w' => e = .returned (.bool (decide (off < 8 ∧ size = 1))) ∧ w' = w := by
  by_cases h : off < 8
  · have g0 : decide (off < 8) = true := by simpa using h
    have g1 : decide (off < 8 ∧ size = 1) = (size == 1) := by
      rw [Bool.eq_iff_iff]
      simp [h]
    rw [g1]
    clear h g1
    go_enter Try.func89, Try.ntmps89
    go_wp2_with fail
    go_ret
    exact ⟨rfl, rfl⟩
  · have g0 : decide (off < 8) = false := by simpa using h
    have g1 : decide (off < 8 ∧ size = 1) = false := by simp [h]
    rw [g1]
    clear h g1
    go_enter Try.func89, Try.ntmps89
    go_wp2_with fail
    go_ret
    exact ⟨rfl, rfl⟩
set_option maxHeartbeats 4000000 in
theorem uinput_c {F : Nat → Prop} {w : World} {b : Nat} {s : Ut.S} {x : Int} (hx : Ut.isB x) (h : Pt F w b s) :
    Calls Try.prog 29 #[.pointer (some ⟨b, 0, none⟩), .int .u8 x] w fun e w' => e = .returned (.bool (Ut.inB s)) ∧ PtQ F w w' b (Ut.inS s x) := by
  have HL := Lib.hid (looped_c s h.ok w)
  have H0 := Lib.hid h
  have HX := Lib.hid hx
  obtain ⟨qv, sv, hp⟩ := h
  have HST := Lib.hid hp.st
  clear hp
  cases hl : Ut.lp s with
  | true =>
    rw [show Ut.inB s = false by unfold Ut.inB; rw [hl]; rfl, show Ut.inS s x = s by unfold Ut.inS; rw [if_pos hl]]
    rw [hl] at HL
    clear hl
    go_enter Try.func29, Try.ntmps29
    go_wp2_with (refine wpList_load_midW (by kernel_rfl) StT _ rfl b 0 rfl (stV s).toList _ HST.out Try.underlying131 rfl info_StT ?_)
    refine HL.out.mono ?_
    rintro e w1 ⟨rfl, hb1⟩
    have HQ := Lib.hid (PtQ.of (F := F) (H0.out.low hb1) (Chg.of_below hb1))
    clear hb1 HL
    go_wp2_with fail
    go_ret
    exact ⟨rfl, HQ.out⟩
  | false =>
    rw [show Ut.inB s = Ut.comeB s by unfold Ut.inB; rw [hl]; rfl, show Ut.inS s x = Ut.comeS s x by unfold Ut.inS; rw [if_neg (by rw [hl]; simp)]]
    rw [hl] at HL
    clear hl
    go_enter Try.func29, Try.ntmps29
    go_wp2_with (refine wpList_load_midW (by kernel_rfl) StT _ rfl b 0 rfl (stV s).toList _ HST.out Try.underlying131 rfl info_StT ?_)
    refine HL.out.mono ?_
    rintro e w1 ⟨rfl, hb1⟩
    have HB1 := Lib.hid hb1
    have HC1 := Lib.hid (receive_c HX.out (H0.out.low hb1))
    clear hb1 HL
    go_wp2_with fail
    refine HC1.out.mono ?_
    rintro e w2 ⟨rfl, hq2⟩
    have HQ := Lib.hid (PtQ.seq (Chg.of_below (S := F) HB1.out) hq2)
    clear hq2 HC1
    go_wp2_with fail
    go_ret
    exact ⟨rfl, HQ.out⟩
theorem uline_c {F : Nat → Prop} {w : World} {b : Nat} {s : Ut.S} (h : Pt F w b s) :
    Calls Try.prog 31 #[.pointer (some ⟨b, 0, none⟩)] w fun e w' => e = .returned (.bool (Ut.cause s != 1)) ∧ w' = w := by
  obtain ⟨qv, sv, hp⟩ := h
  have HW := Lib.hid (why_c hp)
  clear hp
  go_enter Try.func31, Try.ntmps31
  go_wp2_with fail
  refine HW.out.mono ?_
  rintro e w1 ⟨rfl, rfl⟩
  go_wp2_with fail
  go_ret
  exact ⟨rfl, rfl⟩
set_option maxHeartbeats 1000000 in
theorem uwaiting_c {F : Nat → Prop} {w : World} {b : Nat} {s : Ut.S} (h : Pt F w b s) :
    Calls Try.prog 36 #[.pointer (some ⟨b, 0, none⟩)] w fun e w' => ∃ v, e = .returned v ∧ w'.ownsRow w.heap.size U8 1 v s.q.length (u8V s.q) ∧ Below w.heap.size w w' := by
  obtain ⟨qv, sv, hp⟩ := h
  have c9 := hp.row.cell 9
  simp only [ptV, List.getElem?_toArray, List.getElem?_cons_succ, List.getElem?_cons_zero] at c9
  have HC := Lib.hid (bclone_c 0 qv s.q w hp.q (by have := hp.ok.qn; omega))
  obtain ⟨p, cap, rfl, -⟩ := own_form hp.q
  clear hp
  go_enter Try.func36, Try.ntmps36
  go_wp2_with fail
  refine HC.out.mono ?_
  rintro e w1 ⟨v, rfl, ho, hb⟩
  have HO := Lib.hid ho
  have HB := Lib.hid hb
  clear ho hb HC
  go_wp2_with fail
  go_ret
  exact ⟨_, rfl, HO.out, HB.out⟩
set_option maxHeartbeats 1000000 in
theorem uout_c {F : Nat → Prop} {w : World} {b : Nat} {s : Ut.S} (hn : s.out.length ≤ 900) (h : Pt F w b s) :
    Calls Try.prog 35 #[.pointer (some ⟨b, 0, none⟩)] w fun e w' => ∃ v, e = .returned v ∧ w'.ownsRow w.heap.size U8 1 v s.out.length (u8V s.out) ∧ Below w.heap.size w w' := by
  obtain ⟨qv, sv, hp⟩ := h
  have c10 := hp.row.cell 10
  simp only [ptV, List.getElem?_toArray, List.getElem?_cons_succ, List.getElem?_cons_zero] at c10
  have HC := Lib.hid (bclone_c 0 sv s.out w hp.o (by omega))
  obtain ⟨p, cap, rfl, -⟩ := own_form hp.o
  clear hp
  go_enter Try.func35, Try.ntmps35
  go_wp2_with fail
  refine HC.out.mono ?_
  rintro e w1 ⟨v, rfl, ho, hb⟩
  have HO := Lib.hid ho
  have HB := Lib.hid hb
  clear ho hb HC
  go_wp2_with fail
  go_ret
  exact ⟨_, rfl, HO.out, HB.out⟩
/-! A port that isn't there. -/
theorem nread_c (off : Int) (w : World) : Calls Try.prog 60 #[.pointer none, .int .u64 off] w fun e w' => e = .returned (.tuple #[.int .u8 0, .bool false]) ∧ w' = w := by
  go_enter Try.func60, Try.ntmps60
  go_wp2_with fail
  go_ret2
  exact ⟨rfl, rfl⟩
theorem nwrite_c (off x : Int) (w : World) : Calls Try.prog 64 #[.pointer none, .int .u64 off, .int .u8 x] w fun e w' => e = .returned (.bool false) ∧ w' = w := by
  go_enter Try.func64, Try.ntmps64
  go_wp2_with fail
  go_step3
  go_wp2_with fail
  try rw [Exit.noGoto_ret]
  go_ret
  exact ⟨rfl, rfl⟩
theorem ninput_c (x : Int) (w : World) : Calls Try.prog 29 #[.pointer none, .int .u8 x] w fun e w' => e = .returned (.bool false) ∧ w' = w := by
  go_enter Try.func29, Try.ntmps29
  go_wp2_with fail
  go_ret
  exact ⟨rfl, rfl⟩
theorem nline_c (w : World) : Calls Try.prog 31 #[.pointer none] w fun e w' => e = .returned (.bool false) ∧ w' = w := by
  go_enter Try.func31, Try.ntmps31
  go_wp2_with fail
  go_ret
  exact ⟨rfl, rfl⟩
theorem nwaiting_c (w : World) : Calls Try.prog 36 #[.pointer none] w fun e w' => e = .returned (.slice none 0 0) ∧ w' = w := by
  go_enter Try.func36, Try.ntmps36
  go_wp2_with fail
  go_ret
  exact ⟨rfl, rfl⟩
theorem nout_c (w : World) : Calls Try.prog 35 #[.pointer none] w fun e w' => e = .returned (.slice none 0 0) ∧ w' = w := by
  go_enter Try.func35, Try.ntmps35
  go_wp2_with fail
  go_ret
  exact ⟨rfl, rfl⟩
theorem nclone_c (w : World) : Calls Try.prog 37 #[.pointer none] w fun e w' => e = .returned (.pointer none) ∧ w' = w := by
  go_enter Try.func37, Try.ntmps37
  go_wp2_with fail
  go_ret
  exact ⟨rfl, rfl⟩
theorem nsame_c (w : World) : Calls Try.prog 38 #[.pointer none, .pointer none] w fun e w' => e = .returned (.bool true) ∧ w' = w := by
  go_enter Try.func38, Try.ntmps38
  go_wp2_with fail
  go_ret
  exact ⟨rfl, rfl⟩
theorem nsame1_c (a : Addr) (w : World) : Calls Try.prog 38 #[.pointer none, .pointer (some a)] w fun e w' => e = .returned (.bool false) ∧ w' = w := by
  have hq : ∀ W : World, (binOp .eql 80 (.pointer none) (.pointer (some a))).run Try.prog W = .ok (.bool false) W := fun W => by kernel_rfl
  go_enter Try.func38, Try.ntmps38
  go_wp2_with fail
  go_ret
  exact ⟨rfl, rfl⟩
theorem nsame2_c (a : Addr) (w : World) : Calls Try.prog 38 #[.pointer (some a), .pointer none] w fun e w' => e = .returned (.bool false) ∧ w' = w := by
  have hq : ∀ W : World, (binOp .eql 80 (.pointer (some a)) (.pointer none)).run Try.prog W = .ok (.bool false) W := fun W => by kernel_rfl
  go_enter Try.func38, Try.ntmps38
  go_wp2_with fail
  go_ret
  exact ⟨rfl, rfl⟩
end Go.Proofs.Ytkknfhbaldeigaa
