/-
  Contracts of bus.Lines, New.
-/
import Derived.Test.YtkknfhbaldeigaaBuD
import Derived.Great.BuildSlice
set_option maxRecDepth 20000
namespace Go.Proofs.Ytkknfhbaldeigaa
open Go.ChangeShapes Go.WideShapes Go.ChangeAt Go.RowKit

abbrev LnT : TypeId := 93
namespace Bs
def lineP (X : B) (c : Int) : Bool := Pc.lineP X.n X.p c
def acc (X : B) (h : Int) (j : Nat) : Int := Ct.lineC X.n X.c h + (if 0 < j ∧ lineP X (2 * h) = true then 2048 else 0) + (if 1 < j ∧ lineP X (2 * h + 1) = true then 512 else 0)
def lineB (X : B) (h : Int) : Int := if hasB X.n h = true then acc X h 2 else 0
theorem lineC_of (n : Nat) (ws : List Int) (h : Int) : Ct.lineC n ws h = 0 ∨ Ct.lineC n ws h = 8 ∨ Ct.lineC n ws h = 128 ∨ Ct.lineC n ws h = 136 := by
  unfold Ct.lineC
  repeat' split
  all_goals omega
theorem or_11 {x : Int} (h : x = 0 ∨ x = 8 ∨ x = 128 ∨ x = 136) : Go.bits .or .u64 x 2048 = x + 2048 := by
  rcases h with rfl | rfl | rfl | rfl <;> decide
theorem or_9 {x : Int} (h : x = 0 ∨ x = 8 ∨ x = 128 ∨ x = 136 ∨ x = 2048 ∨ x = 2056 ∨ x = 2176 ∨ x = 2184) : Go.bits .or .u64 x 512 = x + 512 := by
  rcases h with rfl | rfl | rfl | rfl | rfl | rfl | rfl | rfl <;> decide
end Bs
def ln2 : Array Value := #[.int .i64 11, .int .i64 9]
theorem lx_0 (W : World) : (Instr.index LnT (.agg ln2) (.int .i64 0)).run Try.prog W = .ok (.int .i64 11) W := by kernel_rfl
theorem lx_1 (W : World) : (Instr.index LnT (.agg ln2) (.int .i64 1)).run Try.prog W = .ok (.int .i64 9) W := by kernel_rfl
set_option maxHeartbeats 8000000 in
theorem blines_c (F : Nat → Prop) (b : Nat) (X : Bs.B) (h : Int) (w : World) (hb : Bu F w b X) :
    Calls Try.prog 7 #[.pointer (some ⟨b, 0, none⟩), .int .i64 h] w fun e w' => e = .returned (.int .u64 (Bs.lineB X h)) ∧ Below w.heap.size w w' := by
  obtain ⟨g, hrow, -⟩ := hb.ex
  have hn8 := hb.okc.n8
  have HROW := Lib.hid (fun (W : World) (hl : Below w.heap.size w W) => hrow.low hl)
  have HH := Lib.hid (has_c X.n b h w hb.n1)
  have HOC := Lib.hid hb.okc
  have HOP := Lib.hid hb.okp
  clear hrow hb
  cases hh : Bs.hasB X.n h with
  | false =>
    have HE := Lib.hid (show Bs.lineB X h = 0 by unfold Bs.lineB; rw [hh]; rfl)
    rw [hh] at HH
    rw [HE.out]
    clear hh
    go_enter Try.func7, Try.ntmps7
    go_wp2_with fail
    refine HH.out.mono ?_
    rintro e w1 ⟨rfl, rfl⟩
    go_wp2_with fail
    go_ret
    exact ⟨rfl, Below.refl _ _⟩
  | true =>
    have HE := Lib.hid (show Bs.lineB X h = Bs.acc X h 2 by unfold Bs.lineB; rw [hh]; rfl)
    rw [hh] at HH
    rw [HE.out]
    have hr : 0 ≤ h ∧ h < X.n := by unfold Bs.hasB at hh; simpa using hh
    obtain ⟨k, rfl⟩ := Int.eq_ofNat_of_zero_le hr.1
    have hk : k < X.n := by omega
    have gk : (k : Int) < 8 := by omega
    clear hh hr HE
    go_enter Try.func7, Try.ntmps7
    go_wp2_with fail
    refine HH.out.mono ?_
    rintro e w1 ⟨rfl, rfl⟩
    go_wp2_with fail
    refine (Bm.lines_c (S := (.pointer (some ⟨g, 0, none⟩), X.p)) (some ⟨b, 2, none⟩) X.n X.c k (by omega) (by omega) w1 (.inr ⟨b, rfl, ⟨HROW.out w1 (Below.refl _ _), HOC.out⟩⟩)).mono ?_
    rintro e w2 ⟨rfl, hb2⟩
    have HB2 := Lib.hid hb2
    clear hb2 HH
    go_upto_region 5 with fail
    rw [show (#[Value.int IntKind.i64 11, Value.int IntKind.i64 9] : Array Value) = ln2 from rfl]
    go_loopw [5, 18] (fun lv i wr => ∃ j : Nat, j ≤ 2 ∧ i = .int .i64 j ∧ lv = .int .u64 (Bs.acc X k j) ∧ Below w1.heap.size w1 wr) (fun _ i _ => 2 - (intOf i).toNat)
    case atStart => exact ⟨0, by omega, rfl, by simp [Bs.acc], HB2.out⟩
    case round =>
      obtain ⟨j, hj, rfl, rfl, hb⟩ := hrel
      have HB := Lib.hid hb
      clear hb HB2
      have h3 : j = 0 ∨ j = 1 ∨ j = 2 := by omega
      rcases h3 with rfl | rfl | rfl
      · have ix := lx_0
        have HL := Lib.hid (Bp.pline_c (S := ⟨.pointer (some ⟨g, 0, none⟩), X.c, HOC.out.len⟩) (some ⟨b, 20, none⟩) X.n X.p (2 * (k : Int)) (by omega) (by omega) wr (.inr ⟨b, rfl, ⟨HROW.out wr HB.out, HOP.out⟩⟩))
        obtain ⟨l, hl⟩ : ∃ l, Pc.lineP X.n X.p (2 * (k : Int)) = l := ⟨_, rfl⟩
        rw [hl] at HL
        have hx0 := Bs.lineC_of X.n X.c (k : Int)
        have HA := Lib.hid (show Bs.acc X k (0 + 1) = Bs.acc X k 0 + (if l = true then 2048 else 0) by unfold Bs.acc Bs.lineP; rw [← hl]; simp)
        have hx : Bs.acc X k 0 = 0 ∨ Bs.acc X k 0 = 8 ∨ Bs.acc X k 0 = 128 ∨ Bs.acc X k 0 = 136 := by unfold Bs.acc; simp; omega
        clear hl hx0
        generalize Bs.acc X k 0 = x at *
        go_wp2_with fail
        refine HL.out.mono ?_
        rintro e w3 ⟨rfl, hb3⟩
        have HB3 := Lib.hid (HB.out.trans (hb3.mono HB.out.size))
        clear hb3 HB HL ix
        cases l with
        | false =>
          go_wp2_with fail
          go_roundw
          case rel => exact ⟨0 + 1, by omega, rfl, by rw [HA.out]; simp, HB3.out⟩
          case measure => simp [intOf]
        | true =>
          go_wp2_with fail
          go_roundw
          case rel => exact ⟨0 + 1, by omega, rfl, by rw [HA.out, if_pos trivial, Bs.or_11 hx], HB3.out⟩
          case measure => simp [intOf]
      · have ix := lx_1
        have HL := Lib.hid (Bp.pline_c (S := ⟨.pointer (some ⟨g, 0, none⟩), X.c, HOC.out.len⟩) (some ⟨b, 20, none⟩) X.n X.p (2 * (k : Int) + 1) (by omega) (by omega) wr (.inr ⟨b, rfl, ⟨HROW.out wr HB.out, HOP.out⟩⟩))
        obtain ⟨l, hl⟩ : ∃ l, Pc.lineP X.n X.p (2 * (k : Int) + 1) = l := ⟨_, rfl⟩
        rw [hl] at HL
        have hx0 := Bs.lineC_of X.n X.c (k : Int)
        have HA := Lib.hid (show Bs.acc X k (1 + 1) = Bs.acc X k 1 + (if l = true then 512 else 0) by unfold Bs.acc Bs.lineP; rw [← hl]; simp)
        have hx : Bs.acc X k 1 = 0 ∨ Bs.acc X k 1 = 8 ∨ Bs.acc X k 1 = 128 ∨ Bs.acc X k 1 = 136 ∨ Bs.acc X k 1 = 2048 ∨ Bs.acc X k 1 = 2056 ∨ Bs.acc X k 1 = 2176 ∨ Bs.acc X k 1 = 2184 := by unfold Bs.acc; simp only [Nat.lt_irrefl, false_and, if_false, Nat.zero_lt_one, true_and]; split <;> omega
        clear hl hx0
        generalize Bs.acc X k 1 = x at *
        go_wp2_with fail
        refine HL.out.mono ?_
        rintro e w3 ⟨rfl, hb3⟩
        have HB3 := Lib.hid (HB.out.trans (hb3.mono HB.out.size))
        clear hb3 HB HL ix
        cases l with
        | false =>
          go_wp2_with fail
          go_roundw
          case rel => exact ⟨1 + 1, by omega, rfl, by rw [HA.out]; simp, HB3.out⟩
          case measure => simp [intOf]
        | true =>
          go_wp2_with fail
          go_roundw
          case rel => exact ⟨1 + 1, by omega, rfl, by rw [HA.out, if_pos trivial, Bs.or_9 hx], HB3.out⟩
          case measure => simp [intOf]
      · go_wp2_with fail
        go_ret
        exact ⟨rfl, HB.out⟩
/-- A new bus. -/
def Bs.new (n : Nat) : Bs.B := ⟨n, Ct.newW n, Pc.zeros, Ut.zero⟩
theorem built_bu (n g : Nat) (h : 1 ≤ n ∧ n ≤ 8) : Try.prog.built BuT [(0, .pointer (some ⟨g, 0, none⟩)), (1, .int .i64 n), (2, .agg (ctV n (Ct.newW n))), (3, .agg (ctV n Pc.zeros))] = some (buV (.pointer (some ⟨g, 0, none⟩)) n (Ct.newW n) Pc.zeros) := by
  obtain rfl | rfl | rfl | rfl | rfl | rfl | rfl | rfl : n = 1 ∨ n = 2 ∨ n = 3 ∨ n = 4 ∨ n = 5 ∨ n = 6 ∨ n = 7 ∨ n = 8 := by omega
  all_goals kernel_rfl
set_option maxHeartbeats 8000000 in
theorem bnew_c (h : Int) (w : World) :
    Calls Try.prog 15 #[.int .i64 h] w fun e w' => Below w.heap.size w w' ∧ (Bs.okH h = false ∧ e = .returned (.tuple #[.pointer none, .int .i64 1]) ∨ Bs.okH h = true ∧ ∃ F b, e = .returned (.tuple #[.pointer (some ⟨b, 0, none⟩), .int .i64 0]) ∧ Bu F w' b (Bs.new h.toNat) ∧ (∀ k, F k → w.heap.size ≤ k) ∧ w.heap.size ≤ b) := by
  cases hh : Bs.okH h with
  | false =>
    go_enter Try.func15, Try.ntmps15
    go_wp2_with fail
    refine (right_c h w).mono ?_
    rintro e w1 ⟨rfl, rfl⟩
    rw [hh]
    go_wp2_with fail
    go_ret2
    exact ⟨Below.refl _ _, .inl ⟨trivial, rfl⟩⟩
  | true =>
    have hr : 1 ≤ h ∧ h ≤ 8 := by unfold Bs.okH at hh; simpa using hh
    obtain ⟨n, rfl⟩ := Int.eq_ofNat_of_zero_le (by omega : 0 ≤ h)
    have hn : 1 ≤ n ∧ n ≤ 8 := by omega
    have HE := Lib.hid (show Ct.cnt (n : Int) = n by unfold Ct.cnt; rw [if_pos (by omega)]; omega)
    have HN := Lib.hid hn
    have HBT := Lib.hid (fun g => built_bu n g hn)
    clear hr hn
    go_enter Try.func15, Try.ntmps15
    go_wp2_with fail
    refine (right_c n w).mono ?_
    rintro e w1 ⟨rfl, rfl⟩
    rw [hh]
    clear hh
    go_wp2_with fail
    refine (unew_c w1).mono ?_
    rintro e w2 ⟨rfl, hw2⟩
    have HP2 := Lib.hid (show PtS (fun k => k = w1.heap.size) w2 w1.heap.size Ut.zero (.slice none 0 0) (.slice none 0 0) by rw [hw2]; exact PtS.new w1)
    have HB2 := Lib.hid (show Below w1.heap.size w1 w2 by rw [hw2]; exact (Below.refl _ _).alloc (Nat.le_refl _) _)
    clear hw2
    go_wp2_with fail
    refine (new15_c n w2).mono ?_
    rintro e w3 ⟨rfl, hb3⟩
    rw [HE.out]
    have HB3 := Lib.hid (HB2.out.trans (hb3.mono HB2.out.size))
    have HP3 := Lib.hid (HP2.out.p.low hb3)
    clear hb3 HB2 HP2
    go_wp2_with fail
    refine (pnew_c n w3).mono ?_
    rintro e w4 ⟨rfl, hb4⟩
    rw [HE.out]
    have HB4 := Lib.hid (HB3.out.trans (hb4.mono HB3.out.size))
    have HP4 := Lib.hid (HP3.out.low hb4)
    clear hb4 HB3 HP3
    go_wp2_with (refine wpList_buildTo rfl BuT _ rfl _ rfl (buV (.pointer (some ⟨w1.heap.size, 0, none⟩)) n (Ct.newW n) Pc.zeros) ((congrArg (Try.prog.built BuT) (show _ = [(0, Value.pointer (some ⟨w1.heap.size, 0, none⟩)), (1, Value.int .i64 n), (2, Value.agg (ctV n (Ct.newW n))), (3, Value.agg (ctV n Pc.zeros))] by kernel_rfl)).trans (HBT.out w1.heap.size)) ?_)
    go_ret2
    have hb5 : Below w4.heap.size w4 (w4.alloc (.cells (buV (.pointer (some ⟨w1.heap.size, 0, none⟩)) n (Ct.newW n) Pc.zeros) BuT)) := (Below.refl _ _).alloc (Nat.le_refl _) _
    have hlt := HP4.out.lt _ rfl
    refine ⟨HB4.out.trans (hb5.mono HB4.out.size), .inr ⟨trivial, fun k => k = w1.heap.size, w4.heap.size, rfl, ⟨⟨w1.heap.size, CsAt.new _ _ _, HP4.out.low hb5⟩, fun h => by omega, ?_, ?_⟩, fun k hk => by omega, HB4.out.size⟩⟩
    · exact Ct.newW_ok _ (by have := HN.out; simp only [Bs.new, Int.toNat_natCast]; omega) (by have := HN.out; simp only [Int.toNat_natCast]; omega)
    · exact Pc.zeros_ok (by have := HN.out; simp only [Bs.new, Int.toNat_natCast]; omega)
end Go.Proofs.Ytkknfhbaldeigaa
