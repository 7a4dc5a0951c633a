/-
  The chapter's examples (layer 12).
-/
import Derived.Test.YtgegahnjhaldeaaLkI
namespace Go.Proofs.Ytgegahnjhaldeaa
open Go.ChangeShapes Go.WideShapes Go.ChangeAt Go.RowKit

namespace Lk
abbrev L1 : Int → List Int := take (fun _ => []) 2 0 1
abbrev L2 : Int → List Int := take L1 2 1 1
abbrev L3 : Int → List Int := take L2 2 1 0
abbrev L4 : Int → List Int := take L3 2 0 0
theorem t1 : takeT (fun _ => []) 2 0 1 = true := by decide +kernel
theorem t2 : takeT L1 2 1 1 = false := by decide +kernel
theorem t3 : takeT L2 2 1 0 = true := by decide +kernel
theorem t4 : takeT L3 2 0 0 = false := by decide +kernel
theorem t5 : stuck L4 2 = [0, 1] := by decide +kernel
theorem t6 : Srt.set [3, 1] = [1, 3] := by decide +kernel
end Lk
theorem in0 : InI 0 := by unfold InI; decide
theorem in1 : InI 1 := by unfold InI; decide
set_option maxHeartbeats 4000000 in
set_option maxRecDepth 100000 in
set_option maxHeartbeats 4000000 in
theorem live12_c (w : World) : Calls Try.prog 8 #[] w fun e w' => e = .returned (.bool true) ∧ Below w.heap.size w w' := by
  go_enter Try.func8, Try.ntmps8
  go_wp2_with fail
  refine (new_yes 2 w (by omega) (by omega)).mono ?_
  rintro e w1 ⟨rfl, hL1, hb1⟩
  have HL1 := Lib.hid hL1
  have HB1 := Lib.hid hb1
  clear hL1 hb1
  go_wp2_with fail
  refine (take_c 0 1 _ _ _ 2 _ _ HL1.out in1).mono ?_
  rintro e w2 ⟨rfl, hL, hb, -⟩
  rw [Lk.t1]
  have HL2 := Lib.hid hL
  have HB2 := Lib.hid (HB1.out.trans hb)
  clear hL hb
  go_wp2_with fail
  refine (take_c 1 1 _ _ _ 2 _ _ HL2.out in1).mono ?_
  rintro e w3 ⟨rfl, hL, hb, -⟩
  rw [Lk.t2]
  have HL3 := Lib.hid hL
  have HB3 := Lib.hid (HB2.out.trans hb)
  clear hL hb
  go_wp2_with fail
  refine (take_c 1 0 _ _ _ 2 _ _ HL3.out in0).mono ?_
  rintro e w4 ⟨rfl, hL, hb, -⟩
  rw [Lk.t3]
  have HL4 := Lib.hid hL
  have HB4 := Lib.hid (HB3.out.trans hb)
  clear hL hb
  go_wp2_with fail
  refine (take_c 0 0 _ _ _ 2 _ _ HL4.out in0).mono ?_
  rintro e w5 ⟨rfl, hL, hb, -⟩
  rw [Lk.t4]
  have HL5 := Lib.hid (show LkV w5 (.pointer (some ⟨w.heap.size + 1, 0, none⟩)) 2 Lk.L4 from .inr ⟨_, _, _, _, rfl, hL⟩)
  have HB5 := Lib.hid (HB4.out.trans hb)
  clear hL hb HL1 HL2 HL3 HL4
  go_wp2_with fail
  refine (stuck_c _ 2 _ _ HL5.out).mono ?_
  rintro e w6 ⟨v, rfl, hown, hb⟩
  rw [Lk.t5] at hown
  obtain ⟨g, cap, rfl, hg1, hg2, -⟩ := own_pos hown (by decide)
  have HO6 := Lib.hid hown
  have HB6 := Lib.hid (HB5.out.trans (hb.mono HB5.out.size))
  clear hown hb
  have hal := alloc_below w6 (.cells #[.int .i64 3, .int .i64 1] 3)
  have hx := CsAt.new w6 3 #[.int .i64 3, .int .i64 1]
  have HPL := Lib.hid (plan_c (some ⟨w6.heap.size, 0, none⟩) 2 [3, 1] (w6.alloc (.cells #[.int .i64 3, .int .i64 1] 3)) (.inr ⟨w6.heap.size, 0, rfl, hx.lt, fun j u hj => by
    rw [Nat.zero_add, hx.cell]
    simpa using hj⟩) (fun h => by cases h) (by decide))
  have HA := Lib.hid hal
  clear hal hx
  go_wp2_with fail
  refine HPL.out.mono ?_
  rintro e w7 ⟨v7, rfl, hown, hb⟩
  rw [Lk.t6] at hown
  have HAB := Lib.hid (HA.out.trans (hb.mono HA.out.size))
  have HB7 := Lib.hid (HB6.out.trans (HAB.out.mono HB6.out.size))
  obtain ⟨p7, cap7, rfl, -, -, -⟩ := own_form2 hown
  have HO7 := Lib.hid hown
  have HC7 := Lib.hid (CsAt.new w7 48 (jV (.slice none 0 0) 0 0 false))
  clear hown hb
  go_upto_region 6 with (refine wpList_store_row rfl 48 _ _ rfl w7.heap.size _ rfl rfl 48 _ HC7.out info_job rfl (by simp [Value.oneCell']) ?_)
  have hlow := alloc_below w7 (.cells (jV (.slice none 0 0) 0 0 false) 48)
  have hg7 : g < w7.heap.size := Nat.lt_of_lt_of_le hg2 HAB.out.size
  have hs7 : (w6.alloc (.cells #[.int .i64 3, .int .i64 1] 3)).heap.size ≤ w7.heap.size := by
    obtain ⟨g', cap', e, h1, h2, -⟩ := own_pos HO7.out (by decide)
    omega
  have r6 := own_farRow (c := w7.heap.size) (own_low (own_low HO6.out HAB.out) hlow) (base := w5.heap.size)
  have HC8 := Lib.hid (HC7.out.row (jV (.slice p7 [1, 3].length cap7) 0 0 false))
  have hcell : ∀ j x, [Value.int .i64 0, .int .i64 1][j]? = some x → ((w7.alloc (.cells (jV (.slice none 0 0) 0 0 false) 48)).setRow w7.heap.size (jV (.slice p7 [1, 3].length cap7) 0 0 false)).cell? ⟨g, j, none⟩ = some x := fun j x hj => by
    have hl : j < 2 := by
      have := (List.getElem?_eq_some_iff.1 hj).1
      simpa using this
    have h1 : w7.cell? ⟨g, j, none⟩ = some x := by
      rw [(own_low HO6.out HAB.out).cellAt j (by simpa using hl)]
      exact hj
    rw [World.cell?_of_block (w := w7.alloc (.cells (jV (.slice none 0 0) 0 0 false) 48)) (a := ⟨g, j, none⟩) (setRow_other _ _ g _ (by omega)), hlow.cell (p := ⟨g, j, none⟩) hg7]
    exact h1
  have s0 := hcell 0 _ rfl
  have s1 := hcell 1 _ rfl
  have HO8 := Lib.hid (show ((w7.alloc (.cells (jV (.slice none 0 0) 0 0 false) 48)).setRow w7.heap.size (jV (.slice p7 [1, 3].length cap7) 0 0 false)).ownsRow 0 3 1 (.slice p7 [1, 3].length cap7) [1, 3].length (iV [1, 3]) from by
    have h := own_low HO7.out hlow
    obtain ⟨g', cap', e, h1, h2, -⟩ := own_pos HO7.out (by decide)
    refine ⟨h.1, h.2.imp id ?_⟩
    rintro ⟨k, c', cur, e2, k1, k2, k3⟩
    refine ⟨k, c', cur, e2, Nat.zero_le _, (setRow_other _ _ k _ ?_).trans k2, k3⟩
    rw [e] at e2
    simp only [Value.slice.injEq, Option.some.injEq, Addr.mk.injEq] at e2
    omega)
  have HB8 := Lib.hid (below_setRowL (HB7.out.trans (hlow.mono HB7.out.size)) HB7.out.size (jV (.slice p7 [1, 3].length cap7) 0 0 false))
  have HJ := Lib.hid (show JobAt ((w7.alloc (.cells (jV (.slice none 0 0) 0 0 false) 48)).setRow w7.heap.size (jV (.slice p7 [1, 3].length cap7) 0 0 false)) w7.heap.size 0 (.slice p7 [1, 3].length cap7) 0 0 false from ⟨HC8.out.cell 0, HC8.out.cell 1, HC8.out.cell 2, HC8.out.cell 3, HC8.out.frozen 1, HC8.out.frozen 2, HC8.out.frozen 3⟩)
  clear hcell r6 hs7 hg7 hlow HC7 HO7 HO6 HPL HA HAB
  generalize (w7.alloc (.cells (jV (.slice none 0 0) 0 0 false) 48)).setRow w7.heap.size (jV (.slice p7 [1, 3].length cap7) 0 0 false) = w8 at *
  go_wp2_with fail
  refine (needs_c _ 0 _ _ _ _ _ [1, 3] _ HJ.out HO8.out (by decide)).mono ?_
  rintro e w9 ⟨v9, rfl, hown, hb⟩
  obtain ⟨p9, cap9, rfl, -, -, -⟩ := own_form2 hown
  have HB9 := Lib.hid (HB8.out.trans (hb.mono HB8.out.size))
  clear hown hb
  go_wp2_with fail
  go_ret
  exact ⟨rfl, HB9.out⟩
end Go.Proofs.Ytgegahnjhaldeaa
