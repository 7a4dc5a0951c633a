/-
  Contracts of the reference's Do (layer 8), op by op. The chapter's examples of layer 8 (live), law.do, and what package amo and the reference come to. Plain numbers, no program: in either order AMOs come to the same.
-/
import Derived.Test.YtjeolfcefeglpabGreatXat
import Derived.Test.YtjeolfcefeglpabGreatXau
import Derived.Test.YtjeolfcefeglpabGreatXan
set_option maxRecDepth 20000
namespace Go.Proofs.YtjeolfcefeglpabGreat
open Go.ChangeShapes Go.WideShapes Go.ChangeAt Go.RowKit Wd

set_option maxHeartbeats 8000000 in
theorem refAmo_80 (m x : Int) (w : World) (hm0 : 0 ≤ m) (hm : m < 18446744073709551616) (hx0 : 0 ≤ x) (hx : x < 18446744073709551616) : Calls Tryz.prog 48 #[.int .i64 80, .int .u64 m, .int .u64 x] w fun e w' => e = .returned (.tuple #[.int .u64 (amoG 0 m x), .bool true]) ∧ Below w.heap.size w w' := by
  have hsz : sizeS 80 = 8 := by decide +kernel
  have ra := cutS_range m 0 64
  have rb := cutS_range x 0 64
  have HV := Lib.hid (fin64_0 hm0 hm hx0 hx)
  generalize (amoG 0 m x) = V at *
  obtain ⟨a0, a1⟩ := ra
  obtain ⟨b0, b1⟩ := rb
  generalize hA : cutS m 0 64 = A at *
  generalize hB : cutS x 0 64 = B at *
  obtain ⟨s0, s1⟩ := signS_range A 64
  obtain ⟨t0, t1⟩ := signS_range B 64
  generalize hL : lessS (signS B 64) (signS A 64) = L at *
  have HA := Lib.hid hA
  have HBB := Lib.hid hB
  have HL := Lib.hid hL
  clear hA hB hL
  go_enter Tryz.func48, Tryz.ntmps48
  go_wp2_with fail
  refine (refIs_80 _).mono ?_
  rintro e w1 ⟨rfl, hb1⟩
  have HB1 := Lib.hid hb1
  clear hb1
  go_wp2_with fail
  refine (refSize_c _ _).mono ?_
  rintro e w2 ⟨rfl, hb2⟩
  have HB2 := Lib.hid (HB1.out.trans (hb2.mono HB1.out.size))
  clear hb2
  rw [hsz]
  go_wp2_with fail
  refine (refCut_c _ _ _ _ hm0 hm (by omega) (by omega)).mono ?_
  rintro e w3 ⟨rfl, hb3⟩
  have HB3 := Lib.hid (HB2.out.trans (hb3.mono HB2.out.size))
  clear hb3
  rw [HA.out]
  go_wp2_with fail
  refine (refCut_c _ _ _ _ hx0 hx (by omega) (by omega)).mono ?_
  rintro e w4 ⟨rfl, hb4⟩
  have HB4 := Lib.hid (HB3.out.trans (hb4.mono HB3.out.size))
  clear hb4
  rw [HBB.out]
  go_wp2_with fail
  refine (refSign_c _ _ _ b0 b1 (by omega)).mono ?_
  rintro e w5 ⟨rfl, hb5⟩
  have HB5 := Lib.hid (HB4.out.trans (hb5.mono HB4.out.size))
  clear hb5
  go_wp2_with fail
  refine (refSign_c _ _ _ a0 a1 (by omega)).mono ?_
  rintro e w6 ⟨rfl, hb6⟩
  have HB6 := Lib.hid (HB5.out.trans (hb6.mono HB5.out.size))
  clear hb6
  go_wp2_with fail
  refine (refLess_c _ _ _ t0 t1 s0 s1).mono ?_
  rintro e w' ⟨rfl, rfl⟩
  rw [HL.out]
  go_wp2_with fail
  refine (refWord_80 _).mono ?_
  rintro e w7 ⟨rfl, hb7⟩
  have HB7 := Lib.hid (HB6.out.trans (hb7.mono HB6.out.size))
  clear hb7
  go_wp2_with fail
  refine (refCut_c _ _ _ _ b0 b1 (by omega) (by omega)).mono ?_
  rintro e w8 ⟨rfl, hb8⟩
  have HB8 := Lib.hid (HB7.out.trans (hb8.mono HB7.out.size))
  clear hb8
  go_wp2_with fail
  go_ret2
  exact ⟨ret2_u (HV.out), HB8.out⟩

set_option maxHeartbeats 8000000 in
theorem refAmo_81 (m x : Int) (w : World) (hm0 : 0 ≤ m) (hm : m < 18446744073709551616) (hx0 : 0 ≤ x) (hx : x < 18446744073709551616) : Calls Tryz.prog 48 #[.int .i64 81, .int .u64 m, .int .u64 x] w fun e w' => e = .returned (.tuple #[.int .u64 (amoG 1 m x), .bool true]) ∧ Below w.heap.size w w' := by
  have hsz : sizeS 81 = 8 := by decide +kernel
  have ra := cutS_range m 0 64
  have rb := cutS_range x 0 64
  have HV := Lib.hid (fin64_1 hm0 hm hx0 hx)
  generalize (amoG 1 m x) = V at *
  obtain ⟨a0, a1⟩ := ra
  obtain ⟨b0, b1⟩ := rb
  generalize hA : cutS m 0 64 = A at *
  generalize hB : cutS x 0 64 = B at *
  obtain ⟨s0, s1⟩ := signS_range A 64
  obtain ⟨t0, t1⟩ := signS_range B 64
  generalize hL : lessS (signS B 64) (signS A 64) = L at *
  have HA := Lib.hid hA
  have HBB := Lib.hid hB
  have HL := Lib.hid hL
  clear hA hB hL
  go_enter Tryz.func48, Tryz.ntmps48
  go_wp2_with fail
  refine (refIs_81 _).mono ?_
  rintro e w1 ⟨rfl, hb1⟩
  have HB1 := Lib.hid hb1
  clear hb1
  go_wp2_with fail
  refine (refSize_c _ _).mono ?_
  rintro e w2 ⟨rfl, hb2⟩
  have HB2 := Lib.hid (HB1.out.trans (hb2.mono HB1.out.size))
  clear hb2
  rw [hsz]
  go_wp2_with fail
  refine (refCut_c _ _ _ _ hm0 hm (by omega) (by omega)).mono ?_
  rintro e w3 ⟨rfl, hb3⟩
  have HB3 := Lib.hid (HB2.out.trans (hb3.mono HB2.out.size))
  clear hb3
  rw [HA.out]
  go_wp2_with fail
  refine (refCut_c _ _ _ _ hx0 hx (by omega) (by omega)).mono ?_
  rintro e w4 ⟨rfl, hb4⟩
  have HB4 := Lib.hid (HB3.out.trans (hb4.mono HB3.out.size))
  clear hb4
  rw [HBB.out]
  go_wp2_with fail
  refine (refSign_c _ _ _ b0 b1 (by omega)).mono ?_
  rintro e w5 ⟨rfl, hb5⟩
  have HB5 := Lib.hid (HB4.out.trans (hb5.mono HB4.out.size))
  clear hb5
  go_wp2_with fail
  refine (refSign_c _ _ _ a0 a1 (by omega)).mono ?_
  rintro e w6 ⟨rfl, hb6⟩
  have HB6 := Lib.hid (HB5.out.trans (hb6.mono HB5.out.size))
  clear hb6
  go_wp2_with fail
  refine (refLess_c _ _ _ t0 t1 s0 s1).mono ?_
  rintro e w' ⟨rfl, rfl⟩
  rw [HL.out]
  go_wp2_with fail
  refine (refWord_81 _).mono ?_
  rintro e w7 ⟨rfl, hb7⟩
  have HB7 := Lib.hid (HB6.out.trans (hb7.mono HB6.out.size))
  clear hb7
  go_wp2_with fail
  refine (refCut_c _ _ _ _ (wrap_range _).1 (wrap_range _).2 (by omega) (by omega)).mono ?_
  rintro e w8 ⟨rfl, hb8⟩
  have HB8 := Lib.hid (HB7.out.trans (hb8.mono HB7.out.size))
  clear hb8
  go_wp2_with fail
  go_ret2
  exact ⟨ret2_u (HV.out), HB8.out⟩

set_option maxHeartbeats 8000000 in
theorem refAmo_82 (m x : Int) (w : World) (hm0 : 0 ≤ m) (hm : m < 18446744073709551616) (hx0 : 0 ≤ x) (hx : x < 18446744073709551616) : Calls Tryz.prog 48 #[.int .i64 82, .int .u64 m, .int .u64 x] w fun e w' => e = .returned (.tuple #[.int .u64 (amoG 2 m x), .bool true]) ∧ Below w.heap.size w w' := by
  have hsz : sizeS 82 = 8 := by decide +kernel
  have ra := cutS_range m 0 64
  have rb := cutS_range x 0 64
  have HV := Lib.hid (fin64_2 hm0 hm hx0 hx)
  generalize (amoG 2 m x) = V at *
  obtain ⟨a0, a1⟩ := ra
  obtain ⟨b0, b1⟩ := rb
  generalize hA : cutS m 0 64 = A at *
  generalize hB : cutS x 0 64 = B at *
  obtain ⟨s0, s1⟩ := signS_range A 64
  obtain ⟨t0, t1⟩ := signS_range B 64
  generalize hL : lessS (signS B 64) (signS A 64) = L at *
  have HA := Lib.hid hA
  have HBB := Lib.hid hB
  have HL := Lib.hid hL
  clear hA hB hL
  go_enter Tryz.func48, Tryz.ntmps48
  go_wp2_with fail
  refine (refIs_82 _).mono ?_
  rintro e w1 ⟨rfl, hb1⟩
  have HB1 := Lib.hid hb1
  clear hb1
  go_wp2_with fail
  refine (refSize_c _ _).mono ?_
  rintro e w2 ⟨rfl, hb2⟩
  have HB2 := Lib.hid (HB1.out.trans (hb2.mono HB1.out.size))
  clear hb2
  rw [hsz]
  go_wp2_with fail
  refine (refCut_c _ _ _ _ hm0 hm (by omega) (by omega)).mono ?_
  rintro e w3 ⟨rfl, hb3⟩
  have HB3 := Lib.hid (HB2.out.trans (hb3.mono HB2.out.size))
  clear hb3
  rw [HA.out]
  go_wp2_with fail
  refine (refCut_c _ _ _ _ hx0 hx (by omega) (by omega)).mono ?_
  rintro e w4 ⟨rfl, hb4⟩
  have HB4 := Lib.hid (HB3.out.trans (hb4.mono HB3.out.size))
  clear hb4
  rw [HBB.out]
  go_wp2_with fail
  refine (refSign_c _ _ _ b0 b1 (by omega)).mono ?_
  rintro e w5 ⟨rfl, hb5⟩
  have HB5 := Lib.hid (HB4.out.trans (hb5.mono HB4.out.size))
  clear hb5
  go_wp2_with fail
  refine (refSign_c _ _ _ a0 a1 (by omega)).mono ?_
  rintro e w6 ⟨rfl, hb6⟩
  have HB6 := Lib.hid (HB5.out.trans (hb6.mono HB5.out.size))
  clear hb6
  go_wp2_with fail
  refine (refLess_c _ _ _ t0 t1 s0 s1).mono ?_
  rintro e w' ⟨rfl, rfl⟩
  rw [HL.out]
  go_wp2_with fail
  refine (refWord_82 _).mono ?_
  rintro e w7 ⟨rfl, hb7⟩
  have HB7 := Lib.hid (HB6.out.trans (hb7.mono HB6.out.size))
  clear hb7
  go_wp2_with fail
  refine (refDo_xor 36 _ _ _ refName_36 a0 a1 b0 b1).mono ?_
  rintro e w8 ⟨rfl, hb8⟩
  have HB8 := Lib.hid (HB7.out.trans (hb8.mono HB7.out.size))
  clear hb8
  go_wp2_with fail
  refine (refCut_c _ _ _ _ (xor_range a0 a1 b0 b1).1 (xor_range a0 a1 b0 b1).2 (by omega) (by omega)).mono ?_
  rintro e w9 ⟨rfl, hb9⟩
  have HB9 := Lib.hid (HB8.out.trans (hb9.mono HB8.out.size))
  clear hb9
  go_wp2_with fail
  go_ret2
  exact ⟨ret2_u (HV.out), HB9.out⟩

set_option maxHeartbeats 8000000 in
theorem refAmo_83 (m x : Int) (w : World) (hm0 : 0 ≤ m) (hm : m < 18446744073709551616) (hx0 : 0 ≤ x) (hx : x < 18446744073709551616) : Calls Tryz.prog 48 #[.int .i64 83, .int .u64 m, .int .u64 x] w fun e w' => e = .returned (.tuple #[.int .u64 (amoG 3 m x), .bool true]) ∧ Below w.heap.size w w' := by
  have hsz : sizeS 83 = 8 := by decide +kernel
  have ra := cutS_range m 0 64
  have rb := cutS_range x 0 64
  have HV := Lib.hid (fin64_3 hm0 hm hx0 hx)
  generalize (amoG 3 m x) = V at *
  obtain ⟨a0, a1⟩ := ra
  obtain ⟨b0, b1⟩ := rb
  generalize hA : cutS m 0 64 = A at *
  generalize hB : cutS x 0 64 = B at *
  obtain ⟨s0, s1⟩ := signS_range A 64
  obtain ⟨t0, t1⟩ := signS_range B 64
  generalize hL : lessS (signS B 64) (signS A 64) = L at *
  have HA := Lib.hid hA
  have HBB := Lib.hid hB
  have HL := Lib.hid hL
  clear hA hB hL
  go_enter Tryz.func48, Tryz.ntmps48
  go_wp2_with fail
  refine (refIs_83 _).mono ?_
  rintro e w1 ⟨rfl, hb1⟩
  have HB1 := Lib.hid hb1
  clear hb1
  go_wp2_with fail
  refine (refSize_c _ _).mono ?_
  rintro e w2 ⟨rfl, hb2⟩
  have HB2 := Lib.hid (HB1.out.trans (hb2.mono HB1.out.size))
  clear hb2
  rw [hsz]
  go_wp2_with fail
  refine (refCut_c _ _ _ _ hm0 hm (by omega) (by omega)).mono ?_
  rintro e w3 ⟨rfl, hb3⟩
  have HB3 := Lib.hid (HB2.out.trans (hb3.mono HB2.out.size))
  clear hb3
  rw [HA.out]
  go_wp2_with fail
  refine (refCut_c _ _ _ _ hx0 hx (by omega) (by omega)).mono ?_
  rintro e w4 ⟨rfl, hb4⟩
  have HB4 := Lib.hid (HB3.out.trans (hb4.mono HB3.out.size))
  clear hb4
  rw [HBB.out]
  go_wp2_with fail
  refine (refSign_c _ _ _ b0 b1 (by omega)).mono ?_
  rintro e w5 ⟨rfl, hb5⟩
  have HB5 := Lib.hid (HB4.out.trans (hb5.mono HB4.out.size))
  clear hb5
  go_wp2_with fail
  refine (refSign_c _ _ _ a0 a1 (by omega)).mono ?_
  rintro e w6 ⟨rfl, hb6⟩
  have HB6 := Lib.hid (HB5.out.trans (hb6.mono HB5.out.size))
  clear hb6
  go_wp2_with fail
  refine (refLess_c _ _ _ t0 t1 s0 s1).mono ?_
  rintro e w' ⟨rfl, rfl⟩
  rw [HL.out]
  go_wp2_with fail
  refine (refWord_83 _).mono ?_
  rintro e w7 ⟨rfl, hb7⟩
  have HB7 := Lib.hid (HB6.out.trans (hb7.mono HB6.out.size))
  clear hb7
  go_wp2_with fail
  refine (refDo_and 40 _ _ _ refName_40 a0 a1 b0 b1).mono ?_
  rintro e w8 ⟨rfl, hb8⟩
  have HB8 := Lib.hid (HB7.out.trans (hb8.mono HB7.out.size))
  clear hb8
  go_wp2_with fail
  refine (refCut_c _ _ _ _ (and_range a0 a1 b0 b1).1 (and_range a0 a1 b0 b1).2 (by omega) (by omega)).mono ?_
  rintro e w9 ⟨rfl, hb9⟩
  have HB9 := Lib.hid (HB8.out.trans (hb9.mono HB8.out.size))
  clear hb9
  go_wp2_with fail
  go_ret2
  exact ⟨ret2_u (HV.out), HB9.out⟩

set_option maxHeartbeats 8000000 in
theorem refAmo_84 (m x : Int) (w : World) (hm0 : 0 ≤ m) (hm : m < 18446744073709551616) (hx0 : 0 ≤ x) (hx : x < 18446744073709551616) : Calls Tryz.prog 48 #[.int .i64 84, .int .u64 m, .int .u64 x] w fun e w' => e = .returned (.tuple #[.int .u64 (amoG 4 m x), .bool true]) ∧ Below w.heap.size w w' := by
  have hsz : sizeS 84 = 8 := by decide +kernel
  have ra := cutS_range m 0 64
  have rb := cutS_range x 0 64
  have HV := Lib.hid (fin64_4 hm0 hm hx0 hx)
  generalize (amoG 4 m x) = V at *
  obtain ⟨a0, a1⟩ := ra
  obtain ⟨b0, b1⟩ := rb
  generalize hA : cutS m 0 64 = A at *
  generalize hB : cutS x 0 64 = B at *
  obtain ⟨s0, s1⟩ := signS_range A 64
  obtain ⟨t0, t1⟩ := signS_range B 64
  generalize hL : lessS (signS B 64) (signS A 64) = L at *
  have HA := Lib.hid hA
  have HBB := Lib.hid hB
  have HL := Lib.hid hL
  clear hA hB hL
  go_enter Tryz.func48, Tryz.ntmps48
  go_wp2_with fail
  refine (refIs_84 _).mono ?_
  rintro e w1 ⟨rfl, hb1⟩
  have HB1 := Lib.hid hb1
  clear hb1
  go_wp2_with fail
  refine (refSize_c _ _).mono ?_
  rintro e w2 ⟨rfl, hb2⟩
  have HB2 := Lib.hid (HB1.out.trans (hb2.mono HB1.out.size))
  clear hb2
  rw [hsz]
  go_wp2_with fail
  refine (refCut_c _ _ _ _ hm0 hm (by omega) (by omega)).mono ?_
  rintro e w3 ⟨rfl, hb3⟩
  have HB3 := Lib.hid (HB2.out.trans (hb3.mono HB2.out.size))
  clear hb3
  rw [HA.out]
  go_wp2_with fail
  refine (refCut_c _ _ _ _ hx0 hx (by omega) (by omega)).mono ?_
  rintro e w4 ⟨rfl, hb4⟩
  have HB4 := Lib.hid (HB3.out.trans (hb4.mono HB3.out.size))
  clear hb4
  rw [HBB.out]
  go_wp2_with fail
  refine (refSign_c _ _ _ b0 b1 (by omega)).mono ?_
  rintro e w5 ⟨rfl, hb5⟩
  have HB5 := Lib.hid (HB4.out.trans (hb5.mono HB4.out.size))
  clear hb5
  go_wp2_with fail
  refine (refSign_c _ _ _ a0 a1 (by omega)).mono ?_
  rintro e w6 ⟨rfl, hb6⟩
  have HB6 := Lib.hid (HB5.out.trans (hb6.mono HB5.out.size))
  clear hb6
  go_wp2_with fail
  refine (refLess_c _ _ _ t0 t1 s0 s1).mono ?_
  rintro e w' ⟨rfl, rfl⟩
  rw [HL.out]
  go_wp2_with fail
  refine (refWord_84 _).mono ?_
  rintro e w7 ⟨rfl, hb7⟩
  have HB7 := Lib.hid (HB6.out.trans (hb7.mono HB6.out.size))
  clear hb7
  go_wp2_with fail
  refine (refDo_or 39 _ _ _ refName_39 a0 a1 b0 b1).mono ?_
  rintro e w8 ⟨rfl, hb8⟩
  have HB8 := Lib.hid (HB7.out.trans (hb8.mono HB7.out.size))
  clear hb8
  go_wp2_with fail
  refine (refCut_c _ _ _ _ (or_range a0 a1 b0 b1).1 (or_range a0 a1 b0 b1).2 (by omega) (by omega)).mono ?_
  rintro e w9 ⟨rfl, hb9⟩
  have HB9 := Lib.hid (HB8.out.trans (hb9.mono HB8.out.size))
  clear hb9
  go_wp2_with fail
  go_ret2
  exact ⟨ret2_u (HV.out), HB9.out⟩

set_option maxHeartbeats 8000000 in
theorem refAmo_85 (m x : Int) (w : World) (hm0 : 0 ≤ m) (hm : m < 18446744073709551616) (hx0 : 0 ≤ x) (hx : x < 18446744073709551616) : Calls Tryz.prog 48 #[.int .i64 85, .int .u64 m, .int .u64 x] w fun e w' => e = .returned (.tuple #[.int .u64 (amoG 5 m x), .bool true]) ∧ Below w.heap.size w w' := by
  have hsz : sizeS 85 = 8 := by decide +kernel
  have ra := cutS_range m 0 64
  have rb := cutS_range x 0 64
  have HY := Lib.hid (fun h => fin64_5y hm0 hm hx0 hx h)
  have HN := Lib.hid (fun h => fin64_5n hm0 hm hx0 hx h)
  generalize (amoG 5 m x) = V at *
  obtain ⟨a0, a1⟩ := ra
  obtain ⟨b0, b1⟩ := rb
  generalize hA : cutS m 0 64 = A at *
  generalize hB : cutS x 0 64 = B at *
  obtain ⟨s0, s1⟩ := signS_range A 64
  obtain ⟨t0, t1⟩ := signS_range B 64
  generalize hL : lessS (signS B 64) (signS A 64) = L at *
  have HA := Lib.hid hA
  have HBB := Lib.hid hB
  have HL := Lib.hid hL
  clear hA hB hL
  go_enter Tryz.func48, Tryz.ntmps48
  go_wp2_with fail
  refine (refIs_85 _).mono ?_
  rintro e w1 ⟨rfl, hb1⟩
  have HB1 := Lib.hid hb1
  clear hb1
  go_wp2_with fail
  refine (refSize_c _ _).mono ?_
  rintro e w2 ⟨rfl, hb2⟩
  have HB2 := Lib.hid (HB1.out.trans (hb2.mono HB1.out.size))
  clear hb2
  rw [hsz]
  go_wp2_with fail
  refine (refCut_c _ _ _ _ hm0 hm (by omega) (by omega)).mono ?_
  rintro e w3 ⟨rfl, hb3⟩
  have HB3 := Lib.hid (HB2.out.trans (hb3.mono HB2.out.size))
  clear hb3
  rw [HA.out]
  go_wp2_with fail
  refine (refCut_c _ _ _ _ hx0 hx (by omega) (by omega)).mono ?_
  rintro e w4 ⟨rfl, hb4⟩
  have HB4 := Lib.hid (HB3.out.trans (hb4.mono HB3.out.size))
  clear hb4
  rw [HBB.out]
  go_wp2_with fail
  refine (refSign_c _ _ _ b0 b1 (by omega)).mono ?_
  rintro e w5 ⟨rfl, hb5⟩
  have HB5 := Lib.hid (HB4.out.trans (hb5.mono HB4.out.size))
  clear hb5
  go_wp2_with fail
  refine (refSign_c _ _ _ a0 a1 (by omega)).mono ?_
  rintro e w6 ⟨rfl, hb6⟩
  have HB6 := Lib.hid (HB5.out.trans (hb6.mono HB5.out.size))
  clear hb6
  go_wp2_with fail
  refine (refLess_c _ _ _ t0 t1 s0 s1).mono ?_
  rintro e w' ⟨rfl, rfl⟩
  rw [HL.out]
  go_wp2_with fail
  refine (refWord_85 _).mono ?_
  rintro e w7 ⟨rfl, hb7⟩
  have HB7 := Lib.hid (HB6.out.trans (hb7.mono HB6.out.size))
  clear hb7
  cases L
  · have HV := Lib.hid (HN.out rfl)
    clear HY HN
    go_wp2_with fail
    refine (refCut_c _ _ _ _ a0 a1 (by omega) (by omega)).mono ?_
    rintro e w8 ⟨rfl, hb8⟩
    have HB8 := Lib.hid (HB7.out.trans (hb8.mono HB7.out.size))
    clear hb8
    go_wp2_with fail
    go_ret2
    exact ⟨ret2_u (HV.out), HB8.out⟩
  · have HV := Lib.hid (HY.out rfl)
    clear HY HN
    go_wp2_with fail
    refine (refCut_c _ _ _ _ b0 b1 (by omega) (by omega)).mono ?_
    rintro e w8 ⟨rfl, hb8⟩
    have HB8 := Lib.hid (HB7.out.trans (hb8.mono HB7.out.size))
    clear hb8
    go_wp2_with fail
    go_ret2
    exact ⟨ret2_u (HV.out), HB8.out⟩

set_option maxHeartbeats 8000000 in
theorem refAmo_86 (m x : Int) (w : World) (hm0 : 0 ≤ m) (hm : m < 18446744073709551616) (hx0 : 0 ≤ x) (hx : x < 18446744073709551616) : Calls Tryz.prog 48 #[.int .i64 86, .int .u64 m, .int .u64 x] w fun e w' => e = .returned (.tuple #[.int .u64 (amoG 6 m x), .bool true]) ∧ Below w.heap.size w w' := by
  have hsz : sizeS 86 = 8 := by decide +kernel
  have ra := cutS_range m 0 64
  have rb := cutS_range x 0 64
  have HY := Lib.hid (fun h => fin64_6y hm0 hm hx0 hx h)
  have HN := Lib.hid (fun h => fin64_6n hm0 hm hx0 hx h)
  generalize (amoG 6 m x) = V at *
  obtain ⟨a0, a1⟩ := ra
  obtain ⟨b0, b1⟩ := rb
  generalize hA : cutS m 0 64 = A at *
  generalize hB : cutS x 0 64 = B at *
  obtain ⟨s0, s1⟩ := signS_range A 64
  obtain ⟨t0, t1⟩ := signS_range B 64
  generalize hL : lessS (signS B 64) (signS A 64) = L at *
  have HA := Lib.hid hA
  have HBB := Lib.hid hB
  have HL := Lib.hid hL
  clear hA hB hL
  go_enter Tryz.func48, Tryz.ntmps48
  go_wp2_with fail
  refine (refIs_86 _).mono ?_
  rintro e w1 ⟨rfl, hb1⟩
  have HB1 := Lib.hid hb1
  clear hb1
  go_wp2_with fail
  refine (refSize_c _ _).mono ?_
  rintro e w2 ⟨rfl, hb2⟩
  have HB2 := Lib.hid (HB1.out.trans (hb2.mono HB1.out.size))
  clear hb2
  rw [hsz]
  go_wp2_with fail
  refine (refCut_c _ _ _ _ hm0 hm (by omega) (by omega)).mono ?_
  rintro e w3 ⟨rfl, hb3⟩
  have HB3 := Lib.hid (HB2.out.trans (hb3.mono HB2.out.size))
  clear hb3
  rw [HA.out]
  go_wp2_with fail
  refine (refCut_c _ _ _ _ hx0 hx (by omega) (by omega)).mono ?_
  rintro e w4 ⟨rfl, hb4⟩
  have HB4 := Lib.hid (HB3.out.trans (hb4.mono HB3.out.size))
  clear hb4
  rw [HBB.out]
  go_wp2_with fail
  refine (refSign_c _ _ _ b0 b1 (by omega)).mono ?_
  rintro e w5 ⟨rfl, hb5⟩
  have HB5 := Lib.hid (HB4.out.trans (hb5.mono HB4.out.size))
  clear hb5
  go_wp2_with fail
  refine (refSign_c _ _ _ a0 a1 (by omega)).mono ?_
  rintro e w6 ⟨rfl, hb6⟩
  have HB6 := Lib.hid (HB5.out.trans (hb6.mono HB5.out.size))
  clear hb6
  go_wp2_with fail
  refine (refLess_c _ _ _ t0 t1 s0 s1).mono ?_
  rintro e w' ⟨rfl, rfl⟩
  rw [HL.out]
  go_wp2_with fail
  refine (refWord_86 _).mono ?_
  rintro e w7 ⟨rfl, hb7⟩
  have HB7 := Lib.hid (HB6.out.trans (hb7.mono HB6.out.size))
  clear hb7
  cases L
  · have HV := Lib.hid (HY.out rfl)
    clear HY HN
    go_wp2_with fail
    refine (refCut_c _ _ _ _ b0 b1 (by omega) (by omega)).mono ?_
    rintro e w8 ⟨rfl, hb8⟩
    have HB8 := Lib.hid (HB7.out.trans (hb8.mono HB7.out.size))
    clear hb8
    go_wp2_with fail
    go_ret2
    exact ⟨ret2_u (HV.out), HB8.out⟩
  · have HV := Lib.hid (HN.out rfl)
    clear HY HN
    go_wp2_with fail
    refine (refCut_c _ _ _ _ a0 a1 (by omega) (by omega)).mono ?_
    rintro e w8 ⟨rfl, hb8⟩
    have HB8 := Lib.hid (HB7.out.trans (hb8.mono HB7.out.size))
    clear hb8
    go_wp2_with fail
    go_ret2
    exact ⟨ret2_u (HV.out), HB8.out⟩

set_option maxHeartbeats 8000000 in
theorem refAmo_87 (m x : Int) (w : World) (hm0 : 0 ≤ m) (hm : m < 18446744073709551616) (hx0 : 0 ≤ x) (hx : x < 18446744073709551616) : Calls Tryz.prog 48 #[.int .i64 87, .int .u64 m, .int .u64 x] w fun e w' => e = .returned (.tuple #[.int .u64 (amoG 7 m x), .bool true]) ∧ Below w.heap.size w w' := by
  have hsz : sizeS 87 = 8 := by decide +kernel
  have ra := cutS_range m 0 64
  have rb := cutS_range x 0 64
  have HY := Lib.hid (fun h => fin64_7y hm0 hm hx0 hx h)
  have HN := Lib.hid (fun h => fin64_7n hm0 hm hx0 hx h)
  generalize (amoG 7 m x) = V at *
  obtain ⟨a0, a1⟩ := ra
  obtain ⟨b0, b1⟩ := rb
  generalize hA : cutS m 0 64 = A at *
  generalize hB : cutS x 0 64 = B at *
  obtain ⟨s0, s1⟩ := signS_range A 64
  obtain ⟨t0, t1⟩ := signS_range B 64
  generalize hL : lessS (signS B 64) (signS A 64) = L at *
  have HA := Lib.hid hA
  have HBB := Lib.hid hB
  have HL := Lib.hid hL
  clear hA hB hL
  go_enter Tryz.func48, Tryz.ntmps48
  go_wp2_with fail
  refine (refIs_87 _).mono ?_
  rintro e w1 ⟨rfl, hb1⟩
  have HB1 := Lib.hid hb1
  clear hb1
  go_wp2_with fail
  refine (refSize_c _ _).mono ?_
  rintro e w2 ⟨rfl, hb2⟩
  have HB2 := Lib.hid (HB1.out.trans (hb2.mono HB1.out.size))
  clear hb2
  rw [hsz]
  go_wp2_with fail
  refine (refCut_c _ _ _ _ hm0 hm (by omega) (by omega)).mono ?_
  rintro e w3 ⟨rfl, hb3⟩
  have HB3 := Lib.hid (HB2.out.trans (hb3.mono HB2.out.size))
  clear hb3
  rw [HA.out]
  go_wp2_with fail
  refine (refCut_c _ _ _ _ hx0 hx (by omega) (by omega)).mono ?_
  rintro e w4 ⟨rfl, hb4⟩
  have HB4 := Lib.hid (HB3.out.trans (hb4.mono HB3.out.size))
  clear hb4
  rw [HBB.out]
  go_wp2_with fail
  refine (refSign_c _ _ _ b0 b1 (by omega)).mono ?_
  rintro e w5 ⟨rfl, hb5⟩
  have HB5 := Lib.hid (HB4.out.trans (hb5.mono HB4.out.size))
  clear hb5
  go_wp2_with fail
  refine (refSign_c _ _ _ a0 a1 (by omega)).mono ?_
  rintro e w6 ⟨rfl, hb6⟩
  have HB6 := Lib.hid (HB5.out.trans (hb6.mono HB5.out.size))
  clear hb6
  go_wp2_with fail
  refine (refLess_c _ _ _ t0 t1 s0 s1).mono ?_
  rintro e w' ⟨rfl, rfl⟩
  rw [HL.out]
  go_wp2_with fail
  refine (refWord_87 _).mono ?_
  rintro e w7 ⟨rfl, hb7⟩
  have HB7 := Lib.hid (HB6.out.trans (hb7.mono HB6.out.size))
  clear hb7
  by_cases hc : B < A
  · have HV := Lib.hid (HY.out (by omega))
    clear HY HN
    have hd : decide (B < A) = true := decide_eq_true (by omega)
    clear hc
    go_wp2_with fail
    refine (refCut_c _ _ _ _ b0 b1 (by omega) (by omega)).mono ?_
    rintro e w8 ⟨rfl, hb8⟩
    have HB8 := Lib.hid (HB7.out.trans (hb8.mono HB7.out.size))
    clear hb8
    go_wp2_with fail
    go_ret2
    exact ⟨ret2_u (HV.out), HB8.out⟩
  · have HV := Lib.hid (HN.out (by omega))
    clear HY HN
    have hd : decide (B < A) = false := decide_eq_false (by omega)
    clear hc
    go_wp2_with fail
    refine (refCut_c _ _ _ _ a0 a1 (by omega) (by omega)).mono ?_
    rintro e w8 ⟨rfl, hb8⟩
    have HB8 := Lib.hid (HB7.out.trans (hb8.mono HB7.out.size))
    clear hb8
    go_wp2_with fail
    go_ret2
    exact ⟨ret2_u (HV.out), HB8.out⟩

set_option maxHeartbeats 8000000 in
theorem refAmo_88 (m x : Int) (w : World) (hm0 : 0 ≤ m) (hm : m < 18446744073709551616) (hx0 : 0 ≤ x) (hx : x < 18446744073709551616) : Calls Tryz.prog 48 #[.int .i64 88, .int .u64 m, .int .u64 x] w fun e w' => e = .returned (.tuple #[.int .u64 (amoG 8 m x), .bool true]) ∧ Below w.heap.size w w' := by
  have hsz : sizeS 88 = 8 := by decide +kernel
  have ra := cutS_range m 0 64
  have rb := cutS_range x 0 64
  have HY := Lib.hid (fun h => fin64_8y hm0 hm hx0 hx h)
  have HN := Lib.hid (fun h => fin64_8n hm0 hm hx0 hx h)
  generalize (amoG 8 m x) = V at *
  obtain ⟨a0, a1⟩ := ra
  obtain ⟨b0, b1⟩ := rb
  generalize hA : cutS m 0 64 = A at *
  generalize hB : cutS x 0 64 = B at *
  obtain ⟨s0, s1⟩ := signS_range A 64
  obtain ⟨t0, t1⟩ := signS_range B 64
  generalize hL : lessS (signS B 64) (signS A 64) = L at *
  have HA := Lib.hid hA
  have HBB := Lib.hid hB
  have HL := Lib.hid hL
  clear hA hB hL
  go_enter Tryz.func48, Tryz.ntmps48
  go_wp2_with fail
  refine (refIs_88 _).mono ?_
  rintro e w1 ⟨rfl, hb1⟩
  have HB1 := Lib.hid hb1
  clear hb1
  go_wp2_with fail
  refine (refSize_c _ _).mono ?_
  rintro e w2 ⟨rfl, hb2⟩
  have HB2 := Lib.hid (HB1.out.trans (hb2.mono HB1.out.size))
  clear hb2
  rw [hsz]
  go_wp2_with fail
  refine (refCut_c _ _ _ _ hm0 hm (by omega) (by omega)).mono ?_
  rintro e w3 ⟨rfl, hb3⟩
  have HB3 := Lib.hid (HB2.out.trans (hb3.mono HB2.out.size))
  clear hb3
  rw [HA.out]
  go_wp2_with fail
  refine (refCut_c _ _ _ _ hx0 hx (by omega) (by omega)).mono ?_
  rintro e w4 ⟨rfl, hb4⟩
  have HB4 := Lib.hid (HB3.out.trans (hb4.mono HB3.out.size))
  clear hb4
  rw [HBB.out]
  go_wp2_with fail
  refine (refSign_c _ _ _ b0 b1 (by omega)).mono ?_
  rintro e w5 ⟨rfl, hb5⟩
  have HB5 := Lib.hid (HB4.out.trans (hb5.mono HB4.out.size))
  clear hb5
  go_wp2_with fail
  refine (refSign_c _ _ _ a0 a1 (by omega)).mono ?_
  rintro e w6 ⟨rfl, hb6⟩
  have HB6 := Lib.hid (HB5.out.trans (hb6.mono HB5.out.size))
  clear hb6
  go_wp2_with fail
  refine (refLess_c _ _ _ t0 t1 s0 s1).mono ?_
  rintro e w' ⟨rfl, rfl⟩
  rw [HL.out]
  go_wp2_with fail
  refine (refWord_88 _).mono ?_
  rintro e w7 ⟨rfl, hb7⟩
  have HB7 := Lib.hid (HB6.out.trans (hb7.mono HB6.out.size))
  clear hb7
  by_cases hc : A < B
  · have HV := Lib.hid (HY.out (by omega))
    clear HY HN
    have hd : decide (A < B) = true := decide_eq_true (by omega)
    clear hc
    go_wp2_with fail
    refine (refCut_c _ _ _ _ b0 b1 (by omega) (by omega)).mono ?_
    rintro e w8 ⟨rfl, hb8⟩
    have HB8 := Lib.hid (HB7.out.trans (hb8.mono HB7.out.size))
    clear hb8
    go_wp2_with fail
    go_ret2
    exact ⟨ret2_u (HV.out), HB8.out⟩
  · have HV := Lib.hid (HN.out (by omega))
    clear HY HN
    have hd : decide (A < B) = false := decide_eq_false (by omega)
    clear hc
    go_wp2_with fail
    refine (refCut_c _ _ _ _ a0 a1 (by omega) (by omega)).mono ?_
    rintro e w8 ⟨rfl, hb8⟩
    have HB8 := Lib.hid (HB7.out.trans (hb8.mono HB7.out.size))
    clear hb8
    go_wp2_with fail
    go_ret2
    exact ⟨ret2_u (HV.out), HB8.out⟩

end Go.Proofs.YtjeolfcefeglpabGreat
set_option maxRecDepth 20000
namespace Go.Proofs.YtjeolfcefeglpabGreat
open Go.ChangeShapes Go.WideShapes Go.ChangeAt Go.RowKit Wd

theorem live_add : amoG 1 (signS 4294967295 32) (signS 2 32) % 4294967296 = 1 := by decide +kernel
theorem live_max : amoG 6 (signS 2147483648 32) (signS 1 32) % 4294967296 = 1 := by decide +kernel
theorem live_or : loadedS 73 2147483648 = 18446744071562067968 := by decide +kernel
def AmoIs (op m x v : Int) (ok : Bool) : Prop := ∀ w : World, Calls Tryz.prog 39 #[.int .i64 op, .int .u64 m, .int .u64 x] w fun e w' => e = .returned (.tuple #[.int .u64 v, .bool ok]) ∧ w = w'
def AmoRef (op m x v : Int) (ok : Bool) : Prop := ∀ w : World, Calls Tryz.prog 48 #[.int .i64 op, .int .u64 m, .int .u64 x] w fun e w' => e = .returned (.tuple #[.int .u64 v, .bool ok]) ∧ Below w.heap.size w w'
theorem refAmo_no (op m x k : Int) (w : World) (hi : ∀ w : World, Calls Tryz.prog 86 #[.int .i64 op] w fun e w' => e = .returned (.int .i64 k) ∧ Below w.heap.size w w') (hk : ¬ k = 1) :
    Calls Tryz.prog 48 #[.int .i64 op, .int .u64 m, .int .u64 x] w fun e w' => e = .returned (.tuple #[.int .u64 0, .bool false]) ∧ Below w.heap.size w w' := by
  have e1 : (k != 1) = true := by simpa using hk
  clear hk
  go_enter Tryz.func48, Tryz.ntmps48
  go_wp2_with fail
  refine (hi _).mono ?_
  rintro e w1 ⟨rfl, hb⟩
  have HB := Lib.hid hb
  clear hb
  go_wp2_with fail
  go_ret2
  exact ⟨rfl, HB.out⟩
theorem class_seven {op : Int} : classS op = 7 ↔ (67 ≤ op ∧ op ≤ 88) := by
  have l : ∀ k : Fin 99, classL.getD k.val 0 = 7 ↔ (67 ≤ k.val ∧ k.val ≤ 88) := by decide +kernel
  unfold classS
  split
  · have := l ⟨op.toNat, by omega⟩
    simp only at this
    omega
  · omega
/-- What is asked of an op: 1 an AMO, 2 a link, 3 a conditional, 0 none. -/
def kindN (op : Int) : Int := if classS op = 7 then if op = 67 ∨ op = 78 then 2 else if op = 68 ∨ op = 79 then 3 else 1 else 0
theorem refIs_c (op : Int) (w : World) : Calls Tryz.prog 86 #[.int .i64 op] w fun e w' => e = .returned (.int .i64 (kindN op)) ∧ Below w.heap.size w w' := by
  by_cases h : classS op = 7
  · have hr := class_seven.1 h
    have : op = 67 ∨ op = 68 ∨ op = 69 ∨ op = 70 ∨ op = 71 ∨ op = 72 ∨ op = 73 ∨ op = 74 ∨ op = 75 ∨ op = 76 ∨ op = 77 ∨ op = 78 ∨ op = 79 ∨ op = 80 ∨ op = 81 ∨ op = 82 ∨ op = 83 ∨ op = 84 ∨ op = 85 ∨ op = 86 ∨ op = 87 ∨ op = 88 := by omega
    rcases this with rfl | rfl | rfl | rfl | rfl | rfl | rfl | rfl | rfl | rfl | rfl | rfl | rfl | rfl | rfl | rfl | rfl | rfl | rfl | rfl | rfl | rfl
    · exact (show kindN 67 = 2 by decide +kernel) ▸ refIs_67 w
    · exact (show kindN 68 = 3 by decide +kernel) ▸ refIs_68 w
    · exact (show kindN 69 = 1 by decide +kernel) ▸ refIs_69 w
    · exact (show kindN 70 = 1 by decide +kernel) ▸ refIs_70 w
    · exact (show kindN 71 = 1 by decide +kernel) ▸ refIs_71 w
    · exact (show kindN 72 = 1 by decide +kernel) ▸ refIs_72 w
    · exact (show kindN 73 = 1 by decide +kernel) ▸ refIs_73 w
    · exact (show kindN 74 = 1 by decide +kernel) ▸ refIs_74 w
    · exact (show kindN 75 = 1 by decide +kernel) ▸ refIs_75 w
    · exact (show kindN 76 = 1 by decide +kernel) ▸ refIs_76 w
    · exact (show kindN 77 = 1 by decide +kernel) ▸ refIs_77 w
    · exact (show kindN 78 = 2 by decide +kernel) ▸ refIs_78 w
    · exact (show kindN 79 = 3 by decide +kernel) ▸ refIs_79 w
    · exact (show kindN 80 = 1 by decide +kernel) ▸ refIs_80 w
    · exact (show kindN 81 = 1 by decide +kernel) ▸ refIs_81 w
    · exact (show kindN 82 = 1 by decide +kernel) ▸ refIs_82 w
    · exact (show kindN 83 = 1 by decide +kernel) ▸ refIs_83 w
    · exact (show kindN 84 = 1 by decide +kernel) ▸ refIs_84 w
    · exact (show kindN 85 = 1 by decide +kernel) ▸ refIs_85 w
    · exact (show kindN 86 = 1 by decide +kernel) ▸ refIs_86 w
    · exact (show kindN 87 = 1 by decide +kernel) ▸ refIs_87 w
    · exact (show kindN 88 = 1 by decide +kernel) ▸ refIs_88 w
  · have e : kindN op = 0 := by unfold kindN; rw [if_neg h]
    rw [e]
    exact refIs_no op h w
theorem isB_one (op : Int) : isB op = (kindN op == 1) := by
  unfold isB kindN linkB condB
  by_cases h : classS op = 7
  · by_cases h1 : op = 67 ∨ op = 78
    · rcases h1 with rfl | rfl <;> decide +kernel
    · by_cases h2 : op = 68 ∨ op = 79
      · rcases h2 with rfl | rfl <;> decide +kernel
      · have e1 : (op == 67) = false := by simp; omega
        have e2 : (op == 78) = false := by simp; omega
        have e3 : (op == 68) = false := by simp; omega
        have e4 : (op == 79) = false := by simp; omega
        rw [if_pos h, if_neg h1, if_neg h2, h, e1, e2, e3, e4]
        rfl
  · have e : (classS op == 7) = false := by simpa using h
    rw [if_neg h, e]
    rfl
theorem linkB_two (op : Int) : linkB op = (kindN op == 2) := by
  unfold linkB kindN
  by_cases h1 : op = 67 ∨ op = 78
  · rcases h1 with rfl | rfl <;> decide +kernel
  · have e1 : (op == 67) = false := by simp; omega
    have e2 : (op == 78) = false := by simp; omega
    rw [e1, e2, if_neg h1]
    split
    · split <;> rfl
    · rfl
theorem condB_three (op : Int) : condB op = (kindN op == 3) := by
  unfold condB kindN
  by_cases h1 : op = 68 ∨ op = 79
  · rcases h1 with rfl | rfl <;> decide +kernel
  · have e1 : (op == 68) = false := by simp; omega
    have e2 : (op == 79) = false := by simp; omega
    rw [e1, e2, if_neg h1]
    split
    · split <;> rfl
    · rfl
theorem amo_both (op m x : Int) (hm0 : 0 ≤ m) (hm : m < 18446744073709551616) (hx0 : 0 ≤ x) (hx : x < 18446744073709551616) : ∃ v ok, AmoIs op m x v ok ∧ AmoRef op m x v ok := by
  by_cases h : isB op = true
  · have hk : kindN op = 1 := by rw [isB_one] at h; simpa using h
    have hr : 67 ≤ op ∧ op ≤ 88 ∧ op ≠ 67 ∧ op ≠ 78 ∧ op ≠ 68 ∧ op ≠ 79 := by
      unfold kindN at hk
      split at hk
      · rename_i h7
        have := class_seven.1 h7
        split at hk
        · omega
        · split at hk
          · omega
          · omega
      · omega
    have : op = 69 ∨ op = 70 ∨ op = 71 ∨ op = 72 ∨ op = 73 ∨ op = 74 ∨ op = 75 ∨ op = 76 ∨ op = 77 ∨ op = 80 ∨ op = 81 ∨ op = 82 ∨ op = 83 ∨ op = 84 ∨ op = 85 ∨ op = 86 ∨ op = 87 ∨ op = 88 := by omega
    rcases this with rfl | rfl | rfl | rfl | rfl | rfl | rfl | rfl | rfl | rfl | rfl | rfl | rfl | rfl | rfl | rfl | rfl | rfl
    · exact ⟨_, _, fun w => amo_w0 m x w hm0 hm hx0 hx, fun w => refAmo_69 m x w hm0 hm hx0 hx⟩
    · exact ⟨_, _, fun w => amo_w1 m x w hm0 hm hx0 hx, fun w => refAmo_70 m x w hm0 hm hx0 hx⟩
    · exact ⟨_, _, fun w => amo_w2 m x w hm0 hm hx0 hx, fun w => refAmo_71 m x w hm0 hm hx0 hx⟩
    · exact ⟨_, _, fun w => amo_w3 m x w hm0 hm hx0 hx, fun w => refAmo_72 m x w hm0 hm hx0 hx⟩
    · exact ⟨_, _, fun w => amo_w4 m x w hm0 hm hx0 hx, fun w => refAmo_73 m x w hm0 hm hx0 hx⟩
    · exact ⟨_, _, fun w => amo_w5 m x w hm0 hm hx0 hx, fun w => refAmo_74 m x w hm0 hm hx0 hx⟩
    · exact ⟨_, _, fun w => amo_w6 m x w hm0 hm hx0 hx, fun w => refAmo_75 m x w hm0 hm hx0 hx⟩
    · exact ⟨_, _, fun w => amo_w7 m x w hm0 hm hx0 hx, fun w => refAmo_76 m x w hm0 hm hx0 hx⟩
    · exact ⟨_, _, fun w => amo_w8 m x w hm0 hm hx0 hx, fun w => refAmo_77 m x w hm0 hm hx0 hx⟩
    · exact ⟨_, _, fun w => amo_d0 m x w hm0 hm hx0 hx, fun w => refAmo_80 m x w hm0 hm hx0 hx⟩
    · exact ⟨_, _, fun w => amo_d1 m x w hm0 hm hx0 hx, fun w => refAmo_81 m x w hm0 hm hx0 hx⟩
    · exact ⟨_, _, fun w => amo_d2 m x w hm0 hm hx0 hx, fun w => refAmo_82 m x w hm0 hm hx0 hx⟩
    · exact ⟨_, _, fun w => amo_d3 m x w hm0 hm hx0 hx, fun w => refAmo_83 m x w hm0 hm hx0 hx⟩
    · exact ⟨_, _, fun w => amo_d4 m x w hm0 hm hx0 hx, fun w => refAmo_84 m x w hm0 hm hx0 hx⟩
    · exact ⟨_, _, fun w => amo_d5 m x w hm0 hm hx0 hx, fun w => refAmo_85 m x w hm0 hm hx0 hx⟩
    · exact ⟨_, _, fun w => amo_d6 m x w hm0 hm hx0 hx, fun w => refAmo_86 m x w hm0 hm hx0 hx⟩
    · exact ⟨_, _, fun w => amo_d7 m x w hm0 hm hx0 hx, fun w => refAmo_87 m x w hm0 hm hx0 hx⟩
    · exact ⟨_, _, fun w => amo_d8 m x w hm0 hm hx0 hx, fun w => refAmo_88 m x w hm0 hm hx0 hx⟩
  · have h' : isB op = false := by simpa using h
    have hk : ¬ kindN op = 1 := by rw [isB_one] at h'; simpa using h'
    exact ⟨_, _, fun w => amo_no op m x w h', fun w => refAmo_no op m x _ w (refIs_c op) hk⟩
end Go.Proofs.YtjeolfcefeglpabGreat
set_option maxRecDepth 20000
namespace Go.Proofs.YtjeolfcefeglpabGreat
open Go.ChangeShapes Go.WideShapes Go.ChangeAt Go.RowKit Wd

def WordB (x : Int) : Prop := 0 ≤ x ∧ x < 18446744073709551616
/-- Two in either order. -/
def Either (g : Int → Int → Int) : Prop := ∀ m x y, WordB m → WordB x → WordB y → g (g m x) y = g (g m y) x
/-- Twice is once. -/
def Once (g : Int → Int → Int) : Prop := ∀ m x, WordB m → WordB x → g (g m x) x = g m x
theorem amoG_word (j : Nat) {m x : Int} (hm : WordB m) (hx : WordB x) : WordB (amoG j m x) := by
  obtain ⟨hm0, hm⟩ := hm
  obtain ⟨hx0, hx⟩ := hx
  unfold WordB
  match j with
  | 0 => exact ⟨hx0, hx⟩
  | 1 => exact wrap_range _
  | 2 => exact xor_range hm0 hm hx0 hx
  | 3 => exact and_range hm0 hm hx0 hx
  | 4 => exact or_range hm0 hm hx0 hx
  | 5 => rw [amoG_5]; split <;> omega
  | 6 => rw [amoG_6]; split <;> omega
  | 7 => rw [amoG_7]; split <;> omega
  | j + 8 => show 0 ≤ (if m < x then x else m) ∧ (if m < x then x else m) < 18446744073709551616; split <;> omega
theorem xor_n {a b : Int} (ha : WordB a) (hb : WordB b) : (bits .xor .u64 a b).toNat = a.toNat ^^^ b.toNat := by rw [u64_xor a b ha.1 ha.2 hb.1 hb.2]; omega
theorem and_n {a b : Int} (ha : WordB a) (hb : WordB b) : (bits .and .u64 a b).toNat = a.toNat &&& b.toNat := by rw [u64_and a b ha.1 ha.2 hb.1 hb.2]; omega
theorem or_n {a b : Int} (ha : WordB a) (hb : WordB b) : (bits .or .u64 a b).toNat = a.toNat ||| b.toNat := by rw [u64_or a b ha.1 ha.2 hb.1 hb.2]; omega
theorem nat_eq {a b : Int} (ha : WordB a) (hb : WordB b) (h : a.toNat = b.toNat) : a = b := by
  unfold WordB at *
  omega
theorem either_1 : Either (amoG 1) := by
  intro m x y hm hx hy
  rw [amoG_1, amoG_1, amoG_1, amoG_1]
  simp only [IntKind.wrap_u64]
  omega
theorem either_2 : Either (amoG 2) := by
  intro m x y hm hx hy
  refine nat_eq (amoG_word 2 (amoG_word 2 hm hx) hy) (amoG_word 2 (amoG_word 2 hm hy) hx) ?_
  have a := xor_n (amoG_word 2 hm hx) hy
  have b := xor_n (amoG_word 2 hm hy) hx
  have c := xor_n hm hx
  have d := xor_n hm hy
  show (bits .xor .u64 (bits .xor .u64 m x) y).toNat = (bits .xor .u64 (bits .xor .u64 m y) x).toNat
  have a' : (bits .xor .u64 (bits .xor .u64 m x) y).toNat = (bits .xor .u64 m x).toNat ^^^ y.toNat := a
  have b' : (bits .xor .u64 (bits .xor .u64 m y) x).toNat = (bits .xor .u64 m y).toNat ^^^ x.toNat := b
  rw [a', b', c, d, Nat.xor_assoc, Nat.xor_assoc, Nat.xor_comm x.toNat]
theorem either_3 : Either (amoG 3) := by
  intro m x y hm hx hy
  refine nat_eq (amoG_word 3 (amoG_word 3 hm hx) hy) (amoG_word 3 (amoG_word 3 hm hy) hx) ?_
  have a' : (bits .and .u64 (bits .and .u64 m x) y).toNat = (bits .and .u64 m x).toNat &&& y.toNat := and_n (amoG_word 3 hm hx) hy
  have b' : (bits .and .u64 (bits .and .u64 m y) x).toNat = (bits .and .u64 m y).toNat &&& x.toNat := and_n (amoG_word 3 hm hy) hx
  show (bits .and .u64 (bits .and .u64 m x) y).toNat = (bits .and .u64 (bits .and .u64 m y) x).toNat
  rw [a', b', and_n hm hx, and_n hm hy, Nat.and_assoc, Nat.and_assoc, Nat.and_comm x.toNat]
theorem either_4 : Either (amoG 4) := by
  intro m x y hm hx hy
  refine nat_eq (amoG_word 4 (amoG_word 4 hm hx) hy) (amoG_word 4 (amoG_word 4 hm hy) hx) ?_
  have a' : (bits .or .u64 (bits .or .u64 m x) y).toNat = (bits .or .u64 m x).toNat ||| y.toNat := or_n (amoG_word 4 hm hx) hy
  have b' : (bits .or .u64 (bits .or .u64 m y) x).toNat = (bits .or .u64 m y).toNat ||| x.toNat := or_n (amoG_word 4 hm hy) hx
  show (bits .or .u64 (bits .or .u64 m x) y).toNat = (bits .or .u64 (bits .or .u64 m y) x).toNat
  rw [a', b', or_n hm hx, or_n hm hy, Nat.or_assoc, Nat.or_assoc, Nat.or_comm x.toNat]
theorem once_3 : Once (amoG 3) := by
  intro m x hm hx
  refine nat_eq (amoG_word 3 (amoG_word 3 hm hx) hx) (amoG_word 3 hm hx) ?_
  have a' : (bits .and .u64 (bits .and .u64 m x) x).toNat = (bits .and .u64 m x).toNat &&& x.toNat := and_n (amoG_word 3 hm hx) hx
  show (bits .and .u64 (bits .and .u64 m x) x).toNat = (bits .and .u64 m x).toNat
  rw [a', and_n hm hx, Nat.and_assoc, Nat.and_self]
theorem once_4 : Once (amoG 4) := by
  intro m x hm hx
  refine nat_eq (amoG_word 4 (amoG_word 4 hm hx) hx) (amoG_word 4 hm hx) ?_
  have a' : (bits .or .u64 (bits .or .u64 m x) x).toNat = (bits .or .u64 m x).toNat ||| x.toNat := or_n (amoG_word 4 hm hx) hx
  show (bits .or .u64 (bits .or .u64 m x) x).toNat = (bits .or .u64 m x).toNat
  rw [a', or_n hm hx, Nat.or_assoc, Nat.or_self]
theorem either_5 : Either (amoG 5) := by
  intro m x y hm hx hy
  unfold WordB at *
  simp only [amoG_5]
  unfold wrap64 at *
  (repeat' split) <;> omega
theorem once_5 : Once (amoG 5) := by
  intro m x hm hx
  unfold WordB at *
  simp only [amoG_5]
  unfold wrap64 at *
  (repeat' split) <;> omega
theorem kept_5_pre (m x : Int) : amoG 5 m x = m ∨ amoG 5 m x = x := by
  rw [amoG_5]
  split
  · exact .inr rfl
  · exact .inl rfl
theorem either_6 : Either (amoG 6) := by
  intro m x y hm hx hy
  unfold WordB at *
  simp only [amoG_6]
  unfold wrap64 at *
  (repeat' split) <;> omega
theorem once_6 : Once (amoG 6) := by
  intro m x hm hx
  unfold WordB at *
  simp only [amoG_6]
  unfold wrap64 at *
  (repeat' split) <;> omega
theorem kept_6_pre (m x : Int) : amoG 6 m x = m ∨ amoG 6 m x = x := by
  rw [amoG_6]
  split
  · exact .inr rfl
  · exact .inl rfl
theorem either_7 : Either (amoG 7) := by
  intro m x y hm hx hy
  unfold WordB at *
  simp only [amoG_7]
  (repeat' split) <;> omega
theorem once_7 : Once (amoG 7) := by
  intro m x hm hx
  unfold WordB at *
  simp only [amoG_7]
  (repeat' split) <;> omega
theorem kept_7_pre (m x : Int) : amoG 7 m x = m ∨ amoG 7 m x = x := by
  rw [amoG_7]
  split
  · exact .inr rfl
  · exact .inl rfl
theorem either_8 : Either (amoG 8) := by
  intro m x y hm hx hy
  unfold WordB at *
  simp only [amoG_8]
  (repeat' split) <;> omega
theorem once_8 : Once (amoG 8) := by
  intro m x hm hx
  unfold WordB at *
  simp only [amoG_8]
  (repeat' split) <;> omega
theorem kept_8_pre (m x : Int) : amoG 8 m x = m ∨ amoG 8 m x = x := by
  rw [amoG_8]
  split
  · exact .inr rfl
  · exact .inl rfl
/-- The form of 32 bits. -/
def narrow (g : Int → Int → Int) (m x : Int) : Int := g (signS m 32) (signS x 32) % 4294967296
def Kept (g : Int → Int → Int) : Prop := ∀ m x, WordB m → WordB x → signS m 32 = m → signS x 32 = x → signS (g m x) 32 = g m x
theorem sgn_word (x : Int) : WordB (signS x 32) := signS_range x 32
theorem sgn_self {x : Int} : signS (signS x 32) 32 = signS x 32 := keep_sign x 32
theorem sgn_narrow {g : Int → Int → Int} (hg : ∀ m x, WordB m → WordB x → WordB (g m x)) (hk : Kept g) (m x : Int) : signS (narrow g m x) 32 = g (signS m 32) (signS x 32) := by
  have hw := hg _ _ (sgn_word m) (sgn_word x)
  have e := hk _ _ (sgn_word m) (sgn_word x) sgn_self sgn_self
  unfold narrow
  rw [sgn_eq (y := g (signS m 32) (signS x 32)) (by have := hw.1; omega) hw.1 (by omega), e]
theorem either_w {g : Int → Int → Int} (hg : ∀ m x, WordB m → WordB x → WordB (g m x)) (hk : Kept g) (h : Either g) : Either (narrow g) := by
  intro m x y _ _ _
  have e1 := sgn_narrow hg hk m x
  have e2 := sgn_narrow hg hk m y
  have e3 := h _ _ _ (sgn_word m) (sgn_word x) (sgn_word y)
  unfold narrow at *
  rw [e1, e2, e3]
theorem once_w {g : Int → Int → Int} (hg : ∀ m x, WordB m → WordB x → WordB (g m x)) (hk : Kept g) (h : Once g) : Once (narrow g) := by
  intro m x _ _
  have e1 := sgn_narrow hg hk m x
  have e3 := h _ _ (sgn_word m) (sgn_word x)
  unfold narrow at *
  rw [e1, e3]
theorem narrow_word {g : Int → Int → Int} (m x : Int) : WordB (narrow g m x) := by
  unfold narrow WordB
  omega
theorem narrow_1 {m x : Int} (hm : 0 ≤ m) (hx : 0 ≤ x) : narrow (amoG 1) m x = (m + x) % 4294967296 := by
  have a := sgn_mod hm
  have b := sgn_mod hx
  unfold narrow
  rw [amoG_1, wrap_mod]
  omega
theorem either_w1 : Either (narrow (amoG 1)) := by
  intro m x y hm hx hy
  rw [narrow_1 (narrow_word m x).1 hy.1, narrow_1 (narrow_word m y).1 hx.1, narrow_1 hm.1 hx.1, narrow_1 hm.1 hy.1]
  omega
theorem tb_hi {x : Int} (h : signS x 32 = x) {i : Nat} (hi : i < 64) (h2 : ¬ i < 32) : tb x i = tb x 31 := by
  have := tb_sign32 x i hi
  rw [h, if_neg h2] at this
  exact this
theorem kept_bits {g : Int → Int → Int} (o : Bool → Bool → Bool) (hg : ∀ m x, WordB m → WordB x → WordB (g m x)) (ht : ∀ m x i, WordB m → WordB x → tb (g m x) i = o (tb m i) (tb x i)) : Kept g := by
  intro m x hm hx h1 h2
  have r := hg _ _ hm hx
  apply ext (signS_range _ 32).1 (signS_range _ 32).2 r.1 r.2
  intro i hi
  rw [tb_sign32 _ i hi]
  split
  · rfl
  · rename_i c
    rw [ht _ _ _ hm hx, ht _ _ _ hm hx, tb_hi h1 hi c, tb_hi h2 hi c]
theorem kept_5 : Kept (amoG 5) := by
  intro m x _ _ h1 h2
  rcases kept_5_pre m x with e | e
  · rw [e]; exact h1
  · rw [e]; exact h2
theorem kept_6 : Kept (amoG 6) := by
  intro m x _ _ h1 h2
  rcases kept_6_pre m x with e | e
  · rw [e]; exact h1
  · rw [e]; exact h2
theorem kept_7 : Kept (amoG 7) := by
  intro m x _ _ h1 h2
  rcases kept_7_pre m x with e | e
  · rw [e]; exact h1
  · rw [e]; exact h2
theorem kept_8 : Kept (amoG 8) := by
  intro m x _ _ h1 h2
  rcases kept_8_pre m x with e | e
  · rw [e]; exact h1
  · rw [e]; exact h2
theorem kept_2 : Kept (amoG 2) := kept_bits (fun a b => a ^^ b) (fun _ _ hm hx => amoG_word 2 hm hx) fun _ _ i hm hx => tb_xor hm.1 hm.2 hx.1 hx.2 i
theorem kept_3 : Kept (amoG 3) := kept_bits (fun a b => a && b) (fun _ _ hm hx => amoG_word 3 hm hx) fun _ _ i hm hx => tb_and hm.1 hm.2 hx.1 hx.2 i
theorem kept_4 : Kept (amoG 4) := kept_bits (fun a b => a || b) (fun _ _ hm hx => amoG_word 4 hm hx) fun _ _ i hm hx => tb_or hm.1 hm.2 hx.1 hx.2 i
end Go.Proofs.YtjeolfcefeglpabGreat
