/-
  Contracts of the reference's Do (layer 8), op by op.
-/
import Derived.Test.YtgfdielipbcfeaaAluD
import Derived.Test.YtgfdielipbcfeaaAmoW
import Derived.Test.YtgfdielipbcfeaaAmoP
namespace Go.Proofs.Ytgfdielipbcfeaa
open Go.ChangeShapes Go.WideShapes Go.ChangeAt Go.RowKit Wd

set_option maxHeartbeats 8000000 in
theorem refAmo_80 (m x : Int) (w : World) (hm0 : 0 ≤ m) (hm : m < 18446744073709551616) (hx0 : 0 ≤ x) (hx : x < 18446744073709551616) : Calls Try.prog 6 #[.int .i64 80, .int .u64 m, .int .u64 x] w fun e w' => e = .returned (.tuple #[.int .u64 (amoG 0 m x), .bool true]) ∧ Below w.heap.size w w' := by
  have hsz : sizeS 80 = 8 := by decide +kernel
  have ra := cutS_range m 0 64
  have rb := cutS_range x 0 64
  have HV := Lib.hid (fin64_0 hm0 hm hx0 hx)
  generalize (amoG 0 m x) = V at *
  obtain ⟨a0, a1⟩ := ra
  obtain ⟨b0, b1⟩ := rb
  generalize hA : cutS m 0 64 = A at *
  generalize hB : cutS x 0 64 = B at *
  obtain ⟨s0, s1⟩ := signS_range A 64
  obtain ⟨t0, t1⟩ := signS_range B 64
  generalize hL : lessS (signS B 64) (signS A 64) = L at *
  have HA := Lib.hid hA
  have HBB := Lib.hid hB
  have HL := Lib.hid hL
  clear hA hB hL
  go_enter Try.func6, Try.ntmps6
  go_wp2_with fail
  refine (refIs_80 _).mono ?_
  rintro e w1 ⟨rfl, hb1⟩
  have HB1 := Lib.hid hb1
  clear hb1
  go_wp2_with fail
  refine (refSize_c _ _).mono ?_
  rintro e w2 ⟨rfl, hb2⟩
  have HB2 := Lib.hid (HB1.out.trans (hb2.mono HB1.out.size))
  clear hb2
  rw [hsz]
  go_wp2_with fail
  refine (refCut_c _ _ _ _ hm0 hm (by omega) (by omega)).mono ?_
  rintro e w3 ⟨rfl, hb3⟩
  have HB3 := Lib.hid (HB2.out.trans (hb3.mono HB2.out.size))
  clear hb3
  rw [HA.out]
  go_wp2_with fail
  refine (refCut_c _ _ _ _ hx0 hx (by omega) (by omega)).mono ?_
  rintro e w4 ⟨rfl, hb4⟩
  have HB4 := Lib.hid (HB3.out.trans (hb4.mono HB3.out.size))
  clear hb4
  rw [HBB.out]
  go_wp2_with fail
  refine (refSign_c _ _ _ b0 b1 (by omega)).mono ?_
  rintro e w5 ⟨rfl, hb5⟩
  have HB5 := Lib.hid (HB4.out.trans (hb5.mono HB4.out.size))
  clear hb5
  go_wp2_with fail
  refine (refSign_c _ _ _ a0 a1 (by omega)).mono ?_
  rintro e w6 ⟨rfl, hb6⟩
  have HB6 := Lib.hid (HB5.out.trans (hb6.mono HB5.out.size))
  clear hb6
  go_wp2_with fail
  refine (refLess_c _ _ _ t0 t1 s0 s1).mono ?_
  rintro e w' ⟨rfl, rfl⟩
  rw [HL.out]
  go_wp2_with fail
  refine (refWord_80 _).mono ?_
  rintro e w7 ⟨rfl, hb7⟩
  have HB7 := Lib.hid (HB6.out.trans (hb7.mono HB6.out.size))
  clear hb7
  go_wp2_with fail
  refine (refCut_c _ _ _ _ b0 b1 (by omega) (by omega)).mono ?_
  rintro e w8 ⟨rfl, hb8⟩
  have HB8 := Lib.hid (HB7.out.trans (hb8.mono HB7.out.size))
  clear hb8
  go_wp2_with fail
  go_ret2
  exact ⟨ret2_u (HV.out), HB8.out⟩

set_option maxHeartbeats 8000000 in
theorem refAmo_81 (m x : Int) (w : World) (hm0 : 0 ≤ m) (hm : m < 18446744073709551616) (hx0 : 0 ≤ x) (hx : x < 18446744073709551616) : Calls Try.prog 6 #[.int .i64 81, .int .u64 m, .int .u64 x] w fun e w' => e = .returned (.tuple #[.int .u64 (amoG 1 m x), .bool true]) ∧ Below w.heap.size w w' := by
  have hsz : sizeS 81 = 8 := by decide +kernel
  have ra := cutS_range m 0 64
  have rb := cutS_range x 0 64
  have HV := Lib.hid (fin64_1 hm0 hm hx0 hx)
  generalize (amoG 1 m x) = V at *
  obtain ⟨a0, a1⟩ := ra
  obtain ⟨b0, b1⟩ := rb
  generalize hA : cutS m 0 64 = A at *
  generalize hB : cutS x 0 64 = B at *
  obtain ⟨s0, s1⟩ := signS_range A 64
  obtain ⟨t0, t1⟩ := signS_range B 64
  generalize hL : lessS (signS B 64) (signS A 64) = L at *
  have HA := Lib.hid hA
  have HBB := Lib.hid hB
  have HL := Lib.hid hL
  clear hA hB hL
  go_enter Try.func6, Try.ntmps6
  go_wp2_with fail
  refine (refIs_81 _).mono ?_
  rintro e w1 ⟨rfl, hb1⟩
  have HB1 := Lib.hid hb1
  clear hb1
  go_wp2_with fail
  refine (refSize_c _ _).mono ?_
  rintro e w2 ⟨rfl, hb2⟩
  have HB2 := Lib.hid (HB1.out.trans (hb2.mono HB1.out.size))
  clear hb2
  rw [hsz]
  go_wp2_with fail
  refine (refCut_c _ _ _ _ hm0 hm (by omega) (by omega)).mono ?_
  rintro e w3 ⟨rfl, hb3⟩
  have HB3 := Lib.hid (HB2.out.trans (hb3.mono HB2.out.size))
  clear hb3
  rw [HA.out]
  go_wp2_with fail
  refine (refCut_c _ _ _ _ hx0 hx (by omega) (by omega)).mono ?_
  rintro e w4 ⟨rfl, hb4⟩
  have HB4 := Lib.hid (HB3.out.trans (hb4.mono HB3.out.size))
  clear hb4
  rw [HBB.out]
  go_wp2_with fail
  refine (refSign_c _ _ _ b0 b1 (by omega)).mono ?_
  rintro e w5 ⟨rfl, hb5⟩
  have HB5 := Lib.hid (HB4.out.trans (hb5.mono HB4.out.size))
  clear hb5
  go_wp2_with fail
  refine (refSign_c _ _ _ a0 a1 (by omega)).mono ?_
  rintro e w6 ⟨rfl, hb6⟩
  have HB6 := Lib.hid (HB5.out.trans (hb6.mono HB5.out.size))
  clear hb6
  go_wp2_with fail
  refine (refLess_c _ _ _ t0 t1 s0 s1).mono ?_
  rintro e w' ⟨rfl, rfl⟩
  rw [HL.out]
  go_wp2_with fail
  refine (refWord_81 _).mono ?_
  rintro e w7 ⟨rfl, hb7⟩
  have HB7 := Lib.hid (HB6.out.trans (hb7.mono HB6.out.size))
  clear hb7
  go_wp2_with fail
  refine (refCut_c _ _ _ _ (wrap_range _).1 (wrap_range _).2 (by omega) (by omega)).mono ?_
  rintro e w8 ⟨rfl, hb8⟩
  have HB8 := Lib.hid (HB7.out.trans (hb8.mono HB7.out.size))
  clear hb8
  go_wp2_with fail
  go_ret2
  exact ⟨ret2_u (HV.out), HB8.out⟩

set_option maxHeartbeats 8000000 in
theorem refAmo_82 (m x : Int) (w : World) (hm0 : 0 ≤ m) (hm : m < 18446744073709551616) (hx0 : 0 ≤ x) (hx : x < 18446744073709551616) : Calls Try.prog 6 #[.int .i64 82, .int .u64 m, .int .u64 x] w fun e w' => e = .returned (.tuple #[.int .u64 (amoG 2 m x), .bool true]) ∧ Below w.heap.size w w' := by
  have hsz : sizeS 82 = 8 := by decide +kernel
  have ra := cutS_range m 0 64
  have rb := cutS_range x 0 64
  have HV := Lib.hid (fin64_2 hm0 hm hx0 hx)
  generalize (amoG 2 m x) = V at *
  obtain ⟨a0, a1⟩ := ra
  obtain ⟨b0, b1⟩ := rb
  generalize hA : cutS m 0 64 = A at *
  generalize hB : cutS x 0 64 = B at *
  obtain ⟨s0, s1⟩ := signS_range A 64
  obtain ⟨t0, t1⟩ := signS_range B 64
  generalize hL : lessS (signS B 64) (signS A 64) = L at *
  have HA := Lib.hid hA
  have HBB := Lib.hid hB
  have HL := Lib.hid hL
  clear hA hB hL
  go_enter Try.func6, Try.ntmps6
  go_wp2_with fail
  refine (refIs_82 _).mono ?_
  rintro e w1 ⟨rfl, hb1⟩
  have HB1 := Lib.hid hb1
  clear hb1
  go_wp2_with fail
  refine (refSize_c _ _).mono ?_
  rintro e w2 ⟨rfl, hb2⟩
  have HB2 := Lib.hid (HB1.out.trans (hb2.mono HB1.out.size))
  clear hb2
  rw [hsz]
  go_wp2_with fail
  refine (refCut_c _ _ _ _ hm0 hm (by omega) (by omega)).mono ?_
  rintro e w3 ⟨rfl, hb3⟩
  have HB3 := Lib.hid (HB2.out.trans (hb3.mono HB2.out.size))
  clear hb3
  rw [HA.out]
  go_wp2_with fail
  refine (refCut_c _ _ _ _ hx0 hx (by omega) (by omega)).mono ?_
  rintro e w4 ⟨rfl, hb4⟩
  have HB4 := Lib.hid (HB3.out.trans (hb4.mono HB3.out.size))
  clear hb4
  rw [HBB.out]
  go_wp2_with fail
  refine (refSign_c _ _ _ b0 b1 (by omega)).mono ?_
  rintro e w5 ⟨rfl, hb5⟩
  have HB5 := Lib.hid (HB4.out.trans (hb5.mono HB4.out.size))
  clear hb5
  go_wp2_with fail
  refine (refSign_c _ _ _ a0 a1 (by omega)).mono ?_
  rintro e w6 ⟨rfl, hb6⟩
  have HB6 := Lib.hid (HB5.out.trans (hb6.mono HB5.out.size))
  clear hb6
  go_wp2_with fail
  refine (refLess_c _ _ _ t0 t1 s0 s1).mono ?_
  rintro e w' ⟨rfl, rfl⟩
  rw [HL.out]
  go_wp2_with fail
  refine (refWord_82 _).mono ?_
  rintro e w7 ⟨rfl, hb7⟩
  have HB7 := Lib.hid (HB6.out.trans (hb7.mono HB6.out.size))
  clear hb7
  go_wp2_with fail
  refine (refDo_xor 36 _ _ _ refName_36 a0 a1 b0 b1).mono ?_
  rintro e w8 ⟨rfl, hb8⟩
  have HB8 := Lib.hid (HB7.out.trans (hb8.mono HB7.out.size))
  clear hb8
  go_wp2_with fail
  refine (refCut_c _ _ _ _ (xor_range a0 a1 b0 b1).1 (xor_range a0 a1 b0 b1).2 (by omega) (by omega)).mono ?_
  rintro e w9 ⟨rfl, hb9⟩
  have HB9 := Lib.hid (HB8.out.trans (hb9.mono HB8.out.size))
  clear hb9
  go_wp2_with fail
  go_ret2
  exact ⟨ret2_u (HV.out), HB9.out⟩

set_option maxHeartbeats 8000000 in
theorem refAmo_83 (m x : Int) (w : World) (hm0 : 0 ≤ m) (hm : m < 18446744073709551616) (hx0 : 0 ≤ x) (hx : x < 18446744073709551616) : Calls Try.prog 6 #[.int .i64 83, .int .u64 m, .int .u64 x] w fun e w' => e = .returned (.tuple #[.int .u64 (amoG 3 m x), .bool true]) ∧ Below w.heap.size w w' := by
  have hsz : sizeS 83 = 8 := by decide +kernel
  have ra := cutS_range m 0 64
  have rb := cutS_range x 0 64
  have HV := Lib.hid (fin64_3 hm0 hm hx0 hx)
  generalize (amoG 3 m x) = V at *
  obtain ⟨a0, a1⟩ := ra
  obtain ⟨b0, b1⟩ := rb
  generalize hA : cutS m 0 64 = A at *
  generalize hB : cutS x 0 64 = B at *
  obtain ⟨s0, s1⟩ := signS_range A 64
  obtain ⟨t0, t1⟩ := signS_range B 64
  generalize hL : lessS (signS B 64) (signS A 64) = L at *
  have HA := Lib.hid hA
  have HBB := Lib.hid hB
  have HL := Lib.hid hL
  clear hA hB hL
  go_enter Try.func6, Try.ntmps6
  go_wp2_with fail
  refine (refIs_83 _).mono ?_
  rintro e w1 ⟨rfl, hb1⟩
  have HB1 := Lib.hid hb1
  clear hb1
  go_wp2_with fail
  refine (refSize_c _ _).mono ?_
  rintro e w2 ⟨rfl, hb2⟩
  have HB2 := Lib.hid (HB1.out.trans (hb2.mono HB1.out.size))
  clear hb2
  rw [hsz]
  go_wp2_with fail
  refine (refCut_c _ _ _ _ hm0 hm (by omega) (by omega)).mono ?_
  rintro e w3 ⟨rfl, hb3⟩
  have HB3 := Lib.hid (HB2.out.trans (hb3.mono HB2.out.size))
  clear hb3
  rw [HA.out]
  go_wp2_with fail
  refine (refCut_c _ _ _ _ hx0 hx (by omega) (by omega)).mono ?_
  rintro e w4 ⟨rfl, hb4⟩
  have HB4 := Lib.hid (HB3.out.trans (hb4.mono HB3.out.size))
  clear hb4
  rw [HBB.out]
  go_wp2_with fail
  refine (refSign_c _ _ _ b0 b1 (by omega)).mono ?_
  rintro e w5 ⟨rfl, hb5⟩
  have HB5 := Lib.hid (HB4.out.trans (hb5.mono HB4.out.size))
  clear hb5
  go_wp2_with fail
  refine (refSign_c _ _ _ a0 a1 (by omega)).mono ?_
  rintro e w6 ⟨rfl, hb6⟩
  have HB6 := Lib.hid (HB5.out.trans (hb6.mono HB5.out.size))
  clear hb6
  go_wp2_with fail
  refine (refLess_c _ _ _ t0 t1 s0 s1).mono ?_
  rintro e w' ⟨rfl, rfl⟩
  rw [HL.out]
  go_wp2_with fail
  refine (refWord_83 _).mono ?_
  rintro e w7 ⟨rfl, hb7⟩
  have HB7 := Lib.hid (HB6.out.trans (hb7.mono HB6.out.size))
  clear hb7
  go_wp2_with fail
  refine (refDo_and 40 _ _ _ refName_40 a0 a1 b0 b1).mono ?_
  rintro e w8 ⟨rfl, hb8⟩
  have HB8 := Lib.hid (HB7.out.trans (hb8.mono HB7.out.size))
  clear hb8
  go_wp2_with fail
  refine (refCut_c _ _ _ _ (and_range a0 a1 b0 b1).1 (and_range a0 a1 b0 b1).2 (by omega) (by omega)).mono ?_
  rintro e w9 ⟨rfl, hb9⟩
  have HB9 := Lib.hid (HB8.out.trans (hb9.mono HB8.out.size))
  clear hb9
  go_wp2_with fail
  go_ret2
  exact ⟨ret2_u (HV.out), HB9.out⟩

set_option maxHeartbeats 8000000 in
theorem refAmo_84 (m x : Int) (w : World) (hm0 : 0 ≤ m) (hm : m < 18446744073709551616) (hx0 : 0 ≤ x) (hx : x < 18446744073709551616) : Calls Try.prog 6 #[.int .i64 84, .int .u64 m, .int .u64 x] w fun e w' => e = .returned (.tuple #[.int .u64 (amoG 4 m x), .bool true]) ∧ Below w.heap.size w w' := by
  have hsz : sizeS 84 = 8 := by decide +kernel
  have ra := cutS_range m 0 64
  have rb := cutS_range x 0 64
  have HV := Lib.hid (fin64_4 hm0 hm hx0 hx)
  generalize (amoG 4 m x) = V at *
  obtain ⟨a0, a1⟩ := ra
  obtain ⟨b0, b1⟩ := rb
  generalize hA : cutS m 0 64 = A at *
  generalize hB : cutS x 0 64 = B at *
  obtain ⟨s0, s1⟩ := signS_range A 64
  obtain ⟨t0, t1⟩ := signS_range B 64
  generalize hL : lessS (signS B 64) (signS A 64) = L at *
  have HA := Lib.hid hA
  have HBB := Lib.hid hB
  have HL := Lib.hid hL
  clear hA hB hL
  go_enter Try.func6, Try.ntmps6
  go_wp2_with fail
  refine (refIs_84 _).mono ?_
  rintro e w1 ⟨rfl, hb1⟩
  have HB1 := Lib.hid hb1
  clear hb1
  go_wp2_with fail
  refine (refSize_c _ _).mono ?_
  rintro e w2 ⟨rfl, hb2⟩
  have HB2 := Lib.hid (HB1.out.trans (hb2.mono HB1.out.size))
  clear hb2
  rw [hsz]
  go_wp2_with fail
  refine (refCut_c _ _ _ _ hm0 hm (by omega) (by omega)).mono ?_
  rintro e w3 ⟨rfl, hb3⟩
  have HB3 := Lib.hid (HB2.out.trans (hb3.mono HB2.out.size))
  clear hb3
  rw [HA.out]
  go_wp2_with fail
  refine (refCut_c _ _ _ _ hx0 hx (by omega) (by omega)).mono ?_
  rintro e w4 ⟨rfl, hb4⟩
  have HB4 := Lib.hid (HB3.out.trans (hb4.mono HB3.out.size))
  clear hb4
  rw [HBB.out]
  go_wp2_with fail
  refine (refSign_c _ _ _ b0 b1 (by omega)).mono ?_
  rintro e w5 ⟨rfl, hb5⟩
  have HB5 := Lib.hid (HB4.out.trans (hb5.mono HB4.out.size))
  clear hb5
  go_wp2_with fail
  refine (refSign_c _ _ _ a0 a1 (by omega)).mono ?_
  rintro e w6 ⟨rfl, hb6⟩
  have HB6 := Lib.hid (HB5.out.trans (hb6.mono HB5.out.size))
  clear hb6
  go_wp2_with fail
  refine (refLess_c _ _ _ t0 t1 s0 s1).mono ?_
  rintro e w' ⟨rfl, rfl⟩
  rw [HL.out]
  go_wp2_with fail
  refine (refWord_84 _).mono ?_
  rintro e w7 ⟨rfl, hb7⟩
  have HB7 := Lib.hid (HB6.out.trans (hb7.mono HB6.out.size))
  clear hb7
  go_wp2_with fail
  refine (refDo_or 39 _ _ _ refName_39 a0 a1 b0 b1).mono ?_
  rintro e w8 ⟨rfl, hb8⟩
  have HB8 := Lib.hid (HB7.out.trans (hb8.mono HB7.out.size))
  clear hb8
  go_wp2_with fail
  refine (refCut_c _ _ _ _ (or_range a0 a1 b0 b1).1 (or_range a0 a1 b0 b1).2 (by omega) (by omega)).mono ?_
  rintro e w9 ⟨rfl, hb9⟩
  have HB9 := Lib.hid (HB8.out.trans (hb9.mono HB8.out.size))
  clear hb9
  go_wp2_with fail
  go_ret2
  exact ⟨ret2_u (HV.out), HB9.out⟩

set_option maxHeartbeats 8000000 in
theorem refAmo_85 (m x : Int) (w : World) (hm0 : 0 ≤ m) (hm : m < 18446744073709551616) (hx0 : 0 ≤ x) (hx : x < 18446744073709551616) : Calls Try.prog 6 #[.int .i64 85, .int .u64 m, .int .u64 x] w fun e w' => e = .returned (.tuple #[.int .u64 (amoG 5 m x), .bool true]) ∧ Below w.heap.size w w' := by
  have hsz : sizeS 85 = 8 := by decide +kernel
  have ra := cutS_range m 0 64
  have rb := cutS_range x 0 64
  have HY := Lib.hid (fun h => fin64_5y hm0 hm hx0 hx h)
  have HN := Lib.hid (fun h => fin64_5n hm0 hm hx0 hx h)
  generalize (amoG 5 m x) = V at *
  obtain ⟨a0, a1⟩ := ra
  obtain ⟨b0, b1⟩ := rb
  generalize hA : cutS m 0 64 = A at *
  generalize hB : cutS x 0 64 = B at *
  obtain ⟨s0, s1⟩ := signS_range A 64
  obtain ⟨t0, t1⟩ := signS_range B 64
  generalize hL : lessS (signS B 64) (signS A 64) = L at *
  have HA := Lib.hid hA
  have HBB := Lib.hid hB
  have HL := Lib.hid hL
  clear hA hB hL
  go_enter Try.func6, Try.ntmps6
  go_wp2_with fail
  refine (refIs_85 _).mono ?_
  rintro e w1 ⟨rfl, hb1⟩
  have HB1 := Lib.hid hb1
  clear hb1
  go_wp2_with fail
  refine (refSize_c _ _).mono ?_
  rintro e w2 ⟨rfl, hb2⟩
  have HB2 := Lib.hid (HB1.out.trans (hb2.mono HB1.out.size))
  clear hb2
  rw [hsz]
  go_wp2_with fail
  refine (refCut_c _ _ _ _ hm0 hm (by omega) (by omega)).mono ?_
  rintro e w3 ⟨rfl, hb3⟩
  have HB3 := Lib.hid (HB2.out.trans (hb3.mono HB2.out.size))
  clear hb3
  rw [HA.out]
  go_wp2_with fail
  refine (refCut_c _ _ _ _ hx0 hx (by omega) (by omega)).mono ?_
  rintro e w4 ⟨rfl, hb4⟩
  have HB4 := Lib.hid (HB3.out.trans (hb4.mono HB3.out.size))
  clear hb4
  rw [HBB.out]
  go_wp2_with fail
  refine (refSign_c _ _ _ b0 b1 (by omega)).mono ?_
  rintro e w5 ⟨rfl, hb5⟩
  have HB5 := Lib.hid (HB4.out.trans (hb5.mono HB4.out.size))
  clear hb5
  go_wp2_with fail
  refine (refSign_c _ _ _ a0 a1 (by omega)).mono ?_
  rintro e w6 ⟨rfl, hb6⟩
  have HB6 := Lib.hid (HB5.out.trans (hb6.mono HB5.out.size))
  clear hb6
  go_wp2_with fail
  refine (refLess_c _ _ _ t0 t1 s0 s1).mono ?_
  rintro e w' ⟨rfl, rfl⟩
  rw [HL.out]
  go_wp2_with fail
  refine (refWord_85 _).mono ?_
  rintro e w7 ⟨rfl, hb7⟩
  have HB7 := Lib.hid (HB6.out.trans (hb7.mono HB6.out.size))
  clear hb7
  cases L
  · have HV := Lib.hid (HN.out rfl)
    clear HY HN
    go_wp2_with fail
    refine (refCut_c _ _ _ _ a0 a1 (by omega) (by omega)).mono ?_
    rintro e w8 ⟨rfl, hb8⟩
    have HB8 := Lib.hid (HB7.out.trans (hb8.mono HB7.out.size))
    clear hb8
    go_wp2_with fail
    go_ret2
    exact ⟨ret2_u (HV.out), HB8.out⟩
  · have HV := Lib.hid (HY.out rfl)
    clear HY HN
    go_wp2_with fail
    refine (refCut_c _ _ _ _ b0 b1 (by omega) (by omega)).mono ?_
    rintro e w8 ⟨rfl, hb8⟩
    have HB8 := Lib.hid (HB7.out.trans (hb8.mono HB7.out.size))
    clear hb8
    go_wp2_with fail
    go_ret2
    exact ⟨ret2_u (HV.out), HB8.out⟩

set_option maxHeartbeats 8000000 in
theorem refAmo_86 (m x : Int) (w : World) (hm0 : 0 ≤ m) (hm : m < 18446744073709551616) (hx0 : 0 ≤ x) (hx : x < 18446744073709551616) : Calls Try.prog 6 #[.int .i64 86, .int .u64 m, .int .u64 x] w fun e w' => e = .returned (.tuple #[.int .u64 (amoG 6 m x), .bool true]) ∧ Below w.heap.size w w' := by
  have hsz : sizeS 86 = 8 := by decide +kernel
  have ra := cutS_range m 0 64
  have rb := cutS_range x 0 64
  have HY := Lib.hid (fun h => fin64_6y hm0 hm hx0 hx h)
  have HN := Lib.hid (fun h => fin64_6n hm0 hm hx0 hx h)
  generalize (amoG 6 m x) = V at *
  obtain ⟨a0, a1⟩ := ra
  obtain ⟨b0, b1⟩ := rb
  generalize hA : cutS m 0 64 = A at *
  generalize hB : cutS x 0 64 = B at *
  obtain ⟨s0, s1⟩ := signS_range A 64
  obtain ⟨t0, t1⟩ := signS_range B 64
  generalize hL : lessS (signS B 64) (signS A 64) = L at *
  have HA := Lib.hid hA
  have HBB := Lib.hid hB
  have HL := Lib.hid hL
  clear hA hB hL
  go_enter Try.func6, Try.ntmps6
  go_wp2_with fail
  refine (refIs_86 _).mono ?_
  rintro e w1 ⟨rfl, hb1⟩
  have HB1 := Lib.hid hb1
  clear hb1
  go_wp2_with fail
  refine (refSize_c _ _).mono ?_
  rintro e w2 ⟨rfl, hb2⟩
  have HB2 := Lib.hid (HB1.out.trans (hb2.mono HB1.out.size))
  clear hb2
  rw [hsz]
  go_wp2_with fail
  refine (refCut_c _ _ _ _ hm0 hm (by omega) (by omega)).mono ?_
  rintro e w3 ⟨rfl, hb3⟩
  have HB3 := Lib.hid (HB2.out.trans (hb3.mono HB2.out.size))
  clear hb3
  rw [HA.out]
  go_wp2_with fail
  refine (refCut_c _ _ _ _ hx0 hx (by omega) (by omega)).mono ?_
  rintro e w4 ⟨rfl, hb4⟩
  have HB4 := Lib.hid (HB3.out.trans (hb4.mono HB3.out.size))
  clear hb4
  rw [HBB.out]
  go_wp2_with fail
  refine (refSign_c _ _ _ b0 b1 (by omega)).mono ?_
  rintro e w5 ⟨rfl, hb5⟩
  have HB5 := Lib.hid (HB4.out.trans (hb5.mono HB4.out.size))
  clear hb5
  go_wp2_with fail
  refine (refSign_c _ _ _ a0 a1 (by omega)).mono ?_
  rintro e w6 ⟨rfl, hb6⟩
  have HB6 := Lib.hid (HB5.out.trans (hb6.mono HB5.out.size))
  clear hb6
  go_wp2_with fail
  refine (refLess_c _ _ _ t0 t1 s0 s1).mono ?_
  rintro e w' ⟨rfl, rfl⟩
  rw [HL.out]
  go_wp2_with fail
  refine (refWord_86 _).mono ?_
  rintro e w7 ⟨rfl, hb7⟩
  have HB7 := Lib.hid (HB6.out.trans (hb7.mono HB6.out.size))
  clear hb7
  cases L
  · have HV := Lib.hid (HY.out rfl)
    clear HY HN
    go_wp2_with fail
    refine (refCut_c _ _ _ _ b0 b1 (by omega) (by omega)).mono ?_
    rintro e w8 ⟨rfl, hb8⟩
    have HB8 := Lib.hid (HB7.out.trans (hb8.mono HB7.out.size))
    clear hb8
    go_wp2_with fail
    go_ret2
    exact ⟨ret2_u (HV.out), HB8.out⟩
  · have HV := Lib.hid (HN.out rfl)
    clear HY HN
    go_wp2_with fail
    refine (refCut_c _ _ _ _ a0 a1 (by omega) (by omega)).mono ?_
    rintro e w8 ⟨rfl, hb8⟩
    have HB8 := Lib.hid (HB7.out.trans (hb8.mono HB7.out.size))
    clear hb8
    go_wp2_with fail
    go_ret2
    exact ⟨ret2_u (HV.out), HB8.out⟩

set_option maxHeartbeats 8000000 in
theorem refAmo_87 (m x : Int) (w : World) (hm0 : 0 ≤ m) (hm : m < 18446744073709551616) (hx0 : 0 ≤ x) (hx : x < 18446744073709551616) : Calls Try.prog 6 #[.int .i64 87, .int .u64 m, .int .u64 x] w fun e w' => e = .returned (.tuple #[.int .u64 (amoG 7 m x), .bool true]) ∧ Below w.heap.size w w' := by
  have hsz : sizeS 87 = 8 := by decide +kernel
  have ra := cutS_range m 0 64
  have rb := cutS_range x 0 64
  have HY := Lib.hid (fun h => fin64_7y hm0 hm hx0 hx h)
  have HN := Lib.hid (fun h => fin64_7n hm0 hm hx0 hx h)
  generalize (amoG 7 m x) = V at *
  obtain ⟨a0, a1⟩ := ra
  obtain ⟨b0, b1⟩ := rb
  generalize hA : cutS m 0 64 = A at *
  generalize hB : cutS x 0 64 = B at *
  obtain ⟨s0, s1⟩ := signS_range A 64
  obtain ⟨t0, t1⟩ := signS_range B 64
  generalize hL : lessS (signS B 64) (signS A 64) = L at *
  have HA := Lib.hid hA
  have HBB := Lib.hid hB
  have HL := Lib.hid hL
  clear hA hB hL
  go_enter Try.func6, Try.ntmps6
  go_wp2_with fail
  refine (refIs_87 _).mono ?_
  rintro e w1 ⟨rfl, hb1⟩
  have HB1 := Lib.hid hb1
  clear hb1
  go_wp2_with fail
  refine (refSize_c _ _).mono ?_
  rintro e w2 ⟨rfl, hb2⟩
  have HB2 := Lib.hid (HB1.out.trans (hb2.mono HB1.out.size))
  clear hb2
  rw [hsz]
  go_wp2_with fail
  refine (refCut_c _ _ _ _ hm0 hm (by omega) (by omega)).mono ?_
  rintro e w3 ⟨rfl, hb3⟩
  have HB3 := Lib.hid (HB2.out.trans (hb3.mono HB2.out.size))
  clear hb3
  rw [HA.out]
  go_wp2_with fail
  refine (refCut_c _ _ _ _ hx0 hx (by omega) (by omega)).mono ?_
  rintro e w4 ⟨rfl, hb4⟩
  have HB4 := Lib.hid (HB3.out.trans (hb4.mono HB3.out.size))
  clear hb4
  rw [HBB.out]
  go_wp2_with fail
  refine (refSign_c _ _ _ b0 b1 (by omega)).mono ?_
  rintro e w5 ⟨rfl, hb5⟩
  have HB5 := Lib.hid (HB4.out.trans (hb5.mono HB4.out.size))
  clear hb5
  go_wp2_with fail
  refine (refSign_c _ _ _ a0 a1 (by omega)).mono ?_
  rintro e w6 ⟨rfl, hb6⟩
  have HB6 := Lib.hid (HB5.out.trans (hb6.mono HB5.out.size))
  clear hb6
  go_wp2_with fail
  refine (refLess_c _ _ _ t0 t1 s0 s1).mono ?_
  rintro e w' ⟨rfl, rfl⟩
  rw [HL.out]
  go_wp2_with fail
  refine (refWord_87 _).mono ?_
  rintro e w7 ⟨rfl, hb7⟩
  have HB7 := Lib.hid (HB6.out.trans (hb7.mono HB6.out.size))
  clear hb7
  by_cases hc : B < A
  · have HV := Lib.hid (HY.out (by omega))
    clear HY HN
    have hd : decide (B < A) = true := decide_eq_true (by omega)
    clear hc
    go_wp2_with fail
    refine (refCut_c _ _ _ _ b0 b1 (by omega) (by omega)).mono ?_
    rintro e w8 ⟨rfl, hb8⟩
    have HB8 := Lib.hid (HB7.out.trans (hb8.mono HB7.out.size))
    clear hb8
    go_wp2_with fail
    go_ret2
    exact ⟨ret2_u (HV.out), HB8.out⟩
  · have HV := Lib.hid (HN.out (by omega))
    clear HY HN
    have hd : decide (B < A) = false := decide_eq_false (by omega)
    clear hc
    go_wp2_with fail
    refine (refCut_c _ _ _ _ a0 a1 (by omega) (by omega)).mono ?_
    rintro e w8 ⟨rfl, hb8⟩
    have HB8 := Lib.hid (HB7.out.trans (hb8.mono HB7.out.size))
    clear hb8
    go_wp2_with fail
    go_ret2
    exact ⟨ret2_u (HV.out), HB8.out⟩

set_option maxHeartbeats 8000000 in
theorem refAmo_88 (m x : Int) (w : World) (hm0 : 0 ≤ m) (hm : m < 18446744073709551616) (hx0 : 0 ≤ x) (hx : x < 18446744073709551616) : Calls Try.prog 6 #[.int .i64 88, .int .u64 m, .int .u64 x] w fun e w' => e = .returned (.tuple #[.int .u64 (amoG 8 m x), .bool true]) ∧ Below w.heap.size w w' := by
  have hsz : sizeS 88 = 8 := by decide +kernel
  have ra := cutS_range m 0 64
  have rb := cutS_range x 0 64
  have HY := Lib.hid (fun h => fin64_8y hm0 hm hx0 hx h)
  have HN := Lib.hid (fun h => fin64_8n hm0 hm hx0 hx h)
  generalize (amoG 8 m x) = V at *
  obtain ⟨a0, a1⟩ := ra
  obtain ⟨b0, b1⟩ := rb
  generalize hA : cutS m 0 64 = A at *
  generalize hB : cutS x 0 64 = B at *
  obtain ⟨s0, s1⟩ := signS_range A 64
  obtain ⟨t0, t1⟩ := signS_range B 64
  generalize hL : lessS (signS B 64) (signS A 64) = L at *
  have HA := Lib.hid hA
  have HBB := Lib.hid hB
  have HL := Lib.hid hL
  clear hA hB hL
  go_enter Try.func6, Try.ntmps6
  go_wp2_with fail
  refine (refIs_88 _).mono ?_
  rintro e w1 ⟨rfl, hb1⟩
  have HB1 := Lib.hid hb1
  clear hb1
  go_wp2_with fail
  refine (refSize_c _ _).mono ?_
  rintro e w2 ⟨rfl, hb2⟩
  have HB2 := Lib.hid (HB1.out.trans (hb2.mono HB1.out.size))
  clear hb2
  rw [hsz]
  go_wp2_with fail
  refine (refCut_c _ _ _ _ hm0 hm (by omega) (by omega)).mono ?_
  rintro e w3 ⟨rfl, hb3⟩
  have HB3 := Lib.hid (HB2.out.trans (hb3.mono HB2.out.size))
  clear hb3
  rw [HA.out]
  go_wp2_with fail
  refine (refCut_c _ _ _ _ hx0 hx (by omega) (by omega)).mono ?_
  rintro e w4 ⟨rfl, hb4⟩
  have HB4 := Lib.hid (HB3.out.trans (hb4.mono HB3.out.size))
  clear hb4
  rw [HBB.out]
  go_wp2_with fail
  refine (refSign_c _ _ _ b0 b1 (by omega)).mono ?_
  rintro e w5 ⟨rfl, hb5⟩
  have HB5 := Lib.hid (HB4.out.trans (hb5.mono HB4.out.size))
  clear hb5
  go_wp2_with fail
  refine (refSign_c _ _ _ a0 a1 (by omega)).mono ?_
  rintro e w6 ⟨rfl, hb6⟩
  have HB6 := Lib.hid (HB5.out.trans (hb6.mono HB5.out.size))
  clear hb6
  go_wp2_with fail
  refine (refLess_c _ _ _ t0 t1 s0 s1).mono ?_
  rintro e w' ⟨rfl, rfl⟩
  rw [HL.out]
  go_wp2_with fail
  refine (refWord_88 _).mono ?_
  rintro e w7 ⟨rfl, hb7⟩
  have HB7 := Lib.hid (HB6.out.trans (hb7.mono HB6.out.size))
  clear hb7
  by_cases hc : A < B
  · have HV := Lib.hid (HY.out (by omega))
    clear HY HN
    have hd : decide (A < B) = true := decide_eq_true (by omega)
    clear hc
    go_wp2_with fail
    refine (refCut_c _ _ _ _ b0 b1 (by omega) (by omega)).mono ?_
    rintro e w8 ⟨rfl, hb8⟩
    have HB8 := Lib.hid (HB7.out.trans (hb8.mono HB7.out.size))
    clear hb8
    go_wp2_with fail
    go_ret2
    exact ⟨ret2_u (HV.out), HB8.out⟩
  · have HV := Lib.hid (HN.out (by omega))
    clear HY HN
    have hd : decide (A < B) = false := decide_eq_false (by omega)
    clear hc
    go_wp2_with fail
    refine (refCut_c _ _ _ _ a0 a1 (by omega) (by omega)).mono ?_
    rintro e w8 ⟨rfl, hb8⟩
    have HB8 := Lib.hid (HB7.out.trans (hb8.mono HB7.out.size))
    clear hb8
    go_wp2_with fail
    go_ret2
    exact ⟨ret2_u (HV.out), HB8.out⟩

end Go.Proofs.Ytgfdielipbcfeaa
