/-
  Contracts of the reference's Do (layer 8), op by op.
-/
import Derived.Test.YtgfdielipbcfeaaAluD
import Derived.Test.YtgfdielipbcfeaaAmoW
import Derived.Test.YtgfdielipbcfeaaAmoP
namespace Go.Proofs.Ytgfdielipbcfeaa
open Go.ChangeShapes Go.WideShapes Go.ChangeAt Go.RowKit Wd

set_option maxHeartbeats 8000000 in
theorem refAmo_69 (m x : Int) (w : World) (hm0 : 0 ≤ m) (hm : m < 18446744073709551616) (hx0 : 0 ≤ x) (hx : x < 18446744073709551616) : Calls Try.prog 6 #[.int .i64 69, .int .u64 m, .int .u64 x] w fun e w' => e = .returned (.tuple #[.int .u64 (amoG 0 (signS m 32) (signS x 32) % 4294967296), .bool true]) ∧ Below w.heap.size w w' := by
  have hsz : sizeS 69 = 4 := by decide +kernel
  have ra := cutS_range m 0 32
  have rb := cutS_range x 0 32
  have HV := Lib.hid (fin32_0 hm0 hm hx0 hx)
  generalize (amoG 0 (signS m 32) (signS x 32) % 4294967296) = V at *
  obtain ⟨a0, a1⟩ := ra
  obtain ⟨b0, b1⟩ := rb
  generalize hA : cutS m 0 32 = A at *
  generalize hB : cutS x 0 32 = B at *
  obtain ⟨s0, s1⟩ := signS_range A 32
  obtain ⟨t0, t1⟩ := signS_range B 32
  generalize hL : lessS (signS B 32) (signS A 32) = L at *
  have HA := Lib.hid hA
  have HBB := Lib.hid hB
  have HL := Lib.hid hL
  clear hA hB hL
  go_enter Try.func6, Try.ntmps6
  go_wp2_with fail
  refine (refIs_69 _).mono ?_
  rintro e w1 ⟨rfl, hb1⟩
  have HB1 := Lib.hid hb1
  clear hb1
  go_wp2_with fail
  refine (refSize_c _ _).mono ?_
  rintro e w2 ⟨rfl, hb2⟩
  have HB2 := Lib.hid (HB1.out.trans (hb2.mono HB1.out.size))
  clear hb2
  rw [hsz]
  go_wp2_with fail
  refine (refCut_c _ _ _ _ hm0 hm (by omega) (by omega)).mono ?_
  rintro e w3 ⟨rfl, hb3⟩
  have HB3 := Lib.hid (HB2.out.trans (hb3.mono HB2.out.size))
  clear hb3
  rw [HA.out]
  go_wp2_with fail
  refine (refCut_c _ _ _ _ hx0 hx (by omega) (by omega)).mono ?_
  rintro e w4 ⟨rfl, hb4⟩
  have HB4 := Lib.hid (HB3.out.trans (hb4.mono HB3.out.size))
  clear hb4
  rw [HBB.out]
  go_wp2_with fail
  refine (refSign_c _ _ _ b0 b1 (by omega)).mono ?_
  rintro e w5 ⟨rfl, hb5⟩
  have HB5 := Lib.hid (HB4.out.trans (hb5.mono HB4.out.size))
  clear hb5
  go_wp2_with fail
  refine (refSign_c _ _ _ a0 a1 (by omega)).mono ?_
  rintro e w6 ⟨rfl, hb6⟩
  have HB6 := Lib.hid (HB5.out.trans (hb6.mono HB5.out.size))
  clear hb6
  go_wp2_with fail
  refine (refLess_c _ _ _ t0 t1 s0 s1).mono ?_
  rintro e w' ⟨rfl, rfl⟩
  rw [HL.out]
  go_wp2_with fail
  refine (refWord_69 _).mono ?_
  rintro e w7 ⟨rfl, hb7⟩
  have HB7 := Lib.hid (HB6.out.trans (hb7.mono HB6.out.size))
  clear hb7
  go_wp2_with fail
  refine (refCut_c _ _ _ _ b0 b1 (by omega) (by omega)).mono ?_
  rintro e w8 ⟨rfl, hb8⟩
  have HB8 := Lib.hid (HB7.out.trans (hb8.mono HB7.out.size))
  clear hb8
  go_wp2_with fail
  go_ret2
  exact ⟨ret2_u (HV.out), HB8.out⟩

set_option maxHeartbeats 8000000 in
theorem refAmo_70 (m x : Int) (w : World) (hm0 : 0 ≤ m) (hm : m < 18446744073709551616) (hx0 : 0 ≤ x) (hx : x < 18446744073709551616) : Calls Try.prog 6 #[.int .i64 70, .int .u64 m, .int .u64 x] w fun e w' => e = .returned (.tuple #[.int .u64 (amoG 1 (signS m 32) (signS x 32) % 4294967296), .bool true]) ∧ Below w.heap.size w w' := by
  have hsz : sizeS 70 = 4 := by decide +kernel
  have ra := cutS_range m 0 32
  have rb := cutS_range x 0 32
  have HV := Lib.hid (fin32_1 hm0 hm hx0 hx)
  generalize (amoG 1 (signS m 32) (signS x 32) % 4294967296) = V at *
  obtain ⟨a0, a1⟩ := ra
  obtain ⟨b0, b1⟩ := rb
  generalize hA : cutS m 0 32 = A at *
  generalize hB : cutS x 0 32 = B at *
  obtain ⟨s0, s1⟩ := signS_range A 32
  obtain ⟨t0, t1⟩ := signS_range B 32
  generalize hL : lessS (signS B 32) (signS A 32) = L at *
  have HA := Lib.hid hA
  have HBB := Lib.hid hB
  have HL := Lib.hid hL
  clear hA hB hL
  go_enter Try.func6, Try.ntmps6
  go_wp2_with fail
  refine (refIs_70 _).mono ?_
  rintro e w1 ⟨rfl, hb1⟩
  have HB1 := Lib.hid hb1
  clear hb1
  go_wp2_with fail
  refine (refSize_c _ _).mono ?_
  rintro e w2 ⟨rfl, hb2⟩
  have HB2 := Lib.hid (HB1.out.trans (hb2.mono HB1.out.size))
  clear hb2
  rw [hsz]
  go_wp2_with fail
  refine (refCut_c _ _ _ _ hm0 hm (by omega) (by omega)).mono ?_
  rintro e w3 ⟨rfl, hb3⟩
  have HB3 := Lib.hid (HB2.out.trans (hb3.mono HB2.out.size))
  clear hb3
  rw [HA.out]
  go_wp2_with fail
  refine (refCut_c _ _ _ _ hx0 hx (by omega) (by omega)).mono ?_
  rintro e w4 ⟨rfl, hb4⟩
  have HB4 := Lib.hid (HB3.out.trans (hb4.mono HB3.out.size))
  clear hb4
  rw [HBB.out]
  go_wp2_with fail
  refine (refSign_c _ _ _ b0 b1 (by omega)).mono ?_
  rintro e w5 ⟨rfl, hb5⟩
  have HB5 := Lib.hid (HB4.out.trans (hb5.mono HB4.out.size))
  clear hb5
  go_wp2_with fail
  refine (refSign_c _ _ _ a0 a1 (by omega)).mono ?_
  rintro e w6 ⟨rfl, hb6⟩
  have HB6 := Lib.hid (HB5.out.trans (hb6.mono HB5.out.size))
  clear hb6
  go_wp2_with fail
  refine (refLess_c _ _ _ t0 t1 s0 s1).mono ?_
  rintro e w' ⟨rfl, rfl⟩
  rw [HL.out]
  go_wp2_with fail
  refine (refWord_70 _).mono ?_
  rintro e w7 ⟨rfl, hb7⟩
  have HB7 := Lib.hid (HB6.out.trans (hb7.mono HB6.out.size))
  clear hb7
  go_wp2_with fail
  refine (refCut_c _ _ _ _ (wrap_range _).1 (wrap_range _).2 (by omega) (by omega)).mono ?_
  rintro e w8 ⟨rfl, hb8⟩
  have HB8 := Lib.hid (HB7.out.trans (hb8.mono HB7.out.size))
  clear hb8
  go_wp2_with fail
  go_ret2
  exact ⟨ret2_u (HV.out), HB8.out⟩

set_option maxHeartbeats 8000000 in
theorem refAmo_71 (m x : Int) (w : World) (hm0 : 0 ≤ m) (hm : m < 18446744073709551616) (hx0 : 0 ≤ x) (hx : x < 18446744073709551616) : Calls Try.prog 6 #[.int .i64 71, .int .u64 m, .int .u64 x] w fun e w' => e = .returned (.tuple #[.int .u64 (amoG 2 (signS m 32) (signS x 32) % 4294967296), .bool true]) ∧ Below w.heap.size w w' := by
  have hsz : sizeS 71 = 4 := by decide +kernel
  have ra := cutS_range m 0 32
  have rb := cutS_range x 0 32
  have HV := Lib.hid (fin32_2 hm0 hm hx0 hx)
  generalize (amoG 2 (signS m 32) (signS x 32) % 4294967296) = V at *
  obtain ⟨a0, a1⟩ := ra
  obtain ⟨b0, b1⟩ := rb
  generalize hA : cutS m 0 32 = A at *
  generalize hB : cutS x 0 32 = B at *
  obtain ⟨s0, s1⟩ := signS_range A 32
  obtain ⟨t0, t1⟩ := signS_range B 32
  generalize hL : lessS (signS B 32) (signS A 32) = L at *
  have HA := Lib.hid hA
  have HBB := Lib.hid hB
  have HL := Lib.hid hL
  clear hA hB hL
  go_enter Try.func6, Try.ntmps6
  go_wp2_with fail
  refine (refIs_71 _).mono ?_
  rintro e w1 ⟨rfl, hb1⟩
  have HB1 := Lib.hid hb1
  clear hb1
  go_wp2_with fail
  refine (refSize_c _ _).mono ?_
  rintro e w2 ⟨rfl, hb2⟩
  have HB2 := Lib.hid (HB1.out.trans (hb2.mono HB1.out.size))
  clear hb2
  rw [hsz]
  go_wp2_with fail
  refine (refCut_c _ _ _ _ hm0 hm (by omega) (by omega)).mono ?_
  rintro e w3 ⟨rfl, hb3⟩
  have HB3 := Lib.hid (HB2.out.trans (hb3.mono HB2.out.size))
  clear hb3
  rw [HA.out]
  go_wp2_with fail
  refine (refCut_c _ _ _ _ hx0 hx (by omega) (by omega)).mono ?_
  rintro e w4 ⟨rfl, hb4⟩
  have HB4 := Lib.hid (HB3.out.trans (hb4.mono HB3.out.size))
  clear hb4
  rw [HBB.out]
  go_wp2_with fail
  refine (refSign_c _ _ _ b0 b1 (by omega)).mono ?_
  rintro e w5 ⟨rfl, hb5⟩
  have HB5 := Lib.hid (HB4.out.trans (hb5.mono HB4.out.size))
  clear hb5
  go_wp2_with fail
  refine (refSign_c _ _ _ a0 a1 (by omega)).mono ?_
  rintro e w6 ⟨rfl, hb6⟩
  have HB6 := Lib.hid (HB5.out.trans (hb6.mono HB5.out.size))
  clear hb6
  go_wp2_with fail
  refine (refLess_c _ _ _ t0 t1 s0 s1).mono ?_
  rintro e w' ⟨rfl, rfl⟩
  rw [HL.out]
  go_wp2_with fail
  refine (refWord_71 _).mono ?_
  rintro e w7 ⟨rfl, hb7⟩
  have HB7 := Lib.hid (HB6.out.trans (hb7.mono HB6.out.size))
  clear hb7
  go_wp2_with fail
  refine (refDo_xor 36 _ _ _ refName_36 a0 a1 b0 b1).mono ?_
  rintro e w8 ⟨rfl, hb8⟩
  have HB8 := Lib.hid (HB7.out.trans (hb8.mono HB7.out.size))
  clear hb8
  go_wp2_with fail
  refine (refCut_c _ _ _ _ (xor_range a0 a1 b0 b1).1 (xor_range a0 a1 b0 b1).2 (by omega) (by omega)).mono ?_
  rintro e w9 ⟨rfl, hb9⟩
  have HB9 := Lib.hid (HB8.out.trans (hb9.mono HB8.out.size))
  clear hb9
  go_wp2_with fail
  go_ret2
  exact ⟨ret2_u (HV.out), HB9.out⟩

set_option maxHeartbeats 8000000 in
theorem refAmo_72 (m x : Int) (w : World) (hm0 : 0 ≤ m) (hm : m < 18446744073709551616) (hx0 : 0 ≤ x) (hx : x < 18446744073709551616) : Calls Try.prog 6 #[.int .i64 72, .int .u64 m, .int .u64 x] w fun e w' => e = .returned (.tuple #[.int .u64 (amoG 3 (signS m 32) (signS x 32) % 4294967296), .bool true]) ∧ Below w.heap.size w w' := by
  have hsz : sizeS 72 = 4 := by decide +kernel
  have ra := cutS_range m 0 32
  have rb := cutS_range x 0 32
  have HV := Lib.hid (fin32_3 hm0 hm hx0 hx)
  generalize (amoG 3 (signS m 32) (signS x 32) % 4294967296) = V at *
  obtain ⟨a0, a1⟩ := ra
  obtain ⟨b0, b1⟩ := rb
  generalize hA : cutS m 0 32 = A at *
  generalize hB : cutS x 0 32 = B at *
  obtain ⟨s0, s1⟩ := signS_range A 32
  obtain ⟨t0, t1⟩ := signS_range B 32
  generalize hL : lessS (signS B 32) (signS A 32) = L at *
  have HA := Lib.hid hA
  have HBB := Lib.hid hB
  have HL := Lib.hid hL
  clear hA hB hL
  go_enter Try.func6, Try.ntmps6
  go_wp2_with fail
  refine (refIs_72 _).mono ?_
  rintro e w1 ⟨rfl, hb1⟩
  have HB1 := Lib.hid hb1
  clear hb1
  go_wp2_with fail
  refine (refSize_c _ _).mono ?_
  rintro e w2 ⟨rfl, hb2⟩
  have HB2 := Lib.hid (HB1.out.trans (hb2.mono HB1.out.size))
  clear hb2
  rw [hsz]
  go_wp2_with fail
  refine (refCut_c _ _ _ _ hm0 hm (by omega) (by omega)).mono ?_
  rintro e w3 ⟨rfl, hb3⟩
  have HB3 := Lib.hid (HB2.out.trans (hb3.mono HB2.out.size))
  clear hb3
  rw [HA.out]
  go_wp2_with fail
  refine (refCut_c _ _ _ _ hx0 hx (by omega) (by omega)).mono ?_
  rintro e w4 ⟨rfl, hb4⟩
  have HB4 := Lib.hid (HB3.out.trans (hb4.mono HB3.out.size))
  clear hb4
  rw [HBB.out]
  go_wp2_with fail
  refine (refSign_c _ _ _ b0 b1 (by omega)).mono ?_
  rintro e w5 ⟨rfl, hb5⟩
  have HB5 := Lib.hid (HB4.out.trans (hb5.mono HB4.out.size))
  clear hb5
  go_wp2_with fail
  refine (refSign_c _ _ _ a0 a1 (by omega)).mono ?_
  rintro e w6 ⟨rfl, hb6⟩
  have HB6 := Lib.hid (HB5.out.trans (hb6.mono HB5.out.size))
  clear hb6
  go_wp2_with fail
  refine (refLess_c _ _ _ t0 t1 s0 s1).mono ?_
  rintro e w' ⟨rfl, rfl⟩
  rw [HL.out]
  go_wp2_with fail
  refine (refWord_72 _).mono ?_
  rintro e w7 ⟨rfl, hb7⟩
  have HB7 := Lib.hid (HB6.out.trans (hb7.mono HB6.out.size))
  clear hb7
  go_wp2_with fail
  refine (refDo_and 40 _ _ _ refName_40 a0 a1 b0 b1).mono ?_
  rintro e w8 ⟨rfl, hb8⟩
  have HB8 := Lib.hid (HB7.out.trans (hb8.mono HB7.out.size))
  clear hb8
  go_wp2_with fail
  refine (refCut_c _ _ _ _ (and_range a0 a1 b0 b1).1 (and_range a0 a1 b0 b1).2 (by omega) (by omega)).mono ?_
  rintro e w9 ⟨rfl, hb9⟩
  have HB9 := Lib.hid (HB8.out.trans (hb9.mono HB8.out.size))
  clear hb9
  go_wp2_with fail
  go_ret2
  exact ⟨ret2_u (HV.out), HB9.out⟩

set_option maxHeartbeats 8000000 in
theorem refAmo_73 (m x : Int) (w : World) (hm0 : 0 ≤ m) (hm : m < 18446744073709551616) (hx0 : 0 ≤ x) (hx : x < 18446744073709551616) : Calls Try.prog 6 #[.int .i64 73, .int .u64 m, .int .u64 x] w fun e w' => e = .returned (.tuple #[.int .u64 (amoG 4 (signS m 32) (signS x 32) % 4294967296), .bool true]) ∧ Below w.heap.size w w' := by
  have hsz : sizeS 73 = 4 := by decide +kernel
  have ra := cutS_range m 0 32
  have rb := cutS_range x 0 32
  have HV := Lib.hid (fin32_4 hm0 hm hx0 hx)
  generalize (amoG 4 (signS m 32) (signS x 32) % 4294967296) = V at *
  obtain ⟨a0, a1⟩ := ra
  obtain ⟨b0, b1⟩ := rb
  generalize hA : cutS m 0 32 = A at *
  generalize hB : cutS x 0 32 = B at *
  obtain ⟨s0, s1⟩ := signS_range A 32
  obtain ⟨t0, t1⟩ := signS_range B 32
  generalize hL : lessS (signS B 32) (signS A 32) = L at *
  have HA := Lib.hid hA
  have HBB := Lib.hid hB
  have HL := Lib.hid hL
  clear hA hB hL
  go_enter Try.func6, Try.ntmps6
  go_wp2_with fail
  refine (refIs_73 _).mono ?_
  rintro e w1 ⟨rfl, hb1⟩
  have HB1 := Lib.hid hb1
  clear hb1
  go_wp2_with fail
  refine (refSize_c _ _).mono ?_
  rintro e w2 ⟨rfl, hb2⟩
  have HB2 := Lib.hid (HB1.out.trans (hb2.mono HB1.out.size))
  clear hb2
  rw [hsz]
  go_wp2_with fail
  refine (refCut_c _ _ _ _ hm0 hm (by omega) (by omega)).mono ?_
  rintro e w3 ⟨rfl, hb3⟩
  have HB3 := Lib.hid (HB2.out.trans (hb3.mono HB2.out.size))
  clear hb3
  rw [HA.out]
  go_wp2_with fail
  refine (refCut_c _ _ _ _ hx0 hx (by omega) (by omega)).mono ?_
  rintro e w4 ⟨rfl, hb4⟩
  have HB4 := Lib.hid (HB3.out.trans (hb4.mono HB3.out.size))
  clear hb4
  rw [HBB.out]
  go_wp2_with fail
  refine (refSign_c _ _ _ b0 b1 (by omega)).mono ?_
  rintro e w5 ⟨rfl, hb5⟩
  have HB5 := Lib.hid (HB4.out.trans (hb5.mono HB4.out.size))
  clear hb5
  go_wp2_with fail
  refine (refSign_c _ _ _ a0 a1 (by omega)).mono ?_
  rintro e w6 ⟨rfl, hb6⟩
  have HB6 := Lib.hid (HB5.out.trans (hb6.mono HB5.out.size))
  clear hb6
  go_wp2_with fail
  refine (refLess_c _ _ _ t0 t1 s0 s1).mono ?_
  rintro e w' ⟨rfl, rfl⟩
  rw [HL.out]
  go_wp2_with fail
  refine (refWord_73 _).mono ?_
  rintro e w7 ⟨rfl, hb7⟩
  have HB7 := Lib.hid (HB6.out.trans (hb7.mono HB6.out.size))
  clear hb7
  go_wp2_with fail
  refine (refDo_or 39 _ _ _ refName_39 a0 a1 b0 b1).mono ?_
  rintro e w8 ⟨rfl, hb8⟩
  have HB8 := Lib.hid (HB7.out.trans (hb8.mono HB7.out.size))
  clear hb8
  go_wp2_with fail
  refine (refCut_c _ _ _ _ (or_range a0 a1 b0 b1).1 (or_range a0 a1 b0 b1).2 (by omega) (by omega)).mono ?_
  rintro e w9 ⟨rfl, hb9⟩
  have HB9 := Lib.hid (HB8.out.trans (hb9.mono HB8.out.size))
  clear hb9
  go_wp2_with fail
  go_ret2
  exact ⟨ret2_u (HV.out), HB9.out⟩

set_option maxHeartbeats 8000000 in
theorem refAmo_74 (m x : Int) (w : World) (hm0 : 0 ≤ m) (hm : m < 18446744073709551616) (hx0 : 0 ≤ x) (hx : x < 18446744073709551616) : Calls Try.prog 6 #[.int .i64 74, .int .u64 m, .int .u64 x] w fun e w' => e = .returned (.tuple #[.int .u64 (amoG 5 (signS m 32) (signS x 32) % 4294967296), .bool true]) ∧ Below w.heap.size w w' := by
  have hsz : sizeS 74 = 4 := by decide +kernel
  have ra := cutS_range m 0 32
  have rb := cutS_range x 0 32
  have HY := Lib.hid (fun h => fin32_5y hm0 hm hx0 hx h)
  have HN := Lib.hid (fun h => fin32_5n hm0 hm hx0 hx h)
  generalize (amoG 5 (signS m 32) (signS x 32) % 4294967296) = V at *
  obtain ⟨a0, a1⟩ := ra
  obtain ⟨b0, b1⟩ := rb
  generalize hA : cutS m 0 32 = A at *
  generalize hB : cutS x 0 32 = B at *
  obtain ⟨s0, s1⟩ := signS_range A 32
  obtain ⟨t0, t1⟩ := signS_range B 32
  generalize hL : lessS (signS B 32) (signS A 32) = L at *
  have HA := Lib.hid hA
  have HBB := Lib.hid hB
  have HL := Lib.hid hL
  clear hA hB hL
  go_enter Try.func6, Try.ntmps6
  go_wp2_with fail
  refine (refIs_74 _).mono ?_
  rintro e w1 ⟨rfl, hb1⟩
  have HB1 := Lib.hid hb1
  clear hb1
  go_wp2_with fail
  refine (refSize_c _ _).mono ?_
  rintro e w2 ⟨rfl, hb2⟩
  have HB2 := Lib.hid (HB1.out.trans (hb2.mono HB1.out.size))
  clear hb2
  rw [hsz]
  go_wp2_with fail
  refine (refCut_c _ _ _ _ hm0 hm (by omega) (by omega)).mono ?_
  rintro e w3 ⟨rfl, hb3⟩
  have HB3 := Lib.hid (HB2.out.trans (hb3.mono HB2.out.size))
  clear hb3
  rw [HA.out]
  go_wp2_with fail
  refine (refCut_c _ _ _ _ hx0 hx (by omega) (by omega)).mono ?_
  rintro e w4 ⟨rfl, hb4⟩
  have HB4 := Lib.hid (HB3.out.trans (hb4.mono HB3.out.size))
  clear hb4
  rw [HBB.out]
  go_wp2_with fail
  refine (refSign_c _ _ _ b0 b1 (by omega)).mono ?_
  rintro e w5 ⟨rfl, hb5⟩
  have HB5 := Lib.hid (HB4.out.trans (hb5.mono HB4.out.size))
  clear hb5
  go_wp2_with fail
  refine (refSign_c _ _ _ a0 a1 (by omega)).mono ?_
  rintro e w6 ⟨rfl, hb6⟩
  have HB6 := Lib.hid (HB5.out.trans (hb6.mono HB5.out.size))
  clear hb6
  go_wp2_with fail
  refine (refLess_c _ _ _ t0 t1 s0 s1).mono ?_
  rintro e w' ⟨rfl, rfl⟩
  rw [HL.out]
  go_wp2_with fail
  refine (refWord_74 _).mono ?_
  rintro e w7 ⟨rfl, hb7⟩
  have HB7 := Lib.hid (HB6.out.trans (hb7.mono HB6.out.size))
  clear hb7
  cases L
  · have HV := Lib.hid (HN.out rfl)
    clear HY HN
    go_wp2_with fail
    refine (refCut_c _ _ _ _ a0 a1 (by omega) (by omega)).mono ?_
    rintro e w8 ⟨rfl, hb8⟩
    have HB8 := Lib.hid (HB7.out.trans (hb8.mono HB7.out.size))
    clear hb8
    go_wp2_with fail
    go_ret2
    exact ⟨ret2_u (HV.out), HB8.out⟩
  · have HV := Lib.hid (HY.out rfl)
    clear HY HN
    go_wp2_with fail
    refine (refCut_c _ _ _ _ b0 b1 (by omega) (by omega)).mono ?_
    rintro e w8 ⟨rfl, hb8⟩
    have HB8 := Lib.hid (HB7.out.trans (hb8.mono HB7.out.size))
    clear hb8
    go_wp2_with fail
    go_ret2
    exact ⟨ret2_u (HV.out), HB8.out⟩

set_option maxHeartbeats 8000000 in
theorem refAmo_75 (m x : Int) (w : World) (hm0 : 0 ≤ m) (hm : m < 18446744073709551616) (hx0 : 0 ≤ x) (hx : x < 18446744073709551616) : Calls Try.prog 6 #[.int .i64 75, .int .u64 m, .int .u64 x] w fun e w' => e = .returned (.tuple #[.int .u64 (amoG 6 (signS m 32) (signS x 32) % 4294967296), .bool true]) ∧ Below w.heap.size w w' := by
  have hsz : sizeS 75 = 4 := by decide +kernel
  have ra := cutS_range m 0 32
  have rb := cutS_range x 0 32
  have HY := Lib.hid (fun h => fin32_6y hm0 hm hx0 hx h)
  have HN := Lib.hid (fun h => fin32_6n hm0 hm hx0 hx h)
  generalize (amoG 6 (signS m 32) (signS x 32) % 4294967296) = V at *
  obtain ⟨a0, a1⟩ := ra
  obtain ⟨b0, b1⟩ := rb
  generalize hA : cutS m 0 32 = A at *
  generalize hB : cutS x 0 32 = B at *
  obtain ⟨s0, s1⟩ := signS_range A 32
  obtain ⟨t0, t1⟩ := signS_range B 32
  generalize hL : lessS (signS B 32) (signS A 32) = L at *
  have HA := Lib.hid hA
  have HBB := Lib.hid hB
  have HL := Lib.hid hL
  clear hA hB hL
  go_enter Try.func6, Try.ntmps6
  go_wp2_with fail
  refine (refIs_75 _).mono ?_
  rintro e w1 ⟨rfl, hb1⟩
  have HB1 := Lib.hid hb1
  clear hb1
  go_wp2_with fail
  refine (refSize_c _ _).mono ?_
  rintro e w2 ⟨rfl, hb2⟩
  have HB2 := Lib.hid (HB1.out.trans (hb2.mono HB1.out.size))
  clear hb2
  rw [hsz]
  go_wp2_with fail
  refine (refCut_c _ _ _ _ hm0 hm (by omega) (by omega)).mono ?_
  rintro e w3 ⟨rfl, hb3⟩
  have HB3 := Lib.hid (HB2.out.trans (hb3.mono HB2.out.size))
  clear hb3
  rw [HA.out]
  go_wp2_with fail
  refine (refCut_c _ _ _ _ hx0 hx (by omega) (by omega)).mono ?_
  rintro e w4 ⟨rfl, hb4⟩
  have HB4 := Lib.hid (HB3.out.trans (hb4.mono HB3.out.size))
  clear hb4
  rw [HBB.out]
  go_wp2_with fail
  refine (refSign_c _ _ _ b0 b1 (by omega)).mono ?_
  rintro e w5 ⟨rfl, hb5⟩
  have HB5 := Lib.hid (HB4.out.trans (hb5.mono HB4.out.size))
  clear hb5
  go_wp2_with fail
  refine (refSign_c _ _ _ a0 a1 (by omega)).mono ?_
  rintro e w6 ⟨rfl, hb6⟩
  have HB6 := Lib.hid (HB5.out.trans (hb6.mono HB5.out.size))
  clear hb6
  go_wp2_with fail
  refine (refLess_c _ _ _ t0 t1 s0 s1).mono ?_
  rintro e w' ⟨rfl, rfl⟩
  rw [HL.out]
  go_wp2_with fail
  refine (refWord_75 _).mono ?_
  rintro e w7 ⟨rfl, hb7⟩
  have HB7 := Lib.hid (HB6.out.trans (hb7.mono HB6.out.size))
  clear hb7
  cases L
  · have HV := Lib.hid (HY.out rfl)
    clear HY HN
    go_wp2_with fail
    refine (refCut_c _ _ _ _ b0 b1 (by omega) (by omega)).mono ?_
    rintro e w8 ⟨rfl, hb8⟩
    have HB8 := Lib.hid (HB7.out.trans (hb8.mono HB7.out.size))
    clear hb8
    go_wp2_with fail
    go_ret2
    exact ⟨ret2_u (HV.out), HB8.out⟩
  · have HV := Lib.hid (HN.out rfl)
    clear HY HN
    go_wp2_with fail
    refine (refCut_c _ _ _ _ a0 a1 (by omega) (by omega)).mono ?_
    rintro e w8 ⟨rfl, hb8⟩
    have HB8 := Lib.hid (HB7.out.trans (hb8.mono HB7.out.size))
    clear hb8
    go_wp2_with fail
    go_ret2
    exact ⟨ret2_u (HV.out), HB8.out⟩

set_option maxHeartbeats 8000000 in
theorem refAmo_76 (m x : Int) (w : World) (hm0 : 0 ≤ m) (hm : m < 18446744073709551616) (hx0 : 0 ≤ x) (hx : x < 18446744073709551616) : Calls Try.prog 6 #[.int .i64 76, .int .u64 m, .int .u64 x] w fun e w' => e = .returned (.tuple #[.int .u64 (amoG 7 (signS m 32) (signS x 32) % 4294967296), .bool true]) ∧ Below w.heap.size w w' := by
  have hsz : sizeS 76 = 4 := by decide +kernel
  have ra := cutS_range m 0 32
  have rb := cutS_range x 0 32
  have HY := Lib.hid (fun h => fin32_7y hm0 hm hx0 hx h)
  have HN := Lib.hid (fun h => fin32_7n hm0 hm hx0 hx h)
  generalize (amoG 7 (signS m 32) (signS x 32) % 4294967296) = V at *
  obtain ⟨a0, a1⟩ := ra
  obtain ⟨b0, b1⟩ := rb
  generalize hA : cutS m 0 32 = A at *
  generalize hB : cutS x 0 32 = B at *
  obtain ⟨s0, s1⟩ := signS_range A 32
  obtain ⟨t0, t1⟩ := signS_range B 32
  generalize hL : lessS (signS B 32) (signS A 32) = L at *
  have HA := Lib.hid hA
  have HBB := Lib.hid hB
  have HL := Lib.hid hL
  clear hA hB hL
  go_enter Try.func6, Try.ntmps6
  go_wp2_with fail
  refine (refIs_76 _).mono ?_
  rintro e w1 ⟨rfl, hb1⟩
  have HB1 := Lib.hid hb1
  clear hb1
  go_wp2_with fail
  refine (refSize_c _ _).mono ?_
  rintro e w2 ⟨rfl, hb2⟩
  have HB2 := Lib.hid (HB1.out.trans (hb2.mono HB1.out.size))
  clear hb2
  rw [hsz]
  go_wp2_with fail
  refine (refCut_c _ _ _ _ hm0 hm (by omega) (by omega)).mono ?_
  rintro e w3 ⟨rfl, hb3⟩
  have HB3 := Lib.hid (HB2.out.trans (hb3.mono HB2.out.size))
  clear hb3
  rw [HA.out]
  go_wp2_with fail
  refine (refCut_c _ _ _ _ hx0 hx (by omega) (by omega)).mono ?_
  rintro e w4 ⟨rfl, hb4⟩
  have HB4 := Lib.hid (HB3.out.trans (hb4.mono HB3.out.size))
  clear hb4
  rw [HBB.out]
  go_wp2_with fail
  refine (refSign_c _ _ _ b0 b1 (by omega)).mono ?_
  rintro e w5 ⟨rfl, hb5⟩
  have HB5 := Lib.hid (HB4.out.trans (hb5.mono HB4.out.size))
  clear hb5
  go_wp2_with fail
  refine (refSign_c _ _ _ a0 a1 (by omega)).mono ?_
  rintro e w6 ⟨rfl, hb6⟩
  have HB6 := Lib.hid (HB5.out.trans (hb6.mono HB5.out.size))
  clear hb6
  go_wp2_with fail
  refine (refLess_c _ _ _ t0 t1 s0 s1).mono ?_
  rintro e w' ⟨rfl, rfl⟩
  rw [HL.out]
  go_wp2_with fail
  refine (refWord_76 _).mono ?_
  rintro e w7 ⟨rfl, hb7⟩
  have HB7 := Lib.hid (HB6.out.trans (hb7.mono HB6.out.size))
  clear hb7
  by_cases hc : B < A
  · have HV := Lib.hid (HY.out (by omega))
    clear HY HN
    have hd : decide (B < A) = true := decide_eq_true (by omega)
    clear hc
    go_wp2_with fail
    refine (refCut_c _ _ _ _ b0 b1 (by omega) (by omega)).mono ?_
    rintro e w8 ⟨rfl, hb8⟩
    have HB8 := Lib.hid (HB7.out.trans (hb8.mono HB7.out.size))
    clear hb8
    go_wp2_with fail
    go_ret2
    exact ⟨ret2_u (HV.out), HB8.out⟩
  · have HV := Lib.hid (HN.out (by omega))
    clear HY HN
    have hd : decide (B < A) = false := decide_eq_false (by omega)
    clear hc
    go_wp2_with fail
    refine (refCut_c _ _ _ _ a0 a1 (by omega) (by omega)).mono ?_
    rintro e w8 ⟨rfl, hb8⟩
    have HB8 := Lib.hid (HB7.out.trans (hb8.mono HB7.out.size))
    clear hb8
    go_wp2_with fail
    go_ret2
    exact ⟨ret2_u (HV.out), HB8.out⟩

set_option maxHeartbeats 8000000 in
theorem refAmo_77 (m x : Int) (w : World) (hm0 : 0 ≤ m) (hm : m < 18446744073709551616) (hx0 : 0 ≤ x) (hx : x < 18446744073709551616) : Calls Try.prog 6 #[.int .i64 77, .int .u64 m, .int .u64 x] w fun e w' => e = .returned (.tuple #[.int .u64 (amoG 8 (signS m 32) (signS x 32) % 4294967296), .bool true]) ∧ Below w.heap.size w w' := by
  have hsz : sizeS 77 = 4 := by decide +kernel
  have ra := cutS_range m 0 32
  have rb := cutS_range x 0 32
  have HY := Lib.hid (fun h => fin32_8y hm0 hm hx0 hx h)
  have HN := Lib.hid (fun h => fin32_8n hm0 hm hx0 hx h)
  generalize (amoG 8 (signS m 32) (signS x 32) % 4294967296) = V at *
  obtain ⟨a0, a1⟩ := ra
  obtain ⟨b0, b1⟩ := rb
  generalize hA : cutS m 0 32 = A at *
  generalize hB : cutS x 0 32 = B at *
  obtain ⟨s0, s1⟩ := signS_range A 32
  obtain ⟨t0, t1⟩ := signS_range B 32
  generalize hL : lessS (signS B 32) (signS A 32) = L at *
  have HA := Lib.hid hA
  have HBB := Lib.hid hB
  have HL := Lib.hid hL
  clear hA hB hL
  go_enter Try.func6, Try.ntmps6
  go_wp2_with fail
  refine (refIs_77 _).mono ?_
  rintro e w1 ⟨rfl, hb1⟩
  have HB1 := Lib.hid hb1
  clear hb1
  go_wp2_with fail
  refine (refSize_c _ _).mono ?_
  rintro e w2 ⟨rfl, hb2⟩
  have HB2 := Lib.hid (HB1.out.trans (hb2.mono HB1.out.size))
  clear hb2
  rw [hsz]
  go_wp2_with fail
  refine (refCut_c _ _ _ _ hm0 hm (by omega) (by omega)).mono ?_
  rintro e w3 ⟨rfl, hb3⟩
  have HB3 := Lib.hid (HB2.out.trans (hb3.mono HB2.out.size))
  clear hb3
  rw [HA.out]
  go_wp2_with fail
  refine (refCut_c _ _ _ _ hx0 hx (by omega) (by omega)).mono ?_
  rintro e w4 ⟨rfl, hb4⟩
  have HB4 := Lib.hid (HB3.out.trans (hb4.mono HB3.out.size))
  clear hb4
  rw [HBB.out]
  go_wp2_with fail
  refine (refSign_c _ _ _ b0 b1 (by omega)).mono ?_
  rintro e w5 ⟨rfl, hb5⟩
  have HB5 := Lib.hid (HB4.out.trans (hb5.mono HB4.out.size))
  clear hb5
  go_wp2_with fail
  refine (refSign_c _ _ _ a0 a1 (by omega)).mono ?_
  rintro e w6 ⟨rfl, hb6⟩
  have HB6 := Lib.hid (HB5.out.trans (hb6.mono HB5.out.size))
  clear hb6
  go_wp2_with fail
  refine (refLess_c _ _ _ t0 t1 s0 s1).mono ?_
  rintro e w' ⟨rfl, rfl⟩
  rw [HL.out]
  go_wp2_with fail
  refine (refWord_77 _).mono ?_
  rintro e w7 ⟨rfl, hb7⟩
  have HB7 := Lib.hid (HB6.out.trans (hb7.mono HB6.out.size))
  clear hb7
  by_cases hc : A < B
  · have HV := Lib.hid (HY.out (by omega))
    clear HY HN
    have hd : decide (A < B) = true := decide_eq_true (by omega)
    clear hc
    go_wp2_with fail
    refine (refCut_c _ _ _ _ b0 b1 (by omega) (by omega)).mono ?_
    rintro e w8 ⟨rfl, hb8⟩
    have HB8 := Lib.hid (HB7.out.trans (hb8.mono HB7.out.size))
    clear hb8
    go_wp2_with fail
    go_ret2
    exact ⟨ret2_u (HV.out), HB8.out⟩
  · have HV := Lib.hid (HN.out (by omega))
    clear HY HN
    have hd : decide (A < B) = false := decide_eq_false (by omega)
    clear hc
    go_wp2_with fail
    refine (refCut_c _ _ _ _ a0 a1 (by omega) (by omega)).mono ?_
    rintro e w8 ⟨rfl, hb8⟩
    have HB8 := Lib.hid (HB7.out.trans (hb8.mono HB7.out.size))
    clear hb8
    go_wp2_with fail
    go_ret2
    exact ⟨ret2_u (HV.out), HB8.out⟩

end Go.Proofs.Ytgfdielipbcfeaa
