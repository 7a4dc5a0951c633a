/-
  What layer 20's statements ask of the chapter's example (live): true. StatusTraps walked.
-/
import Derived.Test.YtkknfhbaldeigaaStaC
import Derived.Test.YtkknfhbaldeigaaStaD
set_option maxRecDepth 20000
namespace Go.Proofs.Ytkknfhbaldeigaa
open Go.ChangeShapes Go.WideShapes Go.ChangeAt Go.RowKit Wd Csr Sta

theorem lw1 : leaveV 2176 3 = 136 := by decide +kernel
theorem lw2 : leaveP 2176 3 = 1 := by decide +kernel
theorem lw3 : enterV 8 1 3 = 2176 := by decide +kernel
set_option maxHeartbeats 1000000 in
theorem live20_c (w : World) : Calls Try.prog 23 #[] w fun e w' => e = .returned (.bool true) ∧ Below w.heap.size w w' := by
  go_enter Try.func23, Try.ntmps23
  go_wp2_with fail
  refine (leave_c 2176 3 (by decide) _).mono ?_
  rintro e w1 ⟨rfl, hb⟩
  have HB1 := Lib.hid hb
  clear hb
  rw [lw1, lw2]
  go_wp2_with fail
  refine (enter_c 8 1 3 (by decide) _).mono ?_
  rintro e w2 ⟨rfl, hb⟩
  have HB2 := Lib.hid (HB1.out.trans (hb.mono HB1.out.size))
  clear hb
  rw [lw3]
  go_wp2_with fail
  go_ret
  exact ⟨rfl, HB2.out⟩
set_option maxHeartbeats 2000000 in
theorem traps_walk (w : World) (x frm dst : Int) (hx : 0 ≤ x ∧ x ≤ 18446744073709551615) (_hf : -9223372036854775808 ≤ frm ∧ frm ≤ 9223372036854775807) (_hd : -9223372036854775808 ≤ dst ∧ dst ≤ 9223372036854775807) :
    Calls Try.prog 4 #[.int .u64 x, .int .i64 frm, .int .i64 dst] w fun e w' => e = .returned (.bool true) ∧ Below w.heap.size w w' := by
  have hx' : W64 x := by unfold W64; omega
  have H1 := Lib.hid (fun W => leave_c x dst hx' W)
  have H2 := Lib.hid (fun W => rleave_c x dst hx' W)
  have H3 := Lib.hid (fun W => enter_c x frm dst hx' W)
  have H4 := Lib.hid (fun W => renter_c x frm dst hx' W)
  have HL := Lib.hid (fun W => live20_c W)
  clear hx hx' _hf _hd
  generalize leaveV x dst = a at *
  generalize leaveP x dst = p at *
  generalize enterV x frm dst = b at *
  have q1 : (a == a) = true := by simp
  have q2 : (p == p) = true := by simp
  have q3 : (b == b) = true := by simp
  go_enter Try.func4, Try.ntmps4
  go_wp2_with fail
  refine (H1.out _).mono ?_
  rintro e w1 ⟨rfl, hb⟩
  have HB1 := Lib.hid hb
  clear hb
  go_wp2_with fail
  refine (H2.out _).mono ?_
  rintro e w2 ⟨rfl, hb⟩
  have HB2 := Lib.hid (HB1.out.trans (hb.mono HB1.out.size))
  clear hb
  go_wp2_with fail
  refine (H3.out _).mono ?_
  rintro e w3 ⟨rfl, hb⟩
  have HB3 := Lib.hid (HB2.out.trans (hb.mono HB2.out.size))
  clear hb
  go_wp2_with fail
  refine (H4.out _).mono ?_
  rintro e w4 ⟨rfl, hb⟩
  have HB4 := Lib.hid (HB3.out.trans (hb.mono HB3.out.size))
  clear hb
  go_wp2_with fail
  refine (HL.out _).mono ?_
  rintro e w5 ⟨rfl, hb⟩
  have HB5 := Lib.hid (HB4.out.trans (hb.mono HB4.out.size))
  clear hb
  go_wp2_with fail
  go_ret
  exact ⟨rfl, HB5.out⟩
end Go.Proofs.Ytkknfhbaldeigaa
