/-
  What layer 19's statements ask of the chapter's examples (live): true. The listed variable: the table csr.rows in memory. CsrTells and CsrBecomes walked.
-/
import Derived.Test.YtkknfhbaldeigaaDoorCsrD
import Derived.Test.YtkknfhbaldeigaaDoorCsrG
namespace Go.Proofs.YtkknfhbaldeigaaDoor
open Go.ChangeShapes Go.WideShapes Go.ChangeAt Go.RowKit Wd Csr

theorem lv1 : legS 773 0 7 = 5 := by decide +kernel
theorem lv2 : legS 768 0 18446744073709551615 = 8264106 := by decide +kernel
theorem lv3 : legS 768 0 4096 = 0 := by decide +kernel
theorem lv4 : legS 384 5 1152921504606846976 = 5 := by decide +kernel
theorem lv5 : mayC 3073 0 false = true := by decide +kernel
set_option maxHeartbeats 1000000 in
theorem live19_c (w : World) (hN : RowsIn w) : Calls Tryd.prog 8 #[] w fun e w' => e = .returned (.bool true) ∧ Below w.heap.size w w' := by
  have HN := Lib.hid hN
  clear hN
  go_enter Tryd.func8, Tryd.ntmps8
  go_wp2_with fail
  refine (clegal_c 773 0 7 (by omega) (by omega) _ HN.out).mono ?_
  rintro e w1 ⟨rfl, hb⟩
  have HB1 := Lib.hid hb
  clear hb
  rw [lv1]
  go_wp2_with fail
  refine (clegal_c 768 0 18446744073709551615 (by omega) (by omega) _ (HN.out.low HB1.out)).mono ?_
  rintro e w2 ⟨rfl, hb⟩
  have HB2 := Lib.hid (HB1.out.trans (hb.mono HB1.out.size))
  clear hb
  rw [lv2]
  go_wp2_with fail
  refine (clegal_c 768 0 4096 (by omega) (by omega) _ (HN.out.low HB2.out)).mono ?_
  rintro e w3 ⟨rfl, hb⟩
  have HB3 := Lib.hid (HB2.out.trans (hb.mono HB2.out.size))
  clear hb
  rw [lv3]
  go_wp2_with fail
  refine (clegal_c 384 5 1152921504606846976 (by omega) (by omega) _ (HN.out.low HB3.out)).mono ?_
  rintro e w4 ⟨rfl, hb⟩
  have HB4 := Lib.hid (HB3.out.trans (hb.mono HB3.out.size))
  clear hb
  rw [lv4]
  go_wp2_with fail
  refine (cmay_c 3073 0 false _ (HN.out.low HB4.out)).mono ?_
  rintro e w5 ⟨rfl, hb⟩
  have HB5 := Lib.hid (HB4.out.trans (hb.mono HB4.out.size))
  clear hb
  rw [lv5]
  go_wp2_with fail
  go_ret
  exact ⟨rfl, HB5.out⟩
set_option maxHeartbeats 4000000 in
theorem becomes_walk (n old v : Int) (_hn : -9223372036854775808 ≤ n ∧ n ≤ 9223372036854775807) (ho : 0 ≤ old ∧ old ≤ 18446744073709551615) (hv : 0 ≤ v ∧ v ≤ 18446744073709551615) (w : World) (hN : RowsIn w) :
    Calls Tryd.prog 5 #[.int .i64 n, .int .u64 old, .int .u64 v] w fun e w' => e = .returned (.bool true) ∧ Below w.heap.size w w' := by
  have ho' : 0 ≤ old ∧ old < 18446744073709551616 := by omega
  have hv' : 0 ≤ v ∧ v < 18446744073709551616 := by omega
  have HN := Lib.hid hN
  have hx := legS_range (n := n) (v := v) ho'
  have H1 := Lib.hid (fun W h => clegal_c n old v ho' hv' W h)
  have H2 := Lib.hid (fun W => rlegal_c n old v ho' hv' W)
  have H3 := Lib.hid (fun W h => clegal_c n (legS n old v) (legS n old v) hx hx W h)
  have H4 := Lib.hid (fun W h => clegal_c n old (legS n old v) ho' hx W h)
  have H5 := Lib.hid (fun W h => cmask_c n W h)
  rw [leg_self hx] at H3
  rw [leg_again ho'] at H4
  have hz := leg_none (n := n) (v := v) ho'
  clear hN hx ho hv ho' hv' _hn
  generalize legS n old v = x at *
  generalize maskC n = m at *
  have HL := Lib.hid (fun W h => live19_c W h)
  have hxx : (x == x) = true := by simp
  go_enter Tryd.func5, Tryd.ntmps5
  go_wp2_with fail
  refine (H1.out _ HN.out).mono ?_
  rintro e w1 ⟨rfl, hb⟩
  have HB1 := Lib.hid hb
  clear hb
  go_wp2_with fail
  refine (H2.out _).mono ?_
  rintro e w2 ⟨rfl, hb⟩
  have HB2 := Lib.hid (HB1.out.trans (hb.mono HB1.out.size))
  clear hb
  go_wp2_with fail
  refine (H3.out _ (HN.out.low HB2.out)).mono ?_
  rintro e w3 ⟨rfl, hb⟩
  have HB3 := Lib.hid (HB2.out.trans (hb.mono HB2.out.size))
  clear hb
  go_wp2_with fail
  refine (H4.out _ (HN.out.low HB3.out)).mono ?_
  rintro e w4 ⟨rfl, hb⟩
  have HB4 := Lib.hid (HB3.out.trans (hb.mono HB3.out.size))
  clear hb
  go_wp2_with fail
  refine (H5.out _ (HN.out.low HB4.out)).mono ?_
  rintro e w5 ⟨rfl, hb⟩
  have HB5 := Lib.hid (HB4.out.trans (hb.mono HB4.out.size))
  clear hb
  go_wp2_with fail
  refine (HL.out _ (HN.out.low HB5.out)).mono ?_
  rintro e w6 ⟨rfl, hb⟩
  have HB6 := Lib.hid (HB5.out.trans (hb.mono HB5.out.size))
  clear hb
  go_wp2_with fail
  go_ret
  exact ⟨rfl, HB6.out⟩
end Go.Proofs.YtkknfhbaldeigaaDoor
