/-
  The statement RamKeeps (P10.4): for every address, size and number, one more address, and byte, roebucklaw10.RamKeeps returns true and its arguments read afterwards as before. No condition.
-/
import Derived.Test.YtdlollkieihjpaaLive10
import Derived.Test.YtdlollkieihjpaaOpenL
namespace Go.Proofs.Ytdlollkieihjpaa
open Go.ChangeShapes Go.WideShapes Go.ChangeAt Go.RowKit Wd

theorem load_st {B : List Int} {n : Nat} (h : Rm.Ok B n) (x m v : Int) (hf : hasN n x m = true) : ldV (stV B n x m v) n x m = v % 256 ^ m.toNat := by
  obtain ⟨i, p, k, hp, hi, hk1, hk8, rfl, rfl, hB⟩ := addr_of hf
  unfold ldV stV
  rw [if_pos hf, if_pos hf]
  exact Rm.num_st h _ _ _ (by omega)
theorem num_one (B : List Int) (a : Nat) : Ln.num B a 1 = B.getD a 0 := by simp [Ln.num]
/-- A byte that lies elsewhere is loaded as it was. -/
theorem load_far {B : List Int} {n : Nat} (h : Rm.Ok B n) (x m v y : Int) (hf : hasN n x m = true) (hy : hasN n y 1 = true) (hd : y < x ∨ x + m ≤ y) : ldV (stV B n x m v) n y 1 = ldV B n y 1 := by
  have h1 := hasN_iff.1 hf
  have h2 := hasN_iff.1 hy
  unfold ldV stV
  rw [if_pos hy, if_pos hy, if_pos hf, show (1 : Int).toNat = 1 from rfl, num_one, num_one, Rm.st_get h _ _ _ _ (by omega), if_neg (by omega)]
theorem load_byte {B : List Int} {n : Nat} (h : Rm.Ok B n) (y b : Int) (hb : 0 ≤ b ∧ b ≤ 255) (hy : hasN n y 1 = true) : ldV (stV B n y 1 b) n y 1 = b := by
  rw [load_st h y 1 b hy]
  show b % 256 ^ 1 = b
  omega
theorem and_mask {v : Int} (h0 : 0 ≤ v) (h : v < 18446744073709551616) (k : Nat) (hk : k < 8) : bits .and .u64 v (IntKind.u64.wrap (IntKind.u64.wrap (2 ^ (8 * k)) - 1)) = v % 256 ^ k := by
  have hp : (0 : Int) < 2 ^ (8 * k) := Int.pow_pos (by decide)
  have hle : (2 : Int) ^ (8 * k) ≤ 72057594037927936 := by
    have := Ln.pow_le (show k ≤ 7 by omega)
    have e : (256 : Int) ^ 7 = 72057594037927936 := by decide
    rw [Ln.pow_two] at this
    omega
  have e : IntKind.u64.wrap (IntKind.u64.wrap (2 ^ (8 * k)) - 1) = 2 ^ (8 * k) - 1 := by
    rw [IntKind.wrap_u64, IntKind.wrap_u64]
    generalize (2 : Int) ^ (8 * k) = q at *
    omega
  rw [e, Ln.pow_two]
  have r := and_range h0 h (y := 2 ^ (8 * k) - 1) (by omega) (by omega)
  have r0 := Int.emod_nonneg v (Int.ne_of_gt hp)
  have r1 : v % 2 ^ (8 * k) ≤ v := by
    have e1 := Int.emod_add_mul_ediv v (2 ^ (8 * k))
    have e2 : 0 ≤ 2 ^ (8 * k) * (v / 2 ^ (8 * k)) := Int.mul_nonneg (Int.le_of_lt hp) (Int.ediv_nonneg h0 (Int.le_of_lt hp))
    omega
  refine Wd.ext r.1 r.2 r0 (by omega) fun i hi => ?_
  rw [tb_and h0 h (by omega) (by omega), tb_pow_sub_one]
  obtain ⟨V, rfl⟩ := Int.eq_ofNat_of_zero_le h0
  unfold tb
  rw [pow_cast, ← Int.natCast_emod, Int.toNat_natCast, Int.toNat_natCast, Nat.testBit_mod_two_pow, Bool.and_comm]
theorem and_all {v : Int} (h0 : 0 ≤ v) (h : v < 18446744073709551616) : bits .and .u64 v 18446744073709551615 = v := by
  have r := and_range h0 h (y := 18446744073709551615) (by omega) (by omega)
  refine Wd.ext r.1 r.2 h0 h fun i hi => ?_
  rw [tb_and h0 h (by omega) (by omega), tb_ones hi, Bool.and_true]
/-- The law behind its first four calls: a memory of 3 lines, and its copy. -/
structure RkAt (w W : World) (rb mb cr cm : Nat) (B C : List Int) : Prop where
  m : RamAt W rb mb 3 B
  c : RamAt W cr cm 3 C
  bel : Below w.heap.size w W
theorem RkAt.low {w W W' : World} {rb mb cr cm : Nat} {B C : List Int} (h : RkAt w W rb mb cr cm B C) (hb : Below W.heap.size W W') : RkAt w W' rb mb cr cm B C := ⟨h.m.low hb, h.c.low hb, h.bel.trans (hb.mono h.bel.size)⟩
set_option maxRecDepth 4000 in
set_option maxHeartbeats 4000000 in
theorem ramk_walk (w : World) (x v y n b : Int) (hx : 0 ≤ x ∧ x ≤ 18446744073709551615) (hv : 0 ≤ v ∧ v ≤ 18446744073709551615) (hy : 0 ≤ y ∧ y ≤ 18446744073709551615) (hn : -9223372036854775808 ≤ n ∧ n ≤ 9223372036854775807) (hb : 0 ≤ b ∧ b ≤ 255) :
    Calls Try.prog 5 #[.int .u64 x, .int .u64 v, .int .u64 y, .int .i64 n, .int .u8 b] w fun e w' => e = .returned (.bool true) ∧ Below w.heap.size w w' := by
  have HX := Lib.hid (show 0 ≤ x ∧ x < 18446744073709551616 by omega)
  have HV := Lib.hid (show 0 ≤ v ∧ v < 18446744073709551616 by omega)
  have HY := Lib.hid (show 0 ≤ y ∧ y < 18446744073709551616 by omega)
  have HN := Lib.hid hn
  have HBy := Lib.hid hb
  clear hx hv hy hn
  go_enter Try.func5, Try.ntmps5
  go_wp2_with fail
  refine (new_c 3 (by decide) (by decide) w).mono ?_
  rintro e w1 ⟨rfl, h1, b1⟩
  have H1 := Lib.hid (And.intro h1 b1)
  clear h1 b1
  go_wp2_with fail
  refine (store_c H1.out.1 y 1 b HY.out (by omega) (by omega)).mono ?_
  rintro e w2 ⟨rfl, h2, o2⟩
  have H2 := Lib.hid (And.intro h2 (H1.out.2.trans (o2.below (Nat.le_refl _) H1.out.2.size)))
  clear h2 o2 H1
  go_wp2_with fail
  refine (load_c H2.out.1 y 1 HY.out (by omega)).mono ?_
  rintro e w3 ⟨rfl, b3⟩
  have H3 := Lib.hid (And.intro (H2.out.1.low b3) (H2.out.2.trans (b3.mono H2.out.2.size)))
  clear b3 H2
  have HOK := Lib.hid H3.out.1.ok
  obtain ⟨B1, hB1⟩ : ∃ B1, stV (Rm.nought 3) 3 y 1 b = B1 := ⟨_, rfl⟩
  have HLB := Lib.hid (fun (ht : hasN 3 y 1 = true) => load_byte (Rm.nought_ok 3) y b hb ht)
  rw [hB1] at H3 HOK HLB
  rw [hB1]
  clear hB1 hb
  go_wp2_with fail
  refine (clone_c H3.out.1).mono ?_
  rintro e w4 ⟨rfl, h4, b4⟩
  have hz4 := H3.out.1.lt
  have hz5 := H3.out.1.mlt
  have H4 := Lib.hid (show RkAt w w4 (w.heap.size + 1) w.heap.size (w3.heap.size + 1) w3.heap.size B1 B1 from ⟨H3.out.1.low b4, h4, H3.out.2.trans (b4.mono H3.out.2.size)⟩)
  clear h4 b4 H3
  go_wp2_with fail
  refine (store_c H4.out.m x n v HX.out HN.out HV.out).mono ?_
  rintro e w5 ⟨rfl, h5, o5⟩
  have H5 := Lib.hid (show RkAt w w5 (w.heap.size + 1) w.heap.size (w3.heap.size + 1) w3.heap.size (stV B1 3 x n v) B1 from ⟨h5, H4.out.c.only o5 (by omega) (by omega), H4.out.bel.trans (o5.below (Nat.le_refl _) H4.out.bel.size)⟩)
  clear h5 o5 H4
  cases hs : hasN 3 x n
  · have e1 : stV B1 3 x n v = B1 := by unfold stV; rw [hs]; rfl
    rw [e1] at H5
    have HS := Lib.hid (show (B1 == B1) = true by simp)
    have HH := Lib.hid hs
    clear e1 hs
    by_cases g1 : 1 ≤ n
    · have d1 : decide (1 ≤ n) = true := by simpa using g1
      by_cases g2 : n ≤ 8
      · have d2 : decide (n ≤ 8) = true := by simpa using g2
        have HHB := Lib.hid (show hasB 3 x n = false by have := HH.out; unfold hasN at this; rw [d2, Bool.true_and] at this; exact this)
        go_wp2_with fail
        refine (same_c H5.out.m H5.out.c).mono ?_
        rintro e w6 ⟨rfl, b6⟩
        have H6 := Lib.hid (H5.out.low b6)
        clear b6 H5
        rw [HS.out]
        go_wp2_with fail
        refine (has_c (lines_c H6.out.m) (by decide) x n HX.out HN.out).mono ?_
        rintro e w7 ⟨rfl, rfl⟩
        rw [HHB.out]
        go_wp2_with fail
        refine (live10_c _).mono ?_
        rintro e w8 ⟨rfl, b8⟩
        have H8 := Lib.hid (H6.out.low b8)
        clear b8 H6
        go_wp2_with fail
        go_ret
        exact ⟨rfl, H8.out.bel⟩
      · have d2 : decide (n ≤ 8) = false := by simpa using g2
        go_wp2_with fail
        refine (same_c H5.out.m H5.out.c).mono ?_
        rintro e w6 ⟨rfl, b6⟩
        have H6 := Lib.hid (H5.out.low b6)
        clear b6 H5
        rw [HS.out]
        go_wp2_with fail
        refine (live10_c _).mono ?_
        rintro e w8 ⟨rfl, b8⟩
        have H8 := Lib.hid (H6.out.low b8)
        clear b8 H6
        go_wp2_with fail
        go_ret
        exact ⟨rfl, H8.out.bel⟩
    · have d1 : decide (1 ≤ n) = false := by simpa using g1
      go_wp2_with fail
      refine (same_c H5.out.m H5.out.c).mono ?_
      rintro e w6 ⟨rfl, b6⟩
      have H6 := Lib.hid (H5.out.low b6)
      clear b6 H5
      rw [HS.out]
      go_wp2_with fail
      refine (live10_c _).mono ?_
      rintro e w8 ⟨rfl, b8⟩
      have H8 := Lib.hid (H6.out.low b8)
      clear b8 H6
      go_wp2_with fail
      go_ret
      exact ⟨rfl, H8.out.bel⟩
  · have HH := Lib.hid hs
    have f := hasN_iff.1 hs
    obtain ⟨k, rfl⟩ := Int.eq_ofNat_of_zero_le (show 0 ≤ n by omega)
    have hk1 : 1 ≤ k := by omega
    have hk8 : k ≤ 8 := by omega
    have HLD := Lib.hid (load_st HOK.out x (k : Int) v hs)
    have HTH := Lib.hid (fun (ht : hasN 3 y 1 = true) (hd : y < x ∨ x + (k : Int) ≤ y) => load_far HOK.out x (k : Int) v y hs ht hd)
    have HFX := Lib.hid f
    clear hs f
    go_wp2_with fail
    refine (load_c H5.out.m x (k : Int) HX.out HN.out).mono ?_
    rintro e w6 ⟨rfl, b6⟩
    have H6 := Lib.hid (H5.out.low b6)
    clear b6 H5
    rw [HH.out, HLD.out, Int.toNat_natCast]
    by_cases h8 : k < 8
    · have d8 : (k : Int) < 8 := by omega
      have hq : (v % 256 ^ k != bits .and .u64 v (IntKind.u64.wrap (IntKind.u64.wrap (2 ^ (8 * k)) - 1))) = false := by rw [and_mask HV.out.1 HV.out.2 k h8]; simp
      cases ht : hasN 3 y 1
      · clear ht HTH HLB
        go_wp2_with fail
        refine (live10_c _).mono ?_
        rintro e w8 ⟨rfl, b8⟩
        have H8 := Lib.hid (H6.out.low b8)
        clear b8 H6
        go_wp2_with fail
        go_ret
        exact ⟨rfl, H8.out.bel⟩
      · have hb1 := HLB.out ht
        have hfar := HTH.out ht
        rw [hb1]
        have HT := Lib.hid ht
        clear ht HTH HLB
        by_cases hd : (k : Int) ≤ IntKind.u64.wrap (y - x)
        · have hfar2 := hfar (by
            have h1 := HX.out
            have h2 := HY.out
            rw [IntKind.wrap_u64] at hd
            omega)
          rw [hb1] at hfar2
          have HFR := Lib.hid hfar2
          clear hfar hfar2 hb1
          go_wp2_with fail
          refine (load_c H6.out.m y 1 HY.out (by omega)).mono ?_
          rintro e w7 ⟨rfl, b7⟩
          have H7 := Lib.hid (H6.out.low b7)
          clear b7 H6
          rw [HFR.out, HT.out]
          have hbb := HBy.out
          go_wp2_with fail
          refine (live10_c _).mono ?_
          rintro e w8 ⟨rfl, b8⟩
          have H8 := Lib.hid (H7.out.low b8)
          clear b8 H7
          go_wp2_with fail
          go_ret
          exact ⟨rfl, H8.out.bel⟩
        · clear hfar hb1
          go_wp2_with fail
          refine (live10_c _).mono ?_
          rintro e w8 ⟨rfl, b8⟩
          have H8 := Lib.hid (H6.out.low b8)
          clear b8 H6
          go_wp2_with fail
          go_ret
          exact ⟨rfl, H8.out.bel⟩
    · have d8 : ¬ (k : Int) < 8 := by omega
      have hq : (v % 256 ^ k != bits .and .u64 v 18446744073709551615) = false := by
        rw [and_all HV.out.1 HV.out.2, show k = 8 by omega, show (256 : Int) ^ 8 = 18446744073709551616 by decide, Int.emod_eq_of_lt HV.out.1 HV.out.2]
        simp
      cases ht : hasN 3 y 1
      · clear ht HTH HLB
        go_wp2_with fail
        refine (live10_c _).mono ?_
        rintro e w8 ⟨rfl, b8⟩
        have H8 := Lib.hid (H6.out.low b8)
        clear b8 H6
        go_wp2_with fail
        go_ret
        exact ⟨rfl, H8.out.bel⟩
      · have hb1 := HLB.out ht
        have hfar := HTH.out ht
        rw [hb1]
        have HT := Lib.hid ht
        clear ht HTH HLB
        by_cases hd : (k : Int) ≤ IntKind.u64.wrap (y - x)
        · have hfar2 := hfar (by
            have h1 := HX.out
            have h2 := HY.out
            rw [IntKind.wrap_u64] at hd
            omega)
          rw [hb1] at hfar2
          have HFR := Lib.hid hfar2
          clear hfar hfar2 hb1
          go_wp2_with fail
          refine (load_c H6.out.m y 1 HY.out (by omega)).mono ?_
          rintro e w7 ⟨rfl, b7⟩
          have H7 := Lib.hid (H6.out.low b7)
          clear b7 H6
          rw [HFR.out, HT.out]
          have hbb := HBy.out
          go_wp2_with fail
          refine (live10_c _).mono ?_
          rintro e w8 ⟨rfl, b8⟩
          have H8 := Lib.hid (H7.out.low b8)
          clear b8 H7
          go_wp2_with fail
          go_ret
          exact ⟨rfl, H8.out.bel⟩
        · clear hfar hb1
          go_wp2_with fail
          refine (live10_c _).mono ?_
          rintro e w8 ⟨rfl, b8⟩
          have H8 := Lib.hid (H6.out.low b8)
          clear b8 H6
          go_wp2_with fail
          go_ret
          exact ⟨rfl, H8.out.bel⟩

set_option maxRecDepth 100000 in
theorem ramk_lifted (os : Os) (started : os.Started) (H : Type) (enc : TypeId × Value → H) :
    ReturnsInHanded {} Try.checked os 5 .any (Rows.ramKeepsSpec.pre6 enc Try.prog Try.f5 Rows.ramKeepsRow.domain false) (Rows.ramKeepsSpec.post enc Try.prog Try.f5 false true false false) := by
  refine returnsInHanded_of_change (C := Try.checked) own started (by kernel_rfl) Try.func5
    (ChangeSpec.witness6 (enc := enc) (C := Try.checked) false ⟨#[], #[.int .u64 0, .int .u64 0, .int .u64 0, .int .i64 0, .int .u8 0], []⟩ 8 (by kernel_rfl) (by kernel_rfl) (by kernel_rfl) (by kernel_rfl)) ?_
  intro W base args ds gs before hval0 hW hcnd _
  have hval : ∀ (j : Nat) t v, Try.f5.params[j]? = some t → args[j]? = some v → Value.okWide Try.prog W .any base t v := hval0
  have hW' := hW
  obtain ⟨p, q, hA0, hV, rfl, hfz, hnd⟩ := hW
  have hA : DataW.TrodAll enc Try.prog W 0 (fun _ => true) true Try.f5.params.toList args.toList ds p := hA0
  rw [Try.params5] at hA hval
  obtain ⟨v0, vs0, d0, ds0, p0, q0, hargs, rfl, rfl, h0, r0⟩ := trodAll_cons hA
  obtain ⟨v1, vs1, d1, ds1, p1, q1, rfl, rfl, rfl, h1, r1⟩ := trodAll_cons r0
  obtain ⟨v2, vs2, d2, ds2, p2, q2, rfl, rfl, rfl, h2, r2⟩ := trodAll_cons r1
  obtain ⟨v3, vs3, d3, ds3, p3, q3, rfl, rfl, rfl, h3, r3⟩ := trodAll_cons r2
  obtain ⟨v4, vs4, d4, ds4, p4, q4, rfl, rfl, rfl, h4, r4⟩ := trodAll_cons r3
  obtain ⟨rfl, rfl, rfl⟩ := trodAll_nil r4
  obtain rfl : args = #[v0, v1, v2, v3, v4] := by cases args; simp_all
  obtain ⟨rfl, rfl⟩ := trodVars_none hV
  obtain ⟨a0, rfl, rfl, rfl, w0⟩ := open_int Try.underlying23 (hval 0 23 v0 rfl rfl) h0
  obtain ⟨a1, rfl, rfl, rfl, w1⟩ := open_int Try.underlying23 (hval 1 23 v1 rfl rfl) h1
  obtain ⟨a2, rfl, rfl, rfl, w2⟩ := open_int Try.underlying23 (hval 2 23 v2 rfl rfl) h2
  obtain ⟨a3, rfl, rfl, rfl, w3⟩ := open_int Try.underlying3 (hval 3 3 v3 rfl rfl) h3
  obtain ⟨a4, rfl, rfl, rfl, w4⟩ := open_int Try.underlying5 (hval 4 5 v4 rfl rfl) h4
  clear hA0 hval0
  refine (ramk_walk W a0 a1 a2 a3 a4 (bounds_u64 w0) (bounds_u64 w1) (bounds_u64 w2) (bounds_i64 w3) (bounds_u8 w4)).mono fun e W' ⟨he, bel⟩ => ?_
  subst he
  exact ⟨_, rfl, _, _, _, [], _, [], hW', trodAll_mk1 (shut_bool Try.underlying4 _), (trodAll_cons_mk (shut_int Try.underlying23 w0) (trodAll_cons_mk (shut_int Try.underlying23 w1) (trodAll_cons_mk (shut_int Try.underlying23 w2) (trodAll_cons_mk (shut_int Try.underlying3 w3) (trodAll_cons_mk (shut_int Try.underlying5 w4) trodAll_mk0))))), rfl, bel.frame _, fun h => by cases h⟩

theorem ramk_over : Rows.ramKeepsRow.holds Try.pinned (OpenSpec.ofChange Rows.ramKeepsSpec) :=
  OpenClaim.holds_of_wide 5 Try.f5 rfl rfl rfl rfl rfl rfl rfl ⟨rfl, rfl, rfl, rfl, rfl⟩ rfl rfl rfl rfl rfl (by kernel_rfl) Try.func5 (by kernel_rfl)
    (of_decide_eq_true (by kernel_rfl)) (by unfold Func.isWrapper; first | (rw [if_pos (by decide +kernel)]; kernel_rfl) | (rw [if_neg (by decide +kernel)]; exact ⟨rfl, rfl⟩))
    (fun os started H enc _ => ramk_lifted os started H enc)

theorem ramk_said : Rows.RamKeepsSaid := ramk_over
end Go.Proofs.Ytdlollkieihjpaa
