/-
  The contract of the reference's Over (layer 2), walked.
-/
import Derived.Test.YtgfdielipbcfeaaOver
namespace Go.Proofs.Ytgfdielipbcfeaa
open Go.ChangeShapes Go.WideShapes Go.ChangeAt Go.RowKit Wd

theorem nat_range {n : Nat} (h : n < 2 ^ 63) : 0 ≤ (n : Int) ∧ (n : Int) < 9223372036854775808 := by omega

set_option maxHeartbeats 4000000 in
theorem over_c (uh ul b : Int) (w : World) (uh0 : 0 ≤ uh) (uh1 : uh < 18446744073709551616) (ul0 : 0 ≤ ul) (ul1 : ul < 18446744073709551616) (b0 : 0 < b) (b1 : b < 18446744073709551616) :
    Calls Try.prog 51 #[.int .u64 uh, .int .u64 ul, .int .u64 b] w fun e w' =>
      e = .returned (.tuple #[.int .u64 (((uh.toNat * 18446744073709551616 + ul.toNat) / b.toNat / 2 ^ 64 : Nat) : Int), .int .u64 (((uh.toNat * 18446744073709551616 + ul.toNat) / b.toNat % 18446744073709551616 : Nat) : Int), .int .u64 (((uh.toNat * 18446744073709551616 + ul.toNat) % b.toNat : Nat) : Int)]) ∧ Below w.heap.size w w' := by
  obtain ⟨i0, hi, hz0, hz1, hz2⟩ := info_parts info_u64
  obtain ⟨N, hN⟩ : ∃ N : Nat, N = uh.toNat * 18446744073709551616 + ul.toNat := ⟨_, rfl⟩
  obtain ⟨B, hB⟩ : ∃ B : Nat, B = b.toNat := ⟨_, rfl⟩
  rw [← hN, ← hB]
  have hNlt : N < 2 ^ 128 := by omega
  have hBp : 0 < B := by omega
  have hbB : b = B := by omega
  obtain ⟨D, hD⟩ : ∃ D : Nat, D = N / B := ⟨_, rfl⟩
  have hDlt : D < 2 ^ 128 := by rw [hD]; exact Nat.lt_of_le_of_lt (Nat.div_le_self _ _) hNlt
  rw [← hD]
  have HN := Lib.hid hN
  have HNL := Lib.hid hNlt
  have HB := Lib.hid (And.intro hBp hbB)
  have HD := Lib.hid hD
  have HDL := Lib.hid hDlt
  clear hN hB hNlt hBp hbB hD hDlt
  go_enter Try.func51, Try.ntmps51
  go_wp2
  go_loopw [9, 10, 11] (fun v r i wr => ∃ t : Nat, t ≤ 128 ∧ i = .int .i64 (127 - t) ∧ r = .int .u64 ((N / 2 ^ (128 - t) % B : Nat) : Int) ∧ wr.ownsRow w.heap.size 22 1 v t (bl (dbit D) t) ∧ Below w.heap.size w wr) (fun _ _ i _ => (intOf i + 1).toNat)
  case atStart => exact ⟨0, Nat.zero_le _, rfl, by rw [Nat.sub_zero, Nat.div_eq_of_lt HNL.out, Nat.zero_mod]; rfl, World.ownsRow_nil _ _ _ _, Below.refl _ _⟩
  case round =>
    obtain ⟨t, ht, rfl, rfl, hown, hnx⟩ := hrel
    have hsz := hnx.size
    have HO := Lib.hid hown
    clear hown
    by_cases hlt : t < 128
    · obtain ⟨s, hs⟩ : ∃ s : Nat, s + t = 127 := ⟨127 - t, by omega⟩
      have hs1 : (127 : Int) - t = s := by omega
      have hs2 : 128 - t = s + 1 := by omega
      have hs3 : 128 - (t + 1) = s := by omega
      have hs4 : dbit D t = (N / B).testBit s := by rw [← HD.out]; unfold dbit; rw [show 127 - t = s by omega]
      have hslt : s < 128 := by omega
      rw [hs1, hs2]
      have HS := Lib.hid (And.intro hs (And.intro hs3 hs4))
      clear hs hs1 hs2 hs3 hs4
      obtain ⟨z, hz⟩ : ∃ z : Int, z = bi (N.testBit s) := ⟨_, rfl⟩
      obtain ⟨r, hr⟩ : ∃ r : Int, r = ((N / 2 ^ (s + 1) % B : Nat) : Int) := ⟨_, rfl⟩
      have hst := over_step HB.out.1 HB.out.2 hz hr
      have hz01 : 0 ≤ z ∧ z ≤ 1 := by rw [hz]; exact bi_range _
      have hrb : 0 ≤ r ∧ r < b := by
        have := Nat.mod_lt (N / 2 ^ (s + 1)) HB.out.1
        have := HB.out.2
        omega
      obtain ⟨z0, z1⟩ := hz01
      obtain ⟨r0, r1⟩ := hrb
      rw [← hr]
      have HST := Lib.hid hst
      have HZ := Lib.hid hz
      clear hst hr hz
      by_cases hbig : 63 < s
      · have HBIT := Lib.hid (show bi (tbI uh ((s : Int) - 64)) = z from by rw [HZ.out, HN.out, over_bit_hi ul0 ul1 hbig hslt])
        by_cases hg : 9223372036854775807 < r
        · have hge : b ≤ 2 * r + z := by omega
          have hw := over_wrap hg r1 b1 z0 z1
          have g1 : decide (9223372036854775807 < r) = true := decide_eq_true hg
          go_wp2_with fail
          refine (bit_c _ _ _ ul0 ul1).mono ?_
          rintro e w' ⟨rfl, rfl⟩
          go_wp2_with fail
          refine (bit_c _ _ _ uh0 uh1).mono ?_
          rintro e w' ⟨rfl, rfl⟩
          rw [HBIT.out]
          go_wp2_with (at_builtin; refine wpList_append_own _ rfl _ _ 51 rfl w.heap.size 22 i0 (.int .u64 0) 1 8 Try.underlying51 hi hz0 hz1 hz2 rfl (by decide) _ _ _ rfl (HO.out.alloc _) ⟨wr.heap.size, 0, none⟩ 1 1 [.int .u64 1] rfl rfl news_one (one_cell' _) (by unfold maxLen; omega) (by omega) (by simp; omega) ?_; intro v' w1 hown' hgrow _)
          have R := rel_app (b := true) hsz (by rw [HS.out.2.2]; exact (HST.out.1 hge).2) HO.out hown' hgrow hnx
          go_roundw
          case rel => exact ⟨t + 1, by omega, congrArg (Value.int .i64) (by have := HS.out.1; omega), by rw [HS.out.2.1, (HST.out.1 hge).1], R.1, R.2⟩
          case measure => simp [intOf]
        · have hg' : r ≤ 9223372036854775807 := by omega
          have g1 : decide (9223372036854775807 < r) = false := decide_eq_false hg
          have g2 : decide (2 * r + z < 2 * r) = false := decide_eq_false (by omega)
          clear hg
          by_cases hge : b ≤ 2 * r + z
          · have g3 : decide (b ≤ 2 * r + z) = true := decide_eq_true hge
            go_wp2_with fail
            refine (bit_c _ _ _ ul0 ul1).mono ?_
            rintro e w' ⟨rfl, rfl⟩
            go_wp2_with fail
            refine (bit_c _ _ _ uh0 uh1).mono ?_
            rintro e w' ⟨rfl, rfl⟩
            rw [HBIT.out]
            go_wp2_with (at_builtin; refine wpList_append_own _ rfl _ _ 51 rfl w.heap.size 22 i0 (.int .u64 0) 1 8 Try.underlying51 hi hz0 hz1 hz2 rfl (by decide) _ _ _ rfl (HO.out.alloc _) ⟨wr.heap.size, 0, none⟩ 1 1 [.int .u64 1] rfl rfl news_one (one_cell' _) (by unfold maxLen; omega) (by omega) (by simp; omega) ?_; intro v' w1 hown' hgrow _)
            have R := rel_app (b := true) hsz (by rw [HS.out.2.2]; exact (HST.out.1 hge).2) HO.out hown' hgrow hnx
            go_roundw
            case rel => exact ⟨t + 1, by omega, congrArg (Value.int .i64) (by have := HS.out.1; omega), by rw [HS.out.2.1, (HST.out.1 hge).1], R.1, R.2⟩
            case measure => simp [intOf]
          · have g3 : decide (b ≤ 2 * r + z) = false := decide_eq_false hge
            go_wp2_with fail
            refine (bit_c _ _ _ ul0 ul1).mono ?_
            rintro e w' ⟨rfl, rfl⟩
            go_wp2_with fail
            refine (bit_c _ _ _ uh0 uh1).mono ?_
            rintro e w' ⟨rfl, rfl⟩
            rw [HBIT.out]
            go_wp2_with (at_builtin; refine wpList_append_own _ rfl _ _ 51 rfl w.heap.size 22 i0 (.int .u64 0) 1 8 Try.underlying51 hi hz0 hz1 hz2 rfl (by decide) _ _ _ rfl (HO.out.alloc _) ⟨wr.heap.size, 0, none⟩ 1 1 [.int .u64 0] rfl rfl news_one (one_cell' _) (by unfold maxLen; omega) (by omega) (by simp; omega) ?_; intro v' w1 hown' hgrow _)
            have R := rel_app (b := false) hsz (by rw [HS.out.2.2]; exact (HST.out.2 (by omega)).2) HO.out hown' hgrow hnx
            go_roundw
            case rel => exact ⟨t + 1, by omega, congrArg (Value.int .i64) (by have := HS.out.1; omega), by rw [HS.out.2.1, (HST.out.2 (by omega)).1], R.1, R.2⟩
            case measure => simp [intOf]
      · have HBIT := Lib.hid (show bi (tbI ul (s : Int)) = z from by rw [HZ.out, HN.out, over_bit_lo (hi := uh) ul0 ul1 (by omega)])
        by_cases hg : 9223372036854775807 < r
        · have hge : b ≤ 2 * r + z := by omega
          have hw := over_wrap hg r1 b1 z0 z1
          have g1 : decide (9223372036854775807 < r) = true := decide_eq_true hg
          go_wp2_with fail
          refine (bit_c _ _ _ ul0 ul1).mono ?_
          rintro e w' ⟨rfl, rfl⟩
          rw [HBIT.out]
          go_wp2_with (at_builtin; refine wpList_append_own _ rfl _ _ 51 rfl w.heap.size 22 i0 (.int .u64 0) 1 8 Try.underlying51 hi hz0 hz1 hz2 rfl (by decide) _ _ _ rfl (HO.out.alloc _) ⟨wr.heap.size, 0, none⟩ 1 1 [.int .u64 1] rfl rfl news_one (one_cell' _) (by unfold maxLen; omega) (by omega) (by simp; omega) ?_; intro v' w1 hown' hgrow _)
          have R := rel_app (b := true) hsz (by rw [HS.out.2.2]; exact (HST.out.1 hge).2) HO.out hown' hgrow hnx
          go_roundw
          case rel => exact ⟨t + 1, by omega, congrArg (Value.int .i64) (by have := HS.out.1; omega), by rw [HS.out.2.1, (HST.out.1 hge).1], R.1, R.2⟩
          case measure => simp [intOf]
        · have hg' : r ≤ 9223372036854775807 := by omega
          have g1 : decide (9223372036854775807 < r) = false := decide_eq_false hg
          have g2 : decide (2 * r + z < 2 * r) = false := decide_eq_false (by omega)
          clear hg
          by_cases hge : b ≤ 2 * r + z
          · have g3 : decide (b ≤ 2 * r + z) = true := decide_eq_true hge
            go_wp2_with fail
            refine (bit_c _ _ _ ul0 ul1).mono ?_
            rintro e w' ⟨rfl, rfl⟩
            rw [HBIT.out]
            go_wp2_with (at_builtin; refine wpList_append_own _ rfl _ _ 51 rfl w.heap.size 22 i0 (.int .u64 0) 1 8 Try.underlying51 hi hz0 hz1 hz2 rfl (by decide) _ _ _ rfl (HO.out.alloc _) ⟨wr.heap.size, 0, none⟩ 1 1 [.int .u64 1] rfl rfl news_one (one_cell' _) (by unfold maxLen; omega) (by omega) (by simp; omega) ?_; intro v' w1 hown' hgrow _)
            have R := rel_app (b := true) hsz (by rw [HS.out.2.2]; exact (HST.out.1 hge).2) HO.out hown' hgrow hnx
            go_roundw
            case rel => exact ⟨t + 1, by omega, congrArg (Value.int .i64) (by have := HS.out.1; omega), by rw [HS.out.2.1, (HST.out.1 hge).1], R.1, R.2⟩
            case measure => simp [intOf]
          · have g3 : decide (b ≤ 2 * r + z) = false := decide_eq_false hge
            go_wp2_with fail
            refine (bit_c _ _ _ ul0 ul1).mono ?_
            rintro e w' ⟨rfl, rfl⟩
            rw [HBIT.out]
            go_wp2_with (at_builtin; refine wpList_append_own _ rfl _ _ 51 rfl w.heap.size 22 i0 (.int .u64 0) 1 8 Try.underlying51 hi hz0 hz1 hz2 rfl (by decide) _ _ _ rfl (HO.out.alloc _) ⟨wr.heap.size, 0, none⟩ 1 1 [.int .u64 0] rfl rfl news_one (one_cell' _) (by unfold maxLen; omega) (by omega) (by simp; omega) ?_; intro v' w1 hown' hgrow _)
            have R := rel_app (b := false) hsz (by rw [HS.out.2.2]; exact (HST.out.2 (by omega)).2) HO.out hown' hgrow hnx
            go_roundw
            case rel => exact ⟨t + 1, by omega, congrArg (Value.int .i64) (by have := HS.out.1; omega), by rw [HS.out.2.1, (HST.out.2 (by omega)).1], R.1, R.2⟩
            case measure => simp [intOf]
    · obtain rfl : t = 128 := by omega
      obtain ⟨g, cap, cur, hv, hb, hg, hcap, hmax, hcs, htake⟩ := HO.out.2.resolve_left (fun h => by omega)
      subst hv
      have hcell : ∀ j, j < 128 → wr.cell? ⟨g, j, none⟩ = some (.int .u64 (bi (dbit D j))) := fun j hj => by
        rw [HO.out.cellAt j (by omega), bl_at _ 128 j hj]
      have HC := Lib.hid hcell
      clear hcell hg hcs htake hb hmax
      have g0 : decide ((0 : Int) ≤ 127 - ((128 : Nat) : Int)) = false := by decide
      go_wp2
      clear g0
      go_loop [15, 16, 17] (fun a c i => ∃ k : Nat, k ≤ 64 ∧ i = .int .i64 k ∧ a = .int .u64 ((D / 2 ^ (128 - k) : Nat) : Int) ∧ c = .int .u64 ((D % 18446744073709551616 / 2 ^ (64 - k) : Nat) : Int)) (fun _ _ i => 64 - (intOf i).toNat)
      case atStart => exact ⟨0, by omega, rfl, by rw [Nat.sub_zero, Nat.div_eq_of_lt HDL.out]; rfl, by rw [Nat.sub_zero, Nat.div_eq_of_lt (Nat.mod_lt _ (by decide))]; rfl⟩
      case round =>
        obtain ⟨k, hk, rfl, rfl, rfl⟩ := hrel
        by_cases hkl : k < 64
        · obtain ⟨s, hs⟩ : ∃ s : Nat, s + k = 63 := ⟨63 - k, by omega⟩
          have c1 := HC.out k (by omega)
          have c2 := HC.out (64 + k) (by omega)
          have J1 := Lib.hid (join_step (D := D) (s := 64 + s) (k := k) (by omega))
          have J2 := Lib.hid (join_step_lo (D := D) (s := s) (k := k) hs)
          have e1 : 128 - k = 64 + s + 1 := by omega
          have e2 : 64 - k = s + 1 := by omega
          have e3 : 128 - (k + 1) = 64 + s := by omega
          have e4 : 64 - (k + 1) = s := by omega
          rw [e1, e2]
          have HE := Lib.hid (And.intro e3 e4)
          have q1 : 0 ≤ ((D / 2 ^ (64 + s + 1) : Nat) : Int) ∧ ((D / 2 ^ (64 + s + 1) : Nat) : Int) < 9223372036854775808 := by
            have : D / 2 ^ (64 + s + 1) < 2 ^ 63 := by
              apply Nat.div_lt_of_lt_mul
              rw [← Nat.pow_add]
              exact Nat.lt_of_lt_of_le HDL.out (Nat.pow_le_pow_right (by decide) (by omega))
            exact nat_range this
          have q2 : 0 ≤ ((D % 18446744073709551616 / 2 ^ (s + 1) : Nat) : Int) ∧ ((D % 18446744073709551616 / 2 ^ (s + 1) : Nat) : Int) < 9223372036854775808 := by
            have : D % 18446744073709551616 / 2 ^ (s + 1) < 2 ^ 63 := by
              apply Nat.div_lt_of_lt_mul
              have := Nat.mod_lt D (show 0 < 18446744073709551616 by decide)
              have h2 : 2 ^ 1 ≤ 2 ^ (s + 1) := Nat.pow_le_pow_right (by decide) (by omega)
              omega
            exact nat_range this
          generalize hq : ((D / 2 ^ (64 + s + 1) : Nat) : Int) = qh at *
          generalize hq2 : ((D % 18446744073709551616 / 2 ^ (s + 1) : Nat) : Int) = ql at *
          have y1 := bi_range (dbit D k)
          have y2 := bi_range (dbit D (64 + k))
          generalize bi (dbit D k) = y at *
          generalize bi (dbit D (64 + k)) = y' at *
          obtain ⟨q10, q11⟩ := q1
          obtain ⟨q20, q21⟩ := q2
          obtain ⟨y10, y11⟩ := y1
          obtain ⟨y20, y21⟩ := y2
          clear e1 e2 e3 e4 hs hq hq2
          go_wp2
          go_round
          case rel => exact ⟨k + 1, by omega, by go_num, by rw [HE.out.1, J1.out], by rw [HE.out.2, J2.out]⟩
          case measure => simp [intOf]; omega
        · obtain rfl : k = 64 := by omega
          go_wp2
          go_ret3
          exact ⟨by simp, hnx⟩
end Go.Proofs.Ytgfdielipbcfeaa
