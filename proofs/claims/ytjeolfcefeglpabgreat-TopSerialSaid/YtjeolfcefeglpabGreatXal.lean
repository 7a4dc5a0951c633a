/-
  The contract of the reference's Over (layer 2), walked. Contracts of the reference's below, amount, Div, Rem and Half (layer 2): they come to what package wide does. Contracts of wide.Short with each op that the law hands it, and of the reference's Half.
-/
import Derived.Test.YtjeolfcefeglpabGreatXak
set_option maxRecDepth 20000
namespace Go.Proofs.YtjeolfcefeglpabGreat
open Go.ChangeShapes Go.WideShapes Go.ChangeAt Go.RowKit Wd

theorem nat_range {n : Nat} (h : n < 2 ^ 63) : 0 ≤ (n : Int) ∧ (n : Int) < 9223372036854775808 := by omega

set_option maxHeartbeats 4000000 in
theorem over_c (uh ul b : Int) (w : World) (uh0 : 0 ≤ uh) (uh1 : uh < 18446744073709551616) (ul0 : 0 ≤ ul) (ul1 : ul < 18446744073709551616) (b0 : 0 < b) (b1 : b < 18446744073709551616) :
    Calls Tryz.prog 163 #[.int .u64 uh, .int .u64 ul, .int .u64 b] w fun e w' =>
      e = .returned (.tuple #[.int .u64 (((uh.toNat * 18446744073709551616 + ul.toNat) / b.toNat / 2 ^ 64 : Nat) : Int), .int .u64 (((uh.toNat * 18446744073709551616 + ul.toNat) / b.toNat % 18446744073709551616 : Nat) : Int), .int .u64 (((uh.toNat * 18446744073709551616 + ul.toNat) % b.toNat : Nat) : Int)]) ∧ Below w.heap.size w w' := by
  obtain ⟨i0, hi, hz0, hz1, hz2⟩ := info_parts info_u64
  obtain ⟨N, hN⟩ : ∃ N : Nat, N = uh.toNat * 18446744073709551616 + ul.toNat := ⟨_, rfl⟩
  obtain ⟨B, hB⟩ : ∃ B : Nat, B = b.toNat := ⟨_, rfl⟩
  rw [← hN, ← hB]
  have hNlt : N < 2 ^ 128 := by omega
  have hBp : 0 < B := by omega
  have hbB : b = B := by omega
  obtain ⟨D, hD⟩ : ∃ D : Nat, D = N / B := ⟨_, rfl⟩
  have hDlt : D < 2 ^ 128 := by rw [hD]; exact Nat.lt_of_le_of_lt (Nat.div_le_self _ _) hNlt
  rw [← hD]
  have HN := Lib.hid hN
  have HNL := Lib.hid hNlt
  have HB := Lib.hid (And.intro hBp hbB)
  have HD := Lib.hid hD
  have HDL := Lib.hid hDlt
  clear hN hB hNlt hBp hbB hD hDlt
  go_enter Tryz.func163, Tryz.ntmps163
  go_wp2
  go_loopw [9, 10, 11] (fun v r i wr => ∃ t : Nat, t ≤ 128 ∧ i = .int .i64 (127 - t) ∧ r = .int .u64 ((N / 2 ^ (128 - t) % B : Nat) : Int) ∧ wr.ownsRow w.heap.size 38 1 v t (bl (dbit D) t) ∧ Below w.heap.size w wr) (fun _ _ i _ => (intOf i + 1).toNat)
  case atStart => exact ⟨0, Nat.zero_le _, rfl, by rw [Nat.sub_zero, Nat.div_eq_of_lt HNL.out, Nat.zero_mod]; rfl, World.ownsRow_nil _ _ _ _, Below.refl _ _⟩
  case round =>
    obtain ⟨t, ht, rfl, rfl, hown, hnx⟩ := hrel
    have hsz := hnx.size
    have HO := Lib.hid hown
    clear hown
    by_cases hlt : t < 128
    · obtain ⟨s, hs⟩ : ∃ s : Nat, s + t = 127 := ⟨127 - t, by omega⟩
      have hs1 : (127 : Int) - t = s := by omega
      have hs2 : 128 - t = s + 1 := by omega
      have hs3 : 128 - (t + 1) = s := by omega
      have hs4 : dbit D t = (N / B).testBit s := by rw [← HD.out]; unfold dbit; rw [show 127 - t = s by omega]
      have hslt : s < 128 := by omega
      rw [hs1, hs2]
      have HS := Lib.hid (And.intro hs (And.intro hs3 hs4))
      clear hs hs1 hs2 hs3 hs4
      obtain ⟨z, hz⟩ : ∃ z : Int, z = bi (N.testBit s) := ⟨_, rfl⟩
      obtain ⟨r, hr⟩ : ∃ r : Int, r = ((N / 2 ^ (s + 1) % B : Nat) : Int) := ⟨_, rfl⟩
      have hst := over_step HB.out.1 HB.out.2 hz hr
      have hz01 : 0 ≤ z ∧ z ≤ 1 := by rw [hz]; exact bi_range _
      have hrb : 0 ≤ r ∧ r < b := by
        have := Nat.mod_lt (N / 2 ^ (s + 1)) HB.out.1
        have := HB.out.2
        omega
      obtain ⟨z0, z1⟩ := hz01
      obtain ⟨r0, r1⟩ := hrb
      rw [← hr]
      have HST := Lib.hid hst
      have HZ := Lib.hid hz
      clear hst hr hz
      by_cases hbig : 63 < s
      · have HBIT := Lib.hid (show bi (tbI uh ((s : Int) - 64)) = z from by rw [HZ.out, HN.out, over_bit_hi ul0 ul1 hbig hslt])
        by_cases hg : 9223372036854775807 < r
        · have hge : b ≤ 2 * r + z := by omega
          have hw := over_wrap hg r1 b1 z0 z1
          have g1 : decide (9223372036854775807 < r) = true := decide_eq_true hg
          go_wp2_with fail
          refine (bit_c _ _ _ ul0 ul1).mono ?_
          rintro e w' ⟨rfl, rfl⟩
          go_wp2_with fail
          refine (bit_c _ _ _ uh0 uh1).mono ?_
          rintro e w' ⟨rfl, rfl⟩
          rw [HBIT.out]
          go_wp2_with (at_builtin; refine wpList_append_own _ rfl _ _ 148 rfl w.heap.size 38 i0 (.int .u64 0) 1 8 Tryz.underlying148 hi hz0 hz1 hz2 rfl (by decide) _ _ _ rfl (HO.out.alloc _) ⟨wr.heap.size, 0, none⟩ 1 1 [.int .u64 1] rfl rfl news_one (one_cell' _) (by unfold maxLen; omega) (by omega) (by simp; omega) ?_; intro v' w1 hown' hgrow _)
          have R := rel_app (b := true) hsz (by rw [HS.out.2.2]; exact (HST.out.1 hge).2) HO.out hown' hgrow hnx
          go_roundw
          case rel => exact ⟨t + 1, by omega, congrArg (Value.int .i64) (by have := HS.out.1; omega), by rw [HS.out.2.1, (HST.out.1 hge).1], R.1, R.2⟩
          case measure => simp [intOf]
        · have hg' : r ≤ 9223372036854775807 := by omega
          have g1 : decide (9223372036854775807 < r) = false := decide_eq_false hg
          have g2 : decide (2 * r + z < 2 * r) = false := decide_eq_false (by omega)
          clear hg
          by_cases hge : b ≤ 2 * r + z
          · have g3 : decide (b ≤ 2 * r + z) = true := decide_eq_true hge
            go_wp2_with fail
            refine (bit_c _ _ _ ul0 ul1).mono ?_
            rintro e w' ⟨rfl, rfl⟩
            go_wp2_with fail
            refine (bit_c _ _ _ uh0 uh1).mono ?_
            rintro e w' ⟨rfl, rfl⟩
            rw [HBIT.out]
            go_wp2_with (at_builtin; refine wpList_append_own _ rfl _ _ 148 rfl w.heap.size 38 i0 (.int .u64 0) 1 8 Tryz.underlying148 hi hz0 hz1 hz2 rfl (by decide) _ _ _ rfl (HO.out.alloc _) ⟨wr.heap.size, 0, none⟩ 1 1 [.int .u64 1] rfl rfl news_one (one_cell' _) (by unfold maxLen; omega) (by omega) (by simp; omega) ?_; intro v' w1 hown' hgrow _)
            have R := rel_app (b := true) hsz (by rw [HS.out.2.2]; exact (HST.out.1 hge).2) HO.out hown' hgrow hnx
            go_roundw
            case rel => exact ⟨t + 1, by omega, congrArg (Value.int .i64) (by have := HS.out.1; omega), by rw [HS.out.2.1, (HST.out.1 hge).1], R.1, R.2⟩
            case measure => simp [intOf]
          · have g3 : decide (b ≤ 2 * r + z) = false := decide_eq_false hge
            go_wp2_with fail
            refine (bit_c _ _ _ ul0 ul1).mono ?_
            rintro e w' ⟨rfl, rfl⟩
            go_wp2_with fail
            refine (bit_c _ _ _ uh0 uh1).mono ?_
            rintro e w' ⟨rfl, rfl⟩
            rw [HBIT.out]
            go_wp2_with (at_builtin; refine wpList_append_own _ rfl _ _ 148 rfl w.heap.size 38 i0 (.int .u64 0) 1 8 Tryz.underlying148 hi hz0 hz1 hz2 rfl (by decide) _ _ _ rfl (HO.out.alloc _) ⟨wr.heap.size, 0, none⟩ 1 1 [.int .u64 0] rfl rfl news_one (one_cell' _) (by unfold maxLen; omega) (by omega) (by simp; omega) ?_; intro v' w1 hown' hgrow _)
            have R := rel_app (b := false) hsz (by rw [HS.out.2.2]; exact (HST.out.2 (by omega)).2) HO.out hown' hgrow hnx
            go_roundw
            case rel => exact ⟨t + 1, by omega, congrArg (Value.int .i64) (by have := HS.out.1; omega), by rw [HS.out.2.1, (HST.out.2 (by omega)).1], R.1, R.2⟩
            case measure => simp [intOf]
      · have HBIT := Lib.hid (show bi (tbI ul (s : Int)) = z from by rw [HZ.out, HN.out, over_bit_lo (hi := uh) ul0 ul1 (by omega)])
        by_cases hg : 9223372036854775807 < r
        · have hge : b ≤ 2 * r + z := by omega
          have hw := over_wrap hg r1 b1 z0 z1
          have g1 : decide (9223372036854775807 < r) = true := decide_eq_true hg
          go_wp2_with fail
          refine (bit_c _ _ _ ul0 ul1).mono ?_
          rintro e w' ⟨rfl, rfl⟩
          rw [HBIT.out]
          go_wp2_with (at_builtin; refine wpList_append_own _ rfl _ _ 148 rfl w.heap.size 38 i0 (.int .u64 0) 1 8 Tryz.underlying148 hi hz0 hz1 hz2 rfl (by decide) _ _ _ rfl (HO.out.alloc _) ⟨wr.heap.size, 0, none⟩ 1 1 [.int .u64 1] rfl rfl news_one (one_cell' _) (by unfold maxLen; omega) (by omega) (by simp; omega) ?_; intro v' w1 hown' hgrow _)
          have R := rel_app (b := true) hsz (by rw [HS.out.2.2]; exact (HST.out.1 hge).2) HO.out hown' hgrow hnx
          go_roundw
          case rel => exact ⟨t + 1, by omega, congrArg (Value.int .i64) (by have := HS.out.1; omega), by rw [HS.out.2.1, (HST.out.1 hge).1], R.1, R.2⟩
          case measure => simp [intOf]
        · have hg' : r ≤ 9223372036854775807 := by omega
          have g1 : decide (9223372036854775807 < r) = false := decide_eq_false hg
          have g2 : decide (2 * r + z < 2 * r) = false := decide_eq_false (by omega)
          clear hg
          by_cases hge : b ≤ 2 * r + z
          · have g3 : decide (b ≤ 2 * r + z) = true := decide_eq_true hge
            go_wp2_with fail
            refine (bit_c _ _ _ ul0 ul1).mono ?_
            rintro e w' ⟨rfl, rfl⟩
            rw [HBIT.out]
            go_wp2_with (at_builtin; refine wpList_append_own _ rfl _ _ 148 rfl w.heap.size 38 i0 (.int .u64 0) 1 8 Tryz.underlying148 hi hz0 hz1 hz2 rfl (by decide) _ _ _ rfl (HO.out.alloc _) ⟨wr.heap.size, 0, none⟩ 1 1 [.int .u64 1] rfl rfl news_one (one_cell' _) (by unfold maxLen; omega) (by omega) (by simp; omega) ?_; intro v' w1 hown' hgrow _)
            have R := rel_app (b := true) hsz (by rw [HS.out.2.2]; exact (HST.out.1 hge).2) HO.out hown' hgrow hnx
            go_roundw
            case rel => exact ⟨t + 1, by omega, congrArg (Value.int .i64) (by have := HS.out.1; omega), by rw [HS.out.2.1, (HST.out.1 hge).1], R.1, R.2⟩
            case measure => simp [intOf]
          · have g3 : decide (b ≤ 2 * r + z) = false := decide_eq_false hge
            go_wp2_with fail
            refine (bit_c _ _ _ ul0 ul1).mono ?_
            rintro e w' ⟨rfl, rfl⟩
            rw [HBIT.out]
            go_wp2_with (at_builtin; refine wpList_append_own _ rfl _ _ 148 rfl w.heap.size 38 i0 (.int .u64 0) 1 8 Tryz.underlying148 hi hz0 hz1 hz2 rfl (by decide) _ _ _ rfl (HO.out.alloc _) ⟨wr.heap.size, 0, none⟩ 1 1 [.int .u64 0] rfl rfl news_one (one_cell' _) (by unfold maxLen; omega) (by omega) (by simp; omega) ?_; intro v' w1 hown' hgrow _)
            have R := rel_app (b := false) hsz (by rw [HS.out.2.2]; exact (HST.out.2 (by omega)).2) HO.out hown' hgrow hnx
            go_roundw
            case rel => exact ⟨t + 1, by omega, congrArg (Value.int .i64) (by have := HS.out.1; omega), by rw [HS.out.2.1, (HST.out.2 (by omega)).1], R.1, R.2⟩
            case measure => simp [intOf]
    · obtain rfl : t = 128 := by omega
      obtain ⟨g, cap, cur, hv, hb, hg, hcap, hmax, hcs, htake⟩ := HO.out.2.resolve_left (fun h => by omega)
      subst hv
      have hcell : ∀ j, j < 128 → wr.cell? ⟨g, j, none⟩ = some (.int .u64 (bi (dbit D j))) := fun j hj => by
        rw [HO.out.cellAt j (by omega), bl_at _ 128 j hj]
      have HC := Lib.hid hcell
      clear hcell hg hcs htake hb hmax
      have g0 : decide ((0 : Int) ≤ 127 - ((128 : Nat) : Int)) = false := by decide
      go_wp2
      clear g0
      go_loop [15, 16, 17] (fun a c i => ∃ k : Nat, k ≤ 64 ∧ i = .int .i64 k ∧ a = .int .u64 ((D / 2 ^ (128 - k) : Nat) : Int) ∧ c = .int .u64 ((D % 18446744073709551616 / 2 ^ (64 - k) : Nat) : Int)) (fun _ _ i => 64 - (intOf i).toNat)
      case atStart => exact ⟨0, by omega, rfl, by rw [Nat.sub_zero, Nat.div_eq_of_lt HDL.out]; rfl, by rw [Nat.sub_zero, Nat.div_eq_of_lt (Nat.mod_lt _ (by decide))]; rfl⟩
      case round =>
        obtain ⟨k, hk, rfl, rfl, rfl⟩ := hrel
        by_cases hkl : k < 64
        · obtain ⟨s, hs⟩ : ∃ s : Nat, s + k = 63 := ⟨63 - k, by omega⟩
          have c1 := HC.out k (by omega)
          have c2 := HC.out (64 + k) (by omega)
          have J1 := Lib.hid (join_step (D := D) (s := 64 + s) (k := k) (by omega))
          have J2 := Lib.hid (join_step_lo (D := D) (s := s) (k := k) hs)
          have e1 : 128 - k = 64 + s + 1 := by omega
          have e2 : 64 - k = s + 1 := by omega
          have e3 : 128 - (k + 1) = 64 + s := by omega
          have e4 : 64 - (k + 1) = s := by omega
          rw [e1, e2]
          have HE := Lib.hid (And.intro e3 e4)
          have q1 : 0 ≤ ((D / 2 ^ (64 + s + 1) : Nat) : Int) ∧ ((D / 2 ^ (64 + s + 1) : Nat) : Int) < 9223372036854775808 := by
            have : D / 2 ^ (64 + s + 1) < 2 ^ 63 := by
              apply Nat.div_lt_of_lt_mul
              rw [← Nat.pow_add]
              exact Nat.lt_of_lt_of_le HDL.out (Nat.pow_le_pow_right (by decide) (by omega))
            exact nat_range this
          have q2 : 0 ≤ ((D % 18446744073709551616 / 2 ^ (s + 1) : Nat) : Int) ∧ ((D % 18446744073709551616 / 2 ^ (s + 1) : Nat) : Int) < 9223372036854775808 := by
            have : D % 18446744073709551616 / 2 ^ (s + 1) < 2 ^ 63 := by
              apply Nat.div_lt_of_lt_mul
              have := Nat.mod_lt D (show 0 < 18446744073709551616 by decide)
              have h2 : 2 ^ 1 ≤ 2 ^ (s + 1) := Nat.pow_le_pow_right (by decide) (by omega)
              omega
            exact nat_range this
          generalize hq : ((D / 2 ^ (64 + s + 1) : Nat) : Int) = qh at *
          generalize hq2 : ((D % 18446744073709551616 / 2 ^ (s + 1) : Nat) : Int) = ql at *
          have y1 := bi_range (dbit D k)
          have y2 := bi_range (dbit D (64 + k))
          generalize bi (dbit D k) = y at *
          generalize bi (dbit D (64 + k)) = y' at *
          obtain ⟨q10, q11⟩ := q1
          obtain ⟨q20, q21⟩ := q2
          obtain ⟨y10, y11⟩ := y1
          obtain ⟨y20, y21⟩ := y2
          clear e1 e2 e3 e4 hs hq hq2
          go_wp2
          go_round
          case rel => exact ⟨k + 1, by omega, by go_num, by rw [HE.out.1, J1.out], by rw [HE.out.2, J2.out]⟩
          case measure => simp [intOf]; omega
        · obtain rfl : k = 64 := by omega
          go_wp2
          go_ret3
          exact ⟨by simp, hnx⟩
end Go.Proofs.YtjeolfcefeglpabGreat
set_option maxRecDepth 20000
namespace Go.Proofs.YtjeolfcefeglpabGreat
open Go.ChangeShapes Go.WideShapes Go.ChangeAt Go.RowKit Wd

def negB (a : Int) : Bool := decide (9223372036854775808 ≤ a)
theorem negB_true {a : Int} (h : 9223372036854775808 ≤ a) : negB a = true := decide_eq_true h
theorem negB_false {a : Int} (h : ¬ 9223372036854775808 ≤ a) : negB a = false := decide_eq_false h
theorem below_bit {a : Int} (h0 : 0 ≤ a) (h : a < 18446744073709551616) : (bi (tbI a 63) == 1) = negB a := by
  have e : tbI a 63 = tb a 63 := tbI_nat a 63 (by omega)
  rw [e, tb_63 h0 h]
  unfold bi negB
  by_cases c : 9223372036854775808 ≤ a
  · simp [c]
  · simp [c]
theorem below_c (a : Int) (w : World) (h0 : 0 ≤ a) (h : a < 18446744073709551616) :
    Calls Tryz.prog 162 #[.int .u64 a] w fun e w' => e = .returned (.bool (negB a)) ∧ w = w' := by
  have e := below_bit h0 h
  go_enter Tryz.func162, Tryz.ntmps162
  go_wp2_with fail
  refine (bit_c _ _ _ h0 h).mono ?_
  rintro e w' ⟨rfl, rfl⟩
  go_wp2_with fail
  go_ret
  exact ⟨rfl, rfl⟩
def amt (a : Int) : Int := if 9223372036854775808 ≤ a then 18446744073709551616 - a else a
theorem amt_range {a : Int} (h0 : 0 ≤ a) (h : a < 18446744073709551616) : 0 ≤ amt a ∧ amt a ≤ 9223372036854775808 ∧ (¬ a = 0 → 0 < amt a) := by unfold amt; split <;> omega
theorem amount_c (a : Int) (w : World) (h0 : 0 ≤ a) (h : a < 18446744073709551616) :
    Calls Tryz.prog 164 #[.int .u64 a] w fun e w' => e = .returned (.int .u64 (amt a)) ∧ w = w' := by
  by_cases c : 9223372036854775808 ≤ a
  · have g := negB_true c
    have H := Lib.hid (show IntKind.u64.wrap (-a) = amt a from by unfold amt; rw [if_pos c, IntKind.wrap_u64]; omega)
    go_enter Tryz.func164, Tryz.ntmps164
    go_wp2_with fail
    refine (below_c _ _ h0 h).mono ?_
    rintro e w' ⟨rfl, rfl⟩
    go_wp2_with fail
    go_ret
    first | exact ⟨ret_u H.out, rfl⟩ | (refine ⟨ret_u ?_, rfl⟩; rw [← H.out]; simp)
  · have g := negB_false c
    have H := Lib.hid (show a = amt a from by unfold amt; rw [if_neg c])
    go_enter Tryz.func164, Tryz.ntmps164
    go_wp2_with fail
    refine (below_c _ _ h0 h).mono ?_
    rintro e w' ⟨rfl, rfl⟩
    go_wp2_with fail
    go_ret
    exact ⟨ret_u H.out, rfl⟩

/-! ### numbers -/
theorem natdiv {a b : Int} (h0 : 0 ≤ a) (b0 : 0 ≤ b) (h : a < 18446744073709551616) : (((0 : Int).toNat * 18446744073709551616 + a.toNat) / b.toNat % 18446744073709551616 : Nat) = a / b := by
  obtain ⟨A, rfl⟩ := Int.eq_ofNat_of_zero_le h0
  obtain ⟨B, rfl⟩ := Int.eq_ofNat_of_zero_le b0
  rw [Int.toNat_natCast, Int.toNat_natCast, ← Int.natCast_ediv]
  have : (0 : Int).toNat * 18446744073709551616 + A = A := by simp
  rw [this]
  have l : A / B < 18446744073709551616 := Nat.lt_of_le_of_lt (Nat.div_le_self _ _) (by omega)
  rw [Nat.mod_eq_of_lt l]
theorem natmod {a b : Int} (h0 : 0 ≤ a) (b0 : 0 ≤ b) : (((0 : Int).toNat * 18446744073709551616 + a.toNat) % b.toNat : Nat) = a % b := by
  obtain ⟨A, rfl⟩ := Int.eq_ofNat_of_zero_le h0
  obtain ⟨B, rfl⟩ := Int.eq_ofNat_of_zero_le b0
  rw [Int.toNat_natCast, Int.toNat_natCast, ← Int.natCast_emod]
  have : (0 : Int).toNat * 18446744073709551616 + A = A := by simp
  rw [this]
theorem wrap_wrap64 (x : Int) : IntKind.u64.wrap (wrap64 x) = IntKind.u64.wrap x := by
  rw [IntKind.wrap_u64, IntKind.wrap_u64]; unfold wrap64; omega
theorem amt_pos {a : Int} (h : ¬ 9223372036854775808 ≤ a) (h0 : 0 ≤ a) : wrap64 a = amt a := by unfold amt wrap64; rw [if_neg h]; omega
theorem amt_neg {a : Int} (h : 9223372036854775808 ≤ a) (h1 : a < 18446744073709551616) : wrap64 a = -amt a := by unfold amt wrap64; rw [if_pos h]; omega
theorem ediv_le {x y : Int} (h0 : 0 ≤ x) (hx : x ≤ 9223372036854775808) (y0 : 0 ≤ y) : 0 ≤ x / y ∧ x / y ≤ 9223372036854775808 :=
  ⟨Int.ediv_nonneg h0 y0, Int.le_trans (Int.ediv_le_self _ h0) hx⟩
theorem wrap_id {x : Int} (h0 : 0 ≤ x) (h : x ≤ 9223372036854775808) : IntKind.u64.wrap x = x := by rw [IntKind.wrap_u64]; omega
/-- The quotient with signs, out of the amounts. -/
theorem divS_same {a b : Int} (ha0 : 0 ≤ a) (ha : a < 18446744073709551616) (hb0 : 0 ≤ b) (hb : b < 18446744073709551616) (hbn : ¬ b = 0) :
    (negB a = negB b → amt a / amt b = divS a b) ∧ (negB a ≠ negB b → IntKind.u64.wrap (-(amt a / amt b)) = divS a b) := by
  have ra := amt_range ha0 ha
  have rb := amt_range hb0 hb
  have rq := ediv_le ra.1 ra.2.1 rb.1
  unfold divS
  rw [if_neg hbn, wrap_wrap64]
  by_cases c1 : 9223372036854775808 ≤ a
  · by_cases c2 : 9223372036854775808 ≤ b
    · rw [negB_true c1, negB_true c2, amt_neg c1 ha, amt_neg c2 hb, Int.neg_tdiv, Int.tdiv_neg, Int.neg_neg, Int.tdiv_eq_ediv_of_nonneg ra.1, wrap_id rq.1 rq.2]
      simp
    · rw [negB_true c1, negB_false c2, amt_neg c1 ha, amt_pos c2 hb0, Int.neg_tdiv, Int.tdiv_eq_ediv_of_nonneg ra.1]
      simp
  · by_cases c2 : 9223372036854775808 ≤ b
    · rw [negB_false c1, negB_true c2, amt_pos c1 ha0, amt_neg c2 hb, Int.tdiv_neg, Int.tdiv_eq_ediv_of_nonneg ra.1]
      simp
    · rw [negB_false c1, negB_false c2, amt_pos c1 ha0, amt_pos c2 hb0, Int.tdiv_eq_ediv_of_nonneg ra.1, wrap_id rq.1 rq.2]
      simp
theorem wrap64_mod (a : Int) : wrap64 a % 18446744073709551616 = a % 18446744073709551616 := by unfold wrap64; omega
theorem mod_congr {a b d a' b' d' : Int} (h1 : a % 18446744073709551616 = a' % 18446744073709551616) (h2 : b % 18446744073709551616 = b' % 18446744073709551616) (h3 : d % 18446744073709551616 = d' % 18446744073709551616) :
    (a - b * d) % 18446744073709551616 = (a' - b' * d') % 18446744073709551616 := by
  have e : (b * d) % 18446744073709551616 = (b' * d') % 18446744073709551616 := by rw [Int.mul_emod, h2, h3, ← Int.mul_emod]
  rw [Int.sub_emod, h1, e, ← Int.sub_emod]
theorem remS_eq (a b : Int) : remS a b = (a - b * divS a b) % 18446744073709551616 := by
  unfold remS
  rw [IntKind.wrap_u64, IntKind.wrap_u64]
  generalize b * divS a b = q
  omega
theorem remS_same {a b : Int} (ha0 : 0 ≤ a) (ha : a < 18446744073709551616) (hb0 : 0 ≤ b) (hb : b < 18446744073709551616) (hbn : ¬ b = 0) :
    (negB a = false → amt a % amt b = remS a b) ∧ (negB a = true → IntKind.u64.wrap (-(amt a % amt b)) = remS a b) := by
  have ra := amt_range ha0 ha
  have rb := amt_range hb0 hb
  have hd : divS a b % 18446744073709551616 = (wrap64 a).tdiv (wrap64 b) % 18446744073709551616 := by
    unfold divS
    rw [if_neg hbn, wrap_wrap64, IntKind.wrap_u64]
    omega
  have key : remS a b = (wrap64 a).tmod (wrap64 b) % 18446744073709551616 := by
    rw [remS_eq, mod_congr (wrap64_mod a).symm (wrap64_mod b).symm hd, Int.tmod_def]
  rw [key]
  have r1 : 0 ≤ amt a % amt b := Int.emod_nonneg _ (by omega)
  have r2 : amt a % amt b < amt b := Int.emod_lt_of_pos _ (by omega)
  have e1 : (amt a).tmod (wrap64 b) = amt a % amt b := by
    by_cases c2 : 9223372036854775808 ≤ b
    · rw [amt_neg c2 hb, Int.tmod_neg, Int.tmod_eq_emod_of_nonneg ra.1]
    · rw [amt_pos c2 hb0, Int.tmod_eq_emod_of_nonneg ra.1]
  by_cases c1 : 9223372036854775808 ≤ a
  · rw [negB_true c1, amt_neg c1 ha, Int.neg_tmod, e1]
    refine ⟨(fun h => by cases h), fun _ => ?_⟩
    rw [IntKind.wrap_u64]
  · rw [negB_false c1, amt_pos c1 ha0, e1]
    refine ⟨fun _ => ?_, (fun h => by cases h)⟩
    generalize amt a % amt b = r at *
    omega
theorem remP_same {a b : Int} (ha0 : 0 ≤ a) (ha : a < 18446744073709551616) (hb0 : 0 ≤ b) (hbn : ¬ b = 0) : a % b = remP a b := by
  unfold remP divP
  rw [if_neg hbn, IntKind.wrap_u64, IntKind.wrap_u64]
  have h1 := Int.mul_ediv_add_emod a b
  have h2 := Int.emod_nonneg a hbn
  have h3 : b * (a / b) ≤ a := by omega
  have h4 : 0 ≤ b * (a / b) := Int.mul_nonneg hb0 (Int.ediv_nonneg ha0 hb0)
  generalize b * (a / b) = q at *
  omega
theorem rem_zero {a : Int} (ha0 : 0 ≤ a) (ha : a < 18446744073709551616) : a = remS a 0 ∧ a = remP a 0 := by
  unfold remS remP
  rw [Int.zero_mul, Int.zero_mul, IntKind.wrap_u64, IntKind.wrap_u64]
  omega

/-! ### Div, Rem -/
set_option maxHeartbeats 400000 in
theorem refDiv_plain (a b : Int) (w : World) (ha0 : 0 ≤ a) (ha : a < 18446744073709551616) (hb0 : 0 ≤ b) (hb : b < 18446744073709551616) :
    Calls Tryz.prog 157 #[.int .u64 a, .int .u64 b, .bool true] w fun e w' => e = .returned (.int .u64 (divP a b)) ∧ Below w.heap.size w w' := by
  by_cases c : b = 0
  · subst c
    go_enter Tryz.func157, Tryz.ntmps157
    go_wp2
    go_ret
    exact ⟨rfl, Below.refl _ _⟩
  · have g : (b == 0) = false := by simpa using c
    have H := Lib.hid (show ((((0 : Int).toNat * 18446744073709551616 + a.toNat) / b.toNat % 18446744073709551616 : Nat) : Int) = divP a b from by rw [natdiv ha0 hb0 ha]; unfold divP; rw [if_neg c])
    have b0 : 0 < b := by omega
    go_enter Tryz.func157, Tryz.ntmps157
    go_wp2_with fail
    refine (over_c _ _ _ _ (by omega) (by omega) ha0 ha b0 hb).mono ?_
    rintro e w1 ⟨rfl, hB⟩
    rw [H.out]
    go_wp2_with fail
    go_ret
    exact ⟨rfl, hB⟩
set_option maxHeartbeats 400000 in
theorem refRem_plain (a b : Int) (w : World) (ha0 : 0 ≤ a) (ha : a < 18446744073709551616) (hb0 : 0 ≤ b) (hb : b < 18446744073709551616) :
    Calls Tryz.prog 158 #[.int .u64 a, .int .u64 b, .bool true] w fun e w' => e = .returned (.int .u64 (remP a b)) ∧ Below w.heap.size w w' := by
  by_cases c : b = 0
  · subst c
    have H := Lib.hid (rem_zero ha0 ha)
    go_enter Tryz.func158, Tryz.ntmps158
    go_wp2
    go_ret
    exact ⟨ret_u H.out.2, Below.refl _ _⟩
  · have g : (b == 0) = false := by simpa using c
    have H := Lib.hid (show ((((0 : Int).toNat * 18446744073709551616 + a.toNat) % b.toNat : Nat) : Int) = remP a b from by rw [natmod ha0 hb0, remP_same ha0 ha hb0 c])
    have b0 : 0 < b := by omega
    go_enter Tryz.func158, Tryz.ntmps158
    go_wp2_with fail
    refine (over_c _ _ _ _ (by omega) (by omega) ha0 ha b0 hb).mono ?_
    rintro e w1 ⟨rfl, hB⟩
    rw [H.out]
    go_wp2_with fail
    go_ret
    exact ⟨rfl, hB⟩
set_option maxHeartbeats 1000000 in
theorem refDiv_sign (a b : Int) (w : World) (ha0 : 0 ≤ a) (ha : a < 18446744073709551616) (hb0 : 0 ≤ b) (hb : b < 18446744073709551616) :
    Calls Tryz.prog 157 #[.int .u64 a, .int .u64 b, .bool false] w fun e w' => e = .returned (.int .u64 (divS a b)) ∧ Below w.heap.size w w' := by
  by_cases c : b = 0
  · subst c
    go_enter Tryz.func157, Tryz.ntmps157
    go_wp2
    go_ret
    exact ⟨rfl, Below.refl _ _⟩
  · have g : (b == 0) = false := by simpa using c
    obtain ⟨a1, a2, _⟩ := amt_range ha0 ha
    obtain ⟨b1, b2, b3⟩ := amt_range hb0 hb
    have b4 := b3 c
    have HQ := Lib.hid (natdiv (b := amt b) a1 b1 (by omega))
    have rq := ediv_le a1 a2 b1
    have HS := Lib.hid (divS_same ha0 ha hb0 hb c)
    clear b3
    by_cases s : negB a = negB b
    · have H := Lib.hid (HS.out.1 s)
      have g2 : (negB a == negB b) = true := by rw [s]; simp
      have HSS := Lib.hid s
      clear s
      go_enter Tryz.func157, Tryz.ntmps157
      go_wp2_with fail
      refine (amount_c _ _ ha0 ha).mono ?_
      rintro e w' ⟨rfl, rfl⟩
      go_wp2_with fail
      refine (amount_c _ _ hb0 hb).mono ?_
      rintro e w' ⟨rfl, rfl⟩
      go_wp2_with fail
      refine (over_c _ _ _ _ (by omega) (by omega) a1 (by omega) b4 (by omega)).mono ?_
      rintro e w1 ⟨rfl, hB⟩
      rw [HQ.out, H.out]
      go_wp2_with fail
      refine (below_c _ _ ha0 ha).mono ?_
      rintro e w' ⟨rfl, rfl⟩
      go_wp2_with fail
      refine (below_c _ _ hb0 hb).mono ?_
      rintro e w' ⟨rfl, rfl⟩
      go_wp2_with fail
      go_ret
      exact ⟨rfl, hB⟩
    · have H := Lib.hid (HS.out.2 s)
      have g2 : (negB a == negB b) = false := by simpa using s
      have HSS := Lib.hid s
      clear s
      go_enter Tryz.func157, Tryz.ntmps157
      go_wp2_with fail
      refine (amount_c _ _ ha0 ha).mono ?_
      rintro e w' ⟨rfl, rfl⟩
      go_wp2_with fail
      refine (amount_c _ _ hb0 hb).mono ?_
      rintro e w' ⟨rfl, rfl⟩
      go_wp2_with fail
      refine (over_c _ _ _ _ (by omega) (by omega) a1 (by omega) b4 (by omega)).mono ?_
      rintro e w1 ⟨rfl, hB⟩
      rw [HQ.out]
      go_wp2_with fail
      refine (below_c _ _ ha0 ha).mono ?_
      rintro e w' ⟨rfl, rfl⟩
      go_wp2_with fail
      refine (below_c _ _ hb0 hb).mono ?_
      rintro e w' ⟨rfl, rfl⟩
      clear rq
      go_wp2_with fail
      go_ret
      first | exact ⟨ret_u H.out, hB⟩ | (refine ⟨ret_u ?_, hB⟩; rw [← H.out]; simp)
set_option maxHeartbeats 1000000 in
theorem refRem_sign (a b : Int) (w : World) (ha0 : 0 ≤ a) (ha : a < 18446744073709551616) (hb0 : 0 ≤ b) (hb : b < 18446744073709551616) :
    Calls Tryz.prog 158 #[.int .u64 a, .int .u64 b, .bool false] w fun e w' => e = .returned (.int .u64 (remS a b)) ∧ Below w.heap.size w w' := by
  by_cases c : b = 0
  · subst c
    have H := Lib.hid (rem_zero ha0 ha)
    go_enter Tryz.func158, Tryz.ntmps158
    go_wp2
    go_ret
    exact ⟨ret_u H.out.1, Below.refl _ _⟩
  · have g : (b == 0) = false := by simpa using c
    obtain ⟨a1, a2, _⟩ := amt_range ha0 ha
    obtain ⟨b1, b2, b3⟩ := amt_range hb0 hb
    have b4 := b3 c
    have HQ := Lib.hid (natmod (b := amt b) a1 b1)
    have HS := Lib.hid (remS_same ha0 ha hb0 hb c)
    clear b3
    by_cases s : negB a = false
    · have H := Lib.hid (HS.out.1 s)
      go_enter Tryz.func158, Tryz.ntmps158
      go_wp2_with fail
      refine (amount_c _ _ ha0 ha).mono ?_
      rintro e w' ⟨rfl, rfl⟩
      go_wp2_with fail
      refine (amount_c _ _ hb0 hb).mono ?_
      rintro e w' ⟨rfl, rfl⟩
      go_wp2_with fail
      refine (over_c _ _ _ _ (by omega) (by omega) a1 (by omega) b4 (by omega)).mono ?_
      rintro e w1 ⟨rfl, hB⟩
      rw [HQ.out, H.out]
      go_wp2_with fail
      refine (below_c _ _ ha0 ha).mono ?_
      rintro e w' ⟨rfl, rfl⟩
      go_wp2_with fail
      go_ret
      exact ⟨rfl, hB⟩
    · have s' : negB a = true := by simpa using s
      clear s
      have H := Lib.hid (HS.out.2 s')
      go_enter Tryz.func158, Tryz.ntmps158
      go_wp2_with fail
      refine (amount_c _ _ ha0 ha).mono ?_
      rintro e w' ⟨rfl, rfl⟩
      go_wp2_with fail
      refine (amount_c _ _ hb0 hb).mono ?_
      rintro e w' ⟨rfl, rfl⟩
      go_wp2_with fail
      refine (over_c _ _ _ _ (by omega) (by omega) a1 (by omega) b4 (by omega)).mono ?_
      rintro e w1 ⟨rfl, hB⟩
      rw [HQ.out]
      go_wp2_with fail
      refine (below_c _ _ ha0 ha).mono ?_
      rintro e w' ⟨rfl, rfl⟩
      go_wp2_with fail
      go_ret
      first | exact ⟨ret_u H.out, hB⟩ | (refine ⟨ret_u ?_, hB⟩; rw [← H.out]; simp)
end Go.Proofs.YtjeolfcefeglpabGreat
set_option maxRecDepth 20000
namespace Go.Proofs.YtjeolfcefeglpabGreat
open Go.ChangeShapes Go.WideShapes Go.ChangeAt Go.RowKit Wd

theorem cut32 {x : Int} (hx0 : 0 ≤ x) : cutS x 0 32 = x % 4294967296 := by
  symm
  apply eq_word (by omega) (by omega)
  intro i hi
  obtain ⟨X, rfl⟩ := Int.eq_ofNat_of_zero_le hx0
  unfold tb
  have e1 : ((X : Int) % 4294967296).toNat = X % 2 ^ 32 := by omega
  have e2 : (0 + (i : Int)).toNat = i := by omega
  rw [e1, e2, Nat.testBit_mod_two_pow, Int.toNat_natCast]
  congr 1
  apply decide_eq_decide.2
  omega
def halfS (x : Int) (plain : Bool) : Int := if plain then x % 4294967296 else signS x 32
theorem halfS_range (x : Int) (p : Bool) : 0 ≤ halfS x p ∧ halfS x p < 18446744073709551616 := by
  unfold halfS
  cases p
  · exact signS_range x 32
  · simp; omega
theorem half_c (x : Int) (p : Bool) (w : World) (hx0 : 0 ≤ x) (hx : x < 18446744073709551616) :
    Calls Tryz.prog 154 #[.int .u64 x, .bool p] w fun e w' => e = .returned (.int .u64 (halfS x p)) ∧ Below w.heap.size w w' := by
  cases p
  · go_enter Tryz.func154, Tryz.ntmps154
    go_wp2_with fail
    refine (refSign_c _ _ _ hx0 hx (by omega)).mono ?_
    rintro e w1 ⟨rfl, hB⟩
    go_wp2_with fail
    go_ret
    exact ⟨rfl, hB⟩
  · go_enter Tryz.func154, Tryz.ntmps154
    go_wp2_with fail
    go_ret
    exact ⟨rfl, Below.refl _ _⟩
theorem divS_range {a b : Int} : 0 ≤ divS a b ∧ divS a b < 18446744073709551616 := by
  unfold divS
  split
  · omega
  · exact wrap_range _
theorem divP_range {a b : Int} (ha0 : 0 ≤ a) (ha : a < 18446744073709551616) (hb0 : 0 ≤ b) : 0 ≤ divP a b ∧ divP a b < 18446744073709551616 := by
  unfold divP
  split
  · omega
  · exact ⟨Int.ediv_nonneg ha0 hb0, Int.lt_of_le_of_lt (Int.ediv_le_self _ ha0) ha⟩
theorem remS_range {a b : Int} : 0 ≤ remS a b ∧ remS a b < 18446744073709551616 := wrap_range _
theorem remP_range {a b : Int} : 0 ≤ remP a b ∧ remP a b < 18446744073709551616 := wrap_range _

theorem fn_nil (f : FuncId) (w : World) : (binOp .eql 193 (.func (.func f) #[] #[]) .nilFunc).run Tryz.prog w = .ok (.bool false) w := by kernel_rfl
theorem nil_nil (w : World) : (binOp .eql 193 .nilFunc .nilFunc).run Tryz.prog w = .ok (.bool true) w := by kernel_rfl
end Go.Proofs.YtjeolfcefeglpabGreat
