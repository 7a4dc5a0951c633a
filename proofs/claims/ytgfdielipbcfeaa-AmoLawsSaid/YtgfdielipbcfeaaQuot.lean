/-
  Contracts of the reference's below, amount, Div, Rem and Half (layer 2): they come to what package wide does.
-/
import Derived.Test.YtgfdielipbcfeaaOverC
namespace Go.Proofs.Ytgfdielipbcfeaa
open Go.ChangeShapes Go.WideShapes Go.ChangeAt Go.RowKit Wd

def negB (a : Int) : Bool := decide (9223372036854775808 ≤ a)
theorem negB_true {a : Int} (h : 9223372036854775808 ≤ a) : negB a = true := decide_eq_true h
theorem negB_false {a : Int} (h : ¬ 9223372036854775808 ≤ a) : negB a = false := decide_eq_false h
theorem below_bit {a : Int} (h0 : 0 ≤ a) (h : a < 18446744073709551616) : (bi (tbI a 63) == 1) = negB a := by
  have e : tbI a 63 = tb a 63 := tbI_nat a 63 (by omega)
  rw [e, tb_63 h0 h]
  unfold bi negB
  by_cases c : 9223372036854775808 ≤ a
  · simp [c]
  · simp [c]
theorem below_c (a : Int) (w : World) (h0 : 0 ≤ a) (h : a < 18446744073709551616) :
    Calls Try.prog 50 #[.int .u64 a] w fun e w' => e = .returned (.bool (negB a)) ∧ w = w' := by
  have e := below_bit h0 h
  go_enter Try.func50, Try.ntmps50
  go_wp2_with fail
  refine (bit_c _ _ _ h0 h).mono ?_
  rintro e w' ⟨rfl, rfl⟩
  go_wp2_with fail
  go_ret
  exact ⟨rfl, rfl⟩
def amt (a : Int) : Int := if 9223372036854775808 ≤ a then 18446744073709551616 - a else a
theorem amt_range {a : Int} (h0 : 0 ≤ a) (h : a < 18446744073709551616) : 0 ≤ amt a ∧ amt a ≤ 9223372036854775808 ∧ (¬ a = 0 → 0 < amt a) := by unfold amt; split <;> omega
theorem amount_c (a : Int) (w : World) (h0 : 0 ≤ a) (h : a < 18446744073709551616) :
    Calls Try.prog 52 #[.int .u64 a] w fun e w' => e = .returned (.int .u64 (amt a)) ∧ w = w' := by
  by_cases c : 9223372036854775808 ≤ a
  · have g := negB_true c
    have H := Lib.hid (show IntKind.u64.wrap (-a) = amt a from by unfold amt; rw [if_pos c, IntKind.wrap_u64]; omega)
    go_enter Try.func52, Try.ntmps52
    go_wp2_with fail
    refine (below_c _ _ h0 h).mono ?_
    rintro e w' ⟨rfl, rfl⟩
    go_wp2_with fail
    go_ret
    first | exact ⟨ret_u H.out, rfl⟩ | (refine ⟨ret_u ?_, rfl⟩; rw [← H.out]; simp)
  · have g := negB_false c
    have H := Lib.hid (show a = amt a from by unfold amt; rw [if_neg c])
    go_enter Try.func52, Try.ntmps52
    go_wp2_with fail
    refine (below_c _ _ h0 h).mono ?_
    rintro e w' ⟨rfl, rfl⟩
    go_wp2_with fail
    go_ret
    exact ⟨ret_u H.out, rfl⟩

/-! ### numbers -/
theorem natdiv {a b : Int} (h0 : 0 ≤ a) (b0 : 0 ≤ b) (h : a < 18446744073709551616) : (((0 : Int).toNat * 18446744073709551616 + a.toNat) / b.toNat % 18446744073709551616 : Nat) = a / b := by
  obtain ⟨A, rfl⟩ := Int.eq_ofNat_of_zero_le h0
  obtain ⟨B, rfl⟩ := Int.eq_ofNat_of_zero_le b0
  rw [Int.toNat_natCast, Int.toNat_natCast, ← Int.natCast_ediv]
  have : (0 : Int).toNat * 18446744073709551616 + A = A := by simp
  rw [this]
  have l : A / B < 18446744073709551616 := Nat.lt_of_le_of_lt (Nat.div_le_self _ _) (by omega)
  rw [Nat.mod_eq_of_lt l]
theorem natmod {a b : Int} (h0 : 0 ≤ a) (b0 : 0 ≤ b) : (((0 : Int).toNat * 18446744073709551616 + a.toNat) % b.toNat : Nat) = a % b := by
  obtain ⟨A, rfl⟩ := Int.eq_ofNat_of_zero_le h0
  obtain ⟨B, rfl⟩ := Int.eq_ofNat_of_zero_le b0
  rw [Int.toNat_natCast, Int.toNat_natCast, ← Int.natCast_emod]
  have : (0 : Int).toNat * 18446744073709551616 + A = A := by simp
  rw [this]
theorem wrap_wrap64 (x : Int) : IntKind.u64.wrap (wrap64 x) = IntKind.u64.wrap x := by
  rw [IntKind.wrap_u64, IntKind.wrap_u64]; unfold wrap64; omega
theorem amt_pos {a : Int} (h : ¬ 9223372036854775808 ≤ a) (h0 : 0 ≤ a) : wrap64 a = amt a := by unfold amt wrap64; rw [if_neg h]; omega
theorem amt_neg {a : Int} (h : 9223372036854775808 ≤ a) (h1 : a < 18446744073709551616) : wrap64 a = -amt a := by unfold amt wrap64; rw [if_pos h]; omega
theorem ediv_le {x y : Int} (h0 : 0 ≤ x) (hx : x ≤ 9223372036854775808) (y0 : 0 ≤ y) : 0 ≤ x / y ∧ x / y ≤ 9223372036854775808 :=
  ⟨Int.ediv_nonneg h0 y0, Int.le_trans (Int.ediv_le_self _ h0) hx⟩
theorem wrap_id {x : Int} (h0 : 0 ≤ x) (h : x ≤ 9223372036854775808) : IntKind.u64.wrap x = x := by rw [IntKind.wrap_u64]; omega
/-- The quotient with signs, out of the amounts. -/
theorem divS_same {a b : Int} (ha0 : 0 ≤ a) (ha : a < 18446744073709551616) (hb0 : 0 ≤ b) (hb : b < 18446744073709551616) (hbn : ¬ b = 0) :
    (negB a = negB b → amt a / amt b = divS a b) ∧ (negB a ≠ negB b → IntKind.u64.wrap (-(amt a / amt b)) = divS a b) := by
  have ra := amt_range ha0 ha
  have rb := amt_range hb0 hb
  have rq := ediv_le ra.1 ra.2.1 rb.1
  unfold divS
  rw [if_neg hbn, wrap_wrap64]
  by_cases c1 : 9223372036854775808 ≤ a
  · by_cases c2 : 9223372036854775808 ≤ b
    · rw [negB_true c1, negB_true c2, amt_neg c1 ha, amt_neg c2 hb, Int.neg_tdiv, Int.tdiv_neg, Int.neg_neg, Int.tdiv_eq_ediv_of_nonneg ra.1, wrap_id rq.1 rq.2]
      simp
    · rw [negB_true c1, negB_false c2, amt_neg c1 ha, amt_pos c2 hb0, Int.neg_tdiv, Int.tdiv_eq_ediv_of_nonneg ra.1]
      simp
  · by_cases c2 : 9223372036854775808 ≤ b
    · rw [negB_false c1, negB_true c2, amt_pos c1 ha0, amt_neg c2 hb, Int.tdiv_neg, Int.tdiv_eq_ediv_of_nonneg ra.1]
      simp
    · rw [negB_false c1, negB_false c2, amt_pos c1 ha0, amt_pos c2 hb0, Int.tdiv_eq_ediv_of_nonneg ra.1, wrap_id rq.1 rq.2]
      simp
theorem wrap64_mod (a : Int) : wrap64 a % 18446744073709551616 = a % 18446744073709551616 := by unfold wrap64; omega
theorem mod_congr {a b d a' b' d' : Int} (h1 : a % 18446744073709551616 = a' % 18446744073709551616) (h2 : b % 18446744073709551616 = b' % 18446744073709551616) (h3 : d % 18446744073709551616 = d' % 18446744073709551616) :
    (a - b * d) % 18446744073709551616 = (a' - b' * d') % 18446744073709551616 := by
  have e : (b * d) % 18446744073709551616 = (b' * d') % 18446744073709551616 := by rw [Int.mul_emod, h2, h3, ← Int.mul_emod]
  rw [Int.sub_emod, h1, e, ← Int.sub_emod]
theorem remS_eq (a b : Int) : remS a b = (a - b * divS a b) % 18446744073709551616 := by
  unfold remS
  rw [IntKind.wrap_u64, IntKind.wrap_u64]
  generalize b * divS a b = q
  omega
theorem remS_same {a b : Int} (ha0 : 0 ≤ a) (ha : a < 18446744073709551616) (hb0 : 0 ≤ b) (hb : b < 18446744073709551616) (hbn : ¬ b = 0) :
    (negB a = false → amt a % amt b = remS a b) ∧ (negB a = true → IntKind.u64.wrap (-(amt a % amt b)) = remS a b) := by
  have ra := amt_range ha0 ha
  have rb := amt_range hb0 hb
  have hd : divS a b % 18446744073709551616 = (wrap64 a).tdiv (wrap64 b) % 18446744073709551616 := by
    unfold divS
    rw [if_neg hbn, wrap_wrap64, IntKind.wrap_u64]
    omega
  have key : remS a b = (wrap64 a).tmod (wrap64 b) % 18446744073709551616 := by
    rw [remS_eq, mod_congr (wrap64_mod a).symm (wrap64_mod b).symm hd, Int.tmod_def]
  rw [key]
  have r1 : 0 ≤ amt a % amt b := Int.emod_nonneg _ (by omega)
  have r2 : amt a % amt b < amt b := Int.emod_lt_of_pos _ (by omega)
  have e1 : (amt a).tmod (wrap64 b) = amt a % amt b := by
    by_cases c2 : 9223372036854775808 ≤ b
    · rw [amt_neg c2 hb, Int.tmod_neg, Int.tmod_eq_emod_of_nonneg ra.1]
    · rw [amt_pos c2 hb0, Int.tmod_eq_emod_of_nonneg ra.1]
  by_cases c1 : 9223372036854775808 ≤ a
  · rw [negB_true c1, amt_neg c1 ha, Int.neg_tmod, e1]
    refine ⟨(fun h => by cases h), fun _ => ?_⟩
    rw [IntKind.wrap_u64]
  · rw [negB_false c1, amt_pos c1 ha0, e1]
    refine ⟨fun _ => ?_, (fun h => by cases h)⟩
    generalize amt a % amt b = r at *
    omega
theorem remP_same {a b : Int} (ha0 : 0 ≤ a) (ha : a < 18446744073709551616) (hb0 : 0 ≤ b) (hbn : ¬ b = 0) : a % b = remP a b := by
  unfold remP divP
  rw [if_neg hbn, IntKind.wrap_u64, IntKind.wrap_u64]
  have h1 := Int.mul_ediv_add_emod a b
  have h2 := Int.emod_nonneg a hbn
  have h3 : b * (a / b) ≤ a := by omega
  have h4 : 0 ≤ b * (a / b) := Int.mul_nonneg hb0 (Int.ediv_nonneg ha0 hb0)
  generalize b * (a / b) = q at *
  omega
theorem rem_zero {a : Int} (ha0 : 0 ≤ a) (ha : a < 18446744073709551616) : a = remS a 0 ∧ a = remP a 0 := by
  unfold remS remP
  rw [Int.zero_mul, Int.zero_mul, IntKind.wrap_u64, IntKind.wrap_u64]
  omega

/-! ### Div, Rem -/
set_option maxHeartbeats 400000 in
theorem refDiv_plain (a b : Int) (w : World) (ha0 : 0 ≤ a) (ha : a < 18446744073709551616) (hb0 : 0 ≤ b) (hb : b < 18446744073709551616) :
    Calls Try.prog 46 #[.int .u64 a, .int .u64 b, .bool true] w fun e w' => e = .returned (.int .u64 (divP a b)) ∧ Below w.heap.size w w' := by
  by_cases c : b = 0
  · subst c
    go_enter Try.func46, Try.ntmps46
    go_wp2
    go_ret
    exact ⟨rfl, Below.refl _ _⟩
  · have g : (b == 0) = false := by simpa using c
    have H := Lib.hid (show ((((0 : Int).toNat * 18446744073709551616 + a.toNat) / b.toNat % 18446744073709551616 : Nat) : Int) = divP a b from by rw [natdiv ha0 hb0 ha]; unfold divP; rw [if_neg c])
    have b0 : 0 < b := by omega
    go_enter Try.func46, Try.ntmps46
    go_wp2_with fail
    refine (over_c _ _ _ _ (by omega) (by omega) ha0 ha b0 hb).mono ?_
    rintro e w1 ⟨rfl, hB⟩
    rw [H.out]
    go_wp2_with fail
    go_ret
    exact ⟨rfl, hB⟩
set_option maxHeartbeats 400000 in
theorem refRem_plain (a b : Int) (w : World) (ha0 : 0 ≤ a) (ha : a < 18446744073709551616) (hb0 : 0 ≤ b) (hb : b < 18446744073709551616) :
    Calls Try.prog 47 #[.int .u64 a, .int .u64 b, .bool true] w fun e w' => e = .returned (.int .u64 (remP a b)) ∧ Below w.heap.size w w' := by
  by_cases c : b = 0
  · subst c
    have H := Lib.hid (rem_zero ha0 ha)
    go_enter Try.func47, Try.ntmps47
    go_wp2
    go_ret
    exact ⟨ret_u H.out.2, Below.refl _ _⟩
  · have g : (b == 0) = false := by simpa using c
    have H := Lib.hid (show ((((0 : Int).toNat * 18446744073709551616 + a.toNat) % b.toNat : Nat) : Int) = remP a b from by rw [natmod ha0 hb0, remP_same ha0 ha hb0 c])
    have b0 : 0 < b := by omega
    go_enter Try.func47, Try.ntmps47
    go_wp2_with fail
    refine (over_c _ _ _ _ (by omega) (by omega) ha0 ha b0 hb).mono ?_
    rintro e w1 ⟨rfl, hB⟩
    rw [H.out]
    go_wp2_with fail
    go_ret
    exact ⟨rfl, hB⟩
set_option maxHeartbeats 1000000 in
theorem refDiv_sign (a b : Int) (w : World) (ha0 : 0 ≤ a) (ha : a < 18446744073709551616) (hb0 : 0 ≤ b) (hb : b < 18446744073709551616) :
    Calls Try.prog 46 #[.int .u64 a, .int .u64 b, .bool false] w fun e w' => e = .returned (.int .u64 (divS a b)) ∧ Below w.heap.size w w' := by
  by_cases c : b = 0
  · subst c
    go_enter Try.func46, Try.ntmps46
    go_wp2
    go_ret
    exact ⟨rfl, Below.refl _ _⟩
  · have g : (b == 0) = false := by simpa using c
    obtain ⟨a1, a2, _⟩ := amt_range ha0 ha
    obtain ⟨b1, b2, b3⟩ := amt_range hb0 hb
    have b4 := b3 c
    have HQ := Lib.hid (natdiv (b := amt b) a1 b1 (by omega))
    have rq := ediv_le a1 a2 b1
    have HS := Lib.hid (divS_same ha0 ha hb0 hb c)
    clear b3
    by_cases s : negB a = negB b
    · have H := Lib.hid (HS.out.1 s)
      have g2 : (negB a == negB b) = true := by rw [s]; simp
      have HSS := Lib.hid s
      clear s
      go_enter Try.func46, Try.ntmps46
      go_wp2_with fail
      refine (amount_c _ _ ha0 ha).mono ?_
      rintro e w' ⟨rfl, rfl⟩
      go_wp2_with fail
      refine (amount_c _ _ hb0 hb).mono ?_
      rintro e w' ⟨rfl, rfl⟩
      go_wp2_with fail
      refine (over_c _ _ _ _ (by omega) (by omega) a1 (by omega) b4 (by omega)).mono ?_
      rintro e w1 ⟨rfl, hB⟩
      rw [HQ.out, H.out]
      go_wp2_with fail
      refine (below_c _ _ ha0 ha).mono ?_
      rintro e w' ⟨rfl, rfl⟩
      go_wp2_with fail
      refine (below_c _ _ hb0 hb).mono ?_
      rintro e w' ⟨rfl, rfl⟩
      go_wp2_with fail
      go_ret
      exact ⟨rfl, hB⟩
    · have H := Lib.hid (HS.out.2 s)
      have g2 : (negB a == negB b) = false := by simpa using s
      have HSS := Lib.hid s
      clear s
      go_enter Try.func46, Try.ntmps46
      go_wp2_with fail
      refine (amount_c _ _ ha0 ha).mono ?_
      rintro e w' ⟨rfl, rfl⟩
      go_wp2_with fail
      refine (amount_c _ _ hb0 hb).mono ?_
      rintro e w' ⟨rfl, rfl⟩
      go_wp2_with fail
      refine (over_c _ _ _ _ (by omega) (by omega) a1 (by omega) b4 (by omega)).mono ?_
      rintro e w1 ⟨rfl, hB⟩
      rw [HQ.out]
      go_wp2_with fail
      refine (below_c _ _ ha0 ha).mono ?_
      rintro e w' ⟨rfl, rfl⟩
      go_wp2_with fail
      refine (below_c _ _ hb0 hb).mono ?_
      rintro e w' ⟨rfl, rfl⟩
      clear rq
      go_wp2_with fail
      go_ret
      first | exact ⟨ret_u H.out, hB⟩ | (refine ⟨ret_u ?_, hB⟩; rw [← H.out]; simp)
set_option maxHeartbeats 1000000 in
theorem refRem_sign (a b : Int) (w : World) (ha0 : 0 ≤ a) (ha : a < 18446744073709551616) (hb0 : 0 ≤ b) (hb : b < 18446744073709551616) :
    Calls Try.prog 47 #[.int .u64 a, .int .u64 b, .bool false] w fun e w' => e = .returned (.int .u64 (remS a b)) ∧ Below w.heap.size w w' := by
  by_cases c : b = 0
  · subst c
    have H := Lib.hid (rem_zero ha0 ha)
    go_enter Try.func47, Try.ntmps47
    go_wp2
    go_ret
    exact ⟨ret_u H.out.1, Below.refl _ _⟩
  · have g : (b == 0) = false := by simpa using c
    obtain ⟨a1, a2, _⟩ := amt_range ha0 ha
    obtain ⟨b1, b2, b3⟩ := amt_range hb0 hb
    have b4 := b3 c
    have HQ := Lib.hid (natmod (b := amt b) a1 b1)
    have HS := Lib.hid (remS_same ha0 ha hb0 hb c)
    clear b3
    by_cases s : negB a = false
    · have H := Lib.hid (HS.out.1 s)
      go_enter Try.func47, Try.ntmps47
      go_wp2_with fail
      refine (amount_c _ _ ha0 ha).mono ?_
      rintro e w' ⟨rfl, rfl⟩
      go_wp2_with fail
      refine (amount_c _ _ hb0 hb).mono ?_
      rintro e w' ⟨rfl, rfl⟩
      go_wp2_with fail
      refine (over_c _ _ _ _ (by omega) (by omega) a1 (by omega) b4 (by omega)).mono ?_
      rintro e w1 ⟨rfl, hB⟩
      rw [HQ.out, H.out]
      go_wp2_with fail
      refine (below_c _ _ ha0 ha).mono ?_
      rintro e w' ⟨rfl, rfl⟩
      go_wp2_with fail
      go_ret
      exact ⟨rfl, hB⟩
    · have s' : negB a = true := by simpa using s
      clear s
      have H := Lib.hid (HS.out.2 s')
      go_enter Try.func47, Try.ntmps47
      go_wp2_with fail
      refine (amount_c _ _ ha0 ha).mono ?_
      rintro e w' ⟨rfl, rfl⟩
      go_wp2_with fail
      refine (amount_c _ _ hb0 hb).mono ?_
      rintro e w' ⟨rfl, rfl⟩
      go_wp2_with fail
      refine (over_c _ _ _ _ (by omega) (by omega) a1 (by omega) b4 (by omega)).mono ?_
      rintro e w1 ⟨rfl, hB⟩
      rw [HQ.out]
      go_wp2_with fail
      refine (below_c _ _ ha0 ha).mono ?_
      rintro e w' ⟨rfl, rfl⟩
      go_wp2_with fail
      go_ret
      first | exact ⟨ret_u H.out, hB⟩ | (refine ⟨ret_u ?_, hB⟩; rw [← H.out]; simp)
end Go.Proofs.Ytgfdielipbcfeaa
