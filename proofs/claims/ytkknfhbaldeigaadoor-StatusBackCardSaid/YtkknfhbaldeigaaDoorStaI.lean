/-
  StatusBack walked.
-/
import Derived.Test.YtkknfhbaldeigaaDoorStaE
import Derived.Test.YtkknfhbaldeigaaDoorStaF
namespace Go.Proofs.YtkknfhbaldeigaaDoor
open Go.ChangeShapes Go.WideShapes Go.ChangeAt Go.RowKit Wd Csr Sta

theorem has_mie (x : Int) : hasS x ⟨#[109, 105, 101]⟩ = (cutS x 3 1 == 1) := by unfold hasS; rw [get_mie]
theorem has_sie (x : Int) : hasS x ⟨#[115, 105, 101]⟩ = (cutS x 1 1 == 1) := by unfold hasS; rw [get_sie]
theorem enterV3 {x p : Int} (h : p = 0 ∨ p = 1 ∨ p = 3) : enterV x p 3 = enterM x p := by rcases h with rfl | rfl | rfl <;> rfl
theorem enterV1 {x p : Int} (h : p = 0 ∨ p = 1) : enterV x p 1 = enterU x (bi (p == 1)) := by rcases h with rfl | rfl <;> rfl
theorem leaveV3 (x : Int) : leaveV x 3 = leaveM x ∧ leaveP x 3 = mppS x := by unfold leaveV leaveP; exact ⟨if_pos rfl, if_pos rfl⟩
theorem leaveV1 (x : Int) : leaveV x 1 = leaveU x ∧ leaveP x 1 = cutS x 8 1 := by unfold leaveV leaveP; rw [if_neg (by omega), if_pos rfl, if_neg (by omega), if_pos rfl]; exact ⟨rfl, rfl⟩
theorem lets33 (x : Int) : letsS x 3 3 = (cutS x 3 1 == 1) := by unfold letsS; rw [if_pos rfl]; simp
theorem lets11 (x : Int) : letsS x 1 1 = (cutS x 1 1 == 1) := by unfold letsS; rw [if_neg (by omega), if_pos rfl]; simp
theorem lets_same {x y : Int} (p : Int) (h : cutS y 3 1 = cutS x 3 1) : letsS y p 3 = letsS x p 3 := by
  unfold letsS; rw [if_pos rfl, if_pos rfl, h]
theorem enterV_range {x p d : Int} (hx : W64 x) : W64 (enterV x p d) := by
  unfold enterV enterM enterU
  repeat' split
  all_goals first | exact hx | exact putS_range _ _ _ _
theorem leaveV_range {x d : Int} (hx : W64 x) : W64 (leaveV x d) := by
  unfold leaveV leaveM leaveU backM
  repeat' split
  all_goals first | exact hx | exact putS_range _ _ _ _
/-- All that StatusBack asks of the plain numbers. -/
structure BackOk (x v p : Int) : Prop where
  b3 : leaveP (enterV x p 3) 3 = p
  l3 : letsS (enterV x p 3) 3 3 = false
  h3 : hasS (leaveV (enterV x p 3) 3) ⟨#[109, 105, 101]⟩ = hasS x ⟨#[109, 105, 101]⟩
  s3 : letsS (leaveV (enterV x p 3) 3) p 3 = letsS x p 3
  b1 : p ≠ 3 → leaveP (enterV x p 1) 1 = p
  l1 : p ≠ 3 → letsS (enterV x p 1) 1 1 = false
  h1 : p ≠ 3 → hasS (leaveV (enterV x p 1) 1) ⟨#[115, 105, 101]⟩ = hasS x ⟨#[115, 105, 101]⟩
  v1 : bits .andNot .u64 (viewS (legS 256 x v)) 8589934592 = bits .andNot .u64 (viewS v) 8589934592
  v2 : bits .andNot .u64 (legS 256 x v) (viewS 18446744073709551615) = bits .andNot .u64 x (viewS 18446744073709551615)
theorem back_ok {x v p : Int} (hx : W64 x) (hv : W64 v) (hp : p = 0 ∨ p = 1 ∨ p = 3) : BackOk x v p := by
  have e3 := enterV3 (x := x) hp
  refine ⟨?_, ?_, ?_, ?_, ?_, ?_, ?_, lay_seen hx hv, lay_rest hx⟩
  · rw [e3, (leaveV3 _).2, trapM_back x hp]
  · rw [e3, lets33, trapM_in]; rfl
  · rw [has_mie, has_mie, e3, (leaveV3 _).1, trapM_let]
  · rw [e3, (leaveV3 _).1]; exact lets_same p (trapM_let x p)
  · intro h
    rw [enterV1 (by omega), (leaveV1 _).2, trapU_back]
    have : p = 0 ∨ p = 1 := by omega
    rcases this with rfl | rfl <;> rfl
  · intro h
    rw [enterV1 (by omega), lets11, trapU_in]; rfl
  · intro h
    rw [has_sie, has_sie, enterV1 (by omega), (leaveV1 _).1, trapU_let]
theorem idx_cells (w : World) (k : Nat) (hk : k < 3) : (w.alloc (.cells #[.int .i64 0, .int .i64 1, .int .i64 3] 33)).cell? ⟨w.heap.size, k, none⟩ = some (.int .i64 ([0, 1, 3].getD k 0)) := by
  rw [(CsAt.new w 33 #[.int .i64 0, .int .i64 1, .int .i64 3]).cell k]
  match k, hk with
  | 0, _ => rfl
  | 1, _ => rfl
  | 2, _ => rfl
set_option maxHeartbeats 4000000 in
set_option maxRecDepth 100000 in
theorem back20_walk (x v u : Int) (hx0 : 0 ≤ x ∧ x ≤ 18446744073709551615) (hv0 : 0 ≤ v ∧ v ≤ 18446744073709551615) (hu : 0 ≤ u ∧ u ≤ 255) (w : World) (hN : RowsIn w) :
    Calls Tryd.prog 7 #[.int .u64 x, .int .u64 v, .int .u8 u] w fun e w' => e = .returned (.bool true) ∧ Below w.heap.size w w' := by
  have hx : W64 x := by unfold W64; omega
  have hv : W64 v := by unfold W64; omega
  have HN := Lib.hid hN
  obtain ⟨k, hk⟩ : ∃ k : Nat, u % 3 = k := Int.eq_ofNat_of_zero_le (by omega)
  have hk3 : k < 3 := by omega
  obtain ⟨p, hp⟩ : ∃ p : Int, p = [0, 1, 3].getD k 0 := ⟨_, rfl⟩
  have hpp : p = 0 ∨ p = 1 ∨ p = 3 := by
    rw [hp]
    match k, hk3 with
    | 0, _ => exact .inl rfl
    | 1, _ => exact .inr (.inl rfl)
    | 2, _ => exact .inr (.inr rfl)
  obtain ⟨o1, o2, o3, o4, o5, o6, o7, o8, o9⟩ := back_ok hx hv hpp
  have hE3 := enterV_range (p := p) (d := 3) hx
  have hE1 := enterV_range (p := p) (d := 1) hx
  have hL3 := leaveV_range (d := 3) hE3
  have hL1 := leaveV_range (d := 1) hE1
  have HE3 := Lib.hid (fun W => enter_c x p 3 hx W)
  have HE1 := Lib.hid (fun W => enter_c x p 1 hx W)
  have HL3 := Lib.hid (fun W => leave_c (enterV x p 3) 3 hE3 W)
  have HL1 := Lib.hid (fun W => leave_c (enterV x p 1) 1 hE1 W)
  have HT3 := Lib.hid (fun W => lets_c (enterV x p 3) 3 3 hE3 W)
  have HT1 := Lib.hid (fun W => lets_c (enterV x p 1) 1 1 hE1 W)
  have HM := Lib.hid (fun W => has_c (leaveV (enterV x p 3) 3) hL3 ⟨#[109, 105, 101]⟩ W)
  have HM0 := Lib.hid (fun W => has_c x hx ⟨#[109, 105, 101]⟩ W)
  have HS1 := Lib.hid (fun W => has_c (leaveV (enterV x p 1) 1) hL1 ⟨#[115, 105, 101]⟩ W)
  have HS0 := Lib.hid (fun W => has_c x hx ⟨#[115, 105, 101]⟩ W)
  have HQ := Lib.hid (fun W => lets_c (leaveV (enterV x p 3) 3) p 3 hL3 W)
  have HQ0 := Lib.hid (fun W => lets_c x p 3 hx W)
  have HY := Lib.hid (fun W h => lay_c x v hx hv W h)
  have HV1 := Lib.hid (fun W => view_c (legS 256 x v) W)
  have HV2 := Lib.hid (fun W => view_c v W)
  have HV3 := Lib.hid (fun W => view_c 18446744073709551615 W)
  have HLv := Lib.hid (fun W => live20_c W)
  have HC := Lib.hid (idx_cells w k hk3)
  rw [← hp] at HC
  rw [o1] at HL3
  rw [o2] at HT3
  rw [o3] at HM
  rw [o4] at HQ
  have O5 := Lib.hid o5
  have O6 := Lib.hid o6
  have O7 := Lib.hid o7
  have hum : u.tmod 3 = (k : Nat) := by rw [Int.tmod_eq_emod_of_nonneg hu.1]; exact hk
  clear hN hx0 hv0 o1 o2 o3 o4 o5 o6 o7 hE3 hE1 hL3 hL1 hx hv
  generalize leaveV (enterV x p 3) 3 = y3 at *
  generalize enterV x p 3 = x3 at *
  generalize hasS x ⟨#[109, 105, 101]⟩ = m0 at *
  generalize letsS x p 3 = q0 at *
  generalize legS 256 x v = z at *
  generalize viewS z = vz at *
  generalize viewS v = vv at *
  generalize viewS 18446744073709551615 = va at *
  have t1 : (m0 == m0) = true := by simp
  have t2 : (q0 == q0) = true := by simp
  have t3 : (p == p) = true := by simp
  have hB0 : Below w.heap.size w (w.alloc (.cells #[.int .i64 0, .int .i64 1, .int .i64 3] 33)) := (Below.refl _ _).alloc (Nat.le_refl _) _
  have hc := HC.out
  have HB0 := Lib.hid hB0
  clear hB0 HC hp hk hu
  have hk3' : (k : Int) < 3 := by omega
  by_cases h3 : p = 3
  · have e3 : (p != 3) = false := by simpa using h3
    clear O5 O6 O7 HE1 HL1 HT1 HS1 HS0 hpp h3
    go_enter Tryd.func7, Tryd.ntmps7
    go_wp2_with fail
    refine (HE3.out _).mono ?_
    rintro e v1 ⟨rfl, hb⟩
    replace HB0 := Lib.hid (HB0.out.trans (hb.mono HB0.out.size))
    clear hb
    go_wp2_with fail
    refine (HL3.out _).mono ?_
    rintro e v2 ⟨rfl, hb⟩
    replace HB0 := Lib.hid (HB0.out.trans (hb.mono HB0.out.size))
    clear hb
    go_wp2_with fail
    refine (HT3.out _).mono ?_
    rintro e v3 ⟨rfl, hb⟩
    replace HB0 := Lib.hid (HB0.out.trans (hb.mono HB0.out.size))
    clear hb
    go_wp2_with fail
    refine (HM.out _).mono ?_
    rintro e v4 ⟨rfl, hb⟩
    replace HB0 := Lib.hid (HB0.out.trans (hb.mono HB0.out.size))
    clear hb
    go_wp2_with fail
    refine (HM0.out _).mono ?_
    rintro e v5 ⟨rfl, hb⟩
    replace HB0 := Lib.hid (HB0.out.trans (hb.mono HB0.out.size))
    clear hb
    go_wp2_with fail
    refine (HQ.out _).mono ?_
    rintro e v6 ⟨rfl, hb⟩
    replace HB0 := Lib.hid (HB0.out.trans (hb.mono HB0.out.size))
    clear hb
    go_wp2_with fail
    refine (HQ0.out _).mono ?_
    rintro e v7 ⟨rfl, hb⟩
    replace HB0 := Lib.hid (HB0.out.trans (hb.mono HB0.out.size))
    clear hb
    go_wp2_with fail
    refine (HY.out _ (HN.out.low HB0.out)).mono ?_
    rintro e v13 ⟨rfl, hb⟩
    replace HB0 := Lib.hid (HB0.out.trans (hb.mono HB0.out.size))
    clear hb
    go_wp2_with fail
    refine (HV1.out _).mono ?_
    rintro e v14 ⟨rfl, rfl⟩
    go_wp2_with fail
    refine (HV2.out _).mono ?_
    rintro e v15 ⟨rfl, rfl⟩
    go_wp2_with fail
    refine (HV3.out _).mono ?_
    rintro e v16 ⟨rfl, rfl⟩
    go_wp2_with fail
    refine (HV3.out _).mono ?_
    rintro e v17 ⟨rfl, rfl⟩
    go_wp2_with fail
    refine (HLv.out _).mono ?_
    rintro e v18 ⟨rfl, hb⟩
    replace HB0 := Lib.hid (HB0.out.trans (hb.mono HB0.out.size))
    clear hb
    go_wp2_with fail
    go_ret
    exact ⟨rfl, HB0.out⟩
  · have e3 : (p != 3) = true := by simpa using h3
    have o5 := O5.out h3
    have o6 := O6.out h3
    have o7 := O7.out h3
    rw [o5] at HL1
    rw [o6] at HT1
    rw [o7] at HS1
    clear O5 O6 O7 o5 o6 o7 hpp h3
    generalize leaveV (enterV x p 1) 1 = y1 at *
    generalize enterV x p 1 = x1 at *
    generalize hasS x ⟨#[115, 105, 101]⟩ = s0 at *
    have t4 : (s0 == s0) = true := by simp
    go_enter Tryd.func7, Tryd.ntmps7
    go_wp2_with fail
    refine (HE3.out _).mono ?_
    rintro e v1 ⟨rfl, hb⟩
    replace HB0 := Lib.hid (HB0.out.trans (hb.mono HB0.out.size))
    clear hb
    go_wp2_with fail
    refine (HL3.out _).mono ?_
    rintro e v2 ⟨rfl, hb⟩
    replace HB0 := Lib.hid (HB0.out.trans (hb.mono HB0.out.size))
    clear hb
    go_wp2_with fail
    refine (HT3.out _).mono ?_
    rintro e v3 ⟨rfl, hb⟩
    replace HB0 := Lib.hid (HB0.out.trans (hb.mono HB0.out.size))
    clear hb
    go_wp2_with fail
    refine (HM.out _).mono ?_
    rintro e v4 ⟨rfl, hb⟩
    replace HB0 := Lib.hid (HB0.out.trans (hb.mono HB0.out.size))
    clear hb
    go_wp2_with fail
    refine (HM0.out _).mono ?_
    rintro e v5 ⟨rfl, hb⟩
    replace HB0 := Lib.hid (HB0.out.trans (hb.mono HB0.out.size))
    clear hb
    go_wp2_with fail
    refine (HQ.out _).mono ?_
    rintro e v6 ⟨rfl, hb⟩
    replace HB0 := Lib.hid (HB0.out.trans (hb.mono HB0.out.size))
    clear hb
    go_wp2_with fail
    refine (HQ0.out _).mono ?_
    rintro e v7 ⟨rfl, hb⟩
    replace HB0 := Lib.hid (HB0.out.trans (hb.mono HB0.out.size))
    clear hb
    go_wp2_with fail
    refine (HE1.out _).mono ?_
    rintro e v8 ⟨rfl, hb⟩
    replace HB0 := Lib.hid (HB0.out.trans (hb.mono HB0.out.size))
    clear hb
    go_wp2_with fail
    refine (HL1.out _).mono ?_
    rintro e v9 ⟨rfl, hb⟩
    replace HB0 := Lib.hid (HB0.out.trans (hb.mono HB0.out.size))
    clear hb
    go_wp2_with fail
    refine (HT1.out _).mono ?_
    rintro e v10 ⟨rfl, hb⟩
    replace HB0 := Lib.hid (HB0.out.trans (hb.mono HB0.out.size))
    clear hb
    go_wp2_with fail
    refine (HS1.out _).mono ?_
    rintro e v11 ⟨rfl, hb⟩
    replace HB0 := Lib.hid (HB0.out.trans (hb.mono HB0.out.size))
    clear hb
    go_wp2_with fail
    refine (HS0.out _).mono ?_
    rintro e v12 ⟨rfl, hb⟩
    replace HB0 := Lib.hid (HB0.out.trans (hb.mono HB0.out.size))
    clear hb
    go_wp2_with fail
    refine (HY.out _ (HN.out.low HB0.out)).mono ?_
    rintro e v13 ⟨rfl, hb⟩
    replace HB0 := Lib.hid (HB0.out.trans (hb.mono HB0.out.size))
    clear hb
    go_wp2_with fail
    refine (HV1.out _).mono ?_
    rintro e v14 ⟨rfl, rfl⟩
    go_wp2_with fail
    refine (HV2.out _).mono ?_
    rintro e v15 ⟨rfl, rfl⟩
    go_wp2_with fail
    refine (HV3.out _).mono ?_
    rintro e v16 ⟨rfl, rfl⟩
    go_wp2_with fail
    refine (HV3.out _).mono ?_
    rintro e v17 ⟨rfl, rfl⟩
    go_wp2_with fail
    refine (HLv.out _).mono ?_
    rintro e v18 ⟨rfl, hb⟩
    replace HB0 := Lib.hid (HB0.out.trans (hb.mono HB0.out.size))
    clear hb
    go_wp2_with fail
    go_ret
    exact ⟨rfl, HB0.out⟩
end Go.Proofs.YtkknfhbaldeigaaDoor
