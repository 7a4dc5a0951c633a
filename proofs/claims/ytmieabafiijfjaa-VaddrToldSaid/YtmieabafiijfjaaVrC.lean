/-
  The law VaddrTold walked.
-/
import Derived.Test.YtmieabafiijfjaaVrB
import Derived.Test.YtmieabafiijfjaaVrP
set_option maxRecDepth 4000
namespace Go.Proofs.Ytmieabafiijfjaa
open Go.ChangeShapes Go.WideShapes Go.ChangeAt Go.RowKit Wd Csr Sta

/-- What is alike below a level. -/
def alkS (a b : Int) : Nat → Bool
  | 0 => a % 4096 == b % 4096
  | k + 1 => alkS a b k && (placeS a k == placeS b k)
theorem alk_eq {a b : Int} (ha : W64 a) (hb : W64 b) (ma : mayP a) (mb : mayP b) : alkS a b 3 = (a == b) := by
  by_cases e : a = b
  · subst e
    simp [alkS]
  · rw [beq_eq_false_iff_ne.2 e]
    cases h : alkS a b 3
    · rfl
    · exfalso
      simp only [alkS, Bool.and_eq_true, beq_iff_eq] at h
      exact e (told ha hb ma mb h.1.1.1 h.1.1.2 h.1.2 h.2)
set_option maxHeartbeats 8000000 in
theorem told_walk (w : World) (a b : Int) (ha0 : 0 ≤ a ∧ a ≤ 18446744073709551615) (hb0 : 0 ≤ b ∧ b ≤ 18446744073709551615) :
    Calls Try.prog 6 #[.int .u64 a, .int .u64 b] w fun e w' => e = .returned (.bool true) ∧ Below w.heap.size w w' := by
  have ha : W64 a := by unfold W64; omega
  have hb : W64 b := by unfold W64; omega
  have HB := Lib.hid (Below.refl w.heap.size w)
  have HMA := Lib.hid (fun W => pmay_c a ha W)
  have HMB := Lib.hid (fun W => pmay_c b hb W)
  have HLv := Lib.hid (fun W => live26_c W)
  have HAL := Lib.hid (fun (ma : decide (mayP a) = true) (mb : decide (mayP b) = true) => alk_eq ha hb (of_decide_eq_true ma) (of_decide_eq_true mb))
  have HA1 := Lib.hid (fun k => show alkS a b (k + 1) = (alkS a b k && (placeS a k == placeS b k)) from rfl)
  have hA0 : alkS a b 0 = (a % 4096 == b % 4096) := rfl
  have HPA := Lib.hid (fun n W => pplace_c a n ha W)
  have HPB := Lib.hid (fun n W => pplace_c b n hb W)
  have HS := Lib.hid (fun n W => psame_c a b n ha hb W)
  have HN := Lib.hid (fun n (h : n = 0 ∨ n = 1) (e : (pageS a n == pageS b n) = true) => show (pageS a (n + 1) == pageS b (n + 1)) = true by simpa using page_next h (by simpa using e))
  have w7 : W64 7 := by constructor <;> omega
  have HE := Lib.hid (fun n W => pentry_c 7 a n w7 ha W)
  have HG := Lib.hid (fun n W => ppage_c a n ha W)
  have HZ := Lib.hid (fun n W => psize_c n W)
  have HQ := Lib.hid (fun n (h : 0 ≤ n ∧ n ≤ 2) => entry_frame a (n := n) h)
  have HLo := Lib.hid (fun n (h : 0 ≤ n ∧ n ≤ 2) => page_low (a := a) (n := n) h)
  have HPl := Lib.hid (fun n (h : 0 ≤ n ∧ n ≤ 2) => (page_of (a := a) n h) ▸ (page_le ha h).1)
  have HEl := Lib.hid (fun n => show 0 ≤ entryS 7 a n ∧ entryS 7 a n < 32768 by
    have p := place_lt a n
    unfold entryS
    split
    · rw [cut7]; omega
    · omega)
  have HX := Lib.hid hA0
  have ha1 := ha.1
  have ha2 := ha.2
  have hb1 := hb.1
  have hb2 := hb.2
  have hra : a.tmod 4096 = a % 4096 := Int.tmod_eq_emod_of_nonneg ha1
  have hrb : b.tmod 4096 = b % 4096 := Int.tmod_eq_emod_of_nonneg hb1
  generalize alkS a b = al at *
  generalize hM1 : decide (mayP a) = m1 at *
  generalize hM2 : decide (mayP b) = m2 at *
  generalize pageS a = ga at *
  generalize pageS b = gb at *
  generalize placeS a = pa at *
  generalize placeS b = pb at *
  generalize entryS 7 a = en at *
  clear ha0 hb0 ha hb hM1 hM2 w7 hA0
  go_enter Try.func6, Try.ntmps6
  go_wp2_with fail
  go_loopw [5, 6] (fun x i wr => ∃ k : Nat, k ≤ 3 ∧ i = .int .i64 k ∧ x = .bool (al k) ∧ w = wr) (fun _ i _ => 3 - (intOf i).toNat)
  case atStart => exact ⟨0, by omega, rfl, by rw [HX.out], rfl⟩
  case round =>
    obtain ⟨k, hk, rfl, rfl, rfl⟩ := hrel
    obtain rfl | rfl | rfl | rfl : k = 0 ∨ k = 1 ∨ k = 2 ∨ k = 3 := by omega
    · have HK := Lib.hid (HA1.out 0)
      have HN2 := Lib.hid (HQ.out 0 (by omega))
      have HL2 := Lib.hid (HLo.out 0 (by omega))
      have HE2 := Lib.hid (HEl.out 0)
      have HP2 := Lib.hid (HPl.out 0 (by omega))
      have HSm := Lib.hid (HS.out 0)
      have HSn := Lib.hid (HS.out 1)
      have HNn := Lib.hid (HN.out 0 (by omega))
      have HEm := Lib.hid (HE.out 0)
      have HGm := Lib.hid (HG.out 0)
      have HZm := Lib.hid (HZ.out 0)
      have HPAm := Lib.hid (HPA.out 0)
      have HPBm := Lib.hid (HPB.out 0)
      clear HA1 HQ HLo HEl HPl HS HN HE HG HZ HPA HPB HX HMA HMB HLv HAL
      have HNn' := Lib.hid (show (ga 0 == gb 0) = true → (ga 1 == gb 1) = true from HNn.out)
      clear HNn
      generalize hss : (ga 0 == gb 0) = ss at *
      generalize hst : (ga 1 == gb 1) = st at *
      clear hss hst
      have HK' := Lib.hid (show al 1 = (al 0 && (pa 0 == pb 0)) from HK.out)
      clear HK
      generalize hpq : (pa 0 == pb 0) = pq at *
      have HZ' := Lib.hid (show ga 0 ≤ a ∧ a - ga 0 < 4096 from ⟨by have := HL2.out.1; omega, HL2.out.2⟩)
      have hz1 := HZ'.out.1
      have hz2 := HZ'.out.2
      have hz0 := HP2.out
      have he1 := HE2.out.1
      have he2 := HE2.out.2
      have heq := HN2.out
      have het : (en 0).tdiv 4096 = 7 := by rw [Int.tdiv_eq_ediv_of_nonneg he1]; exact heq
      clear HL2 HP2 HE2 HN2 HZ'
      have HZs := Lib.hid (fun W => show Calls Try.prog 20 #[.int .i64 0] W fun e w' => e = .returned (.int .u64 4096) ∧ W = w' from HZm.out W)
      clear HZm
      generalize en 0 = ev at *
      generalize ga 0 = gv at *
      generalize hal : al 0 = ak at *
      cases ak
      · go_wp2_with fail
        refine (HSm.out _).mono ?_
        rintro e w1 ⟨rfl, rfl⟩
        cases ss
        · go_wp2_with fail
          refine (HEm.out _).mono ?_
          rintro e w1 ⟨rfl, rfl⟩
          go_wp2_with fail
          refine (HGm.out _).mono ?_
          rintro e w1 ⟨rfl, rfl⟩
          go_wp2_with fail
          refine (HZs.out _).mono ?_
          rintro e w1 ⟨rfl, rfl⟩
          go_wp2_with fail
          go_roundw
          case rel => exact ⟨1, by omega, rfl, by rw [HK'.out]; rfl, trivial⟩
          case measure => simp [intOf]
        · have hst1 := HNn'.out rfl
          subst hst1
          go_wp2_with fail
          refine (HSn.out _).mono ?_
          rintro e w1 ⟨rfl, rfl⟩
          go_wp2_with fail
          refine (HEm.out _).mono ?_
          rintro e w1 ⟨rfl, rfl⟩
          go_wp2_with fail
          refine (HGm.out _).mono ?_
          rintro e w1 ⟨rfl, rfl⟩
          go_wp2_with fail
          refine (HZs.out _).mono ?_
          rintro e w1 ⟨rfl, rfl⟩
          go_wp2_with fail
          go_roundw
          case rel => exact ⟨1, by omega, rfl, by rw [HK'.out]; rfl, trivial⟩
          case measure => simp [intOf]
      · go_wp2_with fail
        refine (HPAm.out _).mono ?_
        rintro e w1 ⟨rfl, rfl⟩
        go_wp2_with fail
        refine (HPBm.out _).mono ?_
        rintro e w1 ⟨rfl, rfl⟩
        go_wp2_with fail
        refine (HSm.out _).mono ?_
        rintro e w1 ⟨rfl, rfl⟩
        cases ss
        · go_wp2_with fail
          refine (HEm.out _).mono ?_
          rintro e w1 ⟨rfl, rfl⟩
          go_wp2_with fail
          refine (HGm.out _).mono ?_
          rintro e w1 ⟨rfl, rfl⟩
          go_wp2_with fail
          refine (HZs.out _).mono ?_
          rintro e w1 ⟨rfl, rfl⟩
          go_wp2_with fail
          go_roundw
          case rel => exact ⟨1, by omega, rfl, by rw [HK'.out]; rfl, trivial⟩
          case measure => simp [intOf]
        · have hst1 := HNn'.out rfl
          subst hst1
          go_wp2_with fail
          refine (HSn.out _).mono ?_
          rintro e w1 ⟨rfl, rfl⟩
          go_wp2_with fail
          refine (HEm.out _).mono ?_
          rintro e w1 ⟨rfl, rfl⟩
          go_wp2_with fail
          refine (HGm.out _).mono ?_
          rintro e w1 ⟨rfl, rfl⟩
          go_wp2_with fail
          refine (HZs.out _).mono ?_
          rintro e w1 ⟨rfl, rfl⟩
          go_wp2_with fail
          go_roundw
          case rel => exact ⟨1, by omega, rfl, by rw [HK'.out]; rfl, trivial⟩
          case measure => simp [intOf]
    · have HK := Lib.hid (HA1.out 1)
      have HN2 := Lib.hid (HQ.out 1 (by omega))
      have HL2 := Lib.hid (HLo.out 1 (by omega))
      have HE2 := Lib.hid (HEl.out 1)
      have HP2 := Lib.hid (HPl.out 1 (by omega))
      have HSm := Lib.hid (HS.out 1)
      have HSn := Lib.hid (HS.out 2)
      have HNn := Lib.hid (HN.out 1 (by omega))
      have HEm := Lib.hid (HE.out 1)
      have HGm := Lib.hid (HG.out 1)
      have HZm := Lib.hid (HZ.out 1)
      have HPAm := Lib.hid (HPA.out 1)
      have HPBm := Lib.hid (HPB.out 1)
      clear HA1 HQ HLo HEl HPl HS HN HE HG HZ HPA HPB HX HMA HMB HLv HAL
      have HNn' := Lib.hid (show (ga 1 == gb 1) = true → (ga 2 == gb 2) = true from HNn.out)
      clear HNn
      generalize hss : (ga 1 == gb 1) = ss at *
      generalize hst : (ga 2 == gb 2) = st at *
      clear hss hst
      have HK' := Lib.hid (show al 2 = (al 1 && (pa 1 == pb 1)) from HK.out)
      clear HK
      generalize hpq : (pa 1 == pb 1) = pq at *
      have HZ' := Lib.hid (show ga 1 ≤ a ∧ a - ga 1 < 2097152 from ⟨by have := HL2.out.1; omega, HL2.out.2⟩)
      have hz1 := HZ'.out.1
      have hz2 := HZ'.out.2
      have hz0 := HP2.out
      have he1 := HE2.out.1
      have he2 := HE2.out.2
      have heq := HN2.out
      have het : (en 1).tdiv 4096 = 7 := by rw [Int.tdiv_eq_ediv_of_nonneg he1]; exact heq
      clear HL2 HP2 HE2 HN2 HZ'
      have HZs := Lib.hid (fun W => show Calls Try.prog 20 #[.int .i64 1] W fun e w' => e = .returned (.int .u64 2097152) ∧ W = w' from HZm.out W)
      clear HZm
      generalize en 1 = ev at *
      generalize ga 1 = gv at *
      generalize hal : al 1 = ak at *
      cases ak
      · go_wp2_with fail
        refine (HSm.out _).mono ?_
        rintro e w1 ⟨rfl, rfl⟩
        cases ss
        · go_wp2_with fail
          refine (HEm.out _).mono ?_
          rintro e w1 ⟨rfl, rfl⟩
          go_wp2_with fail
          refine (HGm.out _).mono ?_
          rintro e w1 ⟨rfl, rfl⟩
          go_wp2_with fail
          refine (HZs.out _).mono ?_
          rintro e w1 ⟨rfl, rfl⟩
          go_wp2_with fail
          go_roundw
          case rel => exact ⟨2, by omega, rfl, by rw [HK'.out]; rfl, trivial⟩
          case measure => simp [intOf]
        · have hst1 := HNn'.out rfl
          subst hst1
          go_wp2_with fail
          refine (HSn.out _).mono ?_
          rintro e w1 ⟨rfl, rfl⟩
          go_wp2_with fail
          refine (HEm.out _).mono ?_
          rintro e w1 ⟨rfl, rfl⟩
          go_wp2_with fail
          refine (HGm.out _).mono ?_
          rintro e w1 ⟨rfl, rfl⟩
          go_wp2_with fail
          refine (HZs.out _).mono ?_
          rintro e w1 ⟨rfl, rfl⟩
          go_wp2_with fail
          go_roundw
          case rel => exact ⟨2, by omega, rfl, by rw [HK'.out]; rfl, trivial⟩
          case measure => simp [intOf]
      · go_wp2_with fail
        refine (HPAm.out _).mono ?_
        rintro e w1 ⟨rfl, rfl⟩
        go_wp2_with fail
        refine (HPBm.out _).mono ?_
        rintro e w1 ⟨rfl, rfl⟩
        go_wp2_with fail
        refine (HSm.out _).mono ?_
        rintro e w1 ⟨rfl, rfl⟩
        cases ss
        · go_wp2_with fail
          refine (HEm.out _).mono ?_
          rintro e w1 ⟨rfl, rfl⟩
          go_wp2_with fail
          refine (HGm.out _).mono ?_
          rintro e w1 ⟨rfl, rfl⟩
          go_wp2_with fail
          refine (HZs.out _).mono ?_
          rintro e w1 ⟨rfl, rfl⟩
          go_wp2_with fail
          go_roundw
          case rel => exact ⟨2, by omega, rfl, by rw [HK'.out]; rfl, trivial⟩
          case measure => simp [intOf]
        · have hst1 := HNn'.out rfl
          subst hst1
          go_wp2_with fail
          refine (HSn.out _).mono ?_
          rintro e w1 ⟨rfl, rfl⟩
          go_wp2_with fail
          refine (HEm.out _).mono ?_
          rintro e w1 ⟨rfl, rfl⟩
          go_wp2_with fail
          refine (HGm.out _).mono ?_
          rintro e w1 ⟨rfl, rfl⟩
          go_wp2_with fail
          refine (HZs.out _).mono ?_
          rintro e w1 ⟨rfl, rfl⟩
          go_wp2_with fail
          go_roundw
          case rel => exact ⟨2, by omega, rfl, by rw [HK'.out]; rfl, trivial⟩
          case measure => simp [intOf]
    · have HK := Lib.hid (HA1.out 2)
      have HN2 := Lib.hid (HQ.out 2 (by omega))
      have HL2 := Lib.hid (HLo.out 2 (by omega))
      have HE2 := Lib.hid (HEl.out 2)
      have HP2 := Lib.hid (HPl.out 2 (by omega))
      have HSm := Lib.hid (HS.out 2)
      have HEm := Lib.hid (HE.out 2)
      have HGm := Lib.hid (HG.out 2)
      have HZm := Lib.hid (HZ.out 2)
      have HPAm := Lib.hid (HPA.out 2)
      have HPBm := Lib.hid (HPB.out 2)
      clear HA1 HQ HLo HEl HPl HS HN HE HG HZ HPA HPB HX HMA HMB HLv HAL
      generalize hss : (ga 2 == gb 2) = ss at *
      clear hss
      have HK' := Lib.hid (show al 3 = (al 2 && (pa 2 == pb 2)) from HK.out)
      clear HK
      generalize hpq : (pa 2 == pb 2) = pq at *
      have HZ' := Lib.hid (show ga 2 ≤ a ∧ a - ga 2 < 1073741824 from ⟨by have := HL2.out.1; omega, HL2.out.2⟩)
      have hz1 := HZ'.out.1
      have hz2 := HZ'.out.2
      have hz0 := HP2.out
      have he1 := HE2.out.1
      have he2 := HE2.out.2
      have heq := HN2.out
      have het : (en 2).tdiv 4096 = 7 := by rw [Int.tdiv_eq_ediv_of_nonneg he1]; exact heq
      clear HL2 HP2 HE2 HN2 HZ'
      have HZs := Lib.hid (fun W => show Calls Try.prog 20 #[.int .i64 2] W fun e w' => e = .returned (.int .u64 1073741824) ∧ W = w' from HZm.out W)
      clear HZm
      generalize en 2 = ev at *
      generalize ga 2 = gv at *
      generalize hal : al 2 = ak at *
      cases ak
      · go_wp2_with fail
        refine (HSm.out _).mono ?_
        rintro e w1 ⟨rfl, rfl⟩
        cases ss
        · go_wp2_with fail
          refine (HEm.out _).mono ?_
          rintro e w1 ⟨rfl, rfl⟩
          go_wp2_with fail
          refine (HGm.out _).mono ?_
          rintro e w1 ⟨rfl, rfl⟩
          go_wp2_with fail
          refine (HZs.out _).mono ?_
          rintro e w1 ⟨rfl, rfl⟩
          go_wp2_with fail
          go_roundw
          case rel => exact ⟨3, by omega, rfl, by rw [HK'.out]; rfl, trivial⟩
          case measure => simp [intOf]
        · go_wp2_with fail
          refine (HEm.out _).mono ?_
          rintro e w1 ⟨rfl, rfl⟩
          go_wp2_with fail
          refine (HGm.out _).mono ?_
          rintro e w1 ⟨rfl, rfl⟩
          go_wp2_with fail
          refine (HZs.out _).mono ?_
          rintro e w1 ⟨rfl, rfl⟩
          go_wp2_with fail
          go_roundw
          case rel => exact ⟨3, by omega, rfl, by rw [HK'.out]; rfl, trivial⟩
          case measure => simp [intOf]
      · go_wp2_with fail
        refine (HPAm.out _).mono ?_
        rintro e w1 ⟨rfl, rfl⟩
        go_wp2_with fail
        refine (HPBm.out _).mono ?_
        rintro e w1 ⟨rfl, rfl⟩
        go_wp2_with fail
        refine (HSm.out _).mono ?_
        rintro e w1 ⟨rfl, rfl⟩
        cases ss
        · go_wp2_with fail
          refine (HEm.out _).mono ?_
          rintro e w1 ⟨rfl, rfl⟩
          go_wp2_with fail
          refine (HGm.out _).mono ?_
          rintro e w1 ⟨rfl, rfl⟩
          go_wp2_with fail
          refine (HZs.out _).mono ?_
          rintro e w1 ⟨rfl, rfl⟩
          go_wp2_with fail
          go_roundw
          case rel => exact ⟨3, by omega, rfl, by rw [HK'.out]; rfl, trivial⟩
          case measure => simp [intOf]
        · go_wp2_with fail
          refine (HEm.out _).mono ?_
          rintro e w1 ⟨rfl, rfl⟩
          go_wp2_with fail
          refine (HGm.out _).mono ?_
          rintro e w1 ⟨rfl, rfl⟩
          go_wp2_with fail
          refine (HZs.out _).mono ?_
          rintro e w1 ⟨rfl, rfl⟩
          go_wp2_with fail
          go_roundw
          case rel => exact ⟨3, by omega, rfl, by rw [HK'.out]; rfl, trivial⟩
          case measure => simp [intOf]
    · clear HA1 HQ HLo HEl HPl HS HN HE HG HZ HPA HPB HX
      generalize al 3 = a3 at *
      cases m1
      · go_wp2_with fail
        refine (HMA.out _).mono ?_
        rintro e w1 ⟨rfl, rfl⟩
        go_wp2_with fail
        refine (HLv.out _).mono ?_
        rintro e w1 ⟨rfl, rfl⟩
        go_wp2_with fail
        go_ret
        exact ⟨rfl, HB.out⟩
      · go_wp2_with fail
        refine (HMA.out _).mono ?_
        rintro e w1 ⟨rfl, rfl⟩
        cases m2
        · go_wp2_with fail
          refine (HMB.out _).mono ?_
          rintro e w1 ⟨rfl, rfl⟩
          go_wp2_with fail
          refine (HLv.out _).mono ?_
          rintro e w1 ⟨rfl, rfl⟩
          go_wp2_with fail
          go_ret
          exact ⟨rfl, HB.out⟩
        · have hal := HAL.out (by trivial) (by trivial)
          clear HAL
          cases hab : (a == b)
          all_goals
            rw [hab] at hal
            subst hal
            go_wp2_with fail
            refine (HMB.out _).mono ?_
            rintro e w1 ⟨rfl, rfl⟩
            go_wp2_with fail
            refine (HLv.out _).mono ?_
            rintro e w1 ⟨rfl, rfl⟩
            go_wp2_with fail
            go_ret
            exact ⟨rfl, HB.out⟩
end Go.Proofs.Ytmieabafiijfjaa
