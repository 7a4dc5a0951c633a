/-
  The reference of layer 19: Legal.
-/
import Derived.Test.YtfjdalepaacmgaaDoorCsrF
import Derived.Test.YtfjdalepaacmgaaDoorRefC
set_option maxRecDepth 20000
namespace Go.Proofs.YtfjdalepaacmgaaDoor
open Go.ChangeShapes Go.WideShapes Go.ChangeAt Go.RowKit Wd Csr

theorem legS_def {n old v m : Int} (hm : m = maskC n) : legS n old v = if n = 768 ∧ cutS (nextS m old v) 11 2 = 2 then putS (nextS m old v) 11 2 (cutS old 11 2) else if n = 384 ∧ cutS (nextS m old v) 60 4 ≠ 0 ∧ cutS (nextS m old v) 60 4 ≠ 8 then old else nextS m old v := by
  subst hm
  unfold legS
  generalize nextS (maskC n) old v = x
  by_cases h : n = 768 ∧ cutS x 11 2 = 2
  · rw [if_pos h, if_pos h]
  · rw [if_neg h, if_neg h]
    by_cases h2 : n = 384 ∧ badMode x
    · rw [if_pos h2]; exact (if_pos h2).symm
    · rw [if_neg h2]; exact (if_neg h2).symm
set_option maxHeartbeats 4000000 in
theorem rlegal_c (n old v : Int) (ho : 0 ≤ old ∧ old < 18446744073709551616) (hv : 0 ≤ v ∧ v < 18446744073709551616) (w : World) :
    Calls Tryd.prog 87 #[.int .i64 n, .int .u64 old, .int .u64 v] w fun e w' => e = .returned (.int .u64 (legS n old v)) ∧ Below w.heap.size w w' := by
  have HC := Lib.hid (rof_c n w)
  obtain ⟨a, s, m, hr, -, hm, -⟩ := of_parts n
  rw [hr] at HC
  have f2 := fld_rr2 a s m
  have HM := Lib.hid (show 0 ≤ m ∧ m < 18446744073709551616 by rw [hm]; exact mask_range n)
  have HO := Lib.hid ho
  have HV := Lib.hid hv
  have HX := Lib.hid (nextS_range m old v)
  have HL := Lib.hid (show legS n old v = if n = 768 ∧ cutS (nextS m old v) 11 2 = 2 then putS (nextS m old v) 11 2 (cutS old 11 2) else if n = 384 ∧ cutS (nextS m old v) 60 4 ≠ 0 ∧ cutS (nextS m old v) 60 4 ≠ 8 then old else nextS m old v from legS_def hm)
  obtain ⟨i0, hi, hz0, hz1, hz2⟩ := info_parts info_u64
  obtain ⟨f, hf⟩ : ∃ f : Nat → Bool, f = fun (i : Nat) => if tb m i then tb v i else tb old i := ⟨_, rfl⟩
  have HF := Lib.hid hf
  clear hf hr hm ho hv
  go_enter Tryd.func87, Tryd.ntmps87
  go_wp2_with fail
  refine HC.out.mono ?_
  rintro e w1 ⟨rfl, hb⟩
  have HB1 := Lib.hid hb
  clear hb
  go_wp2_with fail
  go_loopw [8, 9] (fun l i wr => ∃ k : Nat, k ≤ 64 ∧ i = .int .i64 k ∧ wr.ownsRow w1.heap.size 24 1 l k (bl f k) ∧ Below w1.heap.size w1 wr) (fun _ i _ => 64 - (intOf i).toNat)
  case atStart => exact ⟨0, Nat.zero_le _, rfl, World.ownsRow_nil _ _ _ _, Below.refl _ _⟩
  case round =>
    obtain ⟨k, hk, rfl, hown, hnx⟩ := hrel
    have hsz := hnx.size
    have HW := Lib.hid hown
    have HNX := Lib.hid hnx
    clear hown hnx
    by_cases hlt : k < 64
    · have hd1 : decide ((k : Int) < 64) = true := decide_eq_true (by omega)
      cases hbit : tb m k
      · have HB := Lib.hid (show tbI old k = f k by rw [HF.out, tbI_nat old k hlt]; simp [hbit])
        have t1 : (bi (tbI m k) == 1) = false := by rw [tbI_nat m k hlt, hbit]; rfl
        clear hbit
        go_wp2_with fail
        refine (bit_c m k _ HM.out.1 HM.out.2).mono ?_
        rintro e w2 ⟨rfl, rfl⟩
        go_wp2_with fail
        refine (bit_c old k _ HO.out.1 HO.out.2).mono ?_
        rintro e w2 ⟨rfl, rfl⟩
        go_wp2_with (at_builtin; refine wpList_append_own _ rfl _ _ 82 rfl w1.heap.size 24 i0 (.int .u64 0) 1 8 Tryd.underlying82 hi hz0 hz1 hz2 rfl (by decide) _ _ _ rfl (HW.out.alloc _) ⟨wr.heap.size, 0, none⟩ 1 1 [.int .u64 (bi (tbI old k))] rfl rfl news_one (one_cell _) (by unfold maxLen; omega) (by omega) (by simp; omega) ?_; intro v' w3 hown' hgrow _)
        have R := rel_app hsz HB.out HW.out hown' hgrow HNX.out
        go_roundw
        case rel => exact ⟨k + 1, by omega, by go_num, R.1, R.2⟩
        case measure => simp [intOf]; omega
      · have HB := Lib.hid (show tbI v k = f k by rw [HF.out, tbI_nat v k hlt]; simp [hbit])
        have t1 : (bi (tbI m k) == 1) = true := by rw [tbI_nat m k hlt, hbit]; rfl
        clear hbit
        go_wp2_with fail
        refine (bit_c m k _ HM.out.1 HM.out.2).mono ?_
        rintro e w2 ⟨rfl, rfl⟩
        go_wp2_with fail
        refine (bit_c v k _ HV.out.1 HV.out.2).mono ?_
        rintro e w2 ⟨rfl, rfl⟩
        go_wp2_with (at_builtin; refine wpList_append_own _ rfl _ _ 82 rfl w1.heap.size 24 i0 (.int .u64 0) 1 8 Tryd.underlying82 hi hz0 hz1 hz2 rfl (by decide) _ _ _ rfl (HW.out.alloc _) ⟨wr.heap.size, 0, none⟩ 1 1 [.int .u64 (bi (tbI v k))] rfl rfl news_one (one_cell _) (by unfold maxLen; omega) (by omega) (by simp; omega) ?_; intro v' w3 hown' hgrow _)
        have R := rel_app hsz HB.out HW.out hown' hgrow HNX.out
        go_roundw
        case rel => exact ⟨k + 1, by omega, by go_num, R.1, R.2⟩
        case measure => simp [intOf]; omega
    · obtain rfl : k = 64 := by omega
      have HX2 := Lib.hid (show ((sumTo f 64 : Nat) : Int) = nextS m old v by rw [HF.out]; rfl)
      have HBW := Lib.hid (HB1.out.trans (HNX.out.mono HB1.out.size))
      have HOF := Lib.hid (of_c f 64 _ w1.heap.size _ (by omega) (by omega) HW.out)
      rw [HX2.out] at HOF
      generalize nextS m old v = x at *
      have HCx := Lib.hid (fun W => refCut_c x 11 2 W HX.out.1 HX.out.2 (by omega) (by omega))
      have HCo := Lib.hid (fun W => refCut_c old 11 2 W HO.out.1 HO.out.2 (by omega) (by omega))
      have HP := Lib.hid (fun W => refPut_c x 11 2 (cutS old 11 2) W HX.out.1 HX.out.2 (by omega) (by omega) (cutS_range _ _ _).1 (cutS_range _ _ _).2)
      have HCy := Lib.hid (fun W y (hy : 0 ≤ y ∧ y < 18446744073709551616) => refCut_c y 60 4 W hy.1 hy.2 (by omega) (by omega))
      have HPR := Lib.hid (putS_range x 11 2 (cutS old 11 2))
      clear hsz
      by_cases h1 : n = 768
      · subst h1
        have e2 : ((768 : Int) == 384) = false := by decide
        by_cases h2 : cutS x 11 2 = 2
        · have t2 : (cutS x 11 2 == 2) = true := by simpa using h2
          have HL2 := Lib.hid (show legS 768 old v = putS x 11 2 (cutS old 11 2) by rw [HL.out, if_pos ⟨rfl, h2⟩])
          clear h2 HL
          generalize cutS x 11 2 = c at *
          generalize cutS old 11 2 = d at *
          generalize hy : putS x 11 2 d = y at *
          go_wp2_with fail
          refine HOF.out.mono ?_
          rintro e w3 ⟨rfl, rfl⟩
          go_wp2_with fail
          refine (HCx.out _).mono ?_
          rintro e w3 ⟨rfl, hb⟩
          have HB3 := Lib.hid (HBW.out.trans (hb.mono HBW.out.size))
          clear hb
          go_wp2_with fail
          refine (HCo.out _).mono ?_
          rintro e w4 ⟨rfl, hb⟩
          have HB4 := Lib.hid (HB3.out.trans (hb.mono HB3.out.size))
          clear hb
          go_wp2_with fail
          refine (HP.out _).mono ?_
          rintro e w5 ⟨rfl, hb⟩
          have HB5 := Lib.hid (HB4.out.trans (hb.mono HB4.out.size))
          clear hb
          go_wp2_with fail
          refine (HCy.out _ y HPR.out).mono ?_
          rintro e w6 ⟨rfl, hb⟩
          have HB6 := Lib.hid (HB5.out.trans (hb.mono HB5.out.size))
          clear hb
          go_wp2_with fail
          go_ret
          exact ⟨by rw [HL2.out]; rfl, HB6.out⟩
        · have t2 : (cutS x 11 2 == 2) = false := by simpa using h2
          have HL2 := Lib.hid (show legS 768 old v = x by rw [HL.out, if_neg (fun h => h2 h.2), if_neg (by omega)])
          clear h2 HL
          generalize cutS x 11 2 = c at *
          go_wp2_with fail
          refine HOF.out.mono ?_
          rintro e w3 ⟨rfl, rfl⟩
          go_wp2_with fail
          refine (HCx.out _).mono ?_
          rintro e w3 ⟨rfl, hb⟩
          have HB3 := Lib.hid (HBW.out.trans (hb.mono HBW.out.size))
          clear hb
          go_wp2_with fail
          refine (HCy.out _ x HX.out).mono ?_
          rintro e w6 ⟨rfl, hb⟩
          have HB6 := Lib.hid (HB3.out.trans (hb.mono HB3.out.size))
          clear hb
          go_wp2_with fail
          go_ret
          exact ⟨by rw [HL2.out]; rfl, HB6.out⟩
      · have e1 : (n == 768) = false := by simpa using h1
        by_cases h3 : n = 384
        · subst h3
          have HCZ := Lib.hid (fun W => HCy.out W x HX.out)
          by_cases h0 : cutS x 60 4 = 0
          · have t0 : (cutS x 60 4 != 0) = false := by simpa using h0
            have HL2 := Lib.hid (show legS 384 old v = x by rw [HL.out, if_neg (by omega), if_neg (fun h => h.2.1 h0)])
            clear h0 HL HCy h1
            generalize cutS x 60 4 = c at *
            go_wp2_with fail
            refine HOF.out.mono ?_
            rintro e w3 ⟨rfl, rfl⟩
            go_wp2_with fail
            refine (HCZ.out _).mono ?_
            rintro e w6 ⟨rfl, hb⟩
            have HB6 := Lib.hid (HBW.out.trans (hb.mono HBW.out.size))
            clear hb
            go_wp2_with fail
            go_ret
            exact ⟨by rw [HL2.out]; rfl, HB6.out⟩
          · have t0 : (cutS x 60 4 != 0) = true := by simpa using h0
            by_cases h8 : cutS x 60 4 = 8
            · have t8 : (cutS x 60 4 != 8) = false := by simpa using h8
              have HL2 := Lib.hid (show legS 384 old v = x by rw [HL.out, if_neg (by omega), if_neg (fun h => h.2.2 h8)])
              clear h0 h8 HL HCy h1
              generalize cutS x 60 4 = c at *
              go_wp2_with fail
              refine HOF.out.mono ?_
              rintro e w3 ⟨rfl, rfl⟩
              go_wp2_with fail
              refine (HCZ.out _).mono ?_
              rintro e w6 ⟨rfl, hb⟩
              have HB6 := Lib.hid (HBW.out.trans (hb.mono HBW.out.size))
              clear hb
              go_wp2_with fail
              go_ret
              exact ⟨by rw [HL2.out]; rfl, HB6.out⟩
            · have t8 : (cutS x 60 4 != 8) = true := by simpa using h8
              have HL2 := Lib.hid (show legS 384 old v = old by rw [HL.out, if_neg (by omega), if_pos ⟨rfl, h0, h8⟩])
              clear h0 h8 HL HCy h1
              generalize cutS x 60 4 = c at *
              go_wp2_with fail
              refine HOF.out.mono ?_
              rintro e w3 ⟨rfl, rfl⟩
              go_wp2_with fail
              refine (HCZ.out _).mono ?_
              rintro e w6 ⟨rfl, hb⟩
              have HB6 := Lib.hid (HBW.out.trans (hb.mono HBW.out.size))
              clear hb
              go_wp2_with fail
              go_ret
              exact ⟨by rw [HL2.out]; rfl, HB6.out⟩
        · have e3 : (n == 384) = false := by simpa using h3
          have HL2 := Lib.hid (show legS n old v = x by rw [HL.out, if_neg (fun h => h1 h.1), if_neg (fun h => h3 h.1)])
          have HCZ := Lib.hid (fun W => HCy.out W x HX.out)
          clear HL HCy h1 h3
          generalize cutS x 60 4 = c at *
          go_wp2_with fail
          refine HOF.out.mono ?_
          rintro e w3 ⟨rfl, rfl⟩
          go_wp2_with fail
          refine (HCZ.out _).mono ?_
          rintro e w6 ⟨rfl, hb⟩
          have HB6 := Lib.hid (HBW.out.trans (hb.mono HBW.out.size))
          clear hb
          go_wp2_with fail
          go_ret
          exact ⟨by rw [HL2.out]; rfl, HB6.out⟩
end Go.Proofs.YtfjdalepaacmgaaDoor
