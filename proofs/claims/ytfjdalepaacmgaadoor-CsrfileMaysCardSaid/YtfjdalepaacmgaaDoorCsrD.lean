/-
  Contracts of csr.Least, ReadOnly, privilege, May, Legal.
-/
import Derived.Test.YtfjdalepaacmgaaDoorCsrC
set_option maxRecDepth 20000
namespace Go.Proofs.YtfjdalepaacmgaaDoor
open Go.ChangeShapes Go.WideShapes Go.ChangeAt Go.RowKit Wd Csr

set_option maxHeartbeats 1000000 in
theorem cleast_c (n : Int) (w : World) (hN : RowsIn w) : Calls Tryd.prog 97 #[.int .i64 n] w fun e w' => e = .returned (.int .i64 (leastC n)) ∧ Below w.heap.size w w' := by
  have HC := Lib.hid (known_c n w hN)
  clear hN
  cases hk : known n
  · rw [hk] at HC
    have HL := Lib.hid (show leastC n = 3 by unfold leastC; rw [hk]; rfl)
    clear hk
    go_enter Tryd.func97, Tryd.ntmps97
    go_wp2_with fail
    refine HC.out.mono ?_
    rintro e w1 ⟨rfl, hb⟩
    have HB := Lib.hid hb
    clear hb
    go_wp2_with fail
    go_ret
    exact ⟨by rw [HL.out]; rfl, HB.out⟩
  · rw [hk] at HC
    have HL := Lib.hid (show leastC n = bits .and .i64 (n / 256) 3 by unfold leastC; rw [hk, and3]; rfl)
    have HK := Lib.hid (known_low hk)
    clear hk
    go_enter Tryd.func97, Tryd.ntmps97
    go_wp2_with fail
    refine HC.out.mono ?_
    rintro e w1 ⟨rfl, hb⟩
    have HB := Lib.hid hb
    clear hb
    go_wp2_with fail
    go_ret
    exact ⟨by rw [HL.out]; rfl, HB.out⟩
set_option maxHeartbeats 1000000 in
theorem cro_c (n : Int) (w : World) (hN : RowsIn w) : Calls Tryd.prog 98 #[.int .i64 n] w fun e w' => e = .returned (.bool (roC n)) ∧ Below w.heap.size w w' := by
  have HC := Lib.hid (known_c n w hN)
  clear hN
  cases hk : known n
  · rw [hk] at HC
    have HL := Lib.hid (show roC n = false by unfold roC; rw [hk]; rfl)
    clear hk
    go_enter Tryd.func98, Tryd.ntmps98
    go_wp2_with fail
    refine HC.out.mono ?_
    rintro e w1 ⟨rfl, hb⟩
    have HB := Lib.hid hb
    clear hb
    go_wp2_with fail
    go_ret
    exact ⟨by rw [HL.out]; rfl, HB.out⟩
  · rw [hk] at HC
    have HL := Lib.hid (show roC n = (bits .and .i64 (n / 1024) 3 == 3) by unfold roC; rw [hk, and3]; rfl)
    clear hk
    go_enter Tryd.func98, Tryd.ntmps98
    go_wp2_with fail
    refine HC.out.mono ?_
    rintro e w1 ⟨rfl, hb⟩
    have HB := Lib.hid hb
    clear hb
    go_wp2_with fail
    go_ret
    exact ⟨by rw [HL.out]; rfl, HB.out⟩
set_option maxHeartbeats 1000000 in
theorem cprv_c (p : Int) (w : World) : Calls Tryd.prog 96 #[.int .i64 p] w fun e w' => e = .returned (.bool (isPrv p)) ∧ w' = w := by
  have HL := Lib.hid (show isPrv p = ((p == 0 || p == 1) || p == 3) from rfl)
  cases h0 : (p == 0) <;> cases h1 : (p == 1) <;> cases h3 : (p == 3)
  all_goals
    rw [h0, h1, h3] at HL
    go_enter Tryd.func96, Tryd.ntmps96
    go_wp2_with fail
    go_ret
    exact ⟨by rw [HL.out]; rfl, rfl⟩
theorem mayC_is (n p : Int) (wr : Bool) : mayC n p wr = if known n && isPrv p && !decide (p < leastC n) then (!wr || !roC n) else false := by
  unfold mayC
  cases known n <;> cases isPrv p <;> cases decide (p < leastC n) <;> simp
set_option maxHeartbeats 2000000 in
theorem cmay_c (n p : Int) (wr : Bool) (w : World) (hN : RowsIn w) : Calls Tryd.prog 74 #[.int .i64 n, .int .i64 p, .bool wr] w fun e w' => e = .returned (.bool (mayC n p wr)) ∧ Below w.heap.size w w' := by
  have HN := Lib.hid hN
  clear hN
  have HK := Lib.hid (fun W (hb : Below w.heap.size w W) => known_c n W (HN.out.low hb))
  have HP := Lib.hid (fun W => cprv_c p W)
  have HL := Lib.hid (fun W (hb : Below w.heap.size w W) => cleast_c n W (HN.out.low hb))
  have HR := Lib.hid (fun W (hb : Below w.heap.size w W) => cro_c n W (HN.out.low hb))
  have HM := Lib.hid (mayC_is n p wr)
  generalize known n = k at *
  generalize isPrv p = q at *
  generalize roC n = r at *
  generalize leastC n = l at *
  cases k
  · go_enter Tryd.func74, Tryd.ntmps74
    go_wp2_with fail
    refine (HK.out _ (Below.refl _ _)).mono ?_
    rintro e w1 ⟨rfl, hb⟩
    have HB := Lib.hid hb
    clear hb
    go_wp2_with fail
    go_ret
    exact ⟨by rw [HM.out]; rfl, HB.out⟩
  · cases q
    · go_enter Tryd.func74, Tryd.ntmps74
      go_wp2_with fail
      refine (HK.out _ (Below.refl _ _)).mono ?_
      rintro e w1 ⟨rfl, hb⟩
      have HB := Lib.hid hb
      clear hb
      go_wp2_with fail
      refine (HP.out _).mono ?_
      rintro e w2 ⟨rfl, rfl⟩
      go_wp2_with fail
      go_ret
      exact ⟨by rw [HM.out]; rfl, HB.out⟩
    · cases hd : decide (p < l)
      · cases wr
        · go_enter Tryd.func74, Tryd.ntmps74
          go_wp2_with fail
          refine (HK.out _ (Below.refl _ _)).mono ?_
          rintro e w1 ⟨rfl, hb⟩
          have HB := Lib.hid hb
          clear hb
          go_wp2_with fail
          refine (HP.out _).mono ?_
          rintro e w2 ⟨rfl, rfl⟩
          go_wp2_with fail
          refine (HL.out _ HB.out).mono ?_
          rintro e w3 ⟨rfl, hb⟩
          have HB3 := Lib.hid (HB.out.trans (hb.mono HB.out.size))
          clear hb
          go_wp2_with fail
          go_ret
          exact ⟨by rw [HM.out, hd]; rfl, HB3.out⟩
        · go_enter Tryd.func74, Tryd.ntmps74
          go_wp2_with fail
          refine (HK.out _ (Below.refl _ _)).mono ?_
          rintro e w1 ⟨rfl, hb⟩
          have HB := Lib.hid hb
          clear hb
          go_wp2_with fail
          refine (HP.out _).mono ?_
          rintro e w2 ⟨rfl, rfl⟩
          go_wp2_with fail
          refine (HL.out _ HB.out).mono ?_
          rintro e w3 ⟨rfl, hb⟩
          have HB3 := Lib.hid (HB.out.trans (hb.mono HB.out.size))
          clear hb
          go_wp2_with fail
          refine (HR.out _ HB3.out).mono ?_
          rintro e w4 ⟨rfl, hb⟩
          have HB4 := Lib.hid (HB3.out.trans (hb.mono HB3.out.size))
          clear hb
          go_wp2_with fail
          go_ret
          exact ⟨by rw [HM.out, hd]; cases r <;> rfl, HB4.out⟩
      · go_enter Tryd.func74, Tryd.ntmps74
        go_wp2_with fail
        refine (HK.out _ (Below.refl _ _)).mono ?_
        rintro e w1 ⟨rfl, hb⟩
        have HB := Lib.hid hb
        clear hb
        go_wp2_with fail
        refine (HP.out _).mono ?_
        rintro e w2 ⟨rfl, rfl⟩
        go_wp2_with fail
        refine (HL.out _ HB.out).mono ?_
        rintro e w3 ⟨rfl, hb⟩
        have HB3 := Lib.hid (HB.out.trans (hb.mono HB.out.size))
        clear hb
        go_wp2_with fail
        go_ret
        exact ⟨by rw [HM.out, hd]; rfl, HB3.out⟩
/-- The code's own formula of what a register becomes. -/
theorem legS_768 {old v : Int} (_hv : 0 ≤ v ∧ v < 18446744073709551616) : legS 768 old v = if bits .and .u64 (nextS (maskC 768) old v) 6144 = 4096 then putS (nextS (maskC 768) old v) 11 2 (cutS old 11 2) else nextS (maskC 768) old v := by
  have a := nextS_range (maskC 768) old v
  unfold legS
  by_cases h : cutS (nextS (maskC 768) old v) 11 2 = 2
  · rw [if_pos ⟨rfl, h⟩, if_pos ((prev_iff a).2 h)]
  · rw [if_neg (fun hh => h hh.2), if_neg (fun hh => h ((prev_iff a).1 hh)), if_neg (by omega)]
theorem legS_384 {old v : Int} : legS 384 old v = if nextS (maskC 384) old v / 2 ^ 60 ≠ 0 ∧ nextS (maskC 384) old v / 2 ^ 60 ≠ 8 then old else nextS (maskC 384) old v := by
  have a := nextS_range (maskC 384) old v
  unfold legS
  rw [if_neg (by omega), mode_cut a]
  by_cases h : badMode (nextS (maskC 384) old v)
  · rw [if_pos ⟨rfl, h⟩]; exact (if_pos h).symm
  · rw [if_neg (fun hh => h hh.2)]; exact (if_neg h).symm
theorem legS_rest {n old v : Int} (h : n ≠ 768) (h2 : n ≠ 384) : legS n old v = nextS (maskC n) old v := by
  unfold legS
  rw [if_neg (fun hh => h hh.1), if_neg (fun hh => h2 hh.1)]
set_option maxHeartbeats 2000000 in
theorem clegal_c (n old v : Int) (ho : 0 ≤ old ∧ old < 18446744073709551616) (hv : 0 ≤ v ∧ v < 18446744073709551616) (w : World) (hN : RowsIn w) : Calls Tryd.prog 71 #[.int .i64 n, .int .u64 old, .int .u64 v] w fun e w' => e = .returned (.int .u64 (legS n old v)) ∧ Below w.heap.size w w' := by
  have HC := Lib.hid (cmask_c n w hN)
  have HO := Lib.hid (next_or (mask_range n) ho hv)
  have HX := Lib.hid (nextS_range (maskC n) old v)
  have HP := Lib.hid (prev_put (nextS_range (maskC n) old v) ho)
  clear hN
  by_cases h1 : n = 768
  · subst h1
    have HL := Lib.hid (legS_768 (old := old) hv)
    clear ho hv
    generalize legS 768 old v = z at *
    generalize nextS (maskC 768) old v = x at *
    generalize maskC 768 = m at *
    generalize cutS old 11 2 = c at *
    generalize putS x 11 2 c = y at *
    by_cases hq : bits .and .u64 x 6144 = 4096
    · have hq1 : (bits .and .u64 x 6144 == 4096) = true := by simpa using hq
      rw [if_pos hq] at HL
      clear hq
      go_enter Tryd.func71, Tryd.ntmps71
      go_wp2_with fail
      refine HC.out.mono ?_
      rintro e w1 ⟨rfl, hb⟩
      have HB := Lib.hid hb
      clear hb
      have hor := HO.out
      go_wp2_with fail
      go_ret
      exact ⟨by rw [HL.out]; exact congrArg (fun t => Ending.returned (Value.int .u64 t)) HP.out, HB.out⟩
    · have hq1 : (bits .and .u64 x 6144 == 4096) = false := by simpa using hq
      rw [if_neg hq] at HL
      clear hq
      go_enter Tryd.func71, Tryd.ntmps71
      go_wp2_with fail
      refine HC.out.mono ?_
      rintro e w1 ⟨rfl, hb⟩
      have HB := Lib.hid hb
      clear hb
      have hor := HO.out
      go_wp2_with fail
      go_ret
      exact ⟨by rw [HL.out]; rfl, HB.out⟩
  · by_cases h2 : n = 384
    · subst h2
      have HL := Lib.hid (legS_384 (old := old) (v := v))
      have e1 : ((384 : Int) == 768) = false := by decide
      clear ho hv h1
      generalize legS 384 old v = z at *
      generalize nextS (maskC 384) old v = x at *
      generalize maskC 384 = m at *
      have hx60 : x / 2 ^ 60 = x / 1152921504606846976 := rfl
      rw [hx60] at HL
      clear hx60
      generalize hq : x / 1152921504606846976 = q at *
      by_cases h0 : q = 0
      · have hq0 : (q != 0) = false := by simpa using h0
        rw [if_neg (fun hh => hh.1 h0)] at HL
        clear h0
        go_enter Tryd.func71, Tryd.ntmps71
        go_wp2_with fail
        refine HC.out.mono ?_
        rintro e w1 ⟨rfl, hb⟩
        have HB := Lib.hid hb
        clear hb
        have hor := HO.out
        go_wp2_with fail
        go_ret
        exact ⟨by rw [HL.out]; rfl, HB.out⟩
      · have hq0 : (q != 0) = true := by simpa using h0
        by_cases h8 : q = 8
        · have hq8 : (q != 8) = false := by simpa using h8
          rw [if_neg (fun hh => hh.2 h8)] at HL
          clear h0 h8
          go_enter Tryd.func71, Tryd.ntmps71
          go_wp2_with fail
          refine HC.out.mono ?_
          rintro e w1 ⟨rfl, hb⟩
          have HB := Lib.hid hb
          clear hb
          have hor := HO.out
          go_wp2_with fail
          go_ret
          exact ⟨by rw [HL.out]; rfl, HB.out⟩
        · have hq8 : (q != 8) = true := by simpa using h8
          rw [if_pos ⟨h0, h8⟩] at HL
          clear h0 h8
          go_enter Tryd.func71, Tryd.ntmps71
          go_wp2_with fail
          refine HC.out.mono ?_
          rintro e w1 ⟨rfl, hb⟩
          have HB := Lib.hid hb
          clear hb
          have hor := HO.out
          go_wp2_with fail
          go_ret
          exact ⟨by rw [HL.out]; rfl, HB.out⟩
    · have HL := Lib.hid (legS_rest (old := old) (v := v) h1 h2)
      have e1 : (n == 768) = false := by simpa using h1
      have e2 : (n == 384) = false := by simpa using h2
      clear ho hv h1 h2
      generalize legS n old v = z at *
      generalize nextS (maskC n) old v = x at *
      generalize maskC n = m at *
      go_enter Tryd.func71, Tryd.ntmps71
      go_wp2_with fail
      refine HC.out.mono ?_
      rintro e w1 ⟨rfl, hb⟩
      have HB := Lib.hid hb
      clear hb
      have hor := HO.out
      go_wp2_with fail
      go_ret
      exact ⟨by rw [HL.out]; rfl, HB.out⟩
end Go.Proofs.YtfjdalepaacmgaaDoor
