/-
  The contract of math/bits.Div64 over this program: a wide number whose upper word is less than the divisor, divided by a word.
-/
import Derived.Test.YtgkenodiaehnnaaLen
import Derived.Test.YtgkenodiaehnnaaKnuth
import Derived.Deep.QuietTactic
import Derived.BigQuiet
namespace Go.Proofs.Ytgkenodiaehnnaa
open Go.ChangeShapes Go.WideShapes Go.ChangeAt Go.RowKit Wd
set_option linter.unusedVariables false

theorem guess_facts {Y u d q r : Int} (h : Kn.Fits Y u d) (g : Kn.Guess Y u d q r) : 0 ≤ q ∧ q ≤ 4294967297 ∧ 0 ≤ r ∧ r < 4294967296 ∧ 0 ≤ q * (Y % 4294967296) ∧ q * (Y % 4294967296) < 18446744073709551616 := by
  have a := g.2.2.2.1
  have b := g.2.2.2.2.1
  have c := g.2.1
  have e := g.2.2.1
  have f := Kn.prod h g
  exact ⟨a, b, c, e, f.1, f.2⟩
theorem wrap_small {x : Int} (h0 : 0 ≤ x) (h : x < 18446744073709551616) : IntKind.u64.wrap x = x := by rw [IntKind.wrap_u64]; omega
/-- The first guess: its product does not wrap. -/
theorem guess_first {Y u d a : Int} (h : Kn.Fits Y u d) (ha : Y / 4294967296 = a) (a0 : 0 < a) : ∃ M : Int, IntKind.u64.wrap (u / a * a) = M ∧ 0 ≤ M ∧ M ≤ u ∧ Kn.Guess Y u d (u / a) (u - M) ∧ 0 ≤ u / a ∧ u / a ≤ 4294967297 := by
  have g := Kn.start h
  rw [ha] at g
  obtain ⟨q0, q1, r0, r1, _, _⟩ := guess_facts h g
  have m0 : 0 ≤ u / a * a := Int.mul_nonneg q0 (by omega)
  have u1 := h.u1
  have y1 := h.y1
  refine ⟨u / a * a, wrap_small m0 (by omega), m0, by omega, g, q0, q1⟩

set_option maxHeartbeats 16000000 in
set_option maxRecDepth 100000 in
theorem div64_up (hi lo y Y u e yn1 yn0 un1 un0 Q1 R1 Q0 R V1 V2 : Int) (S : Nat) (w : World) (l0 : 0 ≤ lo) (l1 : lo < 18446744073709551616) (h0 : 0 < hi) (h1 : hi < y) (y1 : y < 18446744073709551616)
    (hS : S ≤ 63) (HS : Hid (lz y = S)) (hY : IntKind.u64.wrap (y * 2 ^ S) = Y) (hn1 : Y / 4294967296 = yn1) (hn0 : bits .and .u64 Y 4294967295 = yn0) (Y0 : 9223372036854775808 ≤ Y) (Y1 : Y < 18446744073709551616)
    (hu : bits .or .u64 (IntKind.u64.wrap (hi * 2 ^ S)) (lo / 2 ^ (64 - S)) = u) (he : IntKind.u64.wrap (lo * 2 ^ S) = e) (hd1 : e / 4294967296 = un1) (hd0 : bits .and .u64 e 4294967295 = un0)
    (u0 : 0 ≤ u) (u1 : u < Y) (e0 : 0 ≤ e) (e1 : e < 18446744073709551616)
    (a0 : 0 < yn1) (a1 : yn1 < 4294967296) (b0 : 0 ≤ yn0) (b1 : yn0 < 4294967296) (d0 : 0 ≤ un1) (d1 : un1 < 4294967296) (f0 : 0 ≤ un0) (f1 : un0 < 4294967296) (HN0 : Hid (yn0 = Y % 4294967296))
    (HQ1 : Hid (Q1 = (u * 4294967296 + un1) / Y)) (HR1 : Hid (IntKind.u64.wrap (IntKind.u64.wrap (IntKind.u64.wrap (u * 4294967296) + un1) - IntKind.u64.wrap (Q1 * Y)) = R1)) (hR10 : 0 ≤ R1) (hR11 : R1 < Y) (hQ10 : 0 ≤ Q1) (hQ11 : Q1 < 4294967296)
    (HQ0 : Hid (Q0 = (R1 * 4294967296 + un0) / Y)) (HR : Hid (IntKind.u64.wrap (IntKind.u64.wrap (IntKind.u64.wrap (R1 * 4294967296) + un0) - IntKind.u64.wrap (Q0 * Y)) = R)) (hR0 : 0 ≤ R) (hQ00 : 0 ≤ Q0) (hQ01 : Q0 < 4294967296)
    (HV : Hid (Q1 * 4294967296 + Q0 = V1 ∧ R / 2 ^ S = V2)) :
    Calls Try.prog 68 #[.int .u64 hi, .int .u64 lo, .int .u64 y] w fun e w' => e = .returned (.tuple #[.int .u64 V1, .int .u64 V2]) ∧ w = w' := by
  have hfit : Kn.Fits Y u un1 := ⟨Y0, Y1, u0, u1, d0, d1⟩
  have hfit2 : Kn.Fits Y R1 un0 := ⟨Y0, Y1, hR10, hR11, f0, f1⟩
  have HF1 := Lib.hid hfit
  have HF2 := Lib.hid hfit2
  have HN1 := Lib.hid hn1
  obtain ⟨M, hM, M0, M1, hst, A0, A1⟩ := guess_first hfit hn1 a0
  obtain ⟨M2, hM2, M20, M21, hst2, A20, A21⟩ := guess_first hfit2 hn1 a0
  have HST := Lib.hid hst
  have HST2 := Lib.hid hst2
  have HM2 := Lib.hid hM2
  clear hfit hfit2 hst hst2 hM2
  have g1 : (y == 0) = false := by simp; omega
  have g2 : (hi == 0) = false := by simp; omega
  have g3 : decide (y ≤ hi) = false := decide_eq_false (by omega)
  go_enter Try.func68, Try.ntmps68
  go_wp2_with fail
  refine (lz64_c _ _ (by omega) y1).mono ?_
  rintro e w' ⟨rfl, rfl⟩
  rw [HS.out]
  go_wp2_with fail
  clear g1 g2 g3 hY hn1 hn0 hu he hd1 hd0 hM
  go_loop [15, 16] (fun q r => ∃ q' r' : Int, q = .int .u64 q' ∧ r = .int .u64 r' ∧ Kn.Guess Y u un1 q' r') (fun q _ => (intOf q).toNat)
  case atStart => exact ⟨_, _, rfl, rfl, HST.out⟩
  case round =>
    obtain ⟨q, r, rfl, rfl, hg⟩ := hrel
    have hgf := guess_facts HF1.out hg
    rw [← HN0.out] at hgf
    obtain ⟨q0, q1, r0, r1, p0, p1⟩ := hgf
    obtain ⟨Pq, hPq⟩ : ∃ Pq : Int, Pq = q * yn0 := ⟨_, rfl⟩
    have hw : IntKind.u64.wrap (q * yn0) = Pq := by rw [hPq]; exact wrap_small p0 p1
    rw [← hPq] at p0 p1
    have HG := Lib.hid hg
    have HPQ := Lib.hid hPq
    clear hg hPq
    by_cases c1 : 4294967296 ≤ q
    · have hlt := Kn.less HF1.out HG.out (.inl c1)
      have hq1 := hlt.2
      by_cases c3 : 4294967296 ≤ r + yn1
      · have hlast := Kn.last HF1.out HG.out (.inl c1) (by rw [HN1.out]; exact c3)
        rw [← HQ1.out] at hlast
        have t1 : decide (4294967296 ≤ q) = true := decide_eq_true c1
        have t3 : decide (4294967296 ≤ r + yn1) = true := decide_eq_true c3
        clear hlt
        have hR1 := HR1.out; have hM2 := HM2.out
        go_wp2
        clear hR1 hM2
        clear hlast t1 t3 hw hq1 c1 c3 q0 q1 r0 r1 p0 p1 HG HPQ
        go_loop [18, 16] (fun q r => ∃ q' r' : Int, q = .int .u64 q' ∧ r = .int .u64 r' ∧ Kn.Guess Y R1 un0 q' r') (fun q _ => (intOf q).toNat)
        case atStart => exact ⟨_, _, rfl, rfl, HST2.out⟩
        case round =>
          obtain ⟨q, r, rfl, rfl, hg⟩ := hrel
          have hgf := guess_facts HF2.out hg
          rw [← HN0.out] at hgf
          obtain ⟨q0, q1, r0, r1, p0, p1⟩ := hgf
          obtain ⟨Pq, hPq⟩ : ∃ Pq : Int, Pq = q * yn0 := ⟨_, rfl⟩
          have hw : IntKind.u64.wrap (q * yn0) = Pq := by rw [hPq]; exact wrap_small p0 p1
          rw [← hPq] at p0 p1
          have HG := Lib.hid hg
          have HPQ := Lib.hid hPq
          clear hg hPq
          by_cases c1 : 4294967296 ≤ q
          · have hlt := Kn.less HF2.out HG.out (.inl c1)
            have hq1 := hlt.2
            by_cases c3 : 4294967296 ≤ r + yn1
            · have hlast := Kn.last HF2.out HG.out (.inl c1) (by rw [HN1.out]; exact c3)
              rw [← HQ0.out] at hlast
              have t1 : decide (4294967296 ≤ q) = true := decide_eq_true c1
              have t3 : decide (4294967296 ≤ r + yn1) = true := decide_eq_true c3
              clear hlt
              have hR := HR.out
              go_wp2
              clear hR
              clear hlast t1 t3 hw hq1 c1 c3 q0 q1 r0 r1 p0 p1 HG HPQ
              go_ret2
              exact ⟨by rw [← HV.out.1, ← HV.out.2]; rfl, rfl⟩
            · have c3' : r + yn1 < 4294967296 := by omega
              have HNX := Lib.hid (Kn.next HF2.out HG.out (.inl c1) (by rw [HN1.out]; exact c3'))
              rw [HN1.out] at HNX
              have t1 : decide (4294967296 ≤ q) = true := decide_eq_true c1
              clear hlt c3
              go_wp2
              go_round
              case rel => exact ⟨q - 1, r + yn1, rfl, rfl, HNX.out⟩
              case measure => simp [intOf]; omega
          · have c1' : q < 4294967296 := by omega
            have t1 : decide (4294967296 ≤ q) = false := decide_eq_false c1
            clear c1
            by_cases c2 : 4294967296 * r + un0 < Pq
            · have c2' : 4294967296 * r + un0 < q * (Y % 4294967296) := by rw [← HN0.out, ← HPQ.out]; exact c2
              have hlt := Kn.less HF2.out HG.out (.inr c2')
              have hq1 := hlt.2
              have t2 : decide (4294967296 * r + un0 < Pq) = true := decide_eq_true c2
              by_cases c3 : 4294967296 ≤ r + yn1
              · have hlast := Kn.last HF2.out HG.out (.inr c2') (by rw [HN1.out]; exact c3)
                rw [← HQ0.out] at hlast
                have t3 : decide (4294967296 ≤ r + yn1) = true := decide_eq_true c3
                clear hlt c2'
                have hR := HR.out
                go_wp2
                clear hR
                clear hlast t1 t2 t3 hw hq1 c1' c2 c3 q0 q1 r0 r1 p0 p1 HG HPQ
                go_ret2
                exact ⟨by rw [← HV.out.1, ← HV.out.2]; rfl, rfl⟩
              · have c3' : r + yn1 < 4294967296 := by omega
                have HNX := Lib.hid (Kn.next HF2.out HG.out (.inr c2') (by rw [HN1.out]; exact c3'))
                rw [HN1.out] at HNX
                clear hlt c3 c2'
                go_wp2
                go_round
                case rel => exact ⟨q - 1, r + yn1, rfl, rfl, HNX.out⟩
                case measure => simp [intOf]; omega
            · have hstop := Kn.stop HF2.out HG.out (by rw [← HN0.out, ← HPQ.out]; omega)
              rw [← HQ0.out] at hstop
              obtain rfl : Q0 = q := hstop.symm
              have t2 : decide (4294967296 * r + un0 < Pq) = false := decide_eq_false c2
              clear hstop
              have hR := HR.out
              go_wp2
              clear hR
              clear t1 t2 hw c1' c2 q0 q1 r0 r1 p0 p1 HG HPQ
              go_ret2
              exact ⟨by rw [← HV.out.1, ← HV.out.2]; rfl, rfl⟩
      · have c3' : r + yn1 < 4294967296 := by omega
        have HNX := Lib.hid (Kn.next HF1.out HG.out (.inl c1) (by rw [HN1.out]; exact c3'))
        rw [HN1.out] at HNX
        have t1 : decide (4294967296 ≤ q) = true := decide_eq_true c1
        clear hlt c3
        go_wp2
        go_round
        case rel => exact ⟨q - 1, r + yn1, rfl, rfl, HNX.out⟩
        case measure => simp [intOf]; omega
    · have c1' : q < 4294967296 := by omega
      have t1 : decide (4294967296 ≤ q) = false := decide_eq_false c1
      clear c1
      by_cases c2 : 4294967296 * r + un1 < Pq
      · have c2' : 4294967296 * r + un1 < q * (Y % 4294967296) := by rw [← HN0.out, ← HPQ.out]; exact c2
        have hlt := Kn.less HF1.out HG.out (.inr c2')
        have hq1 := hlt.2
        have t2 : decide (4294967296 * r + un1 < Pq) = true := decide_eq_true c2
        by_cases c3 : 4294967296 ≤ r + yn1
        · have hlast := Kn.last HF1.out HG.out (.inr c2') (by rw [HN1.out]; exact c3)
          rw [← HQ1.out] at hlast
          have t3 : decide (4294967296 ≤ r + yn1) = true := decide_eq_true c3
          clear hlt c2'
          have hR1 := HR1.out; have hM2 := HM2.out
          go_wp2
          clear hR1 hM2
          clear hlast t1 t2 t3 hw hq1 c1' c2 c3 q0 q1 r0 r1 p0 p1 HG HPQ
          go_loop [18, 16] (fun q r => ∃ q' r' : Int, q = .int .u64 q' ∧ r = .int .u64 r' ∧ Kn.Guess Y R1 un0 q' r') (fun q _ => (intOf q).toNat)
          case atStart => exact ⟨_, _, rfl, rfl, HST2.out⟩
          case round =>
            obtain ⟨q, r, rfl, rfl, hg⟩ := hrel
            have hgf := guess_facts HF2.out hg
            rw [← HN0.out] at hgf
            obtain ⟨q0, q1, r0, r1, p0, p1⟩ := hgf
            obtain ⟨Pq, hPq⟩ : ∃ Pq : Int, Pq = q * yn0 := ⟨_, rfl⟩
            have hw : IntKind.u64.wrap (q * yn0) = Pq := by rw [hPq]; exact wrap_small p0 p1
            rw [← hPq] at p0 p1
            have HG := Lib.hid hg
            have HPQ := Lib.hid hPq
            clear hg hPq
            by_cases c1 : 4294967296 ≤ q
            · have hlt := Kn.less HF2.out HG.out (.inl c1)
              have hq1 := hlt.2
              by_cases c3 : 4294967296 ≤ r + yn1
              · have hlast := Kn.last HF2.out HG.out (.inl c1) (by rw [HN1.out]; exact c3)
                rw [← HQ0.out] at hlast
                have t1 : decide (4294967296 ≤ q) = true := decide_eq_true c1
                have t3 : decide (4294967296 ≤ r + yn1) = true := decide_eq_true c3
                clear hlt
                have hR := HR.out
                go_wp2
                clear hR
                clear hlast t1 t3 hw hq1 c1 c3 q0 q1 r0 r1 p0 p1 HG HPQ
                go_ret2
                exact ⟨by rw [← HV.out.1, ← HV.out.2]; rfl, rfl⟩
              · have c3' : r + yn1 < 4294967296 := by omega
                have HNX := Lib.hid (Kn.next HF2.out HG.out (.inl c1) (by rw [HN1.out]; exact c3'))
                rw [HN1.out] at HNX
                have t1 : decide (4294967296 ≤ q) = true := decide_eq_true c1
                clear hlt c3
                go_wp2
                go_round
                case rel => exact ⟨q - 1, r + yn1, rfl, rfl, HNX.out⟩
                case measure => simp [intOf]; omega
            · have c1' : q < 4294967296 := by omega
              have t1 : decide (4294967296 ≤ q) = false := decide_eq_false c1
              clear c1
              by_cases c2 : 4294967296 * r + un0 < Pq
              · have c2' : 4294967296 * r + un0 < q * (Y % 4294967296) := by rw [← HN0.out, ← HPQ.out]; exact c2
                have hlt := Kn.less HF2.out HG.out (.inr c2')
                have hq1 := hlt.2
                have t2 : decide (4294967296 * r + un0 < Pq) = true := decide_eq_true c2
                by_cases c3 : 4294967296 ≤ r + yn1
                · have hlast := Kn.last HF2.out HG.out (.inr c2') (by rw [HN1.out]; exact c3)
                  rw [← HQ0.out] at hlast
                  have t3 : decide (4294967296 ≤ r + yn1) = true := decide_eq_true c3
                  clear hlt c2'
                  have hR := HR.out
                  go_wp2
                  clear hR
                  clear hlast t1 t2 t3 hw hq1 c1' c2 c3 q0 q1 r0 r1 p0 p1 HG HPQ
                  go_ret2
                  exact ⟨by rw [← HV.out.1, ← HV.out.2]; rfl, rfl⟩
                · have c3' : r + yn1 < 4294967296 := by omega
                  have HNX := Lib.hid (Kn.next HF2.out HG.out (.inr c2') (by rw [HN1.out]; exact c3'))
                  rw [HN1.out] at HNX
                  clear hlt c3 c2'
                  go_wp2
                  go_round
                  case rel => exact ⟨q - 1, r + yn1, rfl, rfl, HNX.out⟩
                  case measure => simp [intOf]; omega
              · have hstop := Kn.stop HF2.out HG.out (by rw [← HN0.out, ← HPQ.out]; omega)
                rw [← HQ0.out] at hstop
                obtain rfl : Q0 = q := hstop.symm
                have t2 : decide (4294967296 * r + un0 < Pq) = false := decide_eq_false c2
                clear hstop
                have hR := HR.out
                go_wp2
                clear hR
                clear t1 t2 hw c1' c2 q0 q1 r0 r1 p0 p1 HG HPQ
                go_ret2
                exact ⟨by rw [← HV.out.1, ← HV.out.2]; rfl, rfl⟩
        · have c3' : r + yn1 < 4294967296 := by omega
          have HNX := Lib.hid (Kn.next HF1.out HG.out (.inr c2') (by rw [HN1.out]; exact c3'))
          rw [HN1.out] at HNX
          clear hlt c3 c2'
          go_wp2
          go_round
          case rel => exact ⟨q - 1, r + yn1, rfl, rfl, HNX.out⟩
          case measure => simp [intOf]; omega
      · have hstop := Kn.stop HF1.out HG.out (by rw [← HN0.out, ← HPQ.out]; omega)
        rw [← HQ1.out] at hstop
        obtain rfl : Q1 = q := hstop.symm
        have t2 : decide (4294967296 * r + un1 < Pq) = false := decide_eq_false c2
        clear hstop
        have hR1 := HR1.out; have hM2 := HM2.out
        go_wp2
        clear hR1 hM2
        clear t1 t2 hw c1' c2 q0 q1 r0 r1 p0 p1 HG HPQ
        go_loop [18, 16] (fun q r => ∃ q' r' : Int, q = .int .u64 q' ∧ r = .int .u64 r' ∧ Kn.Guess Y R1 un0 q' r') (fun q _ => (intOf q).toNat)
        case atStart => exact ⟨_, _, rfl, rfl, HST2.out⟩
        case round =>
          obtain ⟨q, r, rfl, rfl, hg⟩ := hrel
          have hgf := guess_facts HF2.out hg
          rw [← HN0.out] at hgf
          obtain ⟨q0, q1, r0, r1, p0, p1⟩ := hgf
          obtain ⟨Pq, hPq⟩ : ∃ Pq : Int, Pq = q * yn0 := ⟨_, rfl⟩
          have hw : IntKind.u64.wrap (q * yn0) = Pq := by rw [hPq]; exact wrap_small p0 p1
          rw [← hPq] at p0 p1
          have HG := Lib.hid hg
          have HPQ := Lib.hid hPq
          clear hg hPq
          by_cases c1 : 4294967296 ≤ q
          · have hlt := Kn.less HF2.out HG.out (.inl c1)
            have hq1 := hlt.2
            by_cases c3 : 4294967296 ≤ r + yn1
            · have hlast := Kn.last HF2.out HG.out (.inl c1) (by rw [HN1.out]; exact c3)
              rw [← HQ0.out] at hlast
              have t1 : decide (4294967296 ≤ q) = true := decide_eq_true c1
              have t3 : decide (4294967296 ≤ r + yn1) = true := decide_eq_true c3
              clear hlt
              have hR := HR.out
              go_wp2
              clear hR
              clear hlast t1 t3 hw hq1 c1 c3 q0 q1 r0 r1 p0 p1 HG HPQ
              go_ret2
              exact ⟨by rw [← HV.out.1, ← HV.out.2]; rfl, rfl⟩
            · have c3' : r + yn1 < 4294967296 := by omega
              have HNX := Lib.hid (Kn.next HF2.out HG.out (.inl c1) (by rw [HN1.out]; exact c3'))
              rw [HN1.out] at HNX
              have t1 : decide (4294967296 ≤ q) = true := decide_eq_true c1
              clear hlt c3
              go_wp2
              go_round
              case rel => exact ⟨q - 1, r + yn1, rfl, rfl, HNX.out⟩
              case measure => simp [intOf]; omega
          · have c1' : q < 4294967296 := by omega
            have t1 : decide (4294967296 ≤ q) = false := decide_eq_false c1
            clear c1
            by_cases c2 : 4294967296 * r + un0 < Pq
            · have c2' : 4294967296 * r + un0 < q * (Y % 4294967296) := by rw [← HN0.out, ← HPQ.out]; exact c2
              have hlt := Kn.less HF2.out HG.out (.inr c2')
              have hq1 := hlt.2
              have t2 : decide (4294967296 * r + un0 < Pq) = true := decide_eq_true c2
              by_cases c3 : 4294967296 ≤ r + yn1
              · have hlast := Kn.last HF2.out HG.out (.inr c2') (by rw [HN1.out]; exact c3)
                rw [← HQ0.out] at hlast
                have t3 : decide (4294967296 ≤ r + yn1) = true := decide_eq_true c3
                clear hlt c2'
                have hR := HR.out
                go_wp2
                clear hR
                clear hlast t1 t2 t3 hw hq1 c1' c2 c3 q0 q1 r0 r1 p0 p1 HG HPQ
                go_ret2
                exact ⟨by rw [← HV.out.1, ← HV.out.2]; rfl, rfl⟩
              · have c3' : r + yn1 < 4294967296 := by omega
                have HNX := Lib.hid (Kn.next HF2.out HG.out (.inr c2') (by rw [HN1.out]; exact c3'))
                rw [HN1.out] at HNX
                clear hlt c3 c2'
                go_wp2
                go_round
                case rel => exact ⟨q - 1, r + yn1, rfl, rfl, HNX.out⟩
                case measure => simp [intOf]; omega
            · have hstop := Kn.stop HF2.out HG.out (by rw [← HN0.out, ← HPQ.out]; omega)
              rw [← HQ0.out] at hstop
              obtain rfl : Q0 = q := hstop.symm
              have t2 : decide (4294967296 * r + un0 < Pq) = false := decide_eq_false c2
              clear hstop
              have hR := HR.out
              go_wp2
              clear hR
              clear t1 t2 hw c1' c2 q0 q1 r0 r1 p0 p1 HG HPQ
              go_ret2
              exact ⟨by rw [← HV.out.1, ← HV.out.2]; rfl, rfl⟩

set_option maxHeartbeats 400000 in
theorem div64_low (lo y : Int) (w : World) (l0 : 0 ≤ lo) (l1 : lo < 18446744073709551616) (y0 : 0 < y) (y1 : y < 18446744073709551616) :
    Calls Try.prog 68 #[.int .u64 0, .int .u64 lo, .int .u64 y] w fun e w' => e = .returned (.tuple #[.int .u64 (lo / y), .int .u64 (lo % y)]) ∧ ∃ n, w' = w.drewN n := by
  have g1 : (y == 0) = false := by simp; omega
  have g3 : decide (y ≤ 0) = false := decide_eq_false (by omega)
  go_enter Try.func68, Try.ntmps68
  go_wp2
  go_quiet (fail)
  go_wp2
  go_ret2
  exact ⟨rfl, _, rfl⟩
theorem div64_c (hi lo y : Int) (w : World) (l0 : 0 ≤ lo) (l1 : lo < 18446744073709551616) (h0 : 0 ≤ hi) (h1 : hi < y) (y1 : y < 18446744073709551616) :
    Calls Try.prog 68 #[.int .u64 hi, .int .u64 lo, .int .u64 y] w fun e w' => e = .returned (.tuple #[.int .u64 ((hi * 18446744073709551616 + lo) / y), .int .u64 ((hi * 18446744073709551616 + lo) % y)]) ∧ ∃ n, w' = w.drewN n := by
  by_cases c : hi = 0
  · subst c
    have e1 : (0 : Int) * 18446744073709551616 + lo = lo := by omega
    rw [e1]
    exact div64_low lo y w l0 l1 h1 y1
  · obtain ⟨s1, s2, s3, _⟩ := lz_spec (show 0 < y by omega) y1
    obtain ⟨S, hS⟩ : ∃ S, lz y = S := ⟨_, rfl⟩
    rw [hS] at s1 s2 s3
    obtain ⟨Y, hY⟩ : ∃ Y, y * 2 ^ S = Y := ⟨_, rfl⟩
    rw [hY] at s2 s3
    obtain ⟨u, e, hu, he, u0, u1, e0, e1, hN⟩ := Kn.moved s1 hY s3 h0 h1 l0 l1
    have p := Kn.parts s2 s3
    have f1 : Kn.Fits Y u (e / 4294967296) := ⟨s2, s3, u0, u1, by omega, by omega⟩
    have q1 := Kn.quo_lt f1
    have r1 := Kn.rest_range f1
    have w1 := Kn.rest_wrap f1
    obtain ⟨Q1, hQ1⟩ : ∃ Q1 : Int, Q1 = (u * 4294967296 + e / 4294967296) / Y := ⟨_, rfl⟩
    rw [← hQ1] at q1 r1 w1
    obtain ⟨R1, hR1⟩ : ∃ R1 : Int, u * 4294967296 + e / 4294967296 - Q1 * Y = R1 := ⟨_, rfl⟩
    rw [hR1] at r1 w1
    have f2 : Kn.Fits Y R1 (e % 4294967296) := ⟨s2, s3, r1.1, r1.2, by omega, by omega⟩
    have q2 := Kn.quo_lt f2
    have r2 := Kn.rest_range f2
    have w2 := Kn.rest_wrap f2
    obtain ⟨Q0, hQ0⟩ : ∃ Q0 : Int, Q0 = (R1 * 4294967296 + e % 4294967296) / Y := ⟨_, rfl⟩
    rw [← hQ0] at q2 r2 w2
    obtain ⟨R, hR⟩ : ∃ R : Int, R1 * 4294967296 + e % 4294967296 - Q0 * Y = R := ⟨_, rfl⟩
    rw [hR] at r2 w2
    have fin := Kn.finish s1 hY (by omega) hN hR1 hR r2.1 r2.2
    refine (div64_up hi lo y Y u e (Y / 4294967296) (Y % 4294967296) (e / 4294967296) (e % 4294967296) Q1 R1 Q0 R _ _ S w l0 l1 (by omega) h1 y1 s1 hS (by rw [hY]; exact wrap_small (by omega) s3) rfl (and_low (by omega) s3 32 (by omega)) s2 s3 hu he rfl (and_low e0 e1 32 (by omega)) u0 u1 e0 e1
      (by omega) (by omega) (by omega) (by omega) (by omega) (by omega) (by omega) (by omega) rfl hQ1 w1 r1.1 r1.2 q1.1 q1.2 hQ0 w2 r2.1 q2.1 q2.2 fin).mono ?_
    rintro e w' ⟨rfl, rfl⟩
    exact ⟨rfl, 0, rfl⟩
end Go.Proofs.Ytgkenodiaehnnaa
