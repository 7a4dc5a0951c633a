/-
  The statement LocksPlay (P12.1, P12.2), walked.
-/
import Derived.Test.YtgegahnjhaldeaaLpA
import Derived.Test.YtgegahnjhaldeaaFrameO
namespace Go.Proofs.Ytgegahnjhaldeaa
open Go.ChangeShapes Go.WideShapes Go.ChangeAt Go.RowKit

set_option maxRecDepth 100000 in
set_option maxHeartbeats 16000000 in
theorem lplay_walk (w0 : World) (m : Int) (ao : Option Addr) (nl cl : Nat) (l : List Dd) (q : Dd) (hm : -9223372036854775808 ≤ m ∧ m ≤ 9223372036854775807) (hl : Dds w0 ao nl l) (hq : q.In) :
    Calls Try.prog 3 #[.int .i64 m, .slice ao nl cl, .agg q.cells] w0 fun e w' => e = .returned (.bool true) ∧ Below w0.heap.size w0 w' := by
  have HB1 := Lib.hid (alloc_below w0 (.cells q.cells 24))
  have HC1 := Lib.hid (CsAt.new w0 24 q.cells)
  have HDS := Lib.hid hl
  have HQI := Lib.hid hq
  clear hl hq
  by_cases hrg : 1 ≤ m ∧ m ≤ 128
  · obtain ⟨n, rfl⟩ := Int.eq_ofNat_of_zero_le (show 0 ≤ m by omega)
    have hn1 : 1 ≤ n := by omega
    have hn2 : n ≤ 128 := by omega
    have g1 : decide ((n : Int) < 1) = false := decide_eq_false (by omega)
    have g2 : decide (128 < (n : Int)) = false := decide_eq_false (by omega)
    clear hrg hm
    by_cases hsm : n ≤ 12 ∧ nl ≤ 60
    · obtain ⟨h12, h60⟩ := hsm
      have g3 : decide (12 < (n : Int)) = false := decide_eq_false (by omega)
      have g4 : decide (60 < (nl : Int)) = false := decide_eq_false (by omega)
      have g4' : decide (60 < nl) = false := decide_eq_false (by omega)
      go_enter Try.func3, Try.ntmps3
      go_wp2_with fail
      generalize w0.alloc (.cells q.cells 24) = w1 at *
      refine (new_yes n w1 hn1 hn2).mono ?_
      rintro e w2 ⟨rfl, hlk, hb⟩
      have HL2 := Lib.hid hlk
      have HB2 := Lib.hid hb
      clear hlk hb
      go_wp2_with fail
      refine (rnew_c n w2 hn2).mono ?_
      rintro e w3 ⟨v3, rfl, hown, hb⟩
      obtain ⟨rb, crb, rfl, hrb1, hrb2, hrl⟩ := own_new (by omega) hown
      have hs1 := HC1.out.lt
      have hs2 := HL2.out.lt
      have HPL0 := Lib.hid (show ∃ base mb, w1.heap.size ≤ base ∧ Pl2 base (w1.heap.size + 1) mb rb n (fun _ => []) (fun _ => []) w3 from ⟨_, _, Nat.le_refl _, fun k => w2.heap.size ≤ k ∧ k < w3.heap.size, fun k => k = rb, HL2.out.more hb (fun k hk => .inr hk), hrl _ rfl, fun k hk => by subst hk; exact ⟨hrb1, hrb2⟩⟩)
      have HDS := Lib.hid (HDS.out.low HB1.out)
      have HRBN := Lib.hid (show w1.heap.size ≤ rb ∧ rb ≠ w1.heap.size + 1 from ⟨by omega, by omega⟩)
      have HB3 := Lib.hid (HB2.out.trans (hb.mono (by omega)))
      clear hown hb hrl HL2 HB2 hs2 hrb1 hrb2 hs1
      generalize w1.heap.size + 1 = lp at *
      obtain ⟨base, mb, hbs, hpl0⟩ := HPL0.out
      have HPL1 := Lib.hid hpl0
      clear HPL0
      have HQ := Lib.hid (show w1.heap.size ≤ base ∧ w1.heap.size ≤ rb ∧ rb ≠ lp from ⟨hbs, HRBN.out⟩)
      clear HRBN hpl0 hbs
      have hw0 : ∃ w : World, w = w1 := ⟨_, rfl⟩
      obtain ⟨w, hw⟩ := hw0
      subst hw
      go_wp2_with fail
      go_loopw [10] (fun iv wr => ∃ (i : Nat) (R : Int → List Int), i ≤ nl ∧ iv = .int .i64 i ∧ Pl2 base lp mb rb n R R wr ∧ Below w.heap.size w wr) (fun iv _ => nl - (intOf iv).toNat)
      case atStart => exact ⟨0, _, by omega, rfl, HPL1.out, HB3.out⟩
      case round =>
        clear HPL1
        obtain ⟨i, R, hi, rfl, hpl, hb⟩ := hrel
        have HPL := Lib.hid hpl
        have HBR := Lib.hid hb
        clear hpl hb
        by_cases hin : i < nl
        · have gi : decide (i < nl) = true := by simpa using hin
          have gi2 : (i : Int) < nl := by omega
          have HIN := Lib.hid (HDS.out.each i hin)
          obtain ⟨bp, op, rfl, hbp, hcp⟩ := HDS.out.at_ (by omega)
          obtain ⟨d, hd⟩ : ∃ d, l.getD i dd0 = d := ⟨_, rfl⟩
          have hc0 := hcp i hin 0 (by omega)
          have HC1' := hcp i hin 1 (by omega)
          have HC2' := hcp i hin 2 (by omega)
          rw [hd] at HIN hc0 HC1' HC2'
          clear hcp hd
          obtain ⟨dp, who, lock⟩ := d
          have HC1 := Lib.hid (show w.cell? ⟨bp, op + i * 3 + 1, none⟩ = some (.int .i64 who) from HC1')
          have HC2 := Lib.hid (show w.cell? ⟨bp, op + i * 3 + 2, none⟩ = some (.int .i64 lock) from HC2')
          have e0 : wr.cell? ⟨bp, op + i * 3, none⟩ = some (.bool dp) := (HBR.out.cell (p := ⟨bp, op + i * 3, none⟩) hbp).trans hc0
          clear hc0 HC1' HC2'
          cases dp
          · have HDM := True.intro
            obtain ⟨td, htd⟩ : ∃ z, Lk.takeT R n who lock = z := ⟨_, rfl⟩
            have HT1 := Lib.hid (fun W (hT : Below w.heap.size w W) (hU : Pl2 base lp mb rb n R R W) => htd ▸ hU.take hT HQ.out.1 who lock HIN.out.lock)
            have HT2 := Lib.hid (fun W (hT : Below w.heap.size w W) (hU : Pl2 base lp mb rb n (Lk.take R n who lock) R W) => htd ▸ hU.rtake HPL.out.ok hT HQ.out.2.1 HQ.out.2.2 crb who lock)
            clear htd
            go_upto_region 13 with (fail)
            clear e0 HDM
            refine wp_region_phase 11 23 (fun W => Below w.heap.size w W) (Pl2 base lp mb rb n R R) (Pl2 base lp mb rb n (Lk.take R n who lock) R) (Pl2 base lp mb rb n (Lk.take R n who lock) (Lk.take R n who lock)) (by decide) (by decide) (by kernel_rfl) (by kernel_rfl) (HBR.out.trans ((Below.refl _ _).drew.mono HBR.out.size)) (HPL.out.low (Below.refl _ _).drew) ?_
            iterate 11
              refine phase_val ?_ ?_ (by decide) (by decide) (by kernel_rfl) (fun W hT => ?_) ?_ ?_
              rotate_left 2
              · have e1 := (hT.cell (p := ⟨bp, op + i * 3 + 1, none⟩) hbp).trans HC1.out; have e2 := (hT.cell (p := ⟨bp, op + i * 3 + 2, none⟩) hbp).trans HC2.out
                go_simp
                exact rfl
              · go_simp
                exact rfl
            refine phase_call1 (.bool td) 12 #[.pointer (some ⟨lp, 0, none⟩), .int .i64 who, .int .i64 lock] ?_ rfl (by decide) (by kernel_rfl) (fun W hT => ?_) (fun W hT hU => HT1.out W hT hU) ?_ ?_
            rotate_left 1
            · go_simp
            · go_simp
              exact rfl
            iterate 11
              refine phase_val ?_ ?_ (by decide) (by decide) (by kernel_rfl) (fun W hT => ?_) ?_ ?_
              rotate_left 2
              · have e1 := (hT.cell (p := ⟨bp, op + i * 3 + 1, none⟩) hbp).trans HC1.out; have e2 := (hT.cell (p := ⟨bp, op + i * 3 + 2, none⟩) hbp).trans HC2.out
                go_simp
                exact rfl
              · go_simp
                exact rfl
            refine phase_call2 (.bool td) 13 #[.slice (some ⟨rb, 0, none⟩) n crb, .int .i64 who, .int .i64 lock] ?_ rfl (by decide) rfl (by kernel_rfl) (by kernel_rfl) (fun W hT => ?_) (fun W hT hU => HT2.out W hT hU) ?_ ?_
            rotate_left 1
            · go_simp
            · go_simp
              exact rfl
            iterate 1
              refine phase_val ?_ ?_ (by decide) (by decide) (by kernel_rfl) (fun W hT => ?_) ?_ ?_
              rotate_left 2
              · have e1 := (hT.cell (p := ⟨bp, op + i * 3 + 1, none⟩) hbp).trans HC1.out; have e2 := (hT.cell (p := ⟨bp, op + i * 3 + 2, none⟩) hbp).trans HC2.out
                go_simp
                exact rfl
              · go_simp
                exact rfl
            refine phase_nil ?_
            intro W hT hU
            have HW := Lib.hid (And.intro hT hU)
            clear hT hU
            go_wp2_with fail
            go_roundw
            case rel => exact ⟨i + 1, _, by omega, by go_num, HW.out.2, HW.out.1⟩
            case measure => simp [intOf]; omega
          · have HDM := True.intro
            obtain ⟨td, htd⟩ : ∃ z, Lk.dropT R who lock = z := ⟨_, rfl⟩
            have HT1 := Lib.hid (fun W (hT : Below w.heap.size w W) (hU : Pl2 base lp mb rb n R R W) => htd ▸ hU.drop hT HQ.out.1 who lock HIN.out.lock)
            have HT2 := Lib.hid (fun W (hT : Below w.heap.size w W) (hU : Pl2 base lp mb rb n (Lk.drop R who lock) R W) => htd ▸ hU.rdrop HPL.out.ok hT HQ.out.2.1 HQ.out.2.2 crb who lock)
            clear htd
            go_upto_region 11 with (fail)
            clear e0 HDM
            refine wp_region_phase 11 23 (fun W => Below w.heap.size w W) (Pl2 base lp mb rb n R R) (Pl2 base lp mb rb n (Lk.drop R who lock) R) (Pl2 base lp mb rb n (Lk.drop R who lock) (Lk.drop R who lock)) (by decide) (by decide) (by kernel_rfl) (by kernel_rfl) (HBR.out.trans ((Below.refl _ _).drew.mono HBR.out.size)) (HPL.out.low (Below.refl _ _).drew) ?_
            iterate 11
              refine phase_val ?_ ?_ (by decide) (by decide) (by kernel_rfl) (fun W hT => ?_) ?_ ?_
              rotate_left 2
              · have e1 := (hT.cell (p := ⟨bp, op + i * 3 + 1, none⟩) hbp).trans HC1.out; have e2 := (hT.cell (p := ⟨bp, op + i * 3 + 2, none⟩) hbp).trans HC2.out
                go_simp
                exact rfl
              · go_simp
                exact rfl
            refine phase_call1 (.bool td) 10 #[.pointer (some ⟨lp, 0, none⟩), .int .i64 who, .int .i64 lock] ?_ rfl (by decide) (by kernel_rfl) (fun W hT => ?_) (fun W hT hU => HT1.out W hT hU) ?_ ?_
            rotate_left 1
            · go_simp
            · go_simp
              exact rfl
            iterate 11
              refine phase_val ?_ ?_ (by decide) (by decide) (by kernel_rfl) (fun W hT => ?_) ?_ ?_
              rotate_left 2
              · have e1 := (hT.cell (p := ⟨bp, op + i * 3 + 1, none⟩) hbp).trans HC1.out; have e2 := (hT.cell (p := ⟨bp, op + i * 3 + 2, none⟩) hbp).trans HC2.out
                go_simp
                exact rfl
              · go_simp
                exact rfl
            refine phase_call2 (.bool td) 11 #[.slice (some ⟨rb, 0, none⟩) n crb, .int .i64 who, .int .i64 lock] ?_ rfl (by decide) rfl (by kernel_rfl) (by kernel_rfl) (fun W hT => ?_) (fun W hT hU => HT2.out W hT hU) ?_ ?_
            rotate_left 1
            · go_simp
            · go_simp
              exact rfl
            iterate 1
              refine phase_val ?_ ?_ (by decide) (by decide) (by kernel_rfl) (fun W hT => ?_) ?_ ?_
              rotate_left 2
              · have e1 := (hT.cell (p := ⟨bp, op + i * 3 + 1, none⟩) hbp).trans HC1.out; have e2 := (hT.cell (p := ⟨bp, op + i * 3 + 2, none⟩) hbp).trans HC2.out
                go_simp
                exact rfl
              · go_simp
                exact rfl
            refine phase_nil ?_
            intro W hT hU
            have HW := Lib.hid (And.intro hT hU)
            clear hT hU
            go_wp2_with fail
            go_roundw
            case rel => exact ⟨i + 1, _, by omega, by go_num, HW.out.2, HW.out.1⟩
            case measure => simp [intOf]; omega
        · have gi : decide (i < nl) = false := by simpa using hin
          have gi2 : ¬ (i : Int) < nl := by omega
          have hin2 : i = nl := by omega
          clear hi
          go_wp2_with fail
          refine (HPL.out.same crb).mono ?_
          rintro e wa ⟨rfl, hba⟩
          have HPA := Lib.hid (HPL.out.low hba)
          have HBA := Lib.hid (HBR.out.trans (hba.mono HBR.out.size))
          clear hba HPL
          go_wp2_with fail
          refine (stuck_c (some ⟨lp, 0, none⟩) n R wa HPA.out.lkv).mono ?_
          rintro e wb ⟨vb, rfl, hownb, hbb⟩
          obtain ⟨pb, cb, rfl, hvb, -, -⟩ := own_form2 hownb
          have HPB := Lib.hid (HPA.out.low hbb)
          have HBB := Lib.hid (HBA.out.trans (hbb.mono HBA.out.size))
          have HVB := Lib.hid hvb
          clear hownb hbb HPA hvb
          go_wp2_with fail
          refine (HPB.out.rstuck hn2 crb).mono ?_
          rintro e wc ⟨vc, rfl, hownc, hbc⟩
          obtain ⟨pc, cc, rfl, hvc, -, -⟩ := own_form2 hownc
          have HPC := Lib.hid (HPB.out.low hbc)
          have HBC := Lib.hid (HBB.out.trans (hbc.mono HBB.out.size))
          have HIC := Lib.hid (ints_c pb pc cb cc (Lk.stuck R n) (Lk.stuck R n) wc (HVB.out.low hbc) hvc (stuck_small R n))
          rw [show decide (Lk.stuck R n = Lk.stuck R n) = true by simp] at HIC
          clear hownc hbc hvc HPB HVB
          go_wp2_with fail
          refine HIC.out.mono ?_
          rintro e wd ⟨rfl, hbd⟩
          have HPD := Lib.hid (HPC.out.low hbd)
          have HBD := Lib.hid (HBC.out.trans (hbd.mono HBC.out.size))
          clear hbd HPC HIC HBC HBB HBA HBR
          have HCD := Lib.hid (HC1.out.low HBD.out)
          go_wp2_with fail
          refine (HPD.out.clone).mono ?_
          rintro e we ⟨rfl, hle, hbe⟩
          have HLE := Lib.hid hle
          have HBE := Lib.hid hbe
          clear hle hbe
          have HCE := Lib.hid (HCD.out.low HBE.out)
          obtain ⟨dp, who, lock⟩ := q
          have e0 : we.cell? ⟨w0.heap.size, 0, none⟩ = some (.bool dp) := HCE.out.cell 0
          have e1 : we.cell? ⟨w0.heap.size, 1, none⟩ = some (.int .i64 who) := HCE.out.cell 1
          have e2 : we.cell? ⟨w0.heap.size, 2, none⟩ = some (.int .i64 lock) := HCE.out.cell 2
          have hgs : wd.heap.size ≤ we.heap.size := HBE.out.size
          skip
          cases dp
          · go_wp2_with fail
            refine (take_c who lock _ _ _ n R we HLE.out HQI.out.lock).mono ?_
            rintro e wf ⟨rfl, -, hbf, -⟩
            have HPF := Lib.hid (HPD.out.low (HBE.out.trans hbf))
            have HBF := Lib.hid (HBD.out.trans ((HBE.out.trans hbf).mono HBD.out.size))
            clear hbf e0 e1 e2
            go_wp2_with fail
            refine (HPF.out.same crb).mono ?_
            rintro e wg ⟨rfl, hbg⟩
            have HBG := Lib.hid (HBF.out.trans (hbg.mono HBF.out.size))
            clear hbg
            go_wp2_with fail
            refine (live12_c _).mono ?_
            rintro e wh ⟨rfl, hbh⟩
            have HBH := Lib.hid (HBG.out.trans (hbh.mono HBG.out.size))
            clear hbh
            go_wp2_with fail
            go_ret
            exact ⟨rfl, HB1.out.trans (HBH.out.mono HB1.out.size)⟩
          · go_wp2_with fail
            refine (drop_c who lock _ _ _ n R we HLE.out HQI.out.lock).mono ?_
            rintro e wf ⟨rfl, -, hbf, -⟩
            have HPF := Lib.hid (HPD.out.low (HBE.out.trans hbf))
            have HBF := Lib.hid (HBD.out.trans ((HBE.out.trans hbf).mono HBD.out.size))
            clear hbf e0 e1 e2
            go_wp2_with fail
            refine (HPF.out.same crb).mono ?_
            rintro e wg ⟨rfl, hbg⟩
            have HBG := Lib.hid (HBF.out.trans (hbg.mono HBF.out.size))
            clear hbg
            go_wp2_with fail
            refine (live12_c _).mono ?_
            rintro e wh ⟨rfl, hbh⟩
            have HBH := Lib.hid (HBG.out.trans (hbh.mono HBG.out.size))
            clear hbh
            go_wp2_with fail
            go_ret
            exact ⟨rfl, HB1.out.trans (HBH.out.mono HB1.out.size)⟩
    · have gs : 12 < n ∨ 60 < nl := by omega
      clear hsm
      have HGS := Lib.hid gs
      clear gs
      by_cases h12 : 12 < n
      · have g3 : decide (12 < (n : Int)) = true := decide_eq_true (by omega)
        clear HGS
        go_enter Try.func3, Try.ntmps3
        go_wp2_with fail
        generalize w0.alloc (.cells q.cells 24) = w1 at *
        refine (new_yes n w1 hn1 hn2).mono ?_
        rintro e w2 ⟨rfl, -, hb⟩
        have HB2 := Lib.hid (HB1.out.trans (hb.mono HB1.out.size))
        clear hb
        go_wp2_with fail
        refine (live12_c _).mono ?_
        rintro e wh ⟨rfl, hbh⟩
        have HBH := Lib.hid (HB2.out.trans (hbh.mono HB2.out.size))
        clear hbh
        go_wp2_with fail
        go_ret
        exact ⟨rfl, HBH.out⟩
      · have g3 : decide (12 < (n : Int)) = false := decide_eq_false (by omega)
        have g4 : decide (60 < (nl : Int)) = true := decide_eq_true (by have := HGS.out; omega)
        have g4' : decide (60 < nl) = true := decide_eq_true (by have := HGS.out; omega)
        clear HGS
        go_enter Try.func3, Try.ntmps3
        go_wp2_with fail
        generalize w0.alloc (.cells q.cells 24) = w1 at *
        refine (new_yes n w1 hn1 hn2).mono ?_
        rintro e w2 ⟨rfl, -, hb⟩
        have HB2 := Lib.hid (HB1.out.trans (hb.mono HB1.out.size))
        clear hb
        go_wp2_with fail
        refine (live12_c _).mono ?_
        rintro e wh ⟨rfl, hbh⟩
        have HBH := Lib.hid (HB2.out.trans (hbh.mono HB2.out.size))
        clear hbh
        go_wp2_with fail
        go_ret
        exact ⟨rfl, HBH.out⟩
  · have HRG := Lib.hid hrg
    by_cases h1 : m < 1
    · have g1 : decide (m < 1) = true := decide_eq_true h1
      clear hrg
      go_enter Try.func3, Try.ntmps3
      go_wp2_with fail
      generalize w0.alloc (.cells q.cells 24) = w1 at *
      refine (new_no m w1 HRG.out).mono ?_
      rintro e w2 ⟨rfl, rfl⟩
      have HB2 := HB1
      go_wp2_with fail
      refine (live12_c _).mono ?_
      rintro e wh ⟨rfl, hbh⟩
      have HBH := Lib.hid (HB2.out.trans (hbh.mono HB2.out.size))
      clear hbh
      go_wp2_with fail
      go_ret
      exact ⟨rfl, HBH.out⟩
    · have g1 : decide (m < 1) = false := decide_eq_false h1
      have g2 : decide (128 < m) = true := decide_eq_true (by omega)
      clear hrg
      go_enter Try.func3, Try.ntmps3
      go_wp2_with fail
      generalize w0.alloc (.cells q.cells 24) = w1 at *
      refine (new_no m w1 HRG.out).mono ?_
      rintro e w2 ⟨rfl, rfl⟩
      have HB2 := HB1
      go_wp2_with fail
      refine (live12_c _).mono ?_
      rintro e wh ⟨rfl, hbh⟩
      have HBH := Lib.hid (HB2.out.trans (hbh.mono HB2.out.size))
      clear hbh
      go_wp2_with fail
      go_ret
      exact ⟨rfl, HBH.out⟩
end Go.Proofs.Ytgegahnjhaldeaa
