/-
  Contract of the law's same (layer 12): locks and the reference's locks with the same rows.
-/
import Derived.Test.YtgegahnjhaldeaaRlD
import Derived.Test.YtgegahnjhaldeaaLkS
import Derived.Test.YtgegahnjhaldeaaSteady
namespace Go.Proofs.Ytgegahnjhaldeaa
open Go.ChangeShapes Go.WideShapes Go.ChangeAt Go.RowKit
variable {Z : Nat → Prop}

section
variable {P : Program} {ops : Array Oper} {md : Region.Mode} {S : World → Prop}
theorem takeN {Q : Exit → Act → World → Prop} {i : Nat} {oi : Oper} {fuel : Nat} {listed : Array Bool} {a : Act} {w : World} (b : Act) (hi : ops[i]? = some oi) (hs : Region.noSelect ops = true) (hf : Region.free md ops listed i = true) (hr : (Region.ready md ops listed).contains i = true)
    (hQ : ∀ c a w, Q (.panic c) (a.put oi.dst undef) w → Q (.panic c) a w) (hw : Region.wanted oi (yielded ops a.tmps) = false) (hS : S w) (hb : a.put oi.dst undef = b)
    (h : wpAnyH P md ops Q S fuel (listed.setIfInBounds i true) b w) : wpAnyH P md ops Q S (fuel + 1) listed a w :=
  wpAnyH_take hi hs hf hr hQ (Or.inr ⟨hw, rfl⟩) hS (hb ▸ h)
end
set_option maxRecDepth 100000 in
set_option maxHeartbeats 16000000 in
theorem same_c (base lp mb rb n cap : Nat) (R : Int → List Int) (w : World) (hL : LkAt Z w base lp mb n R) (h : RlAt Z w rb n R) :
    Calls Try.prog 14 #[.pointer (some ⟨lp, 0, none⟩), .slice (some ⟨rb, 0, none⟩) n cap] w fun e w' => e = .returned (.bool true) ∧ Below w.heap.size w w' := by
  have hn1 := hL.n0
  have hn2 := hL.n1
  have hok := hL.ok
  have HOK := Lib.hid hok
  have HLL := Lib.hid hL
  have HRL := Lib.hid h
  clear hL h hok
  go_enter Try.func14, Try.ntmps14
  go_wp2_with fail
  go_loopw [5] (fun iv wr => ∃ k : Nat, k ≤ n + 2 ∧ iv = .int .i64 ((k : Int) - 1) ∧ Below w.heap.size w wr) (fun iv _ => ((n : Int) + 1 - intOf iv).toNat)
  case atStart => exact ⟨0, by omega, rfl, Below.refl _ _⟩
  case round =>
    obtain ⟨k0, hk0, rfl, hb⟩ := hrel
    have HBR := Lib.hid hb
    have HLR := Lib.hid (HLL.out.low hb)
    have HRR := Lib.hid (HRL.out.low hb)
    clear hb
    by_cases hle : k0 = n + 2
    · subst hle
      rw [show (((n + 2 : Nat) : Int) - 1) = (n : Int) + 1 by omega]
      have g1 : decide ((n : Int) + 1 ≤ (n : Int)) = false := decide_eq_false (by omega)
      have g2 : ¬ ((n : Int) + 1 ≤ (n : Int)) := by omega
      clear hk0 HLR HRR
      go_wp2_with fail
      go_loopw [8] (fun iv wr => ∃ k : Nat, k ≤ 10 ∧ iv = .int .i64 ((k : Int) - 1) ∧ Below w.heap.size w wr) (fun iv _ => (9 - intOf iv).toNat)
      case atStart => exact ⟨0, by omega, rfl, HBR.out⟩
      case round =>
        obtain ⟨k, hk, rfl, hb⟩ := hrel
        clear HBR
        have HBR := Lib.hid hb
        have HLR := Lib.hid (HLL.out.low hb)
        have HRR := Lib.hid (HRL.out.low hb)
        clear hb
        by_cases hlt : k < 10
        · obtain ⟨who, hwho⟩ : ∃ who : Int, (k : Int) - 1 = who := ⟨_, rfl⟩
          have hw1 : -1 ≤ who := by omega
          have hw2 : who ≤ 8 := by omega
          have gw : decide (who ≤ 8) = true := by simpa using hw2
          rw [hwho]
          have HW := Lib.hid hwho
          clear hwho
          go_wp2_with fail
          refine (waits_c _ who n R _ (.inr ⟨Z, base, lp, mb, rfl, HLR.out⟩)).mono ?_
          rintro e w2 ⟨rfl, hb2⟩
          have HL2 := Lib.hid (HLR.out.low hb2)
          have HR2 := Lib.hid (HRR.out.low hb2)
          have HB2 := Lib.hid (HBR.out.trans (hb2.mono HBR.out.size))
          clear hb2
          have HWT := Lib.hid (show (Lk.which (Lk.waits who) R n = [] ∧ Lk.want R n who = -1 ∧ (Lk.which (Lk.waits who) R n).getD 0 0 = 0) ∨ (Lk.which (Lk.waits who) R n ≠ [] ∧ Lk.want R n who = (Lk.which (Lk.waits who) R n).getD 0 0 ∧ 0 ≤ Lk.want R n who) from by
            unfold Lk.want
            by_cases e : Lk.which (Lk.waits who) R n = []
            · rw [e]; exact .inl ⟨rfl, rfl, rfl⟩
            · rw [if_neg e]
              refine .inr ⟨e, rfl, ?_⟩
              have := ((Lk.which_mem (Lk.waits who) R n ((Lk.which (Lk.waits who) R n).getD 0 0)).1 (by
                cases hh : Lk.which (Lk.waits who) R n with
                | nil => exact absurd hh e
                | cons a l => simp)).1
              exact this)
          have HRW := Lib.hid (rwaits_c rb n cap R who w2 HR2.out HOK.out hn2)
          generalize Lk.want R n who = wt at *
          obtain ⟨yes, hy⟩ : ∃ b, decide (Lk.which (Lk.waits who) R n ≠ []) = b := ⟨_, rfl⟩
          rw [hy]
          generalize hat : (Lk.which (Lk.waits who) R n).getD 0 0 = at_ at *
          go_wp2_with fail
          refine HRW.out.mono ?_
          rintro e w' ⟨rfl, rfl⟩
          go_wp2_with fail
          refine (held_c _ who n R _ (.inr ⟨Z, base, lp, mb, rfl, HL2.out⟩)).mono ?_
          rintro e w4 ⟨v4, rfl, hown4, hb4⟩
          obtain ⟨p4, cap4, rfl, hv4, -, -⟩ := own_form2 hown4
          have HV4 := Lib.hid hv4
          have HR4 := Lib.hid (HR2.out.low hb4)
          have HB4 := Lib.hid (HB2.out.trans (hb4.mono HB2.out.size))
          clear hown4 hb4 hv4
          go_wp2_with fail
          refine (rheld_c rb n cap R who _ HR4.out HOK.out hn2).mono ?_
          rintro e w5 ⟨v5, rfl, hown5, hb5⟩
          obtain ⟨p5, cap5, rfl, hv5, -, -⟩ := own_form2 hown5
          have HV5 := Lib.hid hv5
          have HV4' := Lib.hid (HV4.out.low hb5)
          have HB5 := Lib.hid (HB4.out.trans (hb5.mono HB4.out.size))
          have hwl := Lk.which_len (Lk.holds who) R n
          clear hown5 hb5 hv5
          have HIN := Lib.hid (ints_c p4 p5 cap4 cap5 (Lk.which (Lk.holds who) R n) (Lk.which (Lk.holds who) R n) w5 HV4'.out HV5.out (by omega))
          rw [show decide (Lk.which (Lk.holds who) R n = Lk.which (Lk.holds who) R n) = true by simp] at HIN
          generalize Lk.which (Lk.holds who) R n = G at *
          go_wp2_with fail
          refine HIN.out.mono ?_
          rintro e w6 ⟨rfl, hb6⟩
          have HB6 := Lib.hid (HB5.out.trans (hb6.mono HB5.out.size))
          clear hb6
          rcases HWT.out with ⟨e1, e2, e3⟩ | ⟨e1, e2, e3⟩
          · have hyes : yes = false := by rw [← hy]; simpa using e1
            subst hyes
            subst e2
            rw [e3]
            clear hy e1 hat
            go_wp2_with fail
            go_roundw
            case rel => exact ⟨k + 1, by omega, by have := HW.out; go_num, HB6.out⟩
            case measure => have := HW.out; simp [intOf]; omega
          · have hyes : yes = true := by rw [← hy]; simpa using e1
            subst hyes
            subst e2
            have ge : decide (0 ≤ wt) = true := by simpa using e3
            clear hy e1 hat
            go_wp2_with fail
            go_roundw
            case rel => exact ⟨k + 1, by omega, by have := HW.out; go_num, HB6.out⟩
            case measure => have := HW.out; simp [intOf]; omega
        · obtain rfl : k = 10 := by omega
          rw [show (((10 : Nat) : Int) - 1) = 9 from rfl]
          clear hlt hk
          go_wp2_with fail
          go_ret
          exact ⟨rfl, HBR.out⟩
    by_cases h0 : k0 = 0
    · subst h0
      rw [show (((0 : Nat) : Int) - 1) = -1 from rfl]
      have HRE := Lib.hid (show R (-1) = [] from HOK.out.out _ (by omega))
      have HQ := Lib.hid (queue_c (.pointer (some ⟨lp, 0, none⟩)) (-1) n R wr (.inr ⟨Z, base, lp, mb, rfl, HLR.out⟩) (by unfold InI; decide))
      rw [HRE.out] at HQ
      have HH := Lib.hid (holder_c (.pointer (some ⟨lp, 0, none⟩)) (-1) n R wr (.inr ⟨Z, base, lp, mb, rfl, HLR.out⟩) (by unfold InI; decide))
      rw [HRE.out] at HH
      have g1 : (-1 : Int) ≤ (n : Int) := by omega
      have g2 : decide ((-1 : Int) ≤ (n : Int)) = true := decide_eq_true g1
      clear hle HRE
      go_wp2_with fail
      refine HH.out.mono ?_
      rintro e w' ⟨rfl, rfl⟩
      rw [show ([] : List Int).getD 0 0 = 0 from rfl, show decide (([] : List Int) ≠ []) = false from rfl]
      go_wp2_with fail
      refine HQ.out.mono ?_
      rintro e w2 ⟨v2, rfl, hown, hb2⟩
      obtain ⟨p2, cap2, rfl, -⟩ := own_form2 hown
      have HB2 := Lib.hid (HBR.out.trans (hb2.mono HBR.out.size))
      clear hown hb2
      rw [show (([] : List Int).tail).length = 0 from rfl]
      go_wp2_with fail
      go_roundw
      case rel => exact ⟨1, by omega, rfl, HB2.out⟩
      case measure => simp [intOf]; omega
    by_cases h1 : k0 = n + 1
    · subst h1
      rw [show (((n + 1 : Nat) : Int) - 1) = (n : Int) by omega]
      have HRE := Lib.hid (show R (n : Int) = [] from HOK.out.out _ (by omega))
      have HQ := Lib.hid (queue_c (.pointer (some ⟨lp, 0, none⟩)) (n : Int) n R wr (.inr ⟨Z, base, lp, mb, rfl, HLR.out⟩) (by unfold InI; omega))
      rw [HRE.out] at HQ
      have HH := Lib.hid (holder_c (.pointer (some ⟨lp, 0, none⟩)) (n : Int) n R wr (.inr ⟨Z, base, lp, mb, rfl, HLR.out⟩) (by unfold InI; omega))
      rw [HRE.out] at HH
      have g3 : decide ((n : Int) < 0) = false := decide_eq_false (by omega)
      have g4 : ¬ (n : Int) < 0 := by omega
      clear hle HRE
      go_wp2_with fail
      refine HH.out.mono ?_
      rintro e w' ⟨rfl, rfl⟩
      rw [show ([] : List Int).getD 0 0 = 0 from rfl, show decide (([] : List Int) ≠ []) = false from rfl]
      go_wp2_with fail
      refine HQ.out.mono ?_
      rintro e w2 ⟨v2, rfl, hown, hb2⟩
      obtain ⟨p2, cap2, rfl, -⟩ := own_form2 hown
      have HB2 := Lib.hid (HBR.out.trans (hb2.mono HBR.out.size))
      clear hown hb2
      rw [show (([] : List Int).tail).length = 0 from rfl]
      go_wp2_with fail
      go_roundw
      case rel => exact ⟨n + 2, by omega, by go_num, HB2.out⟩
      case measure => simp [intOf]
    obtain ⟨k, rfl⟩ : ∃ k, k0 = k + 1 := ⟨k0 - 1, by omega⟩
    rw [show (((k + 1 : Nat) : Int) - 1) = (k : Int) by omega]
    have hk : k < n := by omega
    have HKI := Lib.hid (show InI (k : Int) by unfold InI; omega)
    have HH := Lib.hid (holder_c (.pointer (some ⟨lp, 0, none⟩)) (k : Int) n R wr (.inr ⟨Z, base, lp, mb, rfl, HLR.out⟩) HKI.out)
    have g1 : (k : Int) ≤ (n : Int) := by omega
    have g2 : decide ((k : Int) ≤ (n : Int)) = true := by simpa using g1
    have g3 : decide ((k : Int) < 0) = false := decide_eq_false (by omega)
    have g4 : ¬ (k : Int) < 0 := by omega
    have g5 : ((k : Int) == (n : Int)) = false := beq_eq_false_iff_ne.2 (by omega)
    have c0 : wr.cell? ⟨rb, k * 2, none⟩ = some (.int .i64 (Lk.hd (R (k : Int)))) := HRR.out.hold k hk
    obtain ⟨p, cq, c1, hv⟩ : ∃ p cq, wr.cell? ⟨rb, k * 2 + 1, none⟩ = some (.slice p (R (k : Int)).tail.length cq) ∧ Vw wr p (iV (R (k : Int)).tail) := by
      obtain ⟨p, cq, h1, h2, -⟩ := HRR.out.que k hk
      exact ⟨p, cq, h1, h2⟩
    have HV := Lib.hid hv
    have HL8 := Lib.hid (show (R (k : Int)).tail.length ≤ 8 by have := HOK.out.len (k : Int); rw [List.length_tail]; omega)
    clear hv hle h0 h1
    generalize hT : (R (k : Int)).tail = T at *
    have HT := Lib.hid hT
    clear hT
    cases hr : R (k : Int) with
    | nil =>
      rw [hr] at c0 HH
      have c0 : wr.cell? ⟨rb, k * 2, none⟩ = some (.int .i64 (-1)) := c0
      clear hr
      go_wp2_with fail
      refine HH.out.mono ?_
      rintro e w' ⟨rfl, rfl⟩
      rw [show ([] : List Int).getD 0 0 = 0 from rfl, show decide (([] : List Int) ≠ []) = false from rfl]
      go_upto_region 8 with (fail)
      have hS0 : wr.drew.cell? ⟨rb, k * 2, none⟩ = some (.int .i64 (-1)) ∧ wr.drew.cell? ⟨rb, k * 2 + 1, none⟩ = some (.slice p T.length cq) := ⟨c0, c1⟩
      have hd0 : Below wr.heap.size wr wr.drew := (Below.refl _ _).drew
      have HLD := Lib.hid (HLR.out.low hd0)
      have HRD := Lib.hid (HRR.out.low hd0)
      clear c0 c1
      refine wp_region_noPanic ?_
      refine wp_region_held (S := fun W => W.cell? ⟨rb, k * 2, none⟩ = some (.int .i64 (-1)) ∧ W.cell? ⟨rb, k * 2 + 1, none⟩ = some (.slice p T.length cq)) (by kernel_rfl) ?_
      refine takeH (fuel := 39) (i := 0) (.bool false) ?_ rfl (by kernel_rfl) (by kernel_rfl) (by kernel_rfl) (fun _ _ _ h => h) (by kernel_rfl) (fun W hS => by obtain ⟨c0, c1⟩ := hS; go_simp) hS0 ?_ ?_
      rotate_left 1
      · go_simp
        exact rfl
      refine takeH (fuel := 38) (i := 1) (.slice (some ⟨rb, 0, none⟩) n cap) ?_ rfl (by kernel_rfl) (by kernel_rfl) (by kernel_rfl) (fun _ _ _ h => h) (by kernel_rfl) (fun W hS => by obtain ⟨c0, c1⟩ := hS; go_simp) hS0 ?_ ?_
      rotate_left 1
      · go_simp
        exact rfl
      refine takeH (fuel := 37) (i := 2) (.int .i64 (k : Int)) ?_ rfl (by kernel_rfl) (by kernel_rfl) (by kernel_rfl) (fun _ _ _ h => h) (by kernel_rfl) (fun W hS => by obtain ⟨c0, c1⟩ := hS; go_simp) hS0 ?_ ?_
      rotate_left 1
      · go_simp
        exact rfl
      refine takeH (fuel := 36) (i := 3) (.pointer (some ⟨rb, k * 2, none⟩)) ?_ rfl (by kernel_rfl) (by kernel_rfl) (by kernel_rfl) (fun _ _ _ h => h) (by kernel_rfl) (fun W hS => by obtain ⟨c0, c1⟩ := hS; go_simp) hS0 ?_ ?_
      rotate_left 1
      · go_simp
        exact rfl
      refine takeH (fuel := 35) (i := 4) (.pointer (some ⟨rb, k * 2, none⟩)) ?_ rfl (by kernel_rfl) (by kernel_rfl) (by kernel_rfl) (fun _ _ _ h => h) (by kernel_rfl) (fun W hS => by obtain ⟨c0, c1⟩ := hS; go_simp) hS0 ?_ ?_
      rotate_left 1
      · go_simp
        exact rfl
      refine takeH (fuel := 34) (i := 5) (.int .i64 (-1)) ?_ rfl (by kernel_rfl) (by kernel_rfl) (by kernel_rfl) (fun _ _ _ h => h) (by kernel_rfl) (fun W hS => by obtain ⟨c0, c1⟩ := hS; go_simp) hS0 ?_ ?_
      rotate_left 1
      · go_simp
        exact rfl
      refine takeH (fuel := 33) (i := 6) (.bool false) ?_ rfl (by kernel_rfl) (by kernel_rfl) (by kernel_rfl) (fun _ _ _ h => h) (by kernel_rfl) (fun W hS => by obtain ⟨c0, c1⟩ := hS; go_simp) hS0 ?_ ?_
      rotate_left 1
      · go_simp
        exact rfl
      refine takeH (fuel := 32) (i := 7) (.bool false) ?_ rfl (by kernel_rfl) (by kernel_rfl) (by kernel_rfl) (fun _ _ _ h => h) (by kernel_rfl) (fun W hS => by obtain ⟨c0, c1⟩ := hS; go_simp) hS0 ?_ ?_
      rotate_left 1
      · go_simp
        exact rfl
      refine takeH (fuel := 31) (i := 8) (.bool false) ?_ rfl (by kernel_rfl) (by kernel_rfl) (by kernel_rfl) (fun _ _ _ h => h) (by kernel_rfl) (fun W hS => by obtain ⟨c0, c1⟩ := hS; go_simp) hS0 ?_ ?_
      rotate_left 1
      · go_simp
        exact rfl
      refine takeH (fuel := 30) (i := 9) (.bool false) ?_ rfl (by kernel_rfl) (by kernel_rfl) (by kernel_rfl) (fun _ _ _ h => h) (by kernel_rfl) (fun W hS => by obtain ⟨c0, c1⟩ := hS; go_simp) hS0 ?_ ?_
      rotate_left 1
      · go_simp
        exact rfl
      refine takeH (fuel := 29) (i := 10) (.bool false) ?_ rfl (by kernel_rfl) (by kernel_rfl) (by kernel_rfl) (fun _ _ _ h => h) (by kernel_rfl) (fun W hS => by obtain ⟨c0, c1⟩ := hS; go_simp) hS0 ?_ ?_
      rotate_left 1
      · go_simp
        exact rfl
      refine takeN (fuel := 28) (i := 11) ?_ rfl (by kernel_rfl) (by kernel_rfl) (by kernel_rfl) (fun _ _ _ h => h) (by kernel_rfl) hS0 ?_ ?_
      rotate_left 1
      · exact rfl
      refine takeN (fuel := 27) (i := 12) ?_ rfl (by kernel_rfl) (by kernel_rfl) (by kernel_rfl) (fun _ _ _ h => h) (by kernel_rfl) hS0 ?_ ?_
      rotate_left 1
      · exact rfl
      refine takeN (fuel := 26) (i := 13) ?_ rfl (by kernel_rfl) (by kernel_rfl) (by kernel_rfl) (fun _ _ _ h => h) (by kernel_rfl) hS0 ?_ ?_
      rotate_left 1
      · exact rfl
      refine takeN (fuel := 25) (i := 14) ?_ rfl (by kernel_rfl) (by kernel_rfl) (by kernel_rfl) (fun _ _ _ h => h) (by kernel_rfl) hS0 ?_ ?_
      rotate_left 1
      · exact rfl
      refine takeN (fuel := 24) (i := 15) ?_ rfl (by kernel_rfl) (by kernel_rfl) (by kernel_rfl) (fun _ _ _ h => h) (by kernel_rfl) hS0 ?_ ?_
      rotate_left 1
      · exact rfl
      refine takeN (fuel := 23) (i := 16) ?_ rfl (by kernel_rfl) (by kernel_rfl) (by kernel_rfl) (fun _ _ _ h => h) (by kernel_rfl) hS0 ?_ ?_
      rotate_left 1
      · exact rfl
      refine takeN (fuel := 22) (i := 17) ?_ rfl (by kernel_rfl) (by kernel_rfl) (by kernel_rfl) (fun _ _ _ h => h) (by kernel_rfl) hS0 ?_ ?_
      rotate_left 1
      · exact rfl
      refine takeH (fuel := 21) (i := 18) (.bool false) ?_ rfl (by kernel_rfl) (by kernel_rfl) (by kernel_rfl) (fun _ _ _ h => h) (by kernel_rfl) (fun W hS => by obtain ⟨c0, c1⟩ := hS; go_simp) hS0 ?_ ?_
      rotate_left 1
      · go_simp
        exact rfl
      refine takeH (fuel := 20) (i := 19) (.bool false) ?_ rfl (by kernel_rfl) (by kernel_rfl) (by kernel_rfl) (fun _ _ _ h => h) (by kernel_rfl) (fun W hS => by obtain ⟨c0, c1⟩ := hS; go_simp) hS0 ?_ ?_
      rotate_left 1
      · go_simp
        exact rfl
      refine takeH (fuel := 19) (i := 20) (.bool false) ?_ rfl (by kernel_rfl) (by kernel_rfl) (by kernel_rfl) (fun _ _ _ h => h) (by kernel_rfl) (fun W hS => by obtain ⟨c0, c1⟩ := hS; go_simp) hS0 ?_ ?_
      rotate_left 1
      · go_simp
        exact rfl
      refine takeH (fuel := 18) (i := 21) (.bool false) ?_ rfl (by kernel_rfl) (by kernel_rfl) (by kernel_rfl) (fun _ _ _ h => h) (by kernel_rfl) (fun W hS => by obtain ⟨c0, c1⟩ := hS; go_simp) hS0 ?_ ?_
      rotate_left 1
      · go_simp
        exact rfl
      refine takeH (fuel := 17) (i := 22) (.bool true) ?_ rfl (by kernel_rfl) (by kernel_rfl) (by kernel_rfl) (fun _ _ _ h => h) (by kernel_rfl) (fun W hS => by obtain ⟨c0, c1⟩ := hS; go_simp) hS0 ?_ ?_
      rotate_left 1
      · go_simp
        exact rfl
      refine takeH (fuel := 16) (i := 23) (.bool true) ?_ rfl (by kernel_rfl) (by kernel_rfl) (by kernel_rfl) (fun _ _ _ h => h) (by kernel_rfl) (fun W hS => by obtain ⟨c0, c1⟩ := hS; go_simp) hS0 ?_ ?_
      rotate_left 1
      · go_simp
        exact rfl
      refine takeH (fuel := 15) (i := 24) (.int .i64 0) ?_ rfl (by kernel_rfl) (by kernel_rfl) (by kernel_rfl) (fun _ _ _ h => h) (by kernel_rfl) (fun W hS => by obtain ⟨c0, c1⟩ := hS; go_simp) hS0 ?_ ?_
      rotate_left 1
      · go_simp
        exact rfl
      refine takeH (fuel := 14) (i := 25) (.bool false) ?_ rfl (by kernel_rfl) (by kernel_rfl) (by kernel_rfl) (fun _ _ _ h => h) (by kernel_rfl) (fun W hS => by obtain ⟨c0, c1⟩ := hS; go_simp) hS0 ?_ ?_
      rotate_left 1
      · go_simp
        exact rfl
      refine takeH (fuel := 13) (i := 26) (.bool false) ?_ rfl (by kernel_rfl) (by kernel_rfl) (by kernel_rfl) (fun _ _ _ h => h) (by kernel_rfl) (fun W hS => by obtain ⟨c0, c1⟩ := hS; go_simp) hS0 ?_ ?_
      rotate_left 1
      · go_simp
        exact rfl
      refine takeH (fuel := 12) (i := 27) (.bool false) ?_ rfl (by kernel_rfl) (by kernel_rfl) (by kernel_rfl) (fun _ _ _ h => h) (by kernel_rfl) (fun W hS => by obtain ⟨c0, c1⟩ := hS; go_simp) hS0 ?_ ?_
      rotate_left 1
      · go_simp
        exact rfl
      refine takeH (fuel := 11) (i := 28) (.bool false) ?_ rfl (by kernel_rfl) (by kernel_rfl) (by kernel_rfl) (fun _ _ _ h => h) (by kernel_rfl) (fun W hS => by obtain ⟨c0, c1⟩ := hS; go_simp) hS0 ?_ ?_
      rotate_left 1
      · go_simp
        exact rfl
      refine takeH (fuel := 10) (i := 29) (.pointer (some ⟨lp, 0, none⟩)) ?_ rfl (by kernel_rfl) (by kernel_rfl) (by kernel_rfl) (fun _ _ _ h => h) (by kernel_rfl) (fun W hS => by obtain ⟨c0, c1⟩ := hS; go_simp) hS0 ?_ ?_
      rotate_left 1
      · go_simp
        exact rfl
      refine takeH (fuel := 9) (i := 30) (.int .i64 (k : Int)) ?_ rfl (by kernel_rfl) (by kernel_rfl) (by kernel_rfl) (fun _ _ _ h => h) (by kernel_rfl) (fun W hS => by obtain ⟨c0, c1⟩ := hS; go_simp) hS0 ?_ ?_
      rotate_left 1
      · go_simp
        exact rfl
      refine takeH (fuel := 8) (i := 32) (.slice (some ⟨rb, 0, none⟩) n cap) ?_ rfl (by kernel_rfl) (by kernel_rfl) (by kernel_rfl) (fun _ _ _ h => h) (by kernel_rfl) (fun W hS => by obtain ⟨c0, c1⟩ := hS; go_simp) hS0 ?_ ?_
      rotate_left 1
      · go_simp
        exact rfl
      refine takeH (fuel := 7) (i := 33) (.int .i64 (k : Int)) ?_ rfl (by kernel_rfl) (by kernel_rfl) (by kernel_rfl) (fun _ _ _ h => h) (by kernel_rfl) (fun W hS => by obtain ⟨c0, c1⟩ := hS; go_simp) hS0 ?_ ?_
      rotate_left 1
      · go_simp
        exact rfl
      refine takeH (fuel := 6) (i := 34) (.pointer (some ⟨rb, k * 2, none⟩)) ?_ rfl (by kernel_rfl) (by kernel_rfl) (by kernel_rfl) (fun _ _ _ h => h) (by kernel_rfl) (fun W hS => by obtain ⟨c0, c1⟩ := hS; go_simp) hS0 ?_ ?_
      rotate_left 1
      · go_simp
        exact rfl
      refine takeH (fuel := 5) (i := 35) (.pointer (some ⟨rb, k * 2 + 1, none⟩)) ?_ rfl (by kernel_rfl) (by kernel_rfl) (by kernel_rfl) (fun _ _ _ h => h) (by kernel_rfl) (fun W hS => by obtain ⟨c0, c1⟩ := hS; go_simp) hS0 ?_ ?_
      rotate_left 1
      · go_simp
        exact rfl
      refine takeH (fuel := 4) (i := 36) (.slice p T.length cq) ?_ rfl (by kernel_rfl) (by kernel_rfl) (by kernel_rfl) (fun _ _ _ h => h) (by kernel_rfl) (fun W hS => by obtain ⟨c0, c1⟩ := hS; go_simp) hS0 ?_ ?_
      rotate_left 1
      · go_simp
        exact rfl
      refine wpAnyH_all (fuel := 3) (rs := [31]) (by kernel_rfl) (by decide) ?_
      intro i hi
      obtain rfl : i = 31 := by simpa using hi
      change Go.wpOp _ _ _ _ _ _ wr.drew
      refine wpOp_callX 21 #[.pointer (some ⟨lp, 0, none⟩), .int .i64 (k : Int)] rfl (by kernel_rfl) (by go_simp) ?_
      refine (queue_c _ (k : Int) n R _ (.inr ⟨Z, base, lp, mb, rfl, HLD.out⟩) HKI.out).mono ?_
      rintro e w2 ⟨v2, rfl, hown, hb2⟩
      have hS2 : w2.cell? ⟨rb, k * 2, none⟩ = some (.int .i64 (-1)) ∧ w2.cell? ⟨rb, k * 2 + 1, none⟩ = some (.slice p T.length cq) := ⟨(hb2.cell (p := ⟨rb, k * 2, none⟩) HRD.out.lt).trans hS0.1, (hb2.cell (p := ⟨rb, k * 2 + 1, none⟩) HRD.out.lt).trans hS0.2⟩
      rw [HT.out] at hown
      obtain ⟨p2, cap2, rfl, hv2, -, -⟩ := own_form2 hown
      refine ⟨_, rfl, hS2, ?_⟩
      refine wpAnyH_all (fuel := 2) (rs := [37]) (by kernel_rfl) (by decide) ?_
      intro i hi
      obtain rfl : i = 37 := by simpa using hi
      refine wpOp_callX 15 #[.slice p2 T.length cap2, .slice p T.length cq] rfl (by kernel_rfl) (by go_simp) ?_
      refine (ints_c p2 p cap2 cq T T w2 hv2 (HV.out.low (hd0.trans (hb2.mono hd0.size))) (by have := HL8.out; omega)).mono ?_
      rintro e w3 ⟨rfl, hb3⟩
      rw [show decide (T = T) = true by simp]
      have hS3 : w3.cell? ⟨rb, k * 2, none⟩ = some (.int .i64 (-1)) ∧ w3.cell? ⟨rb, k * 2 + 1, none⟩ = some (.slice p T.length cq) := ⟨(hb3.cell (p := ⟨rb, k * 2, none⟩) (Nat.lt_of_lt_of_le HRD.out.lt hb2.size)).trans hS2.1, (hb3.cell (p := ⟨rb, k * 2 + 1, none⟩) (Nat.lt_of_lt_of_le HRD.out.lt hb2.size)).trans hS2.2⟩
      refine ⟨_, rfl, hS3, ?_⟩
      refine takeH (fuel := 1) (i := 38) (.bool false) ?_ rfl (by kernel_rfl) (by kernel_rfl) (by kernel_rfl) (fun _ _ _ h => h) (by kernel_rfl) (fun W hS => by go_simp) hS3 ?_ ?_
      rotate_left 1
      · go_simp
        exact rfl
      refine takeH (fuel := 0) (i := 39) (.bool false) ?_ rfl (by kernel_rfl) (by kernel_rfl) (by kernel_rfl) (fun _ _ _ h => h) (by kernel_rfl) (fun W hS => by go_simp) hS3 ?_ ?_
      rotate_left 1
      · go_simp
        exact rfl
      refine wpAnyH_done (by kernel_rfl) ?_ _
      refine NoPanic.normal ?_
      have HB3 := Lib.hid (HBR.out.trans ((hd0.trans ((hb2.mono hd0.size).trans (hb3.mono (Nat.le_trans hd0.size hb2.size)))).mono HBR.out.size))
      clear hS2 hS3 hb3 hb2 hown hv2 hS0 hd0
      go_wp2_with fail
      go_roundw
      case rel => exact ⟨k + 2, by omega, by go_num, HB3.out⟩
      case measure => simp [intOf]; omega
    | cons x t =>
      have hx0 := HOK.out.who (k : Int) x (by rw [hr]; simp)
      rw [hr] at c0 HH
      have c0 : wr.cell? ⟨rb, k * 2, none⟩ = some (.int .i64 x) := c0
      have gx : decide (0 ≤ x) = true := by simp; omega
      clear hr
      go_wp2_with fail
      refine HH.out.mono ?_
      rintro e w' ⟨rfl, rfl⟩
      rw [show (x :: t).getD 0 0 = x from rfl, show decide ((x :: t) ≠ []) = true from rfl]
      go_upto_region 8 with (fail)
      have hS0 : wr.drew.cell? ⟨rb, k * 2, none⟩ = some (.int .i64 x) ∧ wr.drew.cell? ⟨rb, k * 2 + 1, none⟩ = some (.slice p T.length cq) := ⟨c0, c1⟩
      have hd0 : Below wr.heap.size wr wr.drew := (Below.refl _ _).drew
      have HLD := Lib.hid (HLR.out.low hd0)
      have HRD := Lib.hid (HRR.out.low hd0)
      clear c0 c1
      refine wp_region_noPanic ?_
      refine wp_region_held (S := fun W => W.cell? ⟨rb, k * 2, none⟩ = some (.int .i64 x) ∧ W.cell? ⟨rb, k * 2 + 1, none⟩ = some (.slice p T.length cq)) (by kernel_rfl) ?_
      refine takeH (fuel := 39) (i := 0) (.bool true) ?_ rfl (by kernel_rfl) (by kernel_rfl) (by kernel_rfl) (fun _ _ _ h => h) (by kernel_rfl) (fun W hS => by obtain ⟨c0, c1⟩ := hS; go_simp) hS0 ?_ ?_
      rotate_left 1
      · go_simp
        exact rfl
      refine takeH (fuel := 38) (i := 1) (.slice (some ⟨rb, 0, none⟩) n cap) ?_ rfl (by kernel_rfl) (by kernel_rfl) (by kernel_rfl) (fun _ _ _ h => h) (by kernel_rfl) (fun W hS => by obtain ⟨c0, c1⟩ := hS; go_simp) hS0 ?_ ?_
      rotate_left 1
      · go_simp
        exact rfl
      refine takeH (fuel := 37) (i := 2) (.int .i64 (k : Int)) ?_ rfl (by kernel_rfl) (by kernel_rfl) (by kernel_rfl) (fun _ _ _ h => h) (by kernel_rfl) (fun W hS => by obtain ⟨c0, c1⟩ := hS; go_simp) hS0 ?_ ?_
      rotate_left 1
      · go_simp
        exact rfl
      refine takeH (fuel := 36) (i := 3) (.pointer (some ⟨rb, k * 2, none⟩)) ?_ rfl (by kernel_rfl) (by kernel_rfl) (by kernel_rfl) (fun _ _ _ h => h) (by kernel_rfl) (fun W hS => by obtain ⟨c0, c1⟩ := hS; go_simp) hS0 ?_ ?_
      rotate_left 1
      · go_simp
        exact rfl
      refine takeH (fuel := 35) (i := 4) (.pointer (some ⟨rb, k * 2, none⟩)) ?_ rfl (by kernel_rfl) (by kernel_rfl) (by kernel_rfl) (fun _ _ _ h => h) (by kernel_rfl) (fun W hS => by obtain ⟨c0, c1⟩ := hS; go_simp) hS0 ?_ ?_
      rotate_left 1
      · go_simp
        exact rfl
      refine takeH (fuel := 34) (i := 5) (.int .i64 x) ?_ rfl (by kernel_rfl) (by kernel_rfl) (by kernel_rfl) (fun _ _ _ h => h) (by kernel_rfl) (fun W hS => by obtain ⟨c0, c1⟩ := hS; go_simp) hS0 ?_ ?_
      rotate_left 1
      · go_simp
        exact rfl
      refine takeH (fuel := 33) (i := 6) (.bool true) ?_ rfl (by kernel_rfl) (by kernel_rfl) (by kernel_rfl) (fun _ _ _ h => h) (by kernel_rfl) (fun W hS => by obtain ⟨c0, c1⟩ := hS; go_simp) hS0 ?_ ?_
      rotate_left 1
      · go_simp
        exact rfl
      refine takeH (fuel := 32) (i := 7) (.bool false) ?_ rfl (by kernel_rfl) (by kernel_rfl) (by kernel_rfl) (fun _ _ _ h => h) (by kernel_rfl) (fun W hS => by obtain ⟨c0, c1⟩ := hS; go_simp) hS0 ?_ ?_
      rotate_left 1
      · go_simp
        exact rfl
      refine takeH (fuel := 31) (i := 8) (.bool false) ?_ rfl (by kernel_rfl) (by kernel_rfl) (by kernel_rfl) (fun _ _ _ h => h) (by kernel_rfl) (fun W hS => by obtain ⟨c0, c1⟩ := hS; go_simp) hS0 ?_ ?_
      rotate_left 1
      · go_simp
        exact rfl
      refine takeH (fuel := 30) (i := 9) (.bool true) ?_ rfl (by kernel_rfl) (by kernel_rfl) (by kernel_rfl) (fun _ _ _ h => h) (by kernel_rfl) (fun W hS => by obtain ⟨c0, c1⟩ := hS; go_simp) hS0 ?_ ?_
      rotate_left 1
      · go_simp
        exact rfl
      refine takeH (fuel := 29) (i := 10) (.bool true) ?_ rfl (by kernel_rfl) (by kernel_rfl) (by kernel_rfl) (fun _ _ _ h => h) (by kernel_rfl) (fun W hS => by obtain ⟨c0, c1⟩ := hS; go_simp) hS0 ?_ ?_
      rotate_left 1
      · go_simp
        exact rfl
      refine takeH (fuel := 28) (i := 11) (.int .i64 x) ?_ rfl (by kernel_rfl) (by kernel_rfl) (by kernel_rfl) (fun _ _ _ h => h) (by kernel_rfl) (fun W hS => by obtain ⟨c0, c1⟩ := hS; go_simp) hS0 ?_ ?_
      rotate_left 1
      · go_simp
        exact rfl
      refine takeH (fuel := 27) (i := 12) (.slice (some ⟨rb, 0, none⟩) n cap) ?_ rfl (by kernel_rfl) (by kernel_rfl) (by kernel_rfl) (fun _ _ _ h => h) (by kernel_rfl) (fun W hS => by obtain ⟨c0, c1⟩ := hS; go_simp) hS0 ?_ ?_
      rotate_left 1
      · go_simp
        exact rfl
      refine takeH (fuel := 26) (i := 13) (.int .i64 (k : Int)) ?_ rfl (by kernel_rfl) (by kernel_rfl) (by kernel_rfl) (fun _ _ _ h => h) (by kernel_rfl) (fun W hS => by obtain ⟨c0, c1⟩ := hS; go_simp) hS0 ?_ ?_
      rotate_left 1
      · go_simp
        exact rfl
      refine takeH (fuel := 25) (i := 14) (.pointer (some ⟨rb, k * 2, none⟩)) ?_ rfl (by kernel_rfl) (by kernel_rfl) (by kernel_rfl) (fun _ _ _ h => h) (by kernel_rfl) (fun W hS => by obtain ⟨c0, c1⟩ := hS; go_simp) hS0 ?_ ?_
      rotate_left 1
      · go_simp
        exact rfl
      refine takeH (fuel := 24) (i := 15) (.pointer (some ⟨rb, k * 2, none⟩)) ?_ rfl (by kernel_rfl) (by kernel_rfl) (by kernel_rfl) (fun _ _ _ h => h) (by kernel_rfl) (fun W hS => by obtain ⟨c0, c1⟩ := hS; go_simp) hS0 ?_ ?_
      rotate_left 1
      · go_simp
        exact rfl
      refine takeH (fuel := 23) (i := 16) (.int .i64 x) ?_ rfl (by kernel_rfl) (by kernel_rfl) (by kernel_rfl) (fun _ _ _ h => h) (by kernel_rfl) (fun W hS => by obtain ⟨c0, c1⟩ := hS; go_simp) hS0 ?_ ?_
      rotate_left 1
      · go_simp
        exact rfl
      refine takeH (fuel := 22) (i := 17) (.bool false) ?_ rfl (by kernel_rfl) (by kernel_rfl) (by kernel_rfl) (fun _ _ _ h => h) (by kernel_rfl) (fun W hS => by obtain ⟨c0, c1⟩ := hS; go_simp) hS0 ?_ ?_
      rotate_left 1
      · go_simp
        exact rfl
      refine takeH (fuel := 21) (i := 18) (.bool false) ?_ rfl (by kernel_rfl) (by kernel_rfl) (by kernel_rfl) (fun _ _ _ h => h) (by kernel_rfl) (fun W hS => by obtain ⟨c0, c1⟩ := hS; go_simp) hS0 ?_ ?_
      rotate_left 1
      · go_simp
        exact rfl
      refine takeH (fuel := 20) (i := 19) (.bool false) ?_ rfl (by kernel_rfl) (by kernel_rfl) (by kernel_rfl) (fun _ _ _ h => h) (by kernel_rfl) (fun W hS => by obtain ⟨c0, c1⟩ := hS; go_simp) hS0 ?_ ?_
      rotate_left 1
      · go_simp
        exact rfl
      refine takeH (fuel := 19) (i := 20) (.bool false) ?_ rfl (by kernel_rfl) (by kernel_rfl) (by kernel_rfl) (fun _ _ _ h => h) (by kernel_rfl) (fun W hS => by obtain ⟨c0, c1⟩ := hS; go_simp) hS0 ?_ ?_
      rotate_left 1
      · go_simp
        exact rfl
      refine takeH (fuel := 18) (i := 21) (.bool true) ?_ rfl (by kernel_rfl) (by kernel_rfl) (by kernel_rfl) (fun _ _ _ h => h) (by kernel_rfl) (fun W hS => by obtain ⟨c0, c1⟩ := hS; go_simp) hS0 ?_ ?_
      rotate_left 1
      · go_simp
        exact rfl
      refine takeH (fuel := 17) (i := 22) (.bool false) ?_ rfl (by kernel_rfl) (by kernel_rfl) (by kernel_rfl) (fun _ _ _ h => h) (by kernel_rfl) (fun W hS => by obtain ⟨c0, c1⟩ := hS; go_simp) hS0 ?_ ?_
      rotate_left 1
      · go_simp
        exact rfl
      refine takeH (fuel := 16) (i := 23) (.bool false) ?_ rfl (by kernel_rfl) (by kernel_rfl) (by kernel_rfl) (fun _ _ _ h => h) (by kernel_rfl) (fun W hS => by obtain ⟨c0, c1⟩ := hS; go_simp) hS0 ?_ ?_
      rotate_left 1
      · go_simp
        exact rfl
      refine takeN (fuel := 15) (i := 24) ?_ rfl (by kernel_rfl) (by kernel_rfl) (by kernel_rfl) (fun _ _ _ h => h) (by kernel_rfl) hS0 ?_ ?_
      rotate_left 1
      · exact rfl
      refine takeN (fuel := 14) (i := 25) ?_ rfl (by kernel_rfl) (by kernel_rfl) (by kernel_rfl) (fun _ _ _ h => h) (by kernel_rfl) hS0 ?_ ?_
      rotate_left 1
      · exact rfl
      refine takeH (fuel := 13) (i := 26) (.bool false) ?_ rfl (by kernel_rfl) (by kernel_rfl) (by kernel_rfl) (fun _ _ _ h => h) (by kernel_rfl) (fun W hS => by obtain ⟨c0, c1⟩ := hS; go_simp) hS0 ?_ ?_
      rotate_left 1
      · go_simp
        exact rfl
      refine takeH (fuel := 12) (i := 27) (.bool false) ?_ rfl (by kernel_rfl) (by kernel_rfl) (by kernel_rfl) (fun _ _ _ h => h) (by kernel_rfl) (fun W hS => by obtain ⟨c0, c1⟩ := hS; go_simp) hS0 ?_ ?_
      rotate_left 1
      · go_simp
        exact rfl
      refine takeH (fuel := 11) (i := 28) (.bool false) ?_ rfl (by kernel_rfl) (by kernel_rfl) (by kernel_rfl) (fun _ _ _ h => h) (by kernel_rfl) (fun W hS => by obtain ⟨c0, c1⟩ := hS; go_simp) hS0 ?_ ?_
      rotate_left 1
      · go_simp
        exact rfl
      refine takeH (fuel := 10) (i := 29) (.pointer (some ⟨lp, 0, none⟩)) ?_ rfl (by kernel_rfl) (by kernel_rfl) (by kernel_rfl) (fun _ _ _ h => h) (by kernel_rfl) (fun W hS => by obtain ⟨c0, c1⟩ := hS; go_simp) hS0 ?_ ?_
      rotate_left 1
      · go_simp
        exact rfl
      refine takeH (fuel := 9) (i := 30) (.int .i64 (k : Int)) ?_ rfl (by kernel_rfl) (by kernel_rfl) (by kernel_rfl) (fun _ _ _ h => h) (by kernel_rfl) (fun W hS => by obtain ⟨c0, c1⟩ := hS; go_simp) hS0 ?_ ?_
      rotate_left 1
      · go_simp
        exact rfl
      refine takeH (fuel := 8) (i := 32) (.slice (some ⟨rb, 0, none⟩) n cap) ?_ rfl (by kernel_rfl) (by kernel_rfl) (by kernel_rfl) (fun _ _ _ h => h) (by kernel_rfl) (fun W hS => by obtain ⟨c0, c1⟩ := hS; go_simp) hS0 ?_ ?_
      rotate_left 1
      · go_simp
        exact rfl
      refine takeH (fuel := 7) (i := 33) (.int .i64 (k : Int)) ?_ rfl (by kernel_rfl) (by kernel_rfl) (by kernel_rfl) (fun _ _ _ h => h) (by kernel_rfl) (fun W hS => by obtain ⟨c0, c1⟩ := hS; go_simp) hS0 ?_ ?_
      rotate_left 1
      · go_simp
        exact rfl
      refine takeH (fuel := 6) (i := 34) (.pointer (some ⟨rb, k * 2, none⟩)) ?_ rfl (by kernel_rfl) (by kernel_rfl) (by kernel_rfl) (fun _ _ _ h => h) (by kernel_rfl) (fun W hS => by obtain ⟨c0, c1⟩ := hS; go_simp) hS0 ?_ ?_
      rotate_left 1
      · go_simp
        exact rfl
      refine takeH (fuel := 5) (i := 35) (.pointer (some ⟨rb, k * 2 + 1, none⟩)) ?_ rfl (by kernel_rfl) (by kernel_rfl) (by kernel_rfl) (fun _ _ _ h => h) (by kernel_rfl) (fun W hS => by obtain ⟨c0, c1⟩ := hS; go_simp) hS0 ?_ ?_
      rotate_left 1
      · go_simp
        exact rfl
      refine takeH (fuel := 4) (i := 36) (.slice p T.length cq) ?_ rfl (by kernel_rfl) (by kernel_rfl) (by kernel_rfl) (fun _ _ _ h => h) (by kernel_rfl) (fun W hS => by obtain ⟨c0, c1⟩ := hS; go_simp) hS0 ?_ ?_
      rotate_left 1
      · go_simp
        exact rfl
      refine wpAnyH_all (fuel := 3) (rs := [31]) (by kernel_rfl) (by decide) ?_
      intro i hi
      obtain rfl : i = 31 := by simpa using hi
      change Go.wpOp _ _ _ _ _ _ wr.drew
      refine wpOp_callX 21 #[.pointer (some ⟨lp, 0, none⟩), .int .i64 (k : Int)] rfl (by kernel_rfl) (by go_simp) ?_
      refine (queue_c _ (k : Int) n R _ (.inr ⟨Z, base, lp, mb, rfl, HLD.out⟩) HKI.out).mono ?_
      rintro e w2 ⟨v2, rfl, hown, hb2⟩
      have hS2 : w2.cell? ⟨rb, k * 2, none⟩ = some (.int .i64 x) ∧ w2.cell? ⟨rb, k * 2 + 1, none⟩ = some (.slice p T.length cq) := ⟨(hb2.cell (p := ⟨rb, k * 2, none⟩) HRD.out.lt).trans hS0.1, (hb2.cell (p := ⟨rb, k * 2 + 1, none⟩) HRD.out.lt).trans hS0.2⟩
      rw [HT.out] at hown
      obtain ⟨p2, cap2, rfl, hv2, -, -⟩ := own_form2 hown
      refine ⟨_, rfl, hS2, ?_⟩
      refine wpAnyH_all (fuel := 2) (rs := [37]) (by kernel_rfl) (by decide) ?_
      intro i hi
      obtain rfl : i = 37 := by simpa using hi
      refine wpOp_callX 15 #[.slice p2 T.length cap2, .slice p T.length cq] rfl (by kernel_rfl) (by go_simp) ?_
      refine (ints_c p2 p cap2 cq T T w2 hv2 (HV.out.low (hd0.trans (hb2.mono hd0.size))) (by have := HL8.out; omega)).mono ?_
      rintro e w3 ⟨rfl, hb3⟩
      rw [show decide (T = T) = true by simp]
      have hS3 : w3.cell? ⟨rb, k * 2, none⟩ = some (.int .i64 x) ∧ w3.cell? ⟨rb, k * 2 + 1, none⟩ = some (.slice p T.length cq) := ⟨(hb3.cell (p := ⟨rb, k * 2, none⟩) (Nat.lt_of_lt_of_le HRD.out.lt hb2.size)).trans hS2.1, (hb3.cell (p := ⟨rb, k * 2 + 1, none⟩) (Nat.lt_of_lt_of_le HRD.out.lt hb2.size)).trans hS2.2⟩
      refine ⟨_, rfl, hS3, ?_⟩
      refine takeH (fuel := 1) (i := 38) (.bool false) ?_ rfl (by kernel_rfl) (by kernel_rfl) (by kernel_rfl) (fun _ _ _ h => h) (by kernel_rfl) (fun W hS => by go_simp) hS3 ?_ ?_
      rotate_left 1
      · go_simp
        exact rfl
      refine takeH (fuel := 0) (i := 39) (.bool false) ?_ rfl (by kernel_rfl) (by kernel_rfl) (by kernel_rfl) (fun _ _ _ h => h) (by kernel_rfl) (fun W hS => by go_simp) hS3 ?_ ?_
      rotate_left 1
      · go_simp
        exact rfl
      refine wpAnyH_done (by kernel_rfl) ?_ _
      refine NoPanic.normal ?_
      have HB3 := Lib.hid (HBR.out.trans ((hd0.trans ((hb2.mono hd0.size).trans (hb3.mono (Nat.le_trans hd0.size hb2.size)))).mono HBR.out.size))
      clear hS2 hS3 hb3 hb2 hown hv2 hS0 hd0
      go_wp2_with fail
      go_roundw
      case rel => exact ⟨k + 2, by omega, by go_num, HB3.out⟩
      case measure => simp [intOf]; omega
end Go.Proofs.Ytgegahnjhaldeaa
