/-
  The statement LocksJobs (P12.3), walked.
-/
import Derived.Test.YtgegahnjhaldeaaLjB
import Derived.Test.YtgegahnjhaldeaaFrameO
namespace Go.Proofs.Ytgegahnjhaldeaa
open Go.ChangeShapes Go.WideShapes Go.ChangeAt Go.RowKit

def xF (la lb : List Int) (i : Nat) : List Int := if i = 0 then Srt.set la else Srt.set lb
def pF (a b : Option Addr × Nat) (i : Nat) : Option Addr × Nat := if i = 0 then a else b
theorem jobs_built (pa pb : Value) : Try.prog.built 50 [(0, .agg (jV pa 0 0 false)), (1, .agg (jV pb 0 0 false))] = some #[pa, .int .i64 0, .int .i64 0, .bool false, pb, .int .i64 0, .int .i64 0, .bool false] := by kernel_rfl
theorem rjob_built (p : Option Addr) (m c : Nat) : Try.prog.built 53 [(0, .slice p m c)] = some (rjV p m c 0) := by kernel_rfl
theorem rjobs_built (p q : Value) : Try.prog.built 54 [(0, .agg #[p, .int .i64 0]), (1, .agg #[q, .int .i64 0])] = some #[p, .int .i64 0, q, .int .i64 0] := by kernel_rfl
abbrev jV2 (p q : Value) : Array Value := #[p, .int .i64 0, .int .i64 0, .bool false, q, .int .i64 0, .int .i64 0, .bool false]
abbrev rV2 (p q : Value) : Array Value := #[p, .int .i64 0, q, .int .i64 0]
theorem far_own {Z : Nat → Prop} {W : World} {base jb qb rb : Nat} {p : Option Addr} {m cap : Nat} {xs : List Int} (h : W.ownsRow base 3 1 (.slice p m cap) m (iV xs)) (hm : m = xs.length) (hz : ∀ b, base ≤ b → b < W.heap.size → Z b ∧ b ≠ jb ∧ b ≠ qb ∧ b ≠ rb) : Far Z W jb qb rb p cap xs := by
  obtain ⟨p', cap', e, hv, hp, hc⟩ := own_form3 h
  cases e
  refine ⟨hv, by omega, hp.imp id fun ⟨b, e, h1, h2⟩ => ⟨b, e, (hz b h1 h2).1, h2, (hz b h1 h2).2⟩⟩
theorem jv_new (xs : List Int) (hl : xs.length ≤ 12) (hr : ∀ x ∈ xs, InI x) : Lk.Jv ⟨Srt.set xs, 0, 0, false⟩ :=
  ⟨Nat.zero_le _, Nat.zero_le _, fun e => (by cases e), fun _ => rfl, by have := Srt.set_len xs; show (Srt.set xs).length ≤ 1000; omega, fun x hx => hr x ((Srt.set_mem _ _).1 hx)⟩
set_option maxRecDepth 100000 in
set_option maxHeartbeats 8000000 in
theorem ljobs_walk (w : World) (pa : Option Addr) (ca : Nat) (la : List Int) (pb : Option Addr) (cb : Nat) (lb : List Int) (pp : Option Addr) (n cp : Nat) (l : List Bool) (ha : InInts w pa ca la) (hb : InInts w pb cb lb) (hp : Bools w pp n l) :
    Calls Try.prog 5 #[.slice pa la.length ca, .slice pb lb.length cb, .slice pp n cp] w fun e w' => e = .returned (.bool true) ∧ Below w.heap.size w w' := by
  by_cases hgo : la.length ≤ 12 ∧ lb.length ≤ 12 ∧ n ≤ 80
  · obtain ⟨h1, h2, h3⟩ := hgo
    have HA := Lib.hid ha
    have HBB := Lib.hid hb
    have HP := Lib.hid hp
    clear ha hb hp
    have g1 : decide (12 < la.length) = false := decide_eq_false (by omega)
    have g1' : decide (12 < (la.length : Int)) = false := decide_eq_false (by omega)
    have g2 : decide (12 < lb.length) = false := decide_eq_false (by omega)
    have g2' : decide (12 < (lb.length : Int)) = false := decide_eq_false (by omega)
    have g3 : decide (80 < n) = false := decide_eq_false (by omega)
    have g3' : decide (80 < (n : Int)) = false := decide_eq_false (by omega)
    go_enter Try.func5, Try.ntmps5
    go_wp2_with fail
    refine (new_yes 9 w (by omega) (by omega)).mono ?_
    rintro e w2 ⟨rfl, hl, hb⟩
    have HL2 := Lib.hid hl
    have HB2 := Lib.hid hb
    clear hl hb
    go_wp2_with fail
    refine (rnew_c 9 w2 (by omega)).mono ?_
    rintro e w3 ⟨v3, rfl, hown, hb⟩
    obtain ⟨rb, crb, rfl, hrb1, hrb2, hrl⟩ := own_new (by omega) hown
    have HRL := Lib.hid hrl
    have HB3 := Lib.hid hb
    clear hown hb hrl
    go_wp2_with fail
    refine (plan_c pa ca la w3 ((HA.out.vw.low HB2.out).low HB3.out) HA.out.nil (by omega)).mono ?_
    rintro e w4 ⟨v4, rfl, hown4, hb4⟩
    have HO4 := Lib.hid hown4
    have HB4 := Lib.hid hb4
    obtain ⟨pa4, ca4, rfl, -⟩ := own_form2 hown4
    clear hown4 hb4
    go_wp2_with fail
    refine (plan_c pb cb lb w4 (((HBB.out.vw.low HB2.out).low HB3.out).low HB4.out) HBB.out.nil (by omega)).mono ?_
    rintro e w5 ⟨v5, rfl, hown5, hb5⟩
    have HO5 := Lib.hid hown5
    have HB5 := Lib.hid hb5
    obtain ⟨pb5, cb5, rfl, -⟩ := own_form2 hown5
    clear hown5 hb5
    have hbu := jobs_built (.slice pa4 (Srt.set la).length ca4) (.slice pb5 (Srt.set lb).length cb5)
    go_upto_region 8 with fail
    have hs2 := HL2.out.lt
    have hs3 := HB3.out.size
    have hs4 := HB4.out.size
    have hs5 := HB5.out.size
    have HB6 := Lib.hid (alloc_below w5 (.cells (jV2 (.slice pa4 (Srt.set la).length ca4) (.slice pb5 (Srt.set lb).length cb5)) 50))
    have HC6 := Lib.hid (CsAt.new w5 50 (jV2 (.slice pa4 (Srt.set la).length ca4) (.slice pb5 (Srt.set lb).length cb5)))
    clear hbu
    generalize w5.alloc (.cells (jV2 (.slice pa4 (Srt.set la).length ca4) (.slice pb5 (Srt.set lb).length cb5)) 50) = w6 at *
    have hs6 := HC6.out.lt
    have HB26 := Lib.hid (((HB3.out.trans (HB4.out.mono hs3)).trans (HB5.out.mono (Nat.le_trans hs3 hs4))).trans (HB6.out.mono (show w2.heap.size ≤ w5.heap.size by omega)))
    go_wp2_with fail
    refine (rneed_c pa ca la w6 ((HA.out.vw.low HB2.out).low HB26.out) (by omega)).mono ?_
    rintro e w7 ⟨v7, rfl, hown7, hb7⟩
    have HO7 := Lib.hid hown7
    have HB7 := Lib.hid hb7
    obtain ⟨pa7, ca7, rfl, -⟩ := own_form2 hown7
    have hs7 := hb7.size
    clear hown7 hb7
    have hr1 := rjob_built pa7 (Srt.set la).length ca7
    go_wp2_with fail
    refine (rneed_c pb cb lb w7 (((HBB.out.vw.low HB2.out).low HB26.out).low HB7.out) (by omega)).mono ?_
    rintro e w8 ⟨v8, rfl, hown8, hb8⟩
    have HO8 := Lib.hid hown8
    have HB8 := Lib.hid hb8
    obtain ⟨pb8, cb8, rfl, -⟩ := own_form2 hown8
    have hs8 := hb8.size
    clear hown8 hb8
    have hr2 := rjob_built pb8 (Srt.set lb).length cb8
    have hr3 := rjobs_built (.slice pa7 (Srt.set la).length ca7) (.slice pb8 (Srt.set lb).length cb8)
    go_upto_region 9 with fail
    have HB9 := Lib.hid (alloc_below w8 (.cells (rV2 (.slice pa7 (Srt.set la).length ca7) (.slice pb8 (Srt.set lb).length cb8)) 54))
    have HC9 := Lib.hid (CsAt.new w8 54 (rV2 (.slice pa7 (Srt.set la).length ca7) (.slice pb8 (Srt.set lb).length cb8)))
    clear hr1 hr2 hr3
    generalize w8.alloc (.cells (rV2 (.slice pa7 (Srt.set la).length ca7) (.slice pb8 (Srt.set lb).length cb8)) 54) = w9 at *
    have hs9 := HC9.out.lt
    have HB69 := Lib.hid ((HB7.out.trans (HB8.out.mono hs7)).trans (HB9.out.mono (Nat.le_trans hs7 hs8)))
    have HC69 := Lib.hid (HC6.out.low HB69.out)
    have HBJ := Lib.hid (show LjB w w.heap.size (w.heap.size + 1) rb w5.heap.size w8.heap.size from ⟨Nat.le_refl _, by omega, by omega, by omega, by omega, by omega, by omega, by omega, by omega, by omega⟩)
    have HLJ := Lib.hid (show LjAt (fun k => w2.heap.size ≤ k ∧ k < w9.heap.size) (fun k => k = rb) w w9 w.heap.size (w.heap.size + 1) w.heap.size rb w5.heap.size w8.heap.size (pF (pa4, ca4) (pb5, cb5)) (pF (pa7, ca7) (pb8, cb8)) (xF la lb) (fun _ => []) (fun _ => []) (fun i => ⟨xF la lb i, 0, 0, false⟩) (fun _ => 0) by
      have hb29 : Below w2.heap.size w2 w9 := HB26.out.trans (HB69.out.mono (by omega))
      have hb39 : Below w3.heap.size w3 w9 := ((((HB4.out.trans (HB5.out.mono hs4)).trans (HB6.out.mono (by omega))).trans (HB69.out.mono (by omega))))
      have hb49 : Below w4.heap.size w4 w9 := ((HB5.out.trans (HB6.out.mono (by omega))).trans (HB69.out.mono (by omega)))
      have hb59 : Below w5.heap.size w5 w9 := HB6.out.trans (HB69.out.mono (by omega))
      have hb79 : Below w7.heap.size w7 w9 := HB8.out.trans (HB9.out.mono (by omega))
      refine ⟨HL2.out.more hb29 (fun k hk => .inr hk), (HRL.out (fun k => k = rb) rfl).low hb39, HB2.out.trans (hb29.mono (by omega)), fun k hk => ?_, ⟨by omega, by omega⟩, ⟨by omega, by omega⟩, fun i hi => ?_, fun i => rfl, fun i hi => ?_, fun i hi => ?_, fun i hi => ?_, fun i hi => ?_, fun i hi => ?_, fun j => HC9.out.frozen j⟩
      · subst hk; exact ⟨⟨by omega, by omega⟩, by omega, by omega⟩
      · have : i = 0 ∨ i = 1 := by omega
        rcases this with rfl | rfl
        · exact ⟨HC69.out.cell 0, HC69.out.cell 1, HC69.out.cell 2, HC69.out.cell 3, HC69.out.frozen _, HC69.out.frozen _, HC69.out.frozen _⟩
        · exact ⟨HC69.out.cell 4, HC69.out.cell 5, HC69.out.cell 6, HC69.out.cell 7, HC69.out.frozen _, HC69.out.frozen _, HC69.out.frozen _⟩
      · have : i = 0 ∨ i = 1 := by omega
        rcases this with rfl | rfl
        · exact jv_new la (by omega) HA.out.rng
        · exact jv_new lb (by omega) HBB.out.rng
      · have : i = 0 ∨ i = 1 := by omega
        rcases this with rfl | rfl
        · exact (far_own HO4.out rfl fun b h1 h2 => ⟨⟨by omega, by omega⟩, by omega, by omega, by omega⟩).keep hb49.size (fun b _ hlt _ _ _ => hb49.block b hlt) (fun _ h => h)
        · exact (far_own HO5.out rfl fun b h1 h2 => ⟨⟨by omega, by omega⟩, by omega, by omega, by omega⟩).keep hb59.size (fun b _ hlt _ _ _ => hb59.block b hlt) (fun _ h => h)
      · have : i = 0 ∨ i = 1 := by omega
        rcases this with rfl | rfl
        · exact (far_own HO7.out rfl fun b h1 h2 => ⟨⟨by omega, by omega⟩, by omega, by omega, by omega⟩).keep hb79.size (fun b _ hlt _ _ _ => hb79.block b hlt) (fun _ h => h)
        · exact (far_own HO8.out rfl fun b h1 h2 => ⟨⟨by omega, by omega⟩, by omega, by omega, by omega⟩).keep HB9.out.size (fun b _ hlt _ _ _ => HB9.out.block b hlt) (fun _ h => h)
      · have : i = 0 ∨ i = 1 := by omega
        rcases this with rfl | rfl
        · exact HC9.out.cell 0
        · exact HC9.out.cell 2
      · have : i = 0 ∨ i = 1 := by omega
        rcases this with rfl | rfl
        · exact HC9.out.cell 1
        · exact HC9.out.cell 3)
    have HXL := Lib.hid (show ∀ i, (xF la lb i).length ≤ 12 from fun i => by
      unfold xF
      have h1 := Srt.set_len la
      have h2 := Srt.set_len lb
      split <;> omega)
    clear HA HBB HL2 HB2 HRL HB3 HB4 HO4 HB5 HO5 hs2 hs3 hs4 hs5 HB6 HC6 hs6 HB26 HB7 HO7 hs7 HB8 HO8 hs8 HB9 HC9 hs9 HB69 HC69 g1 g1' g2 g2' g3 g3' hrb1 hrb2
    generalize pF (pa4, ca4) (pb5, cb5) = P at *
    generalize pF (pa7, ca7) (pb8, cb8) = Pq at *
    generalize xF la lb = X at *
    generalize w5.heap.size = jb at *
    generalize w8.heap.size = qb at *
    go_wp2_with fail
    go_loopw [12] (fun iv wr => ∃ (i : Nat) (Z ZR : Nat → Prop) (R : Int → List Int) (J : Nat → Lk.JS), i ≤ n ∧ iv = .int .i64 i ∧ LjAt Z ZR w wr w.heap.size (w.heap.size + 1) w.heap.size rb jb qb P Pq X R R J (fun i => Lk.sv (J i))) (fun iv _ => n - (intOf iv).toNat)
    case atStart => exact ⟨0, _, _, _, _, by omega, rfl, HLJ.out⟩
    case round =>
      clear HLJ
      obtain ⟨i, Z, ZR, R, J, hi, rfl, hLJ⟩ := hrel
      have HLJ := Lib.hid hLJ
      clear hLJ
      by_cases hin : i < n
      · have gi : decide (i < n) = true := by simpa using hin
        have gi2 : (i : Int) < n := by omega
        obtain ⟨bp, op, rfl, hbp, hcp⟩ := HP.out.at_ (by omega)
        have ci := (HLJ.out.bel.cell (p := ⟨bp, op + i, none⟩) hbp).trans (hcp i hin)
        generalize l.getD i false = pk at *
        clear hcp
        go_upto_if 61 with fail
        go_cut [13] (fun s13 wx => ∃ k : Nat, k < 2 ∧ s13 = .int .i64 k ∧ wx = wr)
        case first =>
          cases pk
          · go_wp2_with fail
            go_meet
            exact ⟨0, by omega, rfl, rfl⟩
          · go_wp2_with fail
            go_meet
            exact ⟨1, by omega, rfl, rfl⟩
        case rest =>
          obtain ⟨k, hk, rfl, rfl⟩ := hcut
          have hjv := HLJ.out.jv k hk
          have hjk := HLJ.out.jobs k hk
          have hpr := HLJ.out.prow k hk
          have hqr := HLJ.out.qrow k hk
          have c0 := HLJ.out.q0 k hk
          have c1 := HLJ.out.q1 k hk
          have hxk := HLJ.out.xs k
          have HOV := Lib.hid hjv.over_iff
          rw [hxk] at HOV
          have hm12 := HXL.out k
          have hsv : Lk.sv (J k) ≤ 2001 := by
            have a1 := hjv.t
            have a2 := hjv.g
            have a3 := hjv.len
            have a4 := Bool.toNat_le (J k).d
            unfold Lk.sv
            have a5 := hjv.dt
            have a6 := hjv.dg
            omega
          have HJK := Lib.hid hjk
          have HPR := Lib.hid hpr
          have HQR := Lib.hid hqr
          have HJV := Lib.hid hjv
          clear hjk hpr hqr hjv ci
          obtain ⟨qp, hqp⟩ : ∃ z, (Pq k).1 = z := ⟨_, rfl⟩
          obtain ⟨qc, hqc⟩ : ∃ z, (Pq k).2 = z := ⟨_, rfl⟩
          obtain ⟨m, hm⟩ : ∃ z, (X k).length = z := ⟨_, rfl⟩
          obtain ⟨sv, hsvv⟩ : ∃ z, Lk.sv (J k) = z := ⟨_, rfl⟩
          rw [hqp, hqc, hm] at c0
          rw [hsvv] at c1 HOV hsv
          rw [hm] at hm12 HOV
          obtain ⟨ov, hov⟩ : ∃ z, decide (2 * m < sv) = z := ⟨_, rfl⟩
          have gov : decide (2 * (m : Int) < (sv : Int)) = ov := by rw [← hov, decide_eq_decide]; omega
          rw [hov] at HOV
          have HEQ := Lib.hid (And.intro hqp (And.intro hqc (And.intro hm hsvv)))
          have gk4 : (k : Int) < 2 := by omega
          have gw2 : IntKind.i64.wrap (2 * (m : Int)) = 2 * (m : Int) := by rw [IntKind.wrap_i64]; omega
          clear hqp hqc hm hsvv hov hxk
          go_upto_region 15 with (fail)
          have hS0 : wc.drew.cell? ⟨qb, k * 2, none⟩ = some (.slice qp m qc) ∧ wc.drew.cell? ⟨qb, k * 2 + 1, none⟩ = some (.int .i64 (sv : Int)) := ⟨c0, c1⟩
          have hd0 : Below wc.heap.size wc wc.drew := (Below.refl _ _).drew
          clear c0 c1
          refine wp_region_noPanic ?_
          refine wp_region_held (S := fun W => W.cell? ⟨qb, k * 2, none⟩ = some (.slice qp m qc) ∧ W.cell? ⟨qb, k * 2 + 1, none⟩ = some (.int .i64 (sv : Int))) (by kernel_rfl) ?_
          refine takeH (fuel := 25) (i := 0) (.int .i64 (k : Int)) ?_ rfl (by kernel_rfl) (by kernel_rfl) (by kernel_rfl) (fun _ _ _ h => h) (by kernel_rfl) (fun W hS => by obtain ⟨c0, c1⟩ := hS; go_simp) hS0 ?_ ?_
          rotate_left 1
          · go_simp
            exact rfl
          refine takeH (fuel := 24) (i := 1) (.pointer (some ⟨jb, k * 4, none⟩)) ?_ rfl (by kernel_rfl) (by kernel_rfl) (by kernel_rfl) (fun _ _ _ h => h) (by kernel_rfl) (fun W hS => by obtain ⟨c0, c1⟩ := hS; go_simp) hS0 ?_ ?_
          rotate_left 1
          · go_simp
            exact rfl
          refine takeH (fuel := 23) (i := 3) (.int .i64 (k : Int)) ?_ rfl (by kernel_rfl) (by kernel_rfl) (by kernel_rfl) (fun _ _ _ h => h) (by kernel_rfl) (fun W hS => by obtain ⟨c0, c1⟩ := hS; go_simp) hS0 ?_ ?_
          rotate_left 1
          · go_simp
            exact rfl
          refine takeH (fuel := 22) (i := 4) (.pointer (some ⟨qb, k * 2, none⟩)) ?_ rfl (by kernel_rfl) (by kernel_rfl) (by kernel_rfl) (fun _ _ _ h => h) (by kernel_rfl) (fun W hS => by obtain ⟨c0, c1⟩ := hS; go_simp) hS0 ?_ ?_
          rotate_left 1
          · go_simp
            exact rfl
          refine takeH (fuel := 21) (i := 5) (.pointer (some ⟨qb, k * 2, none⟩)) ?_ rfl (by kernel_rfl) (by kernel_rfl) (by kernel_rfl) (fun _ _ _ h => h) (by kernel_rfl) (fun W hS => by obtain ⟨c0, c1⟩ := hS; go_simp) hS0 ?_ ?_
          rotate_left 1
          · go_simp
            exact rfl
          refine takeH (fuel := 20) (i := 6) (.slice qp m qc) ?_ rfl (by kernel_rfl) (by kernel_rfl) (by kernel_rfl) (fun _ _ _ h => h) (by kernel_rfl) (fun W hS => by obtain ⟨c0, c1⟩ := hS; go_simp) hS0 ?_ ?_
          rotate_left 1
          · go_simp
            exact rfl
          refine wpAnyH_all (fuel := 19) (rs := [2]) (by kernel_rfl) (by decide) ?_
          intro i hi
          obtain rfl : i = 2 := by simpa using hi
          change Go.wpOp _ _ _ _ _ _ wc.drew
          refine wpOp_callX 23 #[.pointer (some ⟨jb, k * 4, none⟩)] rfl (by kernel_rfl) (by go_simp) ?_
          refine (needsV_c jb (k * 4) (P k).1 (P k).2 _ _ _ (X k) _ (HJK.out.low hd0) (HPR.out.1.low hd0) (HPR.out.2.2.imp id fun ⟨b, e, _⟩ => ⟨b, 0, e⟩) (by have := HXL.out k; omega)).mono ?_
          rintro e w2 ⟨v2, rfl, hown, hb2⟩
          have hqlt : qb < wc.drew.heap.size := HLJ.out.qlt
          have hS2 : w2.cell? ⟨qb, k * 2, none⟩ = some (.slice qp m qc) ∧ w2.cell? ⟨qb, k * 2 + 1, none⟩ = some (.int .i64 (sv : Int)) := ⟨(hb2.cell (p := ⟨qb, k * 2, none⟩) hqlt).trans hS0.1, (hb2.cell (p := ⟨qb, k * 2 + 1, none⟩) hqlt).trans hS0.2⟩
          obtain ⟨p2, cap2, rfl, hv2, -, -⟩ := own_form2 hown
          rw [HEQ.out.2.2.1]
          refine ⟨_, rfl, hS2, ?_⟩
          have hb02 := hd0.trans (hb2.mono hd0.size)
          refine wpAnyH_all (fuel := 18) (rs := [7]) (by kernel_rfl) (by decide) ?_
          intro i hi
          obtain rfl : i = 7 := by simpa using hi
          refine wpOp_callX 15 #[.slice p2 m cap2, .slice qp m qc] rfl (by kernel_rfl) (by go_simp) ?_
          have hic := ints_c p2 (Pq k).1 cap2 (Pq k).2 (X k) (X k) w2 hv2 (HQR.out.1.low hb02) (by have := HXL.out k; omega)
          rw [HEQ.out.1, HEQ.out.2.1, HEQ.out.2.2.1] at hic
          refine hic.mono ?_
          rintro e w3 ⟨rfl, hb3⟩
          rw [show decide (X k = X k) = true by simp]
          have hb03 := hb02.trans (hb3.mono hb02.size)
          have hS3 : w3.cell? ⟨qb, k * 2, none⟩ = some (.slice qp m qc) ∧ w3.cell? ⟨qb, k * 2 + 1, none⟩ = some (.int .i64 (sv : Int)) := ⟨(hb3.cell (p := ⟨qb, k * 2, none⟩) (Nat.lt_of_lt_of_le hqlt hb2.size)).trans hS2.1, (hb3.cell (p := ⟨qb, k * 2 + 1, none⟩) (Nat.lt_of_lt_of_le hqlt hb2.size)).trans hS2.2⟩
          refine ⟨_, rfl, hS3, ?_⟩
          refine takeH (fuel := 17) (i := 8) (.bool false) ?_ rfl (by kernel_rfl) (by kernel_rfl) (by kernel_rfl) (fun _ _ _ h => h) (by kernel_rfl) (fun W hS => by obtain ⟨c0, c1⟩ := hS; go_simp) hS3 ?_ ?_
          rotate_left 1
          · go_simp
            exact rfl
          refine takeH (fuel := 16) (i := 9) (.bool false) ?_ rfl (by kernel_rfl) (by kernel_rfl) (by kernel_rfl) (fun _ _ _ h => h) (by kernel_rfl) (fun W hS => by obtain ⟨c0, c1⟩ := hS; go_simp) hS3 ?_ ?_
          rotate_left 1
          · go_simp
            exact rfl
          refine takeH (fuel := 15) (i := 10) (.int .i64 (k : Int)) ?_ rfl (by kernel_rfl) (by kernel_rfl) (by kernel_rfl) (fun _ _ _ h => h) (by kernel_rfl) (fun W hS => by obtain ⟨c0, c1⟩ := hS; go_simp) hS3 ?_ ?_
          rotate_left 1
          · go_simp
            exact rfl
          refine takeH (fuel := 14) (i := 11) (.pointer (some ⟨jb, k * 4, none⟩)) ?_ rfl (by kernel_rfl) (by kernel_rfl) (by kernel_rfl) (fun _ _ _ h => h) (by kernel_rfl) (fun W hS => by obtain ⟨c0, c1⟩ := hS; go_simp) hS3 ?_ ?_
          rotate_left 1
          · go_simp
            exact rfl
          refine takeH (fuel := 13) (i := 13) (.int .i64 (k : Int)) ?_ rfl (by kernel_rfl) (by kernel_rfl) (by kernel_rfl) (fun _ _ _ h => h) (by kernel_rfl) (fun W hS => by obtain ⟨c0, c1⟩ := hS; go_simp) hS3 ?_ ?_
          rotate_left 1
          · go_simp
            exact rfl
          refine takeH (fuel := 12) (i := 14) (.pointer (some ⟨qb, k * 2, none⟩)) ?_ rfl (by kernel_rfl) (by kernel_rfl) (by kernel_rfl) (fun _ _ _ h => h) (by kernel_rfl) (fun W hS => by obtain ⟨c0, c1⟩ := hS; go_simp) hS3 ?_ ?_
          rotate_left 1
          · go_simp
            exact rfl
          refine takeH (fuel := 11) (i := 15) (.pointer (some ⟨qb, k * 2 + 1, none⟩)) ?_ rfl (by kernel_rfl) (by kernel_rfl) (by kernel_rfl) (fun _ _ _ h => h) (by kernel_rfl) (fun W hS => by obtain ⟨c0, c1⟩ := hS; go_simp) hS3 ?_ ?_
          rotate_left 1
          · go_simp
            exact rfl
          refine takeH (fuel := 10) (i := 16) (.int .i64 (sv : Int)) ?_ rfl (by kernel_rfl) (by kernel_rfl) (by kernel_rfl) (fun _ _ _ h => h) (by kernel_rfl) (fun W hS => by obtain ⟨c0, c1⟩ := hS; go_simp) hS3 ?_ ?_
          rotate_left 1
          · go_simp
            exact rfl
          refine takeH (fuel := 9) (i := 17) (.int .i64 (k : Int)) ?_ rfl (by kernel_rfl) (by kernel_rfl) (by kernel_rfl) (fun _ _ _ h => h) (by kernel_rfl) (fun W hS => by obtain ⟨c0, c1⟩ := hS; go_simp) hS3 ?_ ?_
          rotate_left 1
          · go_simp
            exact rfl
          refine takeH (fuel := 8) (i := 18) (.pointer (some ⟨qb, k * 2, none⟩)) ?_ rfl (by kernel_rfl) (by kernel_rfl) (by kernel_rfl) (fun _ _ _ h => h) (by kernel_rfl) (fun W hS => by obtain ⟨c0, c1⟩ := hS; go_simp) hS3 ?_ ?_
          rotate_left 1
          · go_simp
            exact rfl
          refine takeH (fuel := 7) (i := 19) (.pointer (some ⟨qb, k * 2, none⟩)) ?_ rfl (by kernel_rfl) (by kernel_rfl) (by kernel_rfl) (fun _ _ _ h => h) (by kernel_rfl) (fun W hS => by obtain ⟨c0, c1⟩ := hS; go_simp) hS3 ?_ ?_
          rotate_left 1
          · go_simp
            exact rfl
          refine takeH (fuel := 6) (i := 20) (.slice qp m qc) ?_ rfl (by kernel_rfl) (by kernel_rfl) (by kernel_rfl) (fun _ _ _ h => h) (by kernel_rfl) (fun W hS => by obtain ⟨c0, c1⟩ := hS; go_simp) hS3 ?_ ?_
          rotate_left 1
          · go_simp
            exact rfl
          refine takeH (fuel := 5) (i := 21) (.int .i64 (m : Int)) ?_ rfl (by kernel_rfl) (by kernel_rfl) (by kernel_rfl) (fun _ _ _ h => h) (by kernel_rfl) (fun W hS => by obtain ⟨c0, c1⟩ := hS; go_simp) hS3 ?_ ?_
          rotate_left 1
          · go_simp
            exact rfl
          refine takeH (fuel := 4) (i := 22) (.int .i64 (2 * (m : Int))) ?_ rfl (by kernel_rfl) (by kernel_rfl) (by kernel_rfl) (fun _ _ _ h => h) (by kernel_rfl) (fun W hS => by obtain ⟨c0, c1⟩ := hS; go_simp) hS3 ?_ ?_
          rotate_left 1
          · go_simp
            exact rfl
          refine takeH (fuel := 3) (i := 23) (.bool ov) ?_ rfl (by kernel_rfl) (by kernel_rfl) (by kernel_rfl) (fun _ _ _ h => h) (by kernel_rfl) (fun W hS => by obtain ⟨c0, c1⟩ := hS; go_simp) hS3 ?_ ?_
          rotate_left 1
          · go_simp
            exact rfl
          refine wpAnyH_all (fuel := 2) (rs := [12]) (by kernel_rfl) (by decide) ?_
          intro i hi
          obtain rfl : i = 12 := by simpa using hi
          refine wpOp_callX 24 #[.pointer (some ⟨jb, k * 4, none⟩)] rfl (by kernel_rfl) (by go_simp) ?_
          refine (done_c jb (k * 4) (P k).1 (X k).length (P k).2 _ _ _ _ (HJK.out.low hb03)).mono ?_
          rintro e w4 ⟨rfl, hb4⟩
          have hb04 := hb03.trans (hb4.mono hb03.size)
          have hS4 : w4.cell? ⟨qb, k * 2, none⟩ = some (.slice qp m qc) ∧ w4.cell? ⟨qb, k * 2 + 1, none⟩ = some (.int .i64 (sv : Int)) := ⟨(hb04.cell (p := ⟨qb, k * 2, none⟩) HLJ.out.qlt).trans hS0.1, (hb04.cell (p := ⟨qb, k * 2 + 1, none⟩) HLJ.out.qlt).trans hS0.2⟩
          have hovr : ((J k).d && (((J k).g : Int) == ((X k).length : Int))) = ov := by rw [← HOV.out, ← HLJ.out.xs k, int_beq]; rfl
          rw [hovr]
          refine ⟨_, rfl, hS4, ?_⟩
          refine takeH (fuel := 1) (i := 24) (.bool false) ?_ rfl (by kernel_rfl) (by kernel_rfl) (by kernel_rfl) (fun _ _ _ h => h) (by kernel_rfl) (fun W hS => by obtain ⟨c0, c1⟩ := hS; go_simp) hS4 ?_ ?_
          rotate_left 1
          · go_simp
            exact rfl
          refine takeH (fuel := 0) (i := 25) (.bool false) ?_ rfl (by kernel_rfl) (by kernel_rfl) (by kernel_rfl) (fun _ _ _ h => h) (by kernel_rfl) (fun W hS => by obtain ⟨c0, c1⟩ := hS; go_simp) hS4 ?_ ?_
          rotate_left 1
          · go_simp
            exact rfl
          refine wpAnyH_done (by kernel_rfl) ?_ _
          refine NoPanic.normal ?_
          have HLJ4 := Lib.hid (HLJ.out.low hb04)
          clear hS2 hS3 hS4 hb4 hb3 hb2 hown hv2 hS0 hd0 hb02 hb03 hb04 hic hovr HJK HPR HQR HLJ hqlt
          have hxs := HLJ4.out.xs k
          have hzlt : ∀ b, Z b → b < w4.heap.size := fun b hb => (HLJ4.out.lk.flt b hb).1
          have hb5 := alloc_below w4 (.cells #[.int .i64 0] 3)
          have hcd := CsAt.new w4 3 #[.int .i64 0]
          have hb0 := HBJ.out.b0
          have hL5 := HLJ4.out.more (Y := fun b => Z b ∨ b = w4.heap.size) hb5 (fun b hb => hb.elim .inl fun e => .inr (by subst e; exact ⟨Nat.le_refl _, hcd.lt⟩)) (fun _ h => .inl h)
          have hfar : ∀ i, i < 2 → Far Z (w4.alloc (.cells #[.int .i64 0] 3)) jb qb rb (P i).1 (P i).2 (X i) ∧ Far Z (w4.alloc (.cells #[.int .i64 0] 3)) jb qb rb (Pq i).1 (Pq i).2 (X i) := fun i hi =>
            ⟨(HLJ4.out.prow i hi).keep hb5.size (fun b _ hlt _ _ _ => hb5.block b hlt) (fun _ h => h), (HLJ4.out.qrow i hi).keep hb5.size (fun b _ hlt _ _ _ => hb5.block b hlt) (fun _ h => h)⟩
          have hjd : jb ≠ w4.heap.size ∧ qb ≠ w4.heap.size := ⟨by have := HLJ4.out.jlt; omega, by have := HLJ4.out.qlt; omega⟩
          have hbase : w.heap.size ≤ w4.heap.size := HLJ4.out.bel.size
          have hlpl := HLJ4.out.lk.lt
          have hST := jstep_c (Z := Z) jb (k * 4) (P k).1 (P k).2 w.heap.size (w.heap.size + 1) w.heap.size 9 w4.heap.size R (J k) (k : Int) _ hL5.lk (by rw [hxs]; exact hL5.jobs k hk) HJV.out HLJ4.out.zj HBJ.out.jl HBJ.out.bj (by rw [hxs]; exact (hfar k hk).1.1)
            ((hfar k hk).1.2.2.imp id fun ⟨b, e, _⟩ => ⟨b, 0, e⟩) (fun pb po e => by
              rcases (hfar k hk).1.2.2 with ⟨e2, -⟩ | ⟨b, e2, -, -, e3, -⟩
              · rw [e] at e2; cases e2
              · rw [e] at e2; cases e2; exact e3) hcd (fun hz => by have := hzlt _ hz; omega) (by omega) hbase
          have HST := Lib.hid hST
          have HL5 := Lib.hid hL5
          have HFAR := Lib.hid hfar
          have HJD := Lib.hid hjd
          have HZL := Lib.hid hzlt
          have HXS := Lib.hid hxs
          have HSZ := Lib.hid (show w.heap.size ≤ w4.heap.size from hbase)
          have HLP := Lib.hid hlpl
          clear hST hL5 hfar hjd hzlt hxs hb5 hcd hb0 hbase hlpl
          go_wp2_with fail
          generalize w4.alloc (.cells #[.int .i64 0] 3) = w5' at *
          refine HST.out.mono ?_
          rintro e w6' ⟨rfl, hq⟩
          have HL6 := Lib.hid (HL5.out.code HBJ.out hk (fun b hb => by have := HZL.out b (HLJ4.out.zr b hb).1; omega) HJD.out HFAR.out hq (by rw [Lk.stJ_need]; exact HXS.out))
          have HDC := Lib.hid hq.did
          clear hq HST
          have c0 : w6'.cell? ⟨qb, k * 2, none⟩ = some (.slice qp m qc) := by
            have := HL6.out.q0 k hk
            rwa [HEQ.out.1, HEQ.out.2.1, HEQ.out.2.2.1] at this
          have c1 : w6'.cell? ⟨qb, k * 2 + 1, none⟩ = some (.int .i64 (sv : Int)) := by
            have := HL6.out.q1 k hk
            rwa [HEQ.out.2.2.2] at this
          have HRG := Lib.hid (show w6'.rangeAt qb (k * 2) [.slice qp m qc, .int .i64 (sv : Int)] from fun j v hj => by
            have : j = 0 ∨ j = 1 := by have := (List.getElem?_eq_some_iff.1 hj).1; simp at this; omega
            rcases this with rfl | rfl
            · cases hj; exact c0
            · cases hj; exact c1)
          have hrs := rstep_c rb 9 crb R (k : Int) qp qc (J k) w6' HL6.out.rl HL5.out.lk.ok HJV.out (by
            have := (HL6.out.qrow k hk).1
            rwa [HEQ.out.1, ← HXS.out] at this) (fun b off e => by
            have h := (HL6.out.qrow k hk).2.2
            rw [HEQ.out.1] at h
            rcases h with ⟨e2, -⟩ | ⟨b', e2, -, -, -, -, e3⟩
            · rw [e] at e2; cases e2
            · rw [e] at e2; cases e2; exact e3)
          rw [HXS.out, HEQ.out.2.2.1, HEQ.out.2.2.2] at hrs
          have HRS := Lib.hid hrs
          have HOK := Lib.hid HL5.out.lk.ok
          clear hrs c0 c1
          obtain ⟨told, htold⟩ : ∃ z, Lk.stT R 9 (k : Int) (J k) = z := ⟨_, rfl⟩
          obtain ⟨dn, hdn⟩ : ∃ z, Lk.stD (J k) = z := ⟨_, rfl⟩
          obtain ⟨sv2, hsv2⟩ : ∃ z, Lk.sv (Lk.stJ R 9 (k : Int) (J k)) = z := ⟨_, rfl⟩
          rw [htold, hdn, hsv2] at HRS
          rw [htold]
          rw [hdn] at HDC
          have HSV2 := Lib.hid hsv2
          clear htold hdn hsv2
          go_wp2_with (refine wpList_load_mid rfl 53 _ rfl qb (k * 2) rfl [.slice qp m qc, .int .i64 (sv : Int)] _ HRG.out Try.underlying53 rfl info_rj ?_)
          refine HRS.out.mono ?_
          rintro e w7' ⟨rfl, hr7, ho7⟩
          have HL7 := Lib.hid (HL6.out.ref HBJ.out hr7 ho7)
          have hbdl : w4.heap.size < w6'.heap.size := HDC.out.lt
          have hbdr : w4.heap.size ≠ rb := by have := HZL.out rb (HLJ4.out.zr rb HLJ4.out.rl.zb).1; omega
          have HDC7 := Lib.hid (show CsAt w7' w4.heap.size 3 #[.int .i64 (if dn = true then 1 else 0)] from (ho7.blk _ hbdl hbdr).trans HDC.out)
          clear hr7 ho7 HRS HRG HDC hbdl
          go_upto_region 20 with fail
          have hb8 := alloc_below w7' (.cells (rjV qp m qc (sv2 : Int)) 53)
          have HC8 := Lib.hid (CsAt.new w7' 53 (rjV qp m qc (sv2 : Int)))
          have HL8 := Lib.hid (HL7.out.low hb8)
          have HDC8 := Lib.hid (HDC7.out.low hb8)
          clear hb8 HL7 HDC7
          generalize w7'.alloc (.cells (rjV qp m qc (sv2 : Int)) 53) = w8' at *
          have HTH := Lib.hid (show w8'.there qb (k * 2) 2 from fun j hj => by
            have : j = 0 ∨ j = 1 := by omega
            rcases this with rfl | rfl
            · exact ⟨by rw [Nat.add_zero, HL8.out.q0 k hk]; rfl, HL8.out.qf _⟩
            · exact ⟨by rw [HL8.out.q1 k hk]; rfl, HL8.out.qf _⟩)
          go_upto_region 21 with (first | (refine wpList_load_row rfl 53 _ rfl w7'.heap.size rfl 53 _ (0, 0) _ HC8.out Try.underlying53 rfl info_rj ?_) | (refine wpList_store_mid rfl 53 _ _ rfl qb (k * 2) _ rfl rfl (by exact HTH.out) info_rj (by simp [Value.oneCell']) ?_))
          have hlay := HL8.out.lay HBJ.out hk sv2
          rw [HEQ.out.1, HEQ.out.2.1, HEQ.out.2.2.1] at hlay
          have HL9 := Lib.hid (hlay.congr (S' := fun i => Lk.sv (Lk.updN J k (Lk.stJ R 9 (k : Int) (J k)) i)) (fun i hi => by
            by_cases e : i = k
            · subst e; rw [Lk.updN_same, Lk.updN_same]; exact HSV2.out
            · rw [Lk.updN_other J _ e, Lk.updN_other _ _ e]))
          have HDC9 := Lib.hid (show CsAt (w8'.setCells qb (k * 2) [.slice qp m qc, .int .i64 (sv2 : Int)]) w4.heap.size 3 #[.int .i64 (if dn = true then 1 else 0)] from (HDC8.out.far (c := qb) (i := k * 2) (Ne.symm HJD.out.2) _).far (c := qb) (i := k * 2 + 1) (Ne.symm HJD.out.2) _)
          clear hlay HL8 HDC8 HTH HC8
          generalize w8'.setCells qb (k * 2) [.slice qp m qc, .int .i64 (sv2 : Int)] = w9' at *
          generalize Lk.updN J k (Lk.stJ R 9 (k : Int) (J k)) = J2 at *
          generalize Lk.stR R 9 (k : Int) (J k) = R2 at *
          have HSM := Lib.hid (same_c w.heap.size (w.heap.size + 1) w.heap.size rb 9 crb R2 w9' HL9.out.lk (HL9.out.rl.weak fun b hb => (HL9.out.zr b hb).1))
          clear HOV gov HSV2 HL6 HL5 HFAR HLJ4 HJV
          cases dn
          · have cd : w9'.cell? ⟨w4.heap.size, 0, none⟩ = some (.int .i64 0) := HDC9.out.cell 0
            go_wp2_with fail
            refine HSM.out.mono ?_
            rintro e w10 ⟨rfl, hb10⟩
            have HL10 := Lib.hid (HL9.out.low hb10)
            clear hb10 cd
            go_wp2_with fail
            go_roundw
            case rel => exact ⟨i + 1, _, _, R2, J2, by omega, by go_num, HL10.out⟩
            case measure => simp [intOf]; omega
          · have cd : w9'.cell? ⟨w4.heap.size, 0, none⟩ = some (.int .i64 1) := HDC9.out.cell 0
            go_wp2_with fail
            refine HSM.out.mono ?_
            rintro e w10 ⟨rfl, hb10⟩
            have HL10 := Lib.hid (HL9.out.low hb10)
            clear hb10 cd
            go_wp2_with fail
            go_roundw
            case rel => exact ⟨i + 1, _, _, R2, J2, by omega, by go_num, HL10.out⟩
            case measure => simp [intOf]; omega
      · have gi : decide (i < n) = false := by simpa using hin
        have gi2 : ¬ (i : Int) < n := by omega
        have hin2 : i = n := by omega
        have HBE := Lib.hid HLJ.out.bel
        clear hi
        go_wp2_with fail
        refine (live12_c _).mono ?_
        rintro e w4 ⟨rfl, hb⟩
        have HB4 := Lib.hid (HBE.out.trans (hb.mono HBE.out.size))
        clear hb
        go_wp2_with fail
        go_ret
        exact ⟨rfl, HB4.out⟩
  · have HBE := Lib.hid hgo
    clear ha hb hp
    by_cases h1 : la.length ≤ 12
    · have g1 : decide (12 < la.length) = false := decide_eq_false (by omega)
      have g1' : decide (12 < (la.length : Int)) = false := decide_eq_false (by omega)
      by_cases h2 : lb.length ≤ 12
      · have g2 : decide (12 < lb.length) = false := decide_eq_false (by omega)
        have g2' : decide (12 < (lb.length : Int)) = false := decide_eq_false (by omega)
        have g3 : decide (80 < n) = true := decide_eq_true (by omega)
        have g3' : decide (80 < (n : Int)) = true := decide_eq_true (by omega)
        clear hgo
        go_enter Try.func5, Try.ntmps5
        go_wp2_with fail
        refine (live12_c _).mono ?_
        rintro e w4 ⟨rfl, hb⟩
        have HB4 := Lib.hid hb
        clear hb
        go_wp2_with fail
        go_ret
        exact ⟨rfl, HB4.out⟩
      · have g2 : decide (12 < lb.length) = true := decide_eq_true (by omega)
        have g2' : decide (12 < (lb.length : Int)) = true := decide_eq_true (by omega)
        clear hgo
        go_enter Try.func5, Try.ntmps5
        go_wp2_with fail
        refine (live12_c _).mono ?_
        rintro e w4 ⟨rfl, hb⟩
        have HB4 := Lib.hid hb
        clear hb
        go_wp2_with fail
        go_ret
        exact ⟨rfl, HB4.out⟩
    · have g1 : decide (12 < la.length) = true := decide_eq_true (by omega)
      have g1' : decide (12 < (la.length : Int)) = true := decide_eq_true (by omega)
      clear hgo
      go_enter Try.func5, Try.ntmps5
      go_wp2_with fail
      refine (live12_c _).mono ?_
      rintro e w4 ⟨rfl, hb⟩
      have HB4 := Lib.hid hb
      clear hb
      go_wp2_with fail
      go_ret
      exact ⟨rfl, HB4.out⟩
end Go.Proofs.Ytgegahnjhaldeaa
