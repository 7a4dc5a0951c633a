/-
  The law of layer 13: are both tables the same (same)?
-/
import Derived.Test.YtabackklpemhpaaRvQ
import Derived.Test.YtabackklpemhpaaLkS
namespace Go.Proofs.Ytabackklpemhpaa
open Go.ChangeShapes Go.WideShapes Go.ChangeAt Go.RowKit

/-- A slice of words whose cells can be read. -/
theorem vw_cellsU {w : World} {p : Option Addr} {xs : List Int} (h : Vw w p (U.uV xs)) (hp : 0 < xs.length) : ∃ b off, p = some ⟨b, off, none⟩ ∧ b < w.heap.size ∧ ∀ j, j < xs.length → w.cell? ⟨b, off + j, none⟩ = some (.int .u64 (xs.getD j 0)) := by
  rcases h with h | ⟨b, off, rfl, hb, hc⟩
  · have : xs.length = 0 := by
      have := congrArg List.length h
      simpa [U.uV] using this
    omega
  · exact ⟨b, off, rfl, hb, fun j hj => hc j _ (U.uV_at xs j hj)⟩
theorem has_is {T : Rv.Tb} {k : Nat} (hk : k < 8) (line : Int) : Rv.has T (k : Int) line = decide (T k = some line) := by
  unfold Rv.has
  rw [Rv.at_in hk]
set_option maxRecDepth 100000 in
set_option maxHeartbeats 16000000 in
theorem same13_c (b o : Nat) (T : Rv.Tb) (line : Int) (w : World) (hT : TbAt w b o T) :
    Calls Try.prog 14 #[.pointer (some ⟨b, o, none⟩), .agg (rT T), .int .u64 line] w fun e w' => e = .returned (.bool true) ∧ Below w.heap.size w w' := by
  have hb1 : Below w.heap.size w (w.alloc (.cells (rT T) XT)) := (Below.refl w.heap.size w).alloc (Nat.le_refl _) _
  have HT := Lib.hid (hT.low hb1)
  have HX := Lib.hid (CsAt.new w XT (rT T))
  have HB := Lib.hid hb1
  clear hT hb1
  go_enter Try.func14, Try.ntmps14
  go_upto_region 1 with fail
  generalize w.alloc (.cells (rT T) XT) = w1 at *
  go_wp2_with fail
  go_loopw [7] (fun i wr => ∃ k : Nat, k ≤ 10 ∧ i = .int .i64 ((k : Int) - 1) ∧ TbAt wr b o T ∧ CsAt wr w.heap.size XT (rT T) ∧ Below w.heap.size w wr) (fun i _ => (9 - intOf i).toNat)
  case atStart => exact ⟨0, by omega, rfl, HT.out, HX.out, HB.out⟩
  case round =>
    obtain ⟨k0, hk0, rfl, ht, hx, hb⟩ := hrel
    have HTR := Lib.hid ht
    have HXR := Lib.hid hx
    have HBR := Lib.hid hb
    clear ht hx hb HT HX HB
    by_cases hlt : k0 < 10
    · obtain ⟨h, hh⟩ : ∃ h : Int, h = (k0 : Int) - 1 := ⟨_, rfl⟩
      have HK0 := Lib.hid hh
      have hlo : -1 ≤ h := by omega
      have hhi : h ≤ 8 := by omega
      have gle : decide (h ≤ 8) = true := by simpa using hhi
      rw [← hh]
      clear hh
      have HOF := Lib.hid (rof_c b o T h _ HTR.out)
      cases hi : Rv.inH h
      · rw [Rv.at_out hi] at HOF
        have HHA := Lib.hid (fun W (hW : TbAt W b o T) => rhasl_c b o T h line W hW)
        have HHF := Lib.hid (show Rv.has T h line = false by unfold Rv.has; rw [Rv.at_out hi]; rfl)
        rw [HHF.out] at HHA
        have hni : h < 0 ∨ 7 < h := by
          rcases Int.lt_or_le h 0 with h1 | h1
          · exact .inl h1
          · right
            have : ¬ (0 ≤ h ∧ h < 8) := fun hc => by rw [Rv.inH_iff.2 hc] at hi; cases hi
            omega
        have HNI := Lib.hid hni
        simp only [Option.getD_none, Option.isSome_none] at HOF
        clear hni
        go_wp2_with fail
        refine HOF.out.mono ?_
        rintro e w2 ⟨rfl, hb2⟩
        have HT2 := Lib.hid (HTR.out.low hb2)
        have HX2 := Lib.hid (HXR.out.low hb2)
        have HB2 := Lib.hid (HBR.out.trans (hb2.mono HBR.out.size))
        clear hb2 HOF
        by_cases h0 : h < 0
        · have g0 : decide (h < 0) = true := by simpa using h0
          go_wp2_with fail
          refine (HHA.out _ HT2.out).mono ?_
          rintro e w3 ⟨rfl, rfl⟩
          go_wp2_with fail
          go_roundw
          case rel => exact ⟨k0 + 1, by omega, by have := HK0.out; go_num, HT2.out, HX2.out, HB2.out⟩
          case measure => have := HK0.out; simp [intOf]; omega
        · have g0 : decide (h < 0) = false := by simpa using h0
          have g1 : decide (h > 7) = true := by have := HNI.out; simp; omega
          go_wp2_with fail
          refine (HHA.out _ HT2.out).mono ?_
          rintro e w3 ⟨rfl, rfl⟩
          go_wp2_with fail
          go_roundw
          case rel => exact ⟨k0 + 1, by omega, by have := HK0.out; go_num, HT2.out, HX2.out, HB2.out⟩
          case measure => have := HK0.out; simp [intOf]; omega
      · obtain ⟨k, hk, rfl⟩ := cut_in hi
        rw [Rv.at_in hk] at HOF
        have g0 : decide ((k : Int) < 0) = false := by simp
        have g1 : decide ((k : Int) > 7) = false := by simp; omega
        have gk : (k : Int) < 8 := by omega
        go_wp2_with fail
        refine HOF.out.mono ?_
        rintro e w2 ⟨rfl, hb2⟩
        have HT2 := Lib.hid (HTR.out.low hb2)
        have HX2 := Lib.hid (HXR.out.low hb2)
        have HB2 := Lib.hid (HBR.out.trans (hb2.mono HBR.out.size))
        have c1 := (HX2.out.cell k).trans (rC_b _ _ hk)
        have c2 := (HX2.out.cell (8 + k)).trans (rC_l _ _ hk)
        simp only [Rv.is, Rv.ln] at c1 c2
        have HHA := Lib.hid (fun W (hW : TbAt W b o T) => rhasl_c b o T (k : Int) line W hW)
        rw [has_is hk] at HHA
        clear hb2 HOF
        cases ht : T k with
        | none =>
          rw [ht] at c1 c2 HHA
          rw [show decide ((none : Option Int) = some line) = false from rfl] at HHA
          simp only [Option.getD_none, Option.isSome_none] at c1 c2 ⊢
          go_wp2_with fail
          go_quiet ((go_at_call 8; refine Calls.quiet_of_same (HHA.out _ (HT2.out.low (below_dnS (Below.refl _ _) _)))))
          have HT3 := Lib.hid (HT2.out.low (below_dnS (Below.refl _ _) nq))
          have HX3 := Lib.hid (HX2.out.low (below_dnS (Below.refl _ _) nq))
          have HB3 := Lib.hid (below_dnS HB2.out nq)
          go_wp2_with fail
          go_roundw
          case rel => exact ⟨k0 + 1, by omega, by have := HK0.out; go_num, HT3.out, HX3.out, HB3.out⟩
          case measure => have := HK0.out; simp [intOf]; omega
        | some x =>
          rw [ht] at c1 c2 HHA
          simp only [Option.getD_some, Option.isSome_some] at c1 c2 ⊢
          by_cases hx : x = line
          · have g2 : (x == line) = true := by simpa using hx
            rw [show decide (some x = some line) = true by simpa using hx] at HHA
            clear hx
            go_wp2_with fail
            go_quiet ((go_at_call 8; refine Calls.quiet_of_same (HHA.out _ (HT2.out.low (below_dnS (Below.refl _ _) _)))))
            have HT3 := Lib.hid (HT2.out.low (below_dnS (Below.refl _ _) nq))
            have HX3 := Lib.hid (HX2.out.low (below_dnS (Below.refl _ _) nq))
            have HB3 := Lib.hid (below_dnS HB2.out nq)
            go_wp2_with fail
            go_roundw
            case rel => exact ⟨k0 + 1, by omega, by have := HK0.out; go_num, HT3.out, HX3.out, HB3.out⟩
            case measure => have := HK0.out; simp [intOf]; omega
          · have g2 : (x == line) = false := by simpa using hx
            rw [show decide (some x = some line) = false by simpa using hx] at HHA
            clear hx
            go_wp2_with fail
            go_quiet ((go_at_call 8; refine Calls.quiet_of_same (HHA.out _ (HT2.out.low (below_dnS (Below.refl _ _) _)))))
            have HT3 := Lib.hid (HT2.out.low (below_dnS (Below.refl _ _) nq))
            have HX3 := Lib.hid (HX2.out.low (below_dnS (Below.refl _ _) nq))
            have HB3 := Lib.hid (below_dnS HB2.out nq)
            go_wp2_with fail
            go_roundw
            case rel => exact ⟨k0 + 1, by omega, by have := HK0.out; go_num, HT3.out, HX3.out, HB3.out⟩
            case measure => have := HK0.out; simp [intOf]; omega
    · obtain rfl : k0 = 10 := by omega
      clear hlt hk0
      go_upto_region 10 with fail
      have hS0 : CsAt wr.drew w.heap.size XT (rT T) := HXR.out
      refine wp_region_noPanic ?_
      refine wp_region_held (S := fun W => CsAt W w.heap.size XT (rT T)) (by kernel_rfl) ?_
      refine takeH (fuel := 5) (i := 0) (.pointer (some ⟨b, o, none⟩)) ?_ rfl (by kernel_rfl) (by kernel_rfl) (by kernel_rfl) (fun _ _ _ h => h) (by kernel_rfl) (fun W hS => by go_simp) hS0 ?_ ?_
      rotate_left 1
      · go_simp
        exact rfl
      refine takeH (fuel := 4) (i := 2) (.agg (rT T)) ?_ rfl (by kernel_rfl) (by kernel_rfl) (by kernel_rfl) (fun _ _ _ h => h) (by kernel_rfl) (fun W hS => exec_load_row XT _ rfl w.heap.size rfl XT _ _ hS Try.underlying41 rfl (iT _ _)) hS0 ?_ ?_
      rotate_left 1
      · go_simp
        exact rfl
      refine wpAnyH_all (fuel := 3) (rs := [1]) (by kernel_rfl) (by decide) ?_
      intro i hi
      obtain rfl : i = 1 := by simpa using hi
      change Go.wpOp _ _ _ _ _ _ wr.drew
      refine wpOp_callX 11 #[.pointer (some ⟨b, o, none⟩)] rfl (by kernel_rfl) (by go_simp) ?_
      refine (rlines_c b o T wr.drew (HTR.out.low (Below.refl _ _).drew)).mono ?_
      rintro e w2 ⟨v1, rfl, hown1, hb2⟩
      have hS2 : CsAt w2 w.heap.size XT (rT T) := hS0.low hb2
      refine ⟨_, rfl, hS2, ?_⟩
      refine wpAnyH_all (fuel := 2) (rs := [3]) (by kernel_rfl) (by decide) ?_
      intro i hi
      obtain rfl : i = 3 := by simpa using hi
      refine wpOp_callX 26 #[.agg (rT T)] rfl (by kernel_rfl) (by go_simp) ?_
      refine (xlines_c T w2).mono ?_
      rintro e w3 ⟨v2, rfl, hown2, hb3⟩
      have hS3 : CsAt w3 w.heap.size XT (rT T) := hS2.low hb3
      refine ⟨_, rfl, hS3, ?_⟩
      refine takeH (fuel := 1) (i := 4) (v1) ?_ rfl (by kernel_rfl) (by kernel_rfl) (by kernel_rfl) (fun _ _ _ h => h) (by kernel_rfl) (fun W hS => by go_simp) hS3 ?_ ?_
      rotate_left 1
      · go_simp
        exact rfl
      refine takeH (fuel := 0) (i := 5) (v2) ?_ rfl (by kernel_rfl) (by kernel_rfl) (by kernel_rfl) (fun _ _ _ h => h) (by kernel_rfl) (fun W hS => by go_simp) hS3 ?_ ?_
      rotate_left 1
      · go_simp
        exact rfl
      refine wpAnyH_done (by kernel_rfl) ?_ _
      refine NoPanic.normal ?_
      obtain ⟨p1, c1, rfl, hv1, -, -⟩ := own_form hown1
      obtain ⟨p2, c2, rfl, hv2, -, -⟩ := own_form hown2
      have HV1 := Lib.hid (hv1.low hb3)
      have HV2 := Lib.hid hv2
      have hb23 : Below wr.heap.size wr w3 := ((Below.refl wr.heap.size wr).drew.trans (hb2.mono (Nat.le_refl _))).trans (hb3.mono hb2.size)
      have HX3 := Lib.hid hS3
      have HT3 := Lib.hid (HTR.out.low hb23)
      have HB3 := Lib.hid (HBR.out.trans (hb23.mono HBR.out.size))
      have hl8 := Rv.lines_len T
      clear hown1 hown2 hv1 hv2 hS0 hS2 hS3 hb2 hb3 hb23 HTR HXR HBR
      generalize Rv.lines T = ys at *
      go_wp2_with fail
      go_loopw [12] (fun i ws => ∃ k : Nat, k ≤ ys.length ∧ i = .int .i64 k ∧ Below w3.heap.size w3 ws) (fun i _ => ys.length - (intOf i).toNat)
      case atStart => exact ⟨0, Nat.zero_le _, rfl, Below.refl _ _⟩
      case round =>
        obtain ⟨k, hk, rfl, hbs⟩ := hrel
        have HBS := Lib.hid hbs
        have HV1S := Lib.hid (HV1.out.low hbs)
        have HV2S := Lib.hid (HV2.out.low hbs)
        by_cases hlk : k < ys.length
        · obtain ⟨b1, o1, rfl, -, hc1⟩ := vw_cellsU HV1S.out (by omega)
          obtain ⟨b2, o2, rfl, -, hc2⟩ := vw_cellsU HV2S.out (by omega)
          have d1 := hc1 k hlk
          have d2 := hc2 k hlk
          have gk : (k : Int) < (ys.length : Int) := by omega
          clear hbs hc1 hc2 HV1S HV2S
          generalize ys.getD k 0 = y at *
          go_wp2_with fail
          go_quiet (fail)
          have HB4 := Lib.hid (below_dnS HBS.out nq)
          go_wp2_with fail
          go_roundw
          case rel => exact ⟨k + 1, by omega, by go_num, HB4.out⟩
          case measure => simp [intOf]; omega
        · obtain rfl : k = ys.length := by omega
          have HT4 := Lib.hid (HT3.out.low hbs)
          have HX4 := Lib.hid (HX3.out.low hbs)
          have HB4 := Lib.hid (HB3.out.trans (hbs.mono HB3.out.size))
          clear hbs HV1S HV2S HBS HT3 HX3 HB3 HV1 HV2
          go_upto_region 18 with fail
          have hS0 : CsAt wr.drew w.heap.size XT (rT T) := HX4.out
          refine wp_region_noPanic ?_
          refine wp_region_held (S := fun W => CsAt W w.heap.size XT (rT T)) (by kernel_rfl) ?_
          refine takeH (fuel := 7) (i := 0) (.pointer (some ⟨b, o, none⟩)) ?_ rfl (by kernel_rfl) (by kernel_rfl) (by kernel_rfl) (fun _ _ _ h => h) (by kernel_rfl) (fun W hS => by go_simp) hS0 ?_ ?_
          rotate_left 1
          · go_simp
            exact rfl
          refine takeH (fuel := 6) (i := 1) (.int .u64 line) ?_ rfl (by kernel_rfl) (by kernel_rfl) (by kernel_rfl) (fun _ _ _ h => h) (by kernel_rfl) (fun W hS => by go_simp) hS0 ?_ ?_
          rotate_left 1
          · go_simp
            exact rfl
          refine takeH (fuel := 5) (i := 3) (.agg (rT T)) ?_ rfl (by kernel_rfl) (by kernel_rfl) (by kernel_rfl) (fun _ _ _ h => h) (by kernel_rfl) (fun W hS => exec_load_row XT _ rfl w.heap.size rfl XT _ _ hS Try.underlying41 rfl (iT _ _)) hS0 ?_ ?_
          rotate_left 1
          · go_simp
            exact rfl
          refine takeH (fuel := 4) (i := 4) (.int .u64 line) ?_ rfl (by kernel_rfl) (by kernel_rfl) (by kernel_rfl) (fun _ _ _ h => h) (by kernel_rfl) (fun W hS => by go_simp) hS0 ?_ ?_
          rotate_left 1
          · go_simp
            exact rfl
          refine wpAnyH_all (fuel := 3) (rs := [2]) (by kernel_rfl) (by decide) ?_
          intro i hi
          obtain rfl : i = 2 := by simpa using hi
          change Go.wpOp _ _ _ _ _ _ wr.drew
          refine wpOp_callX 10 #[.pointer (some ⟨b, o, none⟩), .int .u64 line] rfl (by kernel_rfl) (by go_simp) ?_
          refine (rwho_c b o T line wr.drew (HT4.out.low (Below.refl _ _).drew)).mono ?_
          rintro e w5 ⟨v3, rfl, hown3, hb5⟩
          have hS5 : CsAt w5 w.heap.size XT (rT T) := hS0.low hb5
          refine ⟨_, rfl, hS5, ?_⟩
          refine wpAnyH_all (fuel := 2) (rs := [5]) (by kernel_rfl) (by decide) ?_
          intro i hi
          obtain rfl : i = 5 := by simpa using hi
          refine wpOp_callX 28 #[.agg (rT T), .int .u64 line] rfl (by kernel_rfl) (by go_simp) ?_
          refine (xwho_c T line w5).mono ?_
          rintro e w6 ⟨v4, rfl, hown4, hb6⟩
          have hS6 : CsAt w6 w.heap.size XT (rT T) := hS5.low hb6
          refine ⟨_, rfl, hS6, ?_⟩
          obtain ⟨p3, c3, rfl, hv3, -, -⟩ := own_form hown3
          obtain ⟨p4, c4, rfl, hv4, -, -⟩ := own_form hown4
          have hwl := Rv.who_len T line 8
          refine wpAnyH_all (fuel := 1) (rs := [6]) (by kernel_rfl) (by decide) ?_
          intro i hi
          obtain rfl : i = 6 := by simpa using hi
          refine wpOp_callX 27 #[.slice p3 (Rv.who T line 8).length c3, .slice p4 (Rv.who T line 8).length c4] rfl (by kernel_rfl) (by go_simp) ?_
          refine (ints_c p3 p4 c3 c4 _ _ w6 (hv3.low hb6) hv4 (by omega)).mono ?_
          rintro e w7 ⟨rfl, hb7⟩
          have hS7 : CsAt w7 w.heap.size XT (rT T) := hS6.low hb7
          rw [decide_eq_true (rfl : Rv.who T line 8 = Rv.who T line 8)]
          refine ⟨_, rfl, hS7, ?_⟩
          refine takeH (fuel := 0) (i := 7) (.bool true) ?_ rfl (by kernel_rfl) (by kernel_rfl) (by kernel_rfl) (fun _ _ _ h => h) (by kernel_rfl) (fun W hS => by go_simp) hS7 ?_ ?_
          rotate_left 1
          · go_simp
            exact rfl
          refine wpAnyH_done (by kernel_rfl) ?_ _
          refine NoPanic.normal ?_
          have HBE := Lib.hid (((HB4.out.drew.trans (hb5.mono HB4.out.size)).trans (hb6.mono (Nat.le_trans HB4.out.size hb5.size))).trans (hb7.mono (Nat.le_trans (Nat.le_trans HB4.out.size hb5.size) hb6.size)))
          clear hown3 hown4 hv3 hv4 hS0 hS5 hS6 hS7 hb5 hb6 hb7
          go_wp2_with fail
          go_ret
          exact ⟨rfl, HBE.out⟩
end Go.Proofs.Ytabackklpemhpaa
