/-
  The statement LocksGoOn (P12.4), walked.
-/
import Derived.Test.YtgegahnjhaldeaaLkG3
import Derived.Test.YtgegahnjhaldeaaFrameO
namespace Go.Proofs.Ytgegahnjhaldeaa
open Go.ChangeShapes Go.WideShapes Go.ChangeAt Go.RowKit

/-- The eight slices of what is needed. -/
def nds (F : Nat → Option Addr × Nat × List Int) : Array Value := ((List.range 8).map fun i => Value.slice (F i).1 (F i).2.2.length (F i).2.1).toArray
theorem nds_at (F : Nat → Option Addr × Nat × List Int) {k : Nat} (hk : k < 8) : (nds F)[k]? = some (.slice (F k).1 (F k).2.2.length (F k).2.1) := by
  unfold nds
  simp [hk]
def XF (F : Nat → Option Addr × Nat × List Int) (i : Nat) : List Int := Srt.set (F i).2.2
theorem most_J0 (X : Nat → List Int) (k : Nat) : Lk.most (J0 X) (k + 1) = Lk.most (J0 X) k + (2 * (X k).length + 1) := rfl
theorem most_le {X : Nat → List Int} : ∀ k, (∀ i, i < k → (X i).length ≤ 6) → Lk.most (J0 X) k ≤ 13 * k
  | 0, _ => Nat.le_refl _
  | k + 1, h => by
    have := most_le k fun i hi => h i (by omega)
    have := h k (by omega)
    rw [most_J0]
    omega
abbrev zj : Array Value := #[Value.slice none 0 0, .int .i64 0, .int .i64 0, .bool false, .slice none 0 0, .int .i64 0, .int .i64 0, .bool false, .slice none 0 0, .int .i64 0, .int .i64 0, .bool false, .slice none 0 0, .int .i64 0, .int .i64 0, .bool false, .slice none 0 0, .int .i64 0, .int .i64 0, .bool false, .slice none 0 0, .int .i64 0, .int .i64 0, .bool false, .slice none 0 0, .int .i64 0, .int .i64 0, .bool false, .slice none 0 0, .int .i64 0, .int .i64 0, .bool false]
/-- What stands while the jobs are built. -/
structure GbAt (w W0 W : World) (F : Nat → Option Addr × Nat × List Int) (k : Nat) (P : Nat → Option Addr × Nat) : Prop where
  jb : JbAt W0 W P (XF F) k
  le : ∀ i, i < k → (F i).2.2.length ≤ 6
  rng : ∀ i : Nat, i < k → ∀ x ∈ (F i).2.2, 0 ≤ x ∧ x ≤ 9
set_option maxRecDepth 100000 in
set_option maxHeartbeats 8000000 in
theorem goon_walk (w : World) (F : Nat → Option Addr × Nat × List Int) (hF : ∀ i, i < 8 → InInts w (F i).1 (F i).2.1 (F i).2.2) (po : Option Addr) (n cp : Nat) (l : List Int) (hN : Nums .u8 w po n l) :
    Calls Try.prog 6 #[.agg (nds F), .slice po n cp] w fun e w' => e = .returned (.bool true) ∧ Below w.heap.size w w' := by
  have HB1 := Lib.hid (alloc_below w (.cells (nds F) 58))
  have HC1 := Lib.hid (CsAt.new w 58 (nds F))
  have HF := Lib.hid hF
  have HN := Lib.hid hN
  have HD := Lib.hid (fun k (hk : k < 8) => nds_at F hk)
  clear hF hN
  generalize nds F = cs at *
  by_cases hn : 200 < n
  · have g1 : decide (200 < (n : Int)) = true := by simp; omega
    have g2 : decide (200 < n) = true := by simp; omega
    go_enter Try.func6, Try.ntmps6
    go_wp2_with fail
    refine (live12_c _).mono ?_
    rintro e w2 ⟨rfl, hb⟩
    have HB2 := Lib.hid (HB1.out.trans (hb.mono HB1.out.size))
    clear hb
    go_wp2_with fail
    go_ret
    exact ⟨rfl, HB2.out⟩
  have g1 : decide (200 < (n : Int)) = false := by simp; omega
  have g2 : decide (200 < n) = false := by simp; omega
  go_enter Try.func6, Try.ntmps6
  go_wp2_with fail
  generalize w.alloc (.cells cs 58) = w1 at *
  refine (new_yes 10 w1 (by omega) (by omega)).mono ?_
  rintro e w2 ⟨rfl, hl, hb⟩
  have HL2 := Lib.hid hl
  have HB2 := Lib.hid (HB1.out.trans (hb.mono HB1.out.size))
  have HC2 := Lib.hid (HC1.out.low hb)
  clear hl hb HC1
  go_upto_region 7 with fail
  have HJ := Lib.hid (show GbAt w w2 (w2.alloc (.cells zj 60)) F 0 (fun _ => (none, 0)) from ⟨JbAt.new w2 zj _ rfl _ _, fun i hi => by omega, fun i hi => by omega⟩)
  generalize w2.alloc (.cells zj 60) = w3 at *
  go_wp2_with fail
  go_loopw [8, 9] (fun sv iv wr => ∃ (k : Nat) (P : Nat → Option Addr × Nat), k ≤ 8 ∧ iv = .int .i64 k ∧ sv = .int .i64 ((Lk.most (J0 (XF F)) k : Nat) : Int) ∧ GbAt w w2 wr F k P) (fun _ iv _ => 8 - (intOf iv).toNat)
  case atStart => exact ⟨0, _, by omega, rfl, rfl, HJ.out⟩
  case round =>
    obtain ⟨k, P, hk, rfl, rfl, hG⟩ := hrel
    have HG := Lib.hid hG
    clear hG HJ
    have HBR := Lib.hid (HB2.out.trans (HG.out.jb.bel.mono HB2.out.size))
    have HCR := Lib.hid (HC2.out.on HG.out.jb.bel HC2.out.lt)
    by_cases hlt : k < 8
    · have gk : (k : Int) < 8 := by omega
      have ck := (HCR.out.cell k).trans (HD.out k hlt)
      have hI := HF.out k hlt
      have HM := Lib.hid (most_J0 (XF F) k)
      have HXF := Lib.hid (show XF F k = Srt.set (F k).2.2 from rfl)
      have HI := Lib.hid hI
      clear hI
      generalize hq : F k = q at *
      obtain ⟨pk, capk, L⟩ := q
      simp only at ck
      by_cases hbig : 6 < L.length
      · have gb1 : decide (6 < L.length) = true := by simpa using hbig
        have gb2 : decide (6 < (L.length : Int)) = true := by simp; omega
        go_wp2_with fail
        refine (live12_c _).mono ?_
        rintro e w4 ⟨rfl, hb⟩
        have HB4 := Lib.hid (HBR.out.trans (hb.mono HBR.out.size))
        clear hb
        go_wp2_with fail
        go_ret
        exact ⟨rfl, HB4.out⟩
      have gb1 : decide (6 < L.length) = false := by simpa using hbig
      have gb2 : decide (6 < (L.length : Int)) = false := by simp; omega
      go_wp2_with fail
      obtain ⟨wo, rfl⟩ : ∃ wo : World, wo = wr := ⟨_, rfl⟩
      go_loopw [10] (fun jv wr => ∃ m : Nat, m ≤ L.length ∧ jv = .int .i64 m ∧ wr = wo ∧ ∀ j, j < m → 0 ≤ L.getD j 0 ∧ L.getD j 0 ≤ 9) (fun jv _ => L.length - (intOf jv).toNat)
      case atStart => exact ⟨0, by omega, rfl, rfl, fun j hj => by omega⟩
      case round =>
        obtain ⟨m, hm, rfl, hwo, hr⟩ := hrel
        subst hwo
        have HRM := Lib.hid hr
        clear hr
        by_cases hml : m < L.length
        · have gm1 : decide (m < L.length) = true := by simpa using hml
          have gm2 : (m : Int) < L.length := by omega
          obtain ⟨b, off, rfl, hbl, hcl⟩ := (HI.out.vw.low HBR.out).cells (show 0 < L.length by omega)
          have cx := hcl m hml
          generalize hx : L.getD m 0 = x at *
          clear hcl
          by_cases h0 : x < 0
          · have gx : decide (x < 0) = true := by simpa using h0
            go_wp2_with fail
            refine (live12_c _).mono ?_
            rintro e w4 ⟨rfl, hb⟩
            have HB4 := Lib.hid (HBR.out.trans (hb.mono HBR.out.size))
            clear hb
            go_wp2_with fail
            go_ret
            exact ⟨rfl, HB4.out⟩
          have gx : decide (x < 0) = false := by simpa using h0
          by_cases h9 : 9 < x
          · have gy : decide (9 < x) = true := by simpa using h9
            go_wp2_with fail
            refine (live12_c _).mono ?_
            rintro e w4 ⟨rfl, hb⟩
            have HB4 := Lib.hid (HBR.out.trans (hb.mono HBR.out.size))
            clear hb
            go_wp2_with fail
            go_ret
            exact ⟨rfl, HB4.out⟩
          have gy : decide (9 < x) = false := by simpa using h9
          have HX := Lib.hid (show ∀ j, j < m + 1 → 0 ≤ L.getD j 0 ∧ L.getD j 0 ≤ 9 from fun j hj => by
            by_cases e : j = m
            · subst e; rw [hx]; omega
            · exact HRM.out j (by omega))
          clear hx
          go_wp2_with fail
          go_roundw
          case rel => exact ⟨m + 1, by omega, by go_num, trivial, HX.out⟩
          case measure => simp [intOf]; omega
        have gm1 : decide (m < L.length) = false := by simpa using hml
        have gm2 : ¬ (m : Int) < L.length := by omega
        obtain rfl : m = L.length := by omega
        go_wp2_with fail
        have h6 : L.length ≤ 6 := by omega
        have HR := Lib.hid (show ∀ x ∈ L, 0 ≤ x ∧ x ≤ 9 from fun x hx => by
          obtain ⟨j, hj, rfl⟩ := List.getElem_of_mem hx
          have := HRM.out j hj
          rwa [List.getD, List.getElem?_eq_getElem hj] at this)
        clear HRM hml gm1 gm2 gb1 gb2 hbig hm
        refine (plan_c pk capk L wr (HI.out.vw.low HBR.out) HI.out.nil (by omega)).mono ?_
        rintro e w4 ⟨v, rfl, hown, hb⟩
        obtain ⟨p4, cap4, rfl, -⟩ := own_form2 hown
        have HG4 := Lib.hid (HG.out.jb.low hb)
        have hsz : w2.heap.size < wr.heap.size := HG.out.jb.lt
        have HO4 := Lib.hid (own_mono hown (show w2.heap.size + 1 ≤ wr.heap.size by omega))
        have HTH := Lib.hid (show w4.there w2.heap.size (k * 4) 4 from fun j hj => ⟨HG4.out.there _ (by omega), HG4.out.froz _⟩)
        clear hown hb hsz
        go_upto_region 19 with (refine wpList_store_mid rfl 48 _ _ rfl w2.heap.size _ _ rfl rfl (by exact HTH.out) info_job (by simp [Value.oneCell']) ?_)
        have HG5 := Lib.hid (show JbAt w2 (w4.setCells w2.heap.size (k * 4) (jV (.slice p4 (Srt.set L).length cap4) 0 0 false).toList) (putP P k (p4, cap4)) (XF F) (k + 1) by
          have h := HG4.out.next hlt (p := p4) (cap := cap4) (by rw [HXF.out]; exact HO4.out)
          rw [HXF.out, Nat.mul_comm] at h
          exact h)
        have HGN := Lib.hid (show ∀ W, JbAt w2 W (putP P k (p4, cap4)) (XF F) (k + 1) → GbAt w w2 W F (k + 1) (putP P k (p4, cap4)) from fun W hW => ⟨hW, fun i hi => by
            by_cases e : i = k
            · subst e; rw [hq]; exact h6
            · exact HG.out.le i (by omega), fun i hi => by
            by_cases e : i = k
            · subst e; rw [hq]; exact HR.out
            · exact HG.out.rng i (by omega)⟩)
        have hj := HG5.out.jobs k (by omega)
        rw [putP_same, HXF.out, Nat.mul_comm 4 k] at hj
        have ho := HG5.out.rows k (by omega)
        rw [putP_same, HXF.out] at ho
        have HJN := Lib.hid (needs_c _ _ _ _ _ _ _ _ _ hj ho (by have := Srt.set_len L; omega))
        have HML := Lib.hid (most_le (X := XF F) k fun i hi => by have := HG.out.le i hi; have := Srt.set_len (F i).2.2; unfold XF; omega)
        have hm := HML.out
        have hs6 : (Srt.set L).length ≤ 6 := by have := Srt.set_len L; omega
        rw [HXF.out] at HM
        have HM' := Lib.hid HM.out
        clear HM HML hj ho HTH HG4 HO4 HG HR HI hq ck
        generalize w4.setCells w2.heap.size (k * 4) (jV (.slice p4 (Srt.set L).length cap4) 0 0 false).toList = w5 at *
        generalize Lk.most (J0 (XF F)) k = mk at *
        generalize (Srt.set L).length = sl at *
        go_wp2_with fail
        refine HJN.out.mono ?_
        rintro e w6 ⟨v6, rfl, hown, hb⟩
        obtain ⟨p6, cap6, rfl, -⟩ := own_form2 hown
        have HG6 := Lib.hid (HGN.out _ (HG5.out.low hb))
        clear hown hb
        go_wp2_with fail
        go_roundw
        case rel => exact ⟨k + 1, _, by omega, by go_num, by rw [HM'.out]; go_num, HG6.out⟩
        case measure => simp [intOf]; omega
    · rw [show ((k : Nat) : Int) = 8 by omega]
      obtain rfl : k = 8 := by omega
      have hall := HG.out.jb.all HL2.out (HB2.out) (HB1.out.size) (fun i _ => Srt.set_strict _) (fun i hi x hx => by
        have := HG.out.rng i hi x ((Srt.set_mem _ _).1 hx)
        omega)
      have HGO := Lib.hid hall.1
      have HGB := Lib.hid hall.2
      have HXL := Lib.hid (show ∀ i, i < 8 → (XF F i).length ≤ 6 from fun i hi => by have := HG.out.le i hi; have := Srt.set_len (F i).2.2; unfold XF; omega)
      have hmost := most_le (X := XF F) 8 HXL.out
      clear hall HG HBR HCR HL2 HC2 HF HD hk hlt
      generalize hX : XF F = X at *
      clear hX
      go_wp2_with fail
      go_loopw [11] (fun iv wr => ∃ (j : Nat) (R : Int → List Int) (J : Nat → Lk.JS), j ≤ n ∧ iv = .int .i64 j ∧ GoAt w wr w1.heap.size (w1.heap.size + 1) w1.heap.size w2.heap.size P R J ∧ ∀ i, (J i).xs = X i) (fun iv _ => n - (intOf iv).toNat)
      case atStart => exact ⟨0, _, _, by omega, rfl, HGO.out, fun i => rfl⟩
      case round =>
        clear HGO
        obtain ⟨j, R, J, hj, rfl, hG, hJX⟩ := hrel
        have HGO := Lib.hid hG
        have HJX := Lib.hid hJX
        clear hG hJX
        by_cases hjn : j < n
        · have gj1 : decide (j < n) = true := by simpa using hjn
          have gj2 : (j : Int) < n := by omega
          have hxl : j < l.length := by rw [HN.out.len]; exact hjn
          obtain ⟨b, off, rfl, hbl, hcl⟩ := (HN.out.vw.low HGO.out.bel).resolve_left (fun e => by have := congrArg List.length e; simp at this; subst this; simp at hxl)
          have cx := hcl j (.int .u8 (l.getD j 0)) (by simp [List.getD, hxl])
          have hbx := bounds_u8 (HN.out.each (l.getD j 0) (by rw [List.getD, List.getElem?_eq_getElem hxl]; exact List.getElem_mem hxl))
          clear hcl hxl
          generalize l.getD j 0 = x at *
          obtain ⟨k, hk8, hk⟩ : ∃ k : Nat, k < 8 ∧ x.tmod 8 = (k : Int) := ⟨(x % 8).toNat, by omega, by rw [Int.tmod_eq_emod_of_nonneg hbx.1]; omega⟩
          have hu8 : IntKind.u8.wrap (k : Int) = k := by rw [IntKind.wrap_u8]; omega
          have hi64 : IntKind.i64.wrap (k : Int) = k := by rw [IntKind.wrap_i64]; omega
          have gk : (k : Int) < 8 := by omega
          have HST := Lib.hid (HGO.out.step HGB.out hk8 (by rw [HJX.out]; have := HXL.out k hk8; omega))
          rw [Nat.mul_comm 4 k] at HST
          go_wp2_with fail
          refine HST.out.mono ?_
          rintro e w4 ⟨rfl, hG⟩
          have HG4 := Lib.hid hG
          have HSN := Lib.hid (Lk.stuck_none hG.inv)
          have HJ4 := Lib.hid (show ∀ i, (Lk.setJ J k (Lk.stJ R 10 (k : Int) (J k)) i).xs = X i from fun i => by
            by_cases e : i = k
            · subst e; rw [Lk.setJ_same, stJ_xs]; exact HJX.out _
            · rw [Lk.setJ_other J _ e]; exact HJX.out _)
          clear hG HST HJX HGO
          generalize Lk.setJ J k (Lk.stJ R 10 (k : Int) (J k)) = J4 at *
          generalize Lk.stR R 10 (k : Int) (J k) = R4 at *
          go_wp2_with fail
          refine (stuck_c _ 10 R4 w4 (.inr ⟨_, _, _, _, rfl, HG4.out.lk⟩)).mono ?_
          rintro e w5 ⟨v5, rfl, hown, hb⟩
          rw [HSN.out] at hown
          obtain ⟨p5, cap5, rfl, -⟩ := own_form2 hown
          have HG5 := Lib.hid (HG4.out.low hb)
          clear hown hb HG4
          rw [show ([] : List Int).length = 0 from rfl]
          go_wp2_with fail
          go_roundw
          case rel => exact ⟨j + 1, R4, J4, by omega, by go_num, HG5.out, HJ4.out⟩
          case measure => simp [intOf]; omega
        · have gj1 : decide (j < n) = false := by simpa using hjn
          have gj2 : ¬ (j : Int) < n := by omega
          have hjn2 : j = n := by omega
          subst hjn2
          have HMC := Lib.hid (Lk.most_congr (J := J) (K := J0 X) 8 fun i _ => HJX.out i)
          clear hjn hj HN hn
          generalize hms : Lk.most (J0 X) 8 = ms at *
          have HMS := Lib.hid hms
          clear hms
          go_wp2_with fail
          go_loopw [13] (fun iv wr => ∃ (r : Nat) (R : Int → List Int) (J : Nat → Lk.JS), r ≤ ms ∧ iv = .int .i64 r ∧ GoAt w wr w1.heap.size (w1.heap.size + 1) w1.heap.size w2.heap.size P R J ∧ (∀ i, (J i).xs = X i) ∧ (r ≤ Lk.total J 8 ∨ Lk.AllOver J)) (fun iv _ => ms - (intOf iv).toNat)
          case atStart => exact ⟨0, R, J, by omega, rfl, HGO.out, HJX.out, .inl (by omega)⟩
          case round =>
            clear HGO HJX HMC R J
            obtain ⟨r, R, J, hr, rfl, hG, hJX, hrd⟩ := hrel
            have HGO := Lib.hid hG
            have HJX := Lib.hid hJX
            have HRD := Lib.hid hrd
            clear hG hJX hrd
            by_cases hrm : r < ms
            · have gr1 : decide (r < ms) = true := by simpa using hrm
              have gr2 : (r : Int) < ms := by omega
              go_wp2_with fail
              obtain ⟨wo, rfl⟩ : ∃ wo : World, wo = wr := ⟨_, rfl⟩
              go_loopw [14] (fun kv wr => ∃ (k : Nat) (R' : Int → List Int) (J' : Nat → Lk.JS), k ≤ 8 ∧ kv = .int .i64 k ∧ GoAt w wr w1.heap.size (w1.heap.size + 1) w1.heap.size w2.heap.size P R' J' ∧ (∀ i, (J' i).xs = X i) ∧ RdAt r (Lk.total J 8) R' J' k) (fun kv _ => 8 - (intOf kv).toNat)
              case atStart => exact ⟨0, R, J, by omega, rfl, HGO.out, HJX.out, RdAt.start HRD.out⟩
              case round =>
                clear HGO HJX HRD
                generalize Lk.total J 8 = T at *
                obtain ⟨k, R, J, hk, rfl, hG, hJX, hrd⟩ := hrel
                have HGO := Lib.hid hG
                have HJX := Lib.hid hJX
                have HRD := Lib.hid hrd
                clear hG hJX hrd
                by_cases hk8 : k < 8
                · have gk : (k : Int) < 8 := by omega
                  have HST := Lib.hid (HGO.out.step HGB.out hk8 (by rw [HJX.out]; have := HXL.out k hk8; omega))
                  rw [Nat.mul_comm 4 k] at HST
                  go_wp2_with fail
                  refine HST.out.mono ?_
                  rintro e w4 ⟨rfl, hG⟩
                  have HG4 := Lib.hid hG
                  have HJ4 := Lib.hid (show ∀ i, (Lk.setJ J k (Lk.stJ R 10 (k : Int) (J k)) i).xs = X i from fun i => by
                    by_cases e : i = k
                    · subst e; rw [Lk.setJ_same, stJ_xs]; exact HJX.out _
                    · rw [Lk.setJ_other J _ e]; exact HJX.out _)
                  have HR4 := Lib.hid (HRD.out.next HGO.out.inv hk8)
                  clear hG HST HJX HGO HRD
                  generalize Lk.setJ J k (Lk.stJ R 10 (k : Int) (J k)) = J4 at *
                  generalize Lk.stR R 10 (k : Int) (J k) = R4 at *
                  go_wp2_with fail
                  go_roundw
                  case rel => exact ⟨k + 1, R4, J4, by omega, by go_num, HG4.out, HJ4.out, HR4.out⟩
                  case measure => simp [intOf]; omega
                · rw [show ((k : Nat) : Int) = 8 by omega]
                  obtain rfl : k = 8 := by omega
                  have HDN := Lib.hid (HRD.out.done HGO.out.inv)
                  go_wp2_with fail
                  go_roundw
                  case rel => exact ⟨r + 1, R, J, by omega, by go_num, HGO.out, HJX.out, HDN.out⟩
                  case measure => simp [intOf]; omega
            · have gr1 : decide (r < ms) = false := by simpa using hrm
              have gr2 : ¬ (r : Int) < ms := by omega
              have HOV := Lib.hid (show Lk.AllOver J from by
                rcases HRD.out with h | h
                · exact HGO.out.inv.all_over 8 (by omega) (by rw [Lk.most_congr (K := J0 X) 8 fun i _ => HJX.out i, HMS.out]; omega)
                · exact h)
              clear HJX HRD
              go_wp2_with fail
              go_loopw [15] (fun kv wr => ∃ k : Nat, k ≤ 8 ∧ kv = .int .i64 k ∧ GoAt w wr w1.heap.size (w1.heap.size + 1) w1.heap.size w2.heap.size P R J) (fun kv _ => 8 - (intOf kv).toNat)
              case atStart => exact ⟨0, by omega, rfl, HGO.out⟩
              case round =>
                clear HGO
                obtain ⟨k, hk, rfl, hG⟩ := hrel
                have HGO := Lib.hid hG
                clear hG
                by_cases hk8 : k < 8
                · have gk : (k : Int) < 8 := by omega
                  have HDC := Lib.hid (done_c _ _ _ _ _ _ _ _ _ (HGO.out.jobs k hk8))
                  rw [int_beq, Nat.mul_comm 4 k, show ((J k).d && decide ((J k).g = (J k).xs.length)) = true from HOV.out k hk8] at HDC
                  have HWE := Lib.hid (Lk.over_holds HGO.out.inv hk8 (HOV.out k hk8))
                  go_wp2_with fail
                  refine HDC.out.mono ?_
                  rintro e w4 ⟨rfl, hb⟩
                  have HG4 := Lib.hid (HGO.out.low hb)
                  clear hb HDC HGO
                  go_wp2_with fail
                  refine (held_c _ (k : Int) 10 R w4 (.inr ⟨_, _, _, _, rfl, HG4.out.lk⟩)).mono ?_
                  rintro e w5 ⟨v5, rfl, hown, hb⟩
                  rw [HWE.out] at hown
                  obtain ⟨p5, cap5, rfl, -⟩ := own_form2 hown
                  have HG5 := Lib.hid (HG4.out.low hb)
                  clear hown hb HG4
                  rw [show ([] : List Int).length = 0 from rfl]
                  go_wp2_with fail
                  go_roundw
                  case rel => exact ⟨k + 1, by omega, by go_num, HG5.out⟩
                  case measure => simp [intOf]; omega
                · rw [show ((k : Nat) : Int) = 8 by omega]
                  have HBE := Lib.hid HGO.out.bel
                  go_wp2_with fail
                  refine (live12_c _).mono ?_
                  rintro e w4 ⟨rfl, hb⟩
                  have HB4 := Lib.hid (HBE.out.trans (hb.mono HBE.out.size))
                  clear hb
                  go_wp2_with fail
                  go_ret
                  exact ⟨rfl, HB4.out⟩
end Go.Proofs.Ytgegahnjhaldeaa
