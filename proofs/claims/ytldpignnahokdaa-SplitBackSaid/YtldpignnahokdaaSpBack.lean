/-
  The statement SplitBack (P11.4): for every access, and number, roebucklaw11.SplitBack returns true and its arguments read afterwards as before. No condition.
-/
import Derived.Test.YtldpignnahokdaaSpK
import Derived.Test.YtldpignnahokdaaOpenSp
namespace Go.Proofs.Ytldpignnahokdaa
open Go.ChangeShapes Go.WideShapes Go.ChangeAt Go.RowKit Wd

theorem info_u64s : (Try.prog.info? 22).map (fun i => (i.zero, i.size, i.bytes)) = some (some (.int .u64 0), 1, 8) := by kernel_rfl
/-- The access in its block, its pieces, the parts of the first k ones. -/
structure BkAt (w W : World) (a b c n : Int) (g cap : Nat) (l : List Sp.P) (p6 : Option Addr) (cap6 : Nat) (k : Nat) (v : Int) : Prop where
  bel : Below w.heap.size w W
  box : CsAt W w.heap.size 24 (axV a b c n)
  pcs : W.ownsRow w.heap.size 39 3 (.slice (some ⟨g, 0, none⟩) l.length cap) l.length (Sp.cellsOf l)
  prt : W.ownsRow (g + 1) 22 1 (.slice p6 k cap6) k (uV ((partsS l v).take k))
  gs : g < W.heap.size
  gb : w.heap.size ≤ g
theorem BkAt.low {w W W' : World} {a b c n : Int} {g cap : Nat} {l : List Sp.P} {p6 : Option Addr} {cap6 k : Nat} {v : Int} (h : BkAt w W a b c n g cap l p6 cap6 k v) (hb : Below W.heap.size W W') : BkAt w W' a b c n g cap l p6 cap6 k v :=
  ⟨h.bel.trans (hb.mono h.bel.size), h.box.low hb, own_low h.pcs hb, own_low h.prt hb, Nat.lt_of_lt_of_le h.gs hb.size, h.gb⟩
theorem BkAt.drew {w W : World} {a b c n : Int} {g cap : Nat} {l : List Sp.P} {p6 : Option Addr} {cap6 k : Nat} {v : Int} (h : BkAt w W a b c n g cap l p6 cap6 k v) : BkAt w W.drew a b c n g cap l p6 cap6 k v := h.low ((Below.refl _ _).drew)
theorem uV_one (S : List Int) : ∀ u ∈ uV S, u.oneCell' = true := by
  intro u hu
  obtain ⟨x, -, rfl⟩ := List.mem_map.1 hu
  rfl
set_option maxRecDepth 4000 in
set_option maxHeartbeats 8000000 in
theorem back_walk (w : World) (a b c n v : Int) (ha : 0 ≤ a ∧ a < 18446744073709551616) (hb : 0 ≤ b ∧ b < 18446744073709551616) (_hc : -9223372036854775808 ≤ c ∧ c ≤ 9223372036854775807) (_hn : -9223372036854775808 ≤ n ∧ n ≤ 9223372036854775807)
    (hv : 0 ≤ v ∧ v ≤ 18446744073709551615) :
    Calls Try.prog 6 #[.agg (axV a b c n), .int .u64 v] w fun e w' => e = .returned (.bool true) ∧ Below w.heap.size w w' := by
  have HB := Lib.hid ((Below.refl w.heap.size w).alloc (Nat.le_refl _) (.cells (axV a b c n) 24))
  have HC := Lib.hid (CsAt.new w 24 (axV a b c n))
  have HV := Lib.hid (show 0 ≤ v ∧ v < 18446744073709551616 by omega)
  clear _hc _hn hv
  go_enter Try.func6, Try.ntmps6
  go_upto_region 1 with (fail)
  generalize w.alloc (.cells (axV a b c n) 24) = w1 at *
  go_wp2_with (refine wpList_load_row rfl 24 _ rfl w.heap.size rfl 24 _ (0, 0) _ HC.out Try.underlying24 rfl (by kernel_rfl) ?_)
  refine (pieces_c _ _ _ _ _ ha hb).mono ?_
  rintro e w3 ⟨v3, rfl, hown3, hb3⟩
  have HC3 := Lib.hid (HC.out.low hb3)
  have hown3' := own_mono hown3 HB.out.size
  have HB3 := Lib.hid (HB.out.trans (hb3.mono HB.out.size))
  clear hb3 hown3 HB HC
  go_wp2_with (refine wpList_load_row rfl 24 _ rfl w.heap.size rfl 24 _ (0, 0) _ HC3.out Try.underlying24 rfl (by kernel_rfl) ?_)
  refine (may_c _ _ _ _ _).mono ?_
  rintro e w4 ⟨rfl, hb4⟩
  have HC4 := Lib.hid (HC3.out.low hb4)
  have hown4 := own_low hown3' hb4
  have HB4 := Lib.hid (HB3.out.trans (hb4.mono HB3.out.size))
  clear hb4 hown3' HB3 HC3
  cases hok : Sp.okA c n
  · have HP := Lib.hid (show Sp.pieces a b c n = [] by unfold Sp.pieces; simp [hok])
    rw [HP.out] at hown4
    obtain ⟨p4, cap4, rfl, -, -, -⟩ := own_form hown4
    clear hown4
    rw [show ([] : List Sp.P).length = 0 from rfl]
    go_wp2_with fail
    refine (live11_c _).mono ?_
    rintro e w8 ⟨rfl, hb8⟩
    have H8 := Lib.hid (HB4.out.trans (hb8.mono HB4.out.size))
    clear hb8
    go_wp2_with fail
    go_ret
    exact ⟨rfl, H8.out⟩
  · obtain ⟨h1, h2, h3, h4⟩ := Sp.okA_iff.1 hok
    have HG := Lib.hid (pieces_good ha hb hok)
    have HPL := Lib.hid (Sp.pieces_len a b c n)
    have hl0 : 0 < (Sp.pieces a b c n).length := by
      have h := HG.out.2
      cases hp : Sp.pieces a b c n with
      | nil => rw [hp] at h; simp [tot] at h; omega
      | cons p l => simp
    clear hok
    generalize Sp.pieces a b c n = l at *
    obtain ⟨g, cap, rfl, hgb, hgs, -⟩ := own_pos hown4 hl0
    have HK := Lib.hid (show BkAt w w4 a b c n g cap l none 0 0 v from ⟨HB4.out, HC4.out, hown4, World.ownsRow_nil _ _ _ _, hgs, hgb⟩)
    have HGB := Lib.hid hgb
    clear hown4 hgs hgb HB4 HC4
    have HT8 := Lib.hid (show tot l ≤ 8 by rw [HG.out.2]; exact h2)
    go_wp2_with fail
    go_loopw [6, 7, 8] (fun pv nv iv wr => ∃ (k : Nat) (p6 : Option Addr) (cap6 : Nat), k ≤ l.length ∧ iv = .int .i64 k ∧ nv = .int .i64 (sumN l k) ∧ pv = .slice p6 k cap6 ∧ BkAt w wr a b c n g cap l p6 cap6 k v) (fun _ _ iv _ => l.length - (intOf iv).toNat)
    case atStart => exact ⟨0, none, 0, Nat.zero_le _, rfl, rfl, rfl, HK.out⟩
    case round =>
      clear HK
      obtain ⟨k, p6, cap6, hk, rfl, rfl, rfl, hk6⟩ := hrel
      have HK := Lib.hid hk6
      clear hk6
      have hl4 := HPL.out
      by_cases hlt0 : k < l.length
      · have hli : (k : Int) < l.length := by omega
        have HQR := Lib.hid (range_pc HK.out.pcs k hlt0)
        obtain ⟨g1, g2, g3, g4, g5, g6, g7⟩ := good_at HG.out.1 k hlt0
        have hsr := sumN_range HG.out.1 HT8.out k (by omega)
        have hsr2 := sumN_range HG.out.1 HT8.out (k + 1) (by omega)
        have HSN := Lib.hid (show sumN l (k + 1) = sumN l k + (l.getD k Sp.p0).n from rfl)
        rw [HSN.out] at hsr2
        have HPT := Lib.hid (partsS_take l v k hlt0)
        have HRR := Lib.hid (show ∀ (W : World) (q6 : Option Addr) (c6 : Nat), BkAt w W a b c n g cap l q6 c6 (k + 1) v → W.rangeAt g (k * 3) (l.getD k Sp.p0).cells from fun W q6 c6 h => range_pc h.pcs k hlt0)
        rw [Int.zero_add] at g1 g7
        generalize l.getD k Sp.p0 = q at *
        obtain ⟨qa, qn, qs⟩ := q
        simp only at g1 g2 g3 g4 g5 g6 g7 hsr2
        subst g1
        have HM := Lib.hid (show sumN l k = sumN l k from rfl)
        generalize hM : sumN l k = M at *
        have HHM := Lib.hid hM
        clear hM
        have HQ0 := Lib.hid (show wr.rangeAt g (k * 3) [.int .u64 qa, .int .i64 qn, .int .i64 (8 * M)] from HQR.out)
        have HSZ := Lib.hid (show g + 1 ≤ wr.heap.size from HK.out.gs)
        have HBY := Lib.hid (show ∀ W : World, Calls Try.prog 23 #[.agg (axV a b c n), .int .i64 M] W fun e w' => e = .returned (.int .u64 qa) ∧ Below W.heap.size W w' from fun W => by
          have := rbyte_c a b c n M W (by omega) (by omega) (by omega)
          rw [← g7] at this
          exact this)
        have HF := Lib.hid (show decide (qn < 1) = false ∧ decide (8 < qn) = false ∧ IntKind.i64.wrap (8 * M) = 8 * M ∧ IntKind.i64.wrap (qn - 1) = qn - 1 ∧ IntKind.u64.wrap (qn - 1) = qn - 1 ∧ IntKind.u64.wrap (qa + (qn - 1)) = qa + (qn - 1) ∧
            IntKind.u64.wrap ((qa + (qn - 1)).tdiv 64) = qa / 64 ∧ IntKind.u64.wrap (qa.tdiv 64) = qa / 64 ∧ (k : Int) < l.length from
          ⟨decide_eq_false (by omega), decide_eq_false (by omega), by rw [IntKind.wrap_i64]; omega, by rw [IntKind.wrap_i64]; omega, by rw [IntKind.wrap_u64]; omega, by rw [IntKind.wrap_u64]; omega,
            by rw [Int.tdiv_eq_ediv_of_nonneg (by omega), g6, IntKind.wrap_u64]; omega, by rw [Int.tdiv_eq_ediv_of_nonneg (by omega), IntKind.wrap_u64]; omega, hli⟩)
        have HMB := Lib.hid (show 0 ≤ M ∧ M + qn ≤ 8 ∧ 1 ≤ qn by omega)
        clear g2 g3 g4 g5 g6 g7 hsr hsr2 HM HQR
        go_wp2_with (refine wpList_load_mid rfl 39 _ rfl g (k * 3) rfl [.int .u64 qa, .int .i64 qn, .int .i64 (8 * M)] _ HQ0.out Try.underlying39 rfl (by kernel_rfl) ?_)
        refine (part_c v _ _ _ _ HV.out).mono ?_
        rintro e w5 ⟨rfl, hb5⟩
        have HK5 := Lib.hid (HK.out.low hb5)
        have HS5 := Lib.hid (Nat.le_trans HSZ.out hb5.size)
        clear hb5 HK HSZ HQ0
        generalize hpv : partV v qn (8 * M) = pv at *
        have HPV := Lib.hid hpv
        clear hpv
        go_wp2_with (at_builtin; refine wpList_push rfl _ _ 44 rfl (g + 1) 22 _ 1 8 Try.underlying44 info_u64s rfl (by omega) (by omega) _ _ _ rfl HK5.out.prt #[.int .u64 pv] rfl (by simp [Value.oneCell']) _ rfl rfl (by omega) HS5.out ?_)
        intro v' w' hown hbw
        obtain ⟨p6', cap6', rfl, -, -, -⟩ := own_form hown
        have HK6 := Lib.hid (show BkAt w w' a b c n g cap l p6' cap6' (k + 1) v from
          ⟨HK5.out.bel.trans (hbw.mono (by have := HGB.out; omega)), HK5.out.box.on hbw (by have := HGB.out; omega), own_on HK5.out.pcs hbw (fun k hk => by simp [Value.ownBlock] at hk; omega), by
            rw [HPT.out]
            simpa only [uV, List.map_append, List.map_take, List.map_cons, List.map_nil, HPV.out] using hown, Nat.lt_of_lt_of_le HK5.out.gs hbw.size, HGB.out⟩)
        clear hown hbw HK5 HS5
        have HCQ := Lib.hid (show ∀ W, BkAt w W a b c n g cap l p6' cap6' (k + 1) v → ∀ j u, ([.int .u64 qa, .int .i64 qn, .int .i64 (8 * M)] : List Value)[j]? = some u → W.cell? ⟨g, k * 3 + j, none⟩ = some u from fun W h j u hj => HRR.out W _ _ h j u hj)
        clear HRR
        go_wp2_with fail
        refine wp_region_steady (fun W => BkAt w W a b c n g cap l p6' cap6' (k + 1) v) (by kernel_rfl) (by kernel_rfl) HK6.out.drew ?_
        iterate 53
          refine steady_val ?_ ?_ (by kernel_rfl) (fun W hS => ?_) ?_ ?_
          rotate_left 2
          · have d0 := HCQ.out W hS 0 _ rfl; have d1 := HCQ.out W hS 1 _ rfl; have d2 := HCQ.out W hS 2 _ rfl; simp only [Nat.add_zero] at d0; have f1 := HF.out.1; have f2 := HF.out.2.1; have f3 := HF.out.2.2.1; have f4 := HF.out.2.2.2.1; have f5 := HF.out.2.2.2.2.1; have f6 := HF.out.2.2.2.2.2.1; have f7 := HF.out.2.2.2.2.2.2.1; have f8 := HF.out.2.2.2.2.2.2.2.1; have f9 := HF.out.2.2.2.2.2.2.2.2; go_simp
            exact rfl
          · go_simp
            exact rfl
        refine steady_val (.agg (axV a b c n)) ?_ (by kernel_rfl) (fun W hS => exec_load_row _ _ rfl _ rfl _ _ _ hS.box Try.underlying24 rfl (by kernel_rfl)) ?_ ?_
        rotate_left 1
        · go_simp
          exact rfl
        refine steady_val ?_ ?_ (by kernel_rfl) (fun W hS => ?_) ?_ ?_
        rotate_left 2
        · go_simp
          exact rfl
        · go_simp
          exact rfl
        refine steady_enter (.int .u64 qa) 23 #[.agg (axV a b c n), .int .i64 M] ?_ (by kernel_rfl) (fun W hS => ?_) (fun W hS => (HBY.out _).mono fun e W' ⟨he, hb⟩ => ⟨he, hS.low hb⟩) ?_ ?_
        rotate_left 1
        · go_simp
        · go_simp
          exact rfl
        iterate 2
          refine steady_val ?_ ?_ (by kernel_rfl) (fun W hS => ?_) ?_ ?_
          rotate_left 2
          · go_simp
            exact rfl
          · go_simp
            exact rfl
        refine steady_nil ?_
        intro w7 h7
        have H7 := Lib.hid h7
        have e1 := HCQ.out w7 h7 1 _ rfl
        have hm0 := HMB.out.1
        have hm1 := HMB.out.2.1
        have hm2 := HMB.out.2.2
        clear h7
        go_wp2_with fail
        go_roundw
        case rel => exact ⟨k + 1, p6', cap6', by omega, by go_num, by rw [HSN.out], rfl, H7.out⟩
        case measure => simp [intOf]; omega
      · obtain rfl : k = l.length := by omega
        have hsn : sumN l l.length = n := by rw [sumN_all, HG.out.2]
        rw [hsn]
        have HJ := Lib.hid (show joinS l (partsS l v) (min l.length (partsS l v).length) = cutS v 0 (8 * n) by
          rw [partsS_len, Nat.min_self, join_back HG.out.1 HT8.out _ (Nat.le_refl _), hsn])
        have hpr := HK.out.prt
        rw [List.take_of_length_le (by rw [partsS_len]; exact Nat.le_refl _)] at hpr
        obtain ⟨p7, cap7, hv7, hw7, -, -⟩ := own_form hpr
        obtain ⟨rfl, rfl⟩ : p6 = p7 ∧ cap6 = cap7 := by simpa using hv7
        obtain ⟨p8, cap8, hv8, hw8, -, -⟩ := own_form HK.out.pcs
        obtain ⟨rfl, rfl⟩ : some ⟨g, 0, none⟩ = p8 ∧ cap = cap8 := by simpa using hv8
        have HW7 := Lib.hid hw7
        have HW8 := Lib.hid hw8
        have HPR := Lib.hid (show ∀ u ∈ partsS l v, 0 ≤ u ∧ u < 18446744073709551616 from fun u hu => by
          obtain ⟨p, -, rfl⟩ := List.mem_map.1 hu
          exact partV_range _ _ _)
        have HJC := Lib.hid (show ∀ W, Vw W (some ⟨g, 0, none⟩) (Sp.cellsOf l) → Vw W p6 (uV (partsS l v)) → Calls Try.prog 21 #[.slice (some ⟨g, 0, none⟩) l.length cap, .slice p6 l.length cap6] W fun e w' => e = .returned (.int .u64 (cutS v 0 (8 * n))) ∧ Below W.heap.size W w' from fun W h1 h2 => by
          have h := join_c l (partsS l v) _ p6 cap cap6 W h1 h2 HPR.out (by omega) (by rw [partsS_len]; omega)
          rw [HJ.out, partsS_len] at h
          exact h)
        have HLE := Lib.hid (show decide (((l.length : Nat) : Int) ≤ 4) = true ∧ decide (l.length ≤ 4) = true from ⟨decide_eq_true (by omega), decide_eq_true hl4⟩)
        have HBL := Lib.hid HK.out.bel
        have c3 := HK.out.box.cell 3
        clear hv7 hv8 hw7 hw8 hpr HPR HJ hsn hlt0 hk hl4 hl0
        obtain ⟨hv0, hv1⟩ := HV.out
        have hn : n = 8 ∨ n = 1 ∨ n = 2 ∨ n = 3 ∨ n = 4 ∨ n = 5 ∨ n = 6 ∨ n = 7 := by omega
        rcases hn with rfl | rfl | rfl | rfl | rfl | rfl | rfl | rfl
        · have HZ := Lib.hid (cut_all hv0 hv1)
          rw [HZ.out] at HJC
          obtain ⟨l1, l2⟩ := HLE.out
          go_wp2_with fail
          refine (HJC.out _ HW8.out HW7.out).mono ?_
          rintro e w6 ⟨rfl, hb6⟩
          have HB6 := Lib.hid (HBL.out.trans (hb6.mono HBL.out.size))
          clear hb6
          go_wp2_with fail
          refine (live11_c _).mono ?_
          rintro e w8 ⟨rfl, hb8⟩
          have H8 := Lib.hid (HB6.out.trans (hb8.mono HB6.out.size))
          clear hb8
          go_wp2_with fail
          go_ret
          exact ⟨rfl, H8.out⟩
        · have hz : bits .and .u64 v 255 = cutS v 0 (8 * 1) := and_cut hv0 hv1 1 (by decide)
          have hzr := cutS_range v 0 (8 * 1)
          generalize cutS v 0 (8 * 1) = z at *
          obtain ⟨l1, l2⟩ := HLE.out
          go_wp2_with fail
          refine (HJC.out _ HW8.out HW7.out).mono ?_
          rintro e w6 ⟨rfl, hb6⟩
          have HB6 := Lib.hid (HBL.out.trans (hb6.mono HBL.out.size))
          clear hb6
          go_wp2_with fail
          refine (live11_c _).mono ?_
          rintro e w8 ⟨rfl, hb8⟩
          have H8 := Lib.hid (HB6.out.trans (hb8.mono HB6.out.size))
          clear hb8
          go_wp2_with fail
          go_ret
          exact ⟨rfl, H8.out⟩
        · have hz : bits .and .u64 v 65535 = cutS v 0 (8 * 2) := and_cut hv0 hv1 2 (by decide)
          have hzr := cutS_range v 0 (8 * 2)
          generalize cutS v 0 (8 * 2) = z at *
          obtain ⟨l1, l2⟩ := HLE.out
          go_wp2_with fail
          refine (HJC.out _ HW8.out HW7.out).mono ?_
          rintro e w6 ⟨rfl, hb6⟩
          have HB6 := Lib.hid (HBL.out.trans (hb6.mono HBL.out.size))
          clear hb6
          go_wp2_with fail
          refine (live11_c _).mono ?_
          rintro e w8 ⟨rfl, hb8⟩
          have H8 := Lib.hid (HB6.out.trans (hb8.mono HB6.out.size))
          clear hb8
          go_wp2_with fail
          go_ret
          exact ⟨rfl, H8.out⟩
        · have hz : bits .and .u64 v 16777215 = cutS v 0 (8 * 3) := and_cut hv0 hv1 3 (by decide)
          have hzr := cutS_range v 0 (8 * 3)
          generalize cutS v 0 (8 * 3) = z at *
          obtain ⟨l1, l2⟩ := HLE.out
          go_wp2_with fail
          refine (HJC.out _ HW8.out HW7.out).mono ?_
          rintro e w6 ⟨rfl, hb6⟩
          have HB6 := Lib.hid (HBL.out.trans (hb6.mono HBL.out.size))
          clear hb6
          go_wp2_with fail
          refine (live11_c _).mono ?_
          rintro e w8 ⟨rfl, hb8⟩
          have H8 := Lib.hid (HB6.out.trans (hb8.mono HB6.out.size))
          clear hb8
          go_wp2_with fail
          go_ret
          exact ⟨rfl, H8.out⟩
        · have hz : bits .and .u64 v 4294967295 = cutS v 0 (8 * 4) := and_cut hv0 hv1 4 (by decide)
          have hzr := cutS_range v 0 (8 * 4)
          generalize cutS v 0 (8 * 4) = z at *
          obtain ⟨l1, l2⟩ := HLE.out
          go_wp2_with fail
          refine (HJC.out _ HW8.out HW7.out).mono ?_
          rintro e w6 ⟨rfl, hb6⟩
          have HB6 := Lib.hid (HBL.out.trans (hb6.mono HBL.out.size))
          clear hb6
          go_wp2_with fail
          refine (live11_c _).mono ?_
          rintro e w8 ⟨rfl, hb8⟩
          have H8 := Lib.hid (HB6.out.trans (hb8.mono HB6.out.size))
          clear hb8
          go_wp2_with fail
          go_ret
          exact ⟨rfl, H8.out⟩
        · have hz : bits .and .u64 v 1099511627775 = cutS v 0 (8 * 5) := and_cut hv0 hv1 5 (by decide)
          have hzr := cutS_range v 0 (8 * 5)
          generalize cutS v 0 (8 * 5) = z at *
          obtain ⟨l1, l2⟩ := HLE.out
          go_wp2_with fail
          refine (HJC.out _ HW8.out HW7.out).mono ?_
          rintro e w6 ⟨rfl, hb6⟩
          have HB6 := Lib.hid (HBL.out.trans (hb6.mono HBL.out.size))
          clear hb6
          go_wp2_with fail
          refine (live11_c _).mono ?_
          rintro e w8 ⟨rfl, hb8⟩
          have H8 := Lib.hid (HB6.out.trans (hb8.mono HB6.out.size))
          clear hb8
          go_wp2_with fail
          go_ret
          exact ⟨rfl, H8.out⟩
        · have hz : bits .and .u64 v 281474976710655 = cutS v 0 (8 * 6) := and_cut hv0 hv1 6 (by decide)
          have hzr := cutS_range v 0 (8 * 6)
          generalize cutS v 0 (8 * 6) = z at *
          obtain ⟨l1, l2⟩ := HLE.out
          go_wp2_with fail
          refine (HJC.out _ HW8.out HW7.out).mono ?_
          rintro e w6 ⟨rfl, hb6⟩
          have HB6 := Lib.hid (HBL.out.trans (hb6.mono HBL.out.size))
          clear hb6
          go_wp2_with fail
          refine (live11_c _).mono ?_
          rintro e w8 ⟨rfl, hb8⟩
          have H8 := Lib.hid (HB6.out.trans (hb8.mono HB6.out.size))
          clear hb8
          go_wp2_with fail
          go_ret
          exact ⟨rfl, H8.out⟩
        · have hz : bits .and .u64 v 72057594037927935 = cutS v 0 (8 * 7) := and_cut hv0 hv1 7 (by decide)
          have hzr := cutS_range v 0 (8 * 7)
          generalize cutS v 0 (8 * 7) = z at *
          obtain ⟨l1, l2⟩ := HLE.out
          go_wp2_with fail
          refine (HJC.out _ HW8.out HW7.out).mono ?_
          rintro e w6 ⟨rfl, hb6⟩
          have HB6 := Lib.hid (HBL.out.trans (hb6.mono HBL.out.size))
          clear hb6
          go_wp2_with fail
          refine (live11_c _).mono ?_
          rintro e w8 ⟨rfl, hb8⟩
          have H8 := Lib.hid (HB6.out.trans (hb8.mono HB6.out.size))
          clear hb8
          go_wp2_with fail
          go_ret
          exact ⟨rfl, H8.out⟩

set_option maxRecDepth 100000 in
theorem back_lifted (os : Os) (started : os.Started) (H : Type) (enc : TypeId × Value → H) :
    ReturnsInHanded {} Try.checked os 6 .any (Rows.splitBackSpec.pre6 enc Try.prog Try.f6 Rows.splitBackRow.domain false) (Rows.splitBackSpec.post enc Try.prog Try.f6 false true false false) := by
  refine returnsInHanded_of_change (C := Try.checked) own started (by kernel_rfl) Try.func6
    (ChangeSpec.witness6 (enc := enc) (C := Try.checked) false ⟨#[], #[.agg #[.int .u64 0, .int .u64 0, .int .i64 0, .int .i64 0], .int .u64 0], []⟩ 8 (by kernel_rfl) (by kernel_rfl) (by kernel_rfl) (by kernel_rfl)) ?_
  intro W base args ds gs before hval0 hW hcnd _
  have hval : ∀ (j : Nat) t v, Try.f6.params[j]? = some t → args[j]? = some v → Value.okWide Try.prog W .any base t v := hval0
  have hW' := hW
  obtain ⟨p, q, hA0, hV, rfl, hfz, hnd⟩ := hW
  have hA : DataW.TrodAll enc Try.prog W 0 (fun _ => true) true Try.f6.params.toList args.toList ds p := hA0
  rw [Try.params6] at hA hval
  obtain ⟨v0, vs0, d0, ds0, p0, q0, hargs, rfl, rfl, h0, r0⟩ := trodAll_cons hA
  obtain ⟨v1, vs1, d1, ds1, p1, q1, rfl, rfl, rfl, h1, r1⟩ := trodAll_cons r0
  obtain ⟨rfl, rfl, rfl⟩ := trodAll_nil r1
  obtain rfl : args = #[v0, v1] := by cases args; simp_all
  obtain ⟨rfl, rfl⟩ := trodVars_none hV
  have k0 := h0
  have lt0 : ∀ x ∈ p0, x.block < W.heap.size := by obtain ⟨m, hm⟩ := k0; exact DataW.trod_lt m _ _ _ hm
  obtain ⟨x0, y0, c0, n0, rfl, u0, w0, s0, t0⟩ := open_ax (hval 0 24 v0 rfl rfl) h0
  obtain ⟨a1, rfl, rfl, rfl, w1⟩ := open_int Try.underlying22 (hval 1 22 v1 rfl rfl) h1
  clear hA0 hval0
  refine (back_walk W x0 y0 c0 n0 a1 u0 w0 s0 t0 (bounds_u64 w1)).mono fun e W' ⟨he, bel⟩ => ?_
  subst he
  exact ⟨_, rfl, _, _, _, [], _, [], hW', trodAll_mk1 (shut_bool Try.underlying4 _), (trodAll_cons_mk (Below.trod laidOut (by kernel_rfl) (of_decide_eq_true (by kernel_rfl)) k0 bel lt0) (trodAll_cons_mk (shut_int Try.underlying22 w1) trodAll_mk0)), rfl, bel.frame _, fun h => by cases h⟩

theorem back_over : Rows.splitBackRow.holds Try.pinned (OpenSpec.ofChange Rows.splitBackSpec) :=
  OpenClaim.holds_of_wide 6 Try.f6 rfl rfl rfl rfl rfl rfl rfl ⟨rfl, rfl, rfl, rfl, rfl⟩ rfl rfl rfl rfl rfl (by kernel_rfl) Try.func6 (by kernel_rfl)
    (of_decide_eq_true (by kernel_rfl)) (by unfold Func.isWrapper; first | (rw [if_pos (by decide +kernel)]; kernel_rfl) | (rw [if_neg (by decide +kernel)]; exact ⟨rfl, rfl⟩))
    (fun os started H enc _ => back_lifted os started H enc)

theorem back_said : Rows.SplitBackSaid := back_over
end Go.Proofs.Ytldpignnahokdaa
