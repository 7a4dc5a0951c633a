/-
  The statement SplitJoins (P11.3): for every number, pieces and parts, roebucklaw11.SplitJoins returns true and its arguments read afterwards as before. No condition.
-/
import Derived.Test.YtldpignnahokdaaSpJ
import Derived.Test.YtldpignnahokdaaOpenSq
namespace Go.Proofs.Ytldpignnahokdaa
open Go.ChangeShapes Go.WideShapes Go.ChangeAt Go.RowKit Wd

theorem info_rq : (Try.prog.info? 38).map (fun i => (i.zero, i.size, i.bytes)) = some (some (.agg #[.int .u64 0, .int .i64 0, .int .i64 0]), 3, 24) := by kernel_rfl
theorem cells_take (l : List Sp.P) (k : Nat) (hk : k < l.length) : Sp.cellsOf (l.take (k + 1)) = Sp.cellsOf (l.take k) ++ (l.getD k Sp.p0).cells := by
  rw [List.take_succ_eq_append_getElem hk, Sp.cellsOf_append, Sp.cellsOf_one, List.getD, List.getElem?_eq_getElem hk]
  rfl
set_option maxRecDepth 4000 in
set_option maxHeartbeats 4000000 in
theorem joins_walk (w : World) (v : Int) (ao : Option Addr) (n cap : Nat) (l : List Sp.P) (au : Option Addr) (m capu : Nat) (us : List Int) (hv : 0 ≤ v ∧ v ≤ 18446744073709551615) (hl : Pcs w ao n l) (hu : Nums .u64 w au m us) :
    Calls Try.prog 5 #[.int .u64 v, .slice ao n cap, .slice au m capu] w fun e w' => e = .returned (.bool true) ∧ Below w.heap.size w w' := by
  have hn := hl.len
  have hm := hu.len
  subst hn hm
  have hlm := hl.max
  have hum := hu.max
  by_cases hbig : 20 < l.length ∨ 20 < us.length
  · have g : (decide ((20 : Int) < ((l.length : Nat) : Int)) = true ∧ decide (20 < l.length) = true) ∨ ((decide ((20 : Int) < ((l.length : Nat) : Int)) = false ∧ decide (20 < l.length) = false) ∧ decide ((20 : Int) < ((us.length : Nat) : Int)) = true ∧ decide (20 < us.length) = true) := by
      by_cases h1 : 20 < l.length
      · exact .inl ⟨decide_eq_true (by omega), decide_eq_true h1⟩
      · exact .inr ⟨⟨decide_eq_false (by omega), decide_eq_false h1⟩, decide_eq_true (by omega), decide_eq_true (by omega)⟩
    clear hbig hl hu
    rcases g with ⟨g1, g2⟩ | ⟨⟨g1, g2⟩, g3, g4⟩
    · go_enter Try.func5, Try.ntmps5
      go_wp2_with fail
      refine (live11_c _).mono ?_
      rintro e w8 ⟨rfl, hb8⟩
      have H8 := Lib.hid hb8
      clear hb8
      go_wp2_with fail
      go_ret
      exact ⟨rfl, H8.out⟩
    · go_enter Try.func5, Try.ntmps5
      go_wp2_with fail
      refine (live11_c _).mono ?_
      rintro e w8 ⟨rfl, hb8⟩
      have H8 := Lib.hid hb8
      clear hb8
      go_wp2_with fail
      go_ret
      exact ⟨rfl, H8.out⟩
  · have hl20 : l.length ≤ 20 := by omega
    have hu20 : us.length ≤ 20 := by omega
    have g1 : decide ((20 : Int) < ((l.length : Nat) : Int)) = false := decide_eq_false (by omega)
    have g2 : decide (20 < l.length) = false := decide_eq_false (by omega)
    have g3 : decide ((20 : Int) < ((us.length : Nat) : Int)) = false := decide_eq_false (by omega)
    have g4 : decide (20 < us.length) = false := decide_eq_false (by omega)
    have HV := Lib.hid (show 0 ≤ v ∧ v < 18446744073709551616 by omega)
    have HL := Lib.hid hl.vw
    have HU := Lib.hid hu.vw
    have HUR := Lib.hid (show ∀ u ∈ us, 0 ≤ u ∧ u < 18446744073709551616 from fun u h => by have := bounds_u64 (hu.each u h); omega)
    clear hl hu hbig hv
    go_enter Try.func5, Try.ntmps5
    go_wp2_with fail
    go_loopw [7, 8] (fun lv iv wr => ∃ k : Nat, k ≤ l.length ∧ iv = .int .i64 k ∧ wr.ownsRow w.heap.size 38 3 lv k (Sp.cellsOf (l.take k)) ∧ Below w.heap.size w wr) (fun _ iv _ => l.length - (intOf iv).toNat)
    case atStart => exact ⟨0, Nat.zero_le _, rfl, World.ownsRow_nil _ _ _ _, Below.refl _ _⟩
    case round =>
      obtain ⟨k, hk, rfl, ho, hbr⟩ := hrel
      have HO := Lib.hid ho
      have HBR := Lib.hid hbr
      clear ho hbr
      by_cases hlt0 : k < l.length
      · obtain ⟨b, off, rfl, hlt, hc⟩ := HL.out.resolve_left (fun h => by
          have := congrArg List.length h
          rw [Sp.cellsOf_len, List.length_nil] at this
          omega)
        have hq0 := vw_range hc k hlt0
        have HCT := Lib.hid (cells_take l k hlt0)
        have HGT := Lib.hid (show (l.take (k + 1)).length = k + 1 by rw [List.length_take]; omega)
        have HGD := Lib.hid (show (l.take (k + 1)).getD k Sp.p0 = l.getD k Sp.p0 by rw [List.getD, List.getD, List.getElem?_take, if_pos (Nat.lt_succ_self k)])
        generalize l.getD k Sp.p0 = q at *
        obtain ⟨qa, qn, qs⟩ := q
        have HQ0 := Lib.hid (show w.rangeAt b (off + k * 3) [.int .u64 qa, .int .i64 qn, .int .i64 qs] from hq0)
        have HQR := Lib.hid (rangeB HBR.out hlt HQ0.out)
        have HHL := Lib.hid hlt
        have HSZ := Lib.hid HBR.out.size
        have HK1 := Lib.hid (show (k : Int) < (k : Int) + 1 by omega)
        clear hc hq0
        have hli : (k : Int) < l.length := by omega
        go_wp2_with (first
          | (refine wpList_load_mid rfl 39 _ rfl b (off + k * 3) rfl [.int .u64 qa, .int .i64 qn, .int .i64 qs] _ HQR.out Try.underlying39 rfl (by kernel_rfl) ?_)
          | (at_builtin; refine wpList_push rfl _ _ 35 rfl w.heap.size 38 _ 3 24 Try.underlying35 info_rq rfl (by omega) (by omega) _ _ _ rfl HO.out (pcV qa qn qs) rfl (pc_one _ _ _) _ rfl rfl (by omega) HSZ.out ?_))
        intro v' w' hown hbw
        have hown' : w'.ownsRow w.heap.size 38 3 v' (k + 1) (Sp.cellsOf (l.take (k + 1))) := by rw [HCT.out]; exact hown
        have HB6 := Lib.hid (HBR.out.trans hbw)
        obtain ⟨g2, cap2, rfl, -, -, -⟩ := own_pos hown' (by omega)
        have HO6 := Lib.hid hown'
        have HR2 := Lib.hid (show ∀ W : World, W.ownsRow w.heap.size 38 3 (.slice (some ⟨g2, 0, none⟩) (k + 1) cap2) (k + 1) (Sp.cellsOf (l.take (k + 1))) → W.rangeAt g2 (k * 3) [.int .u64 qa, .int .i64 qn, .int .i64 qs] from fun W hW => by
          have h1 : W.ownsRow w.heap.size 38 3 (.slice (some ⟨g2, 0, none⟩) (l.take (k + 1)).length cap2) (l.take (k + 1)).length (Sp.cellsOf (l.take (k + 1))) := by rw [HGT.out]; exact hW
          have h2 := range_pc h1 k (by rw [HGT.out]; omega)
          rw [HGD.out] at h2
          exact h2)
        clear hown hown' hbw HO HBR HQR HSZ
        go_wp2_with fail
        refine wp_region_steady (fun W => Below w.heap.size w W ∧ W.ownsRow w.heap.size 38 3 (.slice (some ⟨g2, 0, none⟩) (k + 1) cap2) (k + 1) (Sp.cellsOf (l.take (k + 1)))) (by kernel_rfl) (by kernel_rfl) ⟨HB6.out.drew, HO6.out⟩ ?_
        iterate 4
          refine steady_val ?_ ?_ (by kernel_rfl) (fun W hS => ?_) ?_ ?_
          rotate_left 2
          · go_simp
            exact rfl
          · go_simp
            exact rfl
        refine steady_val (.agg (pcV qa qn qs)) ?_ (by kernel_rfl) (fun W hS => exec_load_mid (cs := [.int .u64 qa, .int .i64 qn, .int .i64 qs]) _ _ rfl b (off + k * 3) rfl _ (rangeB hS.1 HHL.out HQ0.out) Try.underlying39 rfl (by kernel_rfl)) ?_ ?_
        rotate_left 1
        · go_simp
          exact rfl
        refine steady_enter (.int .u64 (partV v qn qs)) 19 #[.int .u64 v, .agg (pcV qa qn qs)] ?_ (by kernel_rfl) (fun W hS => ?_) (fun W hS => (part_c _ _ _ _ _ HV.out).mono fun e W' ⟨he, hb⟩ => ⟨he, hS.1.trans (hb.mono hS.1.size), own_low hS.2 hb⟩) ?_ ?_
        rotate_left 1
        · go_simp
        · go_simp
          exact rfl
        iterate 4
          refine steady_val ?_ ?_ (by kernel_rfl) (fun W hS => ?_) ?_ ?_
          rotate_left 2
          · have hk1 : (k : Int) < (k : Int) + 1 := HK1.out; go_simp
            exact rfl
          · go_simp
            exact rfl
        refine steady_val (.agg (pcV qa qn qs)) ?_ (by kernel_rfl) (fun W hS => exec_load_mid (cs := [.int .u64 qa, .int .i64 qn, .int .i64 qs]) _ _ rfl g2 (k * 3) rfl _ (HR2.out W hS.2) Try.underlying38 rfl (by kernel_rfl)) ?_ ?_
        rotate_left 1
        · go_simp
          exact rfl
        refine steady_enter (.int .u64 (partV v qn qs)) 20 #[.int .u64 v, .agg (pcV qa qn qs)] ?_ (by kernel_rfl) (fun W hS => ?_) (fun W hS => (rpart_c _ _ _ _ _ HV.out).mono fun e W' ⟨he, hb⟩ => ⟨he, hS.1.trans (hb.mono hS.1.size), own_low hS.2 hb⟩) ?_ ?_
        rotate_left 1
        · go_simp
        · go_simp
          exact rfl
        refine steady_val ?_ ?_ (by kernel_rfl) (fun W hS => ?_) ?_ ?_
        rotate_left 2
        · go_simp
          exact rfl
        · go_simp
          exact rfl
        refine steady_nil ?_
        intro w7 h7
        have H7 := Lib.hid h7
        clear h7
        go_wp2_with fail
        go_roundw
        case rel => exact ⟨k + 1, by omega, by go_num, H7.out.2, H7.out.1⟩
        case measure => simp [intOf]; omega
      · obtain rfl : k = l.length := by omega
        have hown := HO.out
        rw [List.take_length] at hown
        obtain ⟨p2, cap2, rfl, hv2, -, -⟩ := own_form hown
        have HV2 := Lib.hid hv2
        have HL2 := Lib.hid (HL.out.low (HBR.out))
        have HU2 := Lib.hid (HU.out.low (HBR.out))
        clear hown hv2 HO
        go_wp2_with fail
        refine (join_c l us _ _ _ _ _ HL2.out HU2.out HUR.out (by omega) (by omega)).mono ?_
        rintro e w5 ⟨rfl, hb5⟩
        have HB5 := Lib.hid (HBR.out.trans (hb5.mono HBR.out.size))
        have HV5 := Lib.hid (HV2.out.low hb5)
        have HU5 := Lib.hid (HU2.out.low hb5)
        clear hb5 HV2 HU2 HL2
        go_wp2_with fail
        refine (rjoin_c l us _ _ _ _ _ HV5.out HU5.out HUR.out (by omega) (by omega)).mono ?_
        rintro e w6 ⟨rfl, hb6⟩
        have HB6 := Lib.hid (HB5.out.trans (hb6.mono HB5.out.size))
        clear hb6 HV5 HU5
        generalize joinS l us (min l.length us.length) = z at *
        go_wp2_with fail
        refine (live11_c _).mono ?_
        rintro e w8 ⟨rfl, hb8⟩
        have H8 := Lib.hid (HB6.out.trans (hb8.mono HB6.out.size))
        clear hb8
        go_wp2_with fail
        go_ret
        exact ⟨rfl, H8.out⟩

set_option maxRecDepth 100000 in
theorem joins_lifted (os : Os) (started : os.Started) (H : Type) (enc : TypeId × Value → H) :
    ReturnsInHanded {} Try.checked os 5 .any (Rows.splitJoinsSpec.pre6 enc Try.prog Try.f5 Rows.splitJoinsRow.domain false) (Rows.splitJoinsSpec.post enc Try.prog Try.f5 false true false false) := by
  refine returnsInHanded_of_change (C := Try.checked) own started (by kernel_rfl) Try.func5
    (ChangeSpec.witness6 (enc := enc) (C := Try.checked) false ⟨#[], #[.int .u64 0, .slice none 0 0, .slice none 0 0], []⟩ 8 (by kernel_rfl) (by kernel_rfl) (by kernel_rfl) (by kernel_rfl)) ?_
  intro W base args ds gs before hval0 hW hcnd _
  have hval : ∀ (j : Nat) t v, Try.f5.params[j]? = some t → args[j]? = some v → Value.okWide Try.prog W .any base t v := hval0
  have hW' := hW
  obtain ⟨p, q, hA0, hV, rfl, hfz, hnd⟩ := hW
  have hA : DataW.TrodAll enc Try.prog W 0 (fun _ => true) true Try.f5.params.toList args.toList ds p := hA0
  rw [Try.params5] at hA hval
  obtain ⟨v0, vs0, d0, ds0, p0, q0, hargs, rfl, rfl, h0, r0⟩ := trodAll_cons hA
  obtain ⟨v1, vs1, d1, ds1, p1, q1, rfl, rfl, rfl, h1, r1⟩ := trodAll_cons r0
  obtain ⟨v2, vs2, d2, ds2, p2, q2, rfl, rfl, rfl, h2, r2⟩ := trodAll_cons r1
  obtain ⟨rfl, rfl, rfl⟩ := trodAll_nil r2
  obtain rfl : args = #[v0, v1, v2] := by cases args; simp_all
  obtain ⟨rfl, rfl⟩ := trodVars_none hV
  obtain ⟨a0, rfl, rfl, rfl, w0⟩ := open_int Try.underlying22 (hval 0 22 v0 rfl rfl) h0
  have k1 := h1
  have lt1 : ∀ x ∈ p1, x.block < W.heap.size := by obtain ⟨m, hm⟩ := k1; exact DataW.trod_lt m _ _ _ hm
  obtain ⟨o1, n1, c1, l1, rfl, s1⟩ := open_pcs (hval 1 33 v1 rfl rfl) h1
  have k2 := h2
  have lt2 : ∀ x ∈ p2, x.block < W.heap.size := by obtain ⟨m, hm⟩ := k2; exact DataW.trod_lt m _ _ _ hm
  obtain ⟨o2, n2, c2, l2, rfl, s2⟩ := open_u64s (hval 2 44 v2 rfl rfl) h2
  clear hA0 hval0
  refine (joins_walk W a0 o1 n1 c1 l1 o2 n2 c2 l2 (bounds_u64 w0) s1 s2).mono fun e W' ⟨he, bel⟩ => ?_
  subst he
  exact ⟨_, rfl, _, _, _, [], _, [], hW', trodAll_mk1 (shut_bool Try.underlying4 _), (trodAll_cons_mk (shut_int Try.underlying22 w0) (trodAll_cons_mk (Below.trod laidOut (by kernel_rfl) (of_decide_eq_true (by kernel_rfl)) k1 bel lt1) (trodAll_cons_mk (Below.trod laidOut (by kernel_rfl) (of_decide_eq_true (by kernel_rfl)) k2 bel lt2) trodAll_mk0))), rfl, bel.frame _, fun h => by cases h⟩

theorem joins_over : Rows.splitJoinsRow.holds Try.pinned (OpenSpec.ofChange Rows.splitJoinsSpec) :=
  OpenClaim.holds_of_wide 5 Try.f5 rfl rfl rfl rfl rfl rfl rfl ⟨rfl, rfl, rfl, rfl, rfl⟩ rfl rfl rfl rfl rfl (by kernel_rfl) Try.func5 (by kernel_rfl)
    (of_decide_eq_true (by kernel_rfl)) (by unfold Func.isWrapper; first | (rw [if_pos (by decide +kernel)]; kernel_rfl) | (rw [if_neg (by decide +kernel)]; exact ⟨rfl, rfl⟩))
    (fun os started H enc _ => joins_lifted os started H enc)

theorem joins_said : Rows.SplitJoinsSaid := joins_over
end Go.Proofs.Ytldpignnahokdaa
