/-
  Contract of split.Stripes (layer 11).
-/
import Derived.Test.YtldpignnahokdaaSpL
import Derived.Test.YtldpignnahokdaaSrtD
namespace Go.Proofs.Ytldpignnahokdaa
open Go.ChangeShapes Go.WideShapes Go.ChangeAt Go.RowKit Wd

theorem info_int : (Try.prog.info? 3).map (fun i => (i.zero, i.size, i.bytes)) = some (some (.int .i64 0), 1, 8) := by kernel_rfl
theorem compact_none (p : Option Addr) (cap : Nat) (w : World) : Calls Try.prog 28 #[.slice p 0 cap] w fun e w' => e = .returned (.slice p 0 cap) ∧ w' = w := by
  go_enter Try.func28, Try.ntmps28
  go_wp2_with fail
  go_ret
  exact ⟨rfl, rfl⟩
/-- The stripes of pieces. -/
def stL (l : List Sp.P) (n : Int) : List Int := l.map fun p => Sp.stripe p.a n
theorem stL_len (l : List Sp.P) (n : Int) : (stL l n).length = l.length := by simp [stL]
theorem stL_take (l : List Sp.P) (n : Int) (k : Nat) (hk : k < l.length) : (stL l n).take (k + 1) = (stL l n).take k ++ [Sp.stripe (l.getD k Sp.p0).a n] := by
  rw [List.take_succ_eq_append_getElem (by rw [stL_len]; exact hk)]
  congr 2
  simp [stL, List.getD, List.getElem?_eq_getElem hk]
set_option maxHeartbeats 2000000 in
theorem stripes_c (a b c n s : Int) (w : World) (ha : 0 ≤ a ∧ a < 18446744073709551616) (hb : 0 ≤ b ∧ b < 18446744073709551616) (hs : s ≤ 9223372036854775807) :
    Calls Try.prog 17 #[.agg (axV a b c n), .int .i64 s] w fun e w' => ∃ v, e = .returned v ∧ w'.ownsRow w.heap.size 3 1 v (Srt.set (stL (Sp.pieces a b c n) s)).length (iV (Srt.set (stL (Sp.pieces a b c n) s))) ∧ Below w.heap.size w w' := by
  have HB := Lib.hid ((Below.refl w.heap.size w).alloc (Nat.le_refl _) (.cells (axV a b c n) 24))
  have HC := Lib.hid (CsAt.new w 24 (axV a b c n))
  go_enter Try.func17, Try.ntmps17
  go_upto_region 2 with (fail)
  generalize w.alloc (.cells (axV a b c n) 24) = w1 at *
  go_wp2_with (refine wpList_load_row rfl 24 _ rfl w.heap.size rfl 24 _ (0, 0) _ HC.out Try.underlying24 rfl (by kernel_rfl) ?_)
  refine (pieces_c _ _ _ _ _ ha hb).mono ?_
  rintro e w3 ⟨v3, rfl, hown, hb3⟩
  have HB3 := Lib.hid (HB.out.trans (hb3.mono HB.out.size))
  have HOK := Lib.hid (Sp.pieces_ok (c := c) (n := n) ha hb)
  have hpl := Sp.pieces_len a b c n
  generalize hlq : Sp.pieces a b c n = l at *
  have HLQ := Lib.hid hlq
  clear hlq
  have HO := Lib.hid hown
  obtain ⟨p, cap, rfl, hv, -, -⟩ := own_form hown
  clear hv hown hb3 HB HC
  have HL := Lib.hid hpl
  clear hpl
  go_wp2_with fail
  go_loopw [5, 11] (fun lv iv wr => ∃ k : Nat, k ≤ l.length ∧ iv = .int .i64 k ∧ wr.ownsRow w3.heap.size 3 1 lv k (iV ((stL l s).take k)) ∧ Below w3.heap.size w3 wr) (fun _ iv _ => l.length - (intOf iv).toNat)
  case atStart => exact ⟨0, Nat.zero_le _, rfl, World.ownsRow_nil _ _ _ _, Below.refl _ _⟩
  case round =>
    obtain ⟨k, hk, rfl, hr, hbr⟩ := hrel
    have HR := Lib.hid hr
    have HBR := Lib.hid hbr
    clear hr hbr
    by_cases hlt : k < l.length
    · have hown := own_low HO.out HBR.out
      obtain ⟨g, cap', hp, -, -, -⟩ := own_pos hown (by omega)
      obtain ⟨rfl, rfl⟩ : p = some ⟨g, 0, none⟩ ∧ cap = cap' := by simpa using hp
      clear hp
      have HRP := Lib.hid (range_pc hown k hlt)
      have hq := HOK.out (l.getD k Sp.p0) (by rw [List.getD, List.getElem?_eq_getElem hlt]; exact List.getElem_mem _)
      have HT := Lib.hid (stL_take l s k hlt)
      generalize l.getD k Sp.p0 = q at *
      obtain ⟨qa, qn, qs⟩ := q
      have q0 : 0 ≤ qa := hq.a0
      have q1 : qa < 18446744073709551616 := hq.a1
      clear hq hown
      have HCN := CsAt.new wr 39 #[.int .u64 qa, .int .i64 qn, .int .i64 qs]
      have d0 := HCN.cell 0
      clear HCN
      go_wp2_with (first
        | (refine wpList_load_mid rfl 39 _ rfl g (k * 3) rfl _ _ HRP.out Try.underlying39 rfl (by kernel_rfl) ?_)
        | (refine wpList_storeNew rfl 39 _ _ rfl #[.int .u64 0, .int .i64 0, .int .i64 0] #[.int .u64 qa, .int .i64 qn, .int .i64 qs] 39 rfl rfl (by kernel_rfl) rfl (pc_one _ _ _) ?_))
      refine (stripe_c _ _ _ q0 q1 hs).mono ?_
      rintro e w5 ⟨rfl, rfl⟩
      have HR5 := Lib.hid (HR.out.alloc (.cells #[.int .u64 qa, .int .i64 qn, .int .i64 qs] 39))
      have HB5 := Lib.hid (HBR.out.alloc HBR.out.size (.cells #[.int .u64 qa, .int .i64 qn, .int .i64 qs] 39))
      have hs5 := HB5.out.size
      have HS5 := Lib.hid hs5
      have HLL := HL.out
      clear hs5 HR HBR d0
      generalize wr.alloc (.cells #[.int .u64 qa, .int .i64 qn, .int .i64 qs] 39) = w5 at *
      go_wp2_with (at_builtin; refine wpList_push rfl _ _ 40 rfl w3.heap.size 3 _ 1 8 Try.underlying40 info_int rfl (by omega) (by omega) _ _ _ rfl HR5.out #[.int .i64 (Sp.stripe qa s)] rfl (by simp [Value.oneCell']) _ rfl rfl (by omega) HS5.out ?_)
      intro v' w' hown hbw
      have HR6 := Lib.hid (show w'.ownsRow w3.heap.size 3 1 v' (k + 1) (iV ((stL l s).take (k + 1))) by rw [HT.out]; simpa only [iV, List.map_take, List.map_append, List.map_cons, List.map_nil] using hown)
      have HB6 := Lib.hid (HB5.out.trans hbw)
      clear hown hbw HR5 HB5
      go_wp2_with fail
      go_roundw
      case rel => exact ⟨k + 1, by omega, by go_num, HR6.out, HB6.out⟩
      case measure => simp [intOf]; omega
    · obtain rfl : k = l.length := by omega
      have hr := HR.out
      have hsl := stL_len l s
      rw [List.take_of_length_le (by omega)] at hr
      have HW := Lib.hid (HB3.out.trans (HBR.out.mono HB3.out.size))
      have hl4 := HL.out
      by_cases h0 : l.length = 0
      · obtain ⟨p5, cap5, rfl, -, -, -⟩ := own_form hr
        have HE := Lib.hid (show Srt.set (stL l s) = [] by
          have : stL l s = [] := List.eq_nil_of_length_eq_zero (by omega)
          rw [this]; rfl)
        rw [h0] at *
        have HR0 := Lib.hid hr
        clear hr hl4 hsl
        go_wp2_with fail
        refine (sort_none _ _ _).mono ?_
        rintro e w6 ⟨rfl, rfl⟩
        go_wp2_with fail
        refine (compact_none _ _ _).mono ?_
        rintro e w6 ⟨rfl, rfl⟩
        go_wp2_with fail
        go_ret
        refine ⟨_, rfl, ?_, HW.out⟩
        rw [HLQ.out, HE.out]
        have hx := List.eq_nil_of_length_eq_zero (l := iV (stL l s)) (by rw [List.length_map]; have := HR0.out.1; simpa using this)
        rw [hx] at HR0
        exact own_mono HR0.out HB3.out.size
      · obtain ⟨g5, cap5, rfl, -, -, -⟩ := own_pos hr (by omega)
        rw [← hsl] at hr ⊢
        have HI := Lib.hid (show Ints wr w3.heap.size g5 cap5 (stL l s) from ⟨hr⟩)
        have hp0 : 0 < (stL l s).length := by omega
        have hp12 : (stL l s).length ≤ 12 := by omega
        have HSE := Lib.hid (show Srt.comp (Srt.sorted (stL l s) (stL l s).length) (stL l s).length = Srt.set (stL l s) from rfl)
        generalize hxq : stL l s = xs at *
        have HXQ := Lib.hid hxq
        clear hxq
        clear hr hl4 hsl h0
        go_wp2_with fail
        refine (sort_c _ _ _ xs _ HI.out hp0 hp12).mono ?_
        rintro e w6 ⟨rfl, h6⟩
        have hl6 := Srt.sorted_len xs xs.length
        have H6 := Lib.hid h6
        go_wp2_with fail
        have hcc := compact_c _ _ _ (Srt.sorted xs xs.length) w6 H6.out.row (by omega) (by omega)
        rw [hl6] at hcc
        refine hcc.mono ?_
        rintro e w7 ⟨rfl, h7, hb7⟩
        rw [HSE.out] at h7
        rw [HSE.out]
        have H7 := Lib.hid h7
        have HB7 := Lib.hid (HW.out.trans ((h6.bel.trans hb7).mono HB3.out.size))
        clear h7 hb7 h6 hcc
        go_wp2_with fail
        go_ret
        rw [HLQ.out, HXQ.out]
        exact ⟨_, rfl, own_mono H7.out.own HB3.out.size, HB7.out⟩
end Go.Proofs.Ytldpignnahokdaa
