/-
  Contract of the reference of layer 11: Pieces, byte by byte.
-/
import Derived.Test.YtldpignnahokdaaSpD
namespace Go.Proofs.Ytldpignnahokdaa
open Go.ChangeShapes Go.WideShapes Go.ChangeAt Go.RowKit Wd

theorem info_rp : (Try.prog.info? 38).map (fun i => (i.zero, i.size, i.bytes)) = some (some (.agg #[.int .u64 0, .int .i64 0, .int .i64 0]), 3, 24) := by kernel_rfl
/-- What stands between two bytes: the access in its block, the pieces so far. -/
structure RpAt (w W : World) (a b c n : Int) (v : Value) (l : List Sp.P) : Prop where
  bel : Below w.heap.size w W
  box : CsAt W w.heap.size 29 (axV a b c n)
  own : W.ownsRow (w.heap.size + 1) 38 3 v l.length (Sp.cellsOf l)
theorem RpAt.low {w W W' : World} {a b c n : Int} {v : Value} {l : List Sp.P} (h : RpAt w W a b c n v l) (hb : Below W.heap.size W W') : RpAt w W' a b c n v l :=
  ⟨h.bel.trans (hb.mono h.bel.size), h.box.low hb, own_low h.own hb⟩
set_option maxHeartbeats 2000000 in
theorem rpieces_c (a b c n : Int) (w : World) (ha : 0 ≤ a ∧ a < 18446744073709551616) (hb : 0 ≤ b ∧ b < 18446744073709551616) :
    Calls Try.prog 16 #[.agg (axV a b c n)] w fun e w' => ∃ v, e = .returned v ∧ w'.ownsRow w.heap.size 38 3 v (Sp.pieces a b c n).length (Sp.cellsOf (Sp.pieces a b c n)) ∧ Below w.heap.size w w' := by
  have HB := Lib.hid ((Below.refl w.heap.size w).alloc (Nat.le_refl _) (.cells (axV a b c n) 29))
  have HC := Lib.hid (CsAt.new w 29 (axV a b c n))
  go_enter Try.func16, Try.ntmps16
  go_upto_region 1 with (fail)
  generalize w.alloc (.cells (axV a b c n) 29) = w1 at *
  go_wp2_with (refine wpList_load_row rfl 29 _ rfl w.heap.size rfl 29 _ (0, 0) _ HC.out Try.underlying29 rfl (by kernel_rfl) ?_)
  refine (rmay_c _ _ _ _ _).mono ?_
  rintro e w2 ⟨rfl, hb2⟩
  have HS := Lib.hid (show RpAt w w2 a b c n (.slice none 0 0) [] from ⟨HB.out.trans (hb2.mono HB.out.size), HC.out.low hb2, World.ownsRow_nil _ _ _ _⟩)
  clear hb2 HC HB
  cases hok : Sp.okA c n
  · have HP := Lib.hid (show Sp.pieces a b c n = [] by unfold Sp.pieces; simp [hok])
    go_wp2_with fail
    go_ret
    refine ⟨_, rfl, ?_, HS.out.bel⟩
    rw [HP.out]
    exact World.ownsRow_nil _ _ _ _
  · have HP := Lib.hid (Sp.pre_all (a := a) (b := b) hok)
    obtain ⟨k1, k2, k3, k4⟩ := Sp.okA_iff.1 hok
    obtain ⟨m, rfl⟩ := Int.eq_ofNat_of_zero_le (show 0 ≤ n by omega)
    rw [Int.toNat_natCast] at HP
    have hm : m ≤ 8 := by omega
    clear hok
    go_wp2_with fail
    go_loopw [3, 4] (fun l i wr => ∃ k : Nat, k ≤ m ∧ i = .int .i64 k ∧ RpAt w wr a b c m l (Sp.pre a b c k)) (fun _ i _ => m - (intOf i).toNat)
    case atStart => exact ⟨0, by omega, rfl, HS.out⟩
    case round =>
      obtain ⟨k, hk, rfl, hr⟩ := hrel
      have HR := Lib.hid hr
      have c3 := hr.box.cell 3
      clear hr
      by_cases hlt : k < m
      · go_wp2_with (refine wpList_load_row rfl 29 _ rfl w.heap.size rfl 29 _ (0, 0) _ HR.out.box Try.underlying29 rfl (by kernel_rfl) ?_)
        refine (rbyte_c a b c m k _ (by omega) (by omega) (by omega)).mono ?_
        rintro e w4 ⟨rfl, hb4⟩
        have HR4 := Lib.hid (HR.out.low hb4)
        clear c3 hb4 HR
        obtain ⟨p, cap, rfl, hv, -, -⟩ := own_form HR4.out.own
        clear hv
        have c2 := HR4.out.box.cell 2
        have hr0 := Sp.byte_range a b c k
        have HPL := Lib.hid (Sp.pre_len a b c k)
        by_cases h0 : k = 0
        · have g1 : decide (0 < (((Sp.pre a b c k).length : Nat) : Int)) = false := by subst h0; rfl
          have g1n : decide (0 < (Sp.pre a b c k).length) = false := by subst h0; rfl
          have HE := Lib.hid (Sp.pre_new (a := a) (b := b) (c := c) (k := k) ha hb k3 (.inl h0))
          clear h0
          have hsz := HR4.out.bel.size
          have hlt4 := HR4.out.box.lt
          have HZ := Lib.hid (show w.heap.size + 1 ≤ w4.heap.size by omega)
          clear hsz hlt4
          go_wp2_with (at_builtin; refine wpList_push rfl _ _ 35 rfl (w.heap.size + 1) 38 _ 3 24 Try.underlying35 info_rp rfl (by omega) (by omega) _ _ _ rfl HR4.out.own #[.int .u64 (Sp.byte a b c k), .int .i64 1, .int .i64 (8 * k)] rfl (pc_one _ _ _) _ rfl rfl (by have := HPL.out; omega) HZ.out ?_)
          intro v' w' hown hbw
          have HR5 := Lib.hid (show RpAt w w' a b c m v' (Sp.pre a b c (k + 1)) from ⟨(HR4.out.bel.mono (Nat.le_refl _)).trans (hbw.mono (by omega)), HR4.out.box.on hbw (by omega), by rw [HE.out, List.length_append, Sp.cellsOf_append]; exact hown⟩)
          clear hown hbw HR4
          go_wp2_with fail
          go_roundw
          case rel => exact ⟨k + 1, by omega, by go_num, HR5.out⟩
          case measure => simp [intOf]; omega
        · have hL := Sp.pre_last a b c k h0
          have g1 : decide (0 < (((Sp.pre a b c k).length : Nat) : Int)) = true := by
            obtain ⟨L, p, h⟩ := hL
            rw [h, List.length_append]
            simp
          have g1n : decide (0 < (Sp.pre a b c k).length) = true := by
            obtain ⟨L, p, h⟩ := hL
            rw [h, List.length_append]
            simp
          by_cases hkc : (k : Int) = c
          · subst hkc
            clear hL
            have HE := Lib.hid (Sp.pre_new (a := a) (b := b) (c := (k : Int)) (k := k) ha hb k3 (.inr rfl))
            clear h0
            have hsz := HR4.out.bel.size
            have hlt4 := HR4.out.box.lt
            have HZ := Lib.hid (show w.heap.size + 1 ≤ w4.heap.size by omega)
            clear hsz hlt4
            go_wp2_with (at_builtin; refine wpList_push rfl _ _ 35 rfl (w.heap.size + 1) 38 _ 3 24 Try.underlying35 info_rp rfl (by omega) (by omega) _ _ _ rfl HR4.out.own #[.int .u64 (Sp.byte a b k k), .int .i64 1, .int .i64 (8 * k)] rfl (pc_one _ _ _) _ rfl rfl (by have := HPL.out; omega) HZ.out ?_)
            intro v' w' hown hbw
            have HR5 := Lib.hid (show RpAt w w' a b k m v' (Sp.pre a b k (k + 1)) from ⟨(HR4.out.bel.mono (Nat.le_refl _)).trans (hbw.mono (by omega)), HR4.out.box.on hbw (by omega), by rw [HE.out, List.length_append, Sp.cellsOf_append]; exact hown⟩)
            clear hown hbw HR4
            go_wp2_with fail
            go_roundw
            case rel => exact ⟨k + 1, by omega, by go_num, HR5.out⟩
            case measure => simp [intOf]; omega
          · have g2 : ((k : Int) == c) = false := by simpa using hkc
            have HG := Lib.hid (Sp.pre_grow (a := a) (b := b) (c := c) (k := k) ha hb k3 h0 (by omega) hkc)
            have HOK := Lib.hid (Sp.pre_ok (a := a) (b := b) (c := c) (k := k) ha hb k3 (by omega))
            obtain ⟨L, ⟨qa, qn, qs⟩, hLq⟩ := hL
            have hq := HOK.out ⟨qa, qn, qs⟩ (by rw [hLq]; simp)
            have q0 : 0 ≤ qa := hq.a0
            have q1 : qa < 18446744073709551616 := hq.a1
            have HQ := Lib.hid hq
            have HLQ := Lib.hid hLq
            clear hq HOK
            rw [hLq] at HR4 HPL HG g1 g1n
            rw [hLq]
            have HLn : (L ++ [(⟨qa, qn, qs⟩ : Sp.P)]).length = L.length + 1 := by simp
            have hown := HR4.out.own
            rw [HLn] at hown HR4 HPL g1 g1n
            rw [HLn]
            clear HLn
            rw [Sp.grow_app] at HG
            obtain ⟨g, cap', hp, hg0, hg1, hcp⟩ := own_pos hown (by omega)
            obtain ⟨rfl, rfl⟩ : p = some ⟨g, 0, none⟩ ∧ cap = cap' := by simpa using hp
            clear hp
            have d0 := hown.cellAt (L.length * 3) (by omega)
            have d1 := hown.cellAt (L.length * 3 + 1) (by omega)
            rw [show L.length * 3 = L.length * 3 + 0 by omega, Sp.cellsOf_at _ _ _ (by simp) (by omega), show (L ++ [(⟨qa, qn, qs⟩ : Sp.P)]).getD L.length Sp.p0 = ⟨qa, qn, qs⟩ by simp] at d0
            rw [Sp.cellsOf_at _ _ _ (by simp) (by omega), show (L ++ [(⟨qa, qn, qs⟩ : Sp.P)]).getD L.length Sp.p0 = ⟨qa, qn, qs⟩ by simp] at d1
            have f1 := hown.frozenAt (L.length * 3 + 1)
            replace d0 : w4.cell? ⟨g, L.length * 3, none⟩ = some (.int .u64 qa) := d0
            replace d1 : w4.cell? ⟨g, L.length * 3 + 1, none⟩ = some (.int .i64 qn) := d1
            have hll : (L.length : Int) ≤ 3 := by have := HPL.out; omega
            have HO := Lib.hid hown
            clear hown
            have n0 : 1 ≤ qn := HQ.out.n0
            have n1 : qn ≤ 8 := HQ.out.n1
            by_cases he : Sp.byte a b c k / 64 = qa / 64
            · have g3 : (Sp.byte a b c k / 64 == qa / 64) = true := by simpa using he
              have HE := Lib.hid (show Sp.pre a b c (k + 1) = L ++ [⟨qa, qn + 1, qs⟩] by rw [HG.out, if_pos he])
              clear he HG hLq
              generalize Sp.byte a b c k = x at *
              have hst := HO.out.stored (L.length * 3 + 1) (.int .i64 (qn + 1))
              have HR5 := Lib.hid (show RpAt w (w4.setCell ⟨g, L.length * 3 + 1, none⟩ (.int .i64 (qn + 1))) a b c m (.slice (some ⟨g, 0, none⟩) (L.length + 1) cap) (Sp.pre a b c (k + 1)) from
                ⟨HR4.out.bel.setCell (by simp only []; omega) _, HR4.out.box.far (by omega) _, by
                  rw [HE.out, ← Sp.cellsOf_last L ⟨qa, qn, qs⟩ (qn + 1), show (L ++ [(⟨qa, qn + 1, qs⟩ : Sp.P)]).length = L.length + 1 by simp]
                  exact hst.1⟩)
              clear hst HR4
              go_wp2_with fail
              go_roundw
              case rel => exact ⟨k + 1, by omega, by go_num, HR5.out⟩
              case measure => simp [intOf]; omega
            · have g3 : (Sp.byte a b c k / 64 == qa / 64) = false := by simpa using he
              have HE := Lib.hid (show Sp.pre a b c (k + 1) = L ++ [⟨qa, qn, qs⟩] ++ [⟨Sp.byte a b c k, 1, 8 * k⟩] by rw [HG.out, if_neg he])
              clear d1 f1 n0 n1 he
              have hsz := HR4.out.bel.size
              have hlt4 := HR4.out.box.lt
              have HZ := Lib.hid (show w.heap.size + 1 ≤ w4.heap.size by omega)
              clear hsz hlt4
              go_wp2_with (at_builtin; refine wpList_push rfl _ _ 35 rfl (w.heap.size + 1) 38 _ 3 24 Try.underlying35 info_rp rfl (by omega) (by omega) _ _ _ rfl HO.out #[.int .u64 (Sp.byte a b c k), .int .i64 1, .int .i64 (8 * k)] rfl (pc_one _ _ _) _ rfl rfl (by have := HPL.out; omega) HZ.out ?_)
              intro v' w' hown hbw
              have HR5 := Lib.hid (show RpAt w w' a b c m v' (Sp.pre a b c (k + 1)) from ⟨(HR4.out.bel.mono (Nat.le_refl _)).trans (hbw.mono (by omega)), HR4.out.box.on hbw (by omega), by rw [HE.out, List.length_append, List.length_append, Sp.cellsOf_append]; exact hown⟩)
              clear hown hbw HR4 HO
              go_wp2_with fail
              go_roundw
              case rel => exact ⟨k + 1, by omega, by go_num, HR5.out⟩
              case measure => simp [intOf]; omega
      · obtain rfl : k = m := by omega
        go_wp2_with fail
        go_ret
        refine ⟨_, rfl, ?_, HR.out.bel⟩
        rw [← HP.out]
        exact own_mono HR.out.own (Nat.le_succ _)
end Go.Proofs.Ytldpignnahokdaa
