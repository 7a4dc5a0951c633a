/-
  Contracts of the reference of layer 11: May, Byte, Stripe, Cut. Contract of the reference of layer 11: Pieces, byte by byte. What layer 11's statements ask of the chapter's examples (live): true.
-/
import Derived.Test.YtabackklpemhpaaGreatJad
import Derived.Laws.StructEq
set_option maxRecDepth 20000
namespace Go.Proofs.YtabackklpemhpaaGreat
open Go.ChangeShapes Go.WideShapes Go.ChangeAt Go.RowKit Wd

theorem rmay_c (a b c n : Int) (w : World) : Calls Tryz.prog 98 #[.agg (axV a b c n)] w fun e w' => e = .returned (.bool (Sp.okA c n)) ∧ Below w.heap.size w w' := by
  have HB := Lib.hid ((Below.refl w.heap.size w).alloc (Nat.le_refl _) (.cells (axV a b c n) 54))
  have HC := CsAt.new w 54 (axV a b c n)
  have c2 := HC.cell 2
  have c3 := HC.cell 3
  clear HC
  by_cases h1 : 0 < n
  · have g1 : decide (0 < n) = true := by simpa using h1
    by_cases h2 : n < 9
    · have g2 : decide (n < 9) = true := by simpa using h2
      by_cases h3 : 0 ≤ c
      · have g3 : decide (0 ≤ c) = true := by simpa using h3
        have H := Lib.hid (show Sp.okA c n = decide (c < n) by unfold Sp.okA; exact decide_eq_decide.2 (by omega))
        clear h1 h2 h3
        go_enter Tryz.func98, Tryz.ntmps98
        go_upto_region 1 with (fail)
        generalize w.alloc (.cells (axV a b c n) 54) = w1 at *
        go_wp2_with fail
        go_ret
        exact ⟨sret_b H.out.symm, HB.out⟩
      · have g3 : decide (0 ≤ c) = false := by simpa using h3
        have H := Lib.hid (show Sp.okA c n = false by unfold Sp.okA; simp; omega)
        clear h1 h2 h3
        go_enter Tryz.func98, Tryz.ntmps98
        go_upto_region 1 with (fail)
        generalize w.alloc (.cells (axV a b c n) 54) = w1 at *
        go_wp2_with fail
        go_ret
        exact ⟨sret_b H.out.symm, HB.out⟩
    · have g2 : decide (n < 9) = false := by simpa using h2
      have H := Lib.hid (show Sp.okA c n = false by unfold Sp.okA; simp; omega)
      clear h1 h2
      go_enter Tryz.func98, Tryz.ntmps98
      go_upto_region 1 with (fail)
      generalize w.alloc (.cells (axV a b c n) 54) = w1 at *
      go_wp2_with fail
      go_ret
      exact ⟨sret_b H.out.symm, HB.out⟩
  · have g1 : decide (0 < n) = false := by simpa using h1
    have H := Lib.hid (show Sp.okA c n = false by unfold Sp.okA; simp; omega)
    clear h1
    go_enter Tryz.func98, Tryz.ntmps98
    go_upto_region 1 with (fail)
    generalize w.alloc (.cells (axV a b c n) 54) = w1 at *
    go_wp2_with fail
    go_ret
    exact ⟨sret_b H.out.symm, HB.out⟩
theorem rbyte_c (a b c n i : Int) (w : World) (hi0 : 0 ≤ i) (hi : i ≤ 8) (hc : c ≤ 8) :
    Calls Tryz.prog 55 #[.agg (axV a b c n), .int .i64 i] w fun e w' => e = .returned (.int .u64 (Sp.byte a b c i)) ∧ Below w.heap.size w w' := by
  have HB := Lib.hid ((Below.refl w.heap.size w).alloc (Nat.le_refl _) (.cells (axV a b c n) 54))
  have HC := CsAt.new w 54 (axV a b c n)
  have c0 := HC.cell 0
  have c1 := HC.cell 1
  have c2 := HC.cell 2
  clear HC
  by_cases h1 : 0 < c
  · have g1 : decide (0 < c) = true := by simpa using h1
    by_cases h2 : c ≤ i
    · have g2 : decide (c ≤ i) = true := by simpa using h2
      have H := Lib.hid (show (b + (i - c)) % 18446744073709551616 = Sp.byte a b c i by unfold Sp.byte; rw [if_pos ⟨h1, h2⟩])
      have e1 : IntKind.u64.wrap (i - c) = i - c := by rw [IntKind.wrap_u64]; omega
      have e2 : IntKind.u64.wrap (b + (i - c)) = (b + (i - c)) % 18446744073709551616 := by rw [IntKind.wrap_u64]
      go_enter Tryz.func55, Tryz.ntmps55
      go_upto_region 1 with (fail)
      generalize w.alloc (.cells (axV a b c n) 54) = w1 at *
      go_wp2_with fail
      go_ret
      exact ⟨sret_u H.out, HB.out⟩
    · have g2 : decide (c ≤ i) = false := by simpa using h2
      have H := Lib.hid (show (a + i) % 18446744073709551616 = Sp.byte a b c i by unfold Sp.byte; rw [if_neg (by omega)])
      have e1 : IntKind.u64.wrap i = i := by rw [IntKind.wrap_u64]; omega
      have e2 : IntKind.u64.wrap (a + i) = (a + i) % 18446744073709551616 := by rw [IntKind.wrap_u64]
      go_enter Tryz.func55, Tryz.ntmps55
      go_upto_region 1 with (fail)
      generalize w.alloc (.cells (axV a b c n) 54) = w1 at *
      go_wp2_with fail
      go_ret
      exact ⟨sret_u H.out, HB.out⟩
  · have g1 : decide (0 < c) = false := by simpa using h1
    have H := Lib.hid (show (a + i) % 18446744073709551616 = Sp.byte a b c i by unfold Sp.byte; rw [if_neg (by omega)])
    have e1 : IntKind.u64.wrap i = i := by rw [IntKind.wrap_u64]; omega
    have e2 : IntKind.u64.wrap (a + i) = (a + i) % 18446744073709551616 := by rw [IntKind.wrap_u64]
    go_enter Tryz.func55, Tryz.ntmps55
    go_upto_region 1 with (fail)
    generalize w.alloc (.cells (axV a b c n) 54) = w1 at *
    go_wp2_with fail
    go_ret
    exact ⟨sret_u H.out, HB.out⟩
theorem rstripe_c (a n : Int) (w : World) (h0 : 0 ≤ a) (h1 : a < 18446744073709551616) (hn : n ≤ 9223372036854775807) :
    Calls Tryz.prog 57 #[.int .u64 a, .int .i64 n] w fun e w' => e = .returned (.int .i64 (Sp.stripe a n)) ∧ w = w' := by
  by_cases h : n < 1
  · have H := Lib.hid (show Sp.stripe a n = 0 by unfold Sp.stripe; rw [if_pos h])
    go_enter Tryz.func57, Tryz.ntmps57
    go_wp2_with fail
    go_ret
    exact ⟨sret_u H.out.symm, rfl⟩
  · have hr := Sp.stripe_range (n := n) h0 h1
    have HE := Lib.hid (show a / 64 % n = Sp.stripe a n by unfold Sp.stripe; rw [if_neg h])
    have e1 : IntKind.u64.wrap n = n := by rw [IntKind.wrap_u64]; omega
    obtain ⟨r0, r1⟩ : 0 ≤ a / 64 % n ∧ a / 64 % n < 288230376151711744 := by rw [HE.out]; exact hr
    clear hr
    go_enter Tryz.func57, Tryz.ntmps57
    go_wp2_with fail
    go_ret
    exact ⟨sret_u HE.out, rfl⟩
end Go.Proofs.YtabackklpemhpaaGreat
set_option maxRecDepth 20000
namespace Go.Proofs.YtabackklpemhpaaGreat
open Go.ChangeShapes Go.WideShapes Go.ChangeAt Go.RowKit Wd

theorem info_rp : (Tryz.prog.info? 129).map (fun i => (i.zero, i.size, i.bytes)) = some (some (.agg #[.int .u64 0, .int .i64 0, .int .i64 0]), 3, 24) := by kernel_rfl
/-- What stands between two bytes: the access in its block, the pieces so far. -/
structure RpAt (w W : World) (a b c n : Int) (v : Value) (l : List Sp.P) : Prop where
  bel : Below w.heap.size w W
  box : CsAt W w.heap.size 54 (axV a b c n)
  own : W.ownsRow (w.heap.size + 1) 129 3 v l.length (Sp.cellsOf l)
theorem RpAt.low {w W W' : World} {a b c n : Int} {v : Value} {l : List Sp.P} (h : RpAt w W a b c n v l) (hb : Below W.heap.size W W') : RpAt w W' a b c n v l :=
  ⟨h.bel.trans (hb.mono h.bel.size), h.box.low hb, own_low h.own hb⟩
set_option maxHeartbeats 2000000 in
theorem rpieces_c (a b c n : Int) (w : World) (ha : 0 ≤ a ∧ a < 18446744073709551616) (hb : 0 ≤ b ∧ b < 18446744073709551616) :
    Calls Tryz.prog 56 #[.agg (axV a b c n)] w fun e w' => ∃ v, e = .returned v ∧ w'.ownsRow w.heap.size 129 3 v (Sp.pieces a b c n).length (Sp.cellsOf (Sp.pieces a b c n)) ∧ Below w.heap.size w w' := by
  have HB := Lib.hid ((Below.refl w.heap.size w).alloc (Nat.le_refl _) (.cells (axV a b c n) 54))
  have HC := Lib.hid (CsAt.new w 54 (axV a b c n))
  go_enter Tryz.func56, Tryz.ntmps56
  go_upto_region 1 with (fail)
  generalize w.alloc (.cells (axV a b c n) 54) = w1 at *
  go_wp2_with (refine wpList_load_row rfl 54 _ rfl w.heap.size rfl 54 _ (0, 0) _ HC.out Tryz.underlying54 rfl (by kernel_rfl) ?_)
  refine (rmay_c _ _ _ _ _).mono ?_
  rintro e w2 ⟨rfl, hb2⟩
  have HS := Lib.hid (show RpAt w w2 a b c n (.slice none 0 0) [] from ⟨HB.out.trans (hb2.mono HB.out.size), HC.out.low hb2, World.ownsRow_nil _ _ _ _⟩)
  clear hb2 HC HB
  cases hok : Sp.okA c n
  · have HP := Lib.hid (show Sp.pieces a b c n = [] by unfold Sp.pieces; simp [hok])
    go_wp2_with fail
    go_ret
    refine ⟨_, rfl, ?_, HS.out.bel⟩
    rw [HP.out]
    exact World.ownsRow_nil _ _ _ _
  · have HP := Lib.hid (Sp.pre_all (a := a) (b := b) hok)
    obtain ⟨k1, k2, k3, k4⟩ := Sp.okA_iff.1 hok
    obtain ⟨m, rfl⟩ := Int.eq_ofNat_of_zero_le (show 0 ≤ n by omega)
    rw [Int.toNat_natCast] at HP
    have hm : m ≤ 8 := by omega
    clear hok
    go_wp2_with fail
    go_loopw [3, 4] (fun l i wr => ∃ k : Nat, k ≤ m ∧ i = .int .i64 k ∧ RpAt w wr a b c m l (Sp.pre a b c k)) (fun _ i _ => m - (intOf i).toNat)
    case atStart => exact ⟨0, by omega, rfl, HS.out⟩
    case round =>
      obtain ⟨k, hk, rfl, hr⟩ := hrel
      have HR := Lib.hid hr
      have c3 := hr.box.cell 3
      clear hr
      by_cases hlt : k < m
      · go_wp2_with (refine wpList_load_row rfl 54 _ rfl w.heap.size rfl 54 _ (0, 0) _ HR.out.box Tryz.underlying54 rfl (by kernel_rfl) ?_)
        refine (rbyte_c a b c m k _ (by omega) (by omega) (by omega)).mono ?_
        rintro e w4 ⟨rfl, hb4⟩
        have HR4 := Lib.hid (HR.out.low hb4)
        clear c3 hb4 HR
        obtain ⟨p, cap, rfl, hv, -, -⟩ := own_form HR4.out.own
        clear hv
        have c2 := HR4.out.box.cell 2
        have hr0 := Sp.byte_range a b c k
        have HPL := Lib.hid (Sp.pre_len a b c k)
        by_cases h0 : k = 0
        · have g1 : decide (0 < (((Sp.pre a b c k).length : Nat) : Int)) = false := by subst h0; rfl
          have g1n : decide (0 < (Sp.pre a b c k).length) = false := by subst h0; rfl
          have HE := Lib.hid (Sp.pre_new (a := a) (b := b) (c := c) (k := k) ha hb k3 (.inl h0))
          clear h0
          have hsz := HR4.out.bel.size
          have hlt4 := HR4.out.box.lt
          have HZ := Lib.hid (show w.heap.size + 1 ≤ w4.heap.size by omega)
          clear hsz hlt4
          go_wp2_with (at_builtin; refine wpList_push rfl _ _ 125 rfl (w.heap.size + 1) 129 _ 3 24 Tryz.underlying125 info_rp rfl (by omega) (by omega) _ _ _ rfl HR4.out.own #[.int .u64 (Sp.byte a b c k), .int .i64 1, .int .i64 (8 * k)] rfl (pc_one _ _ _) _ rfl rfl (by have := HPL.out; omega) HZ.out ?_)
          intro v' w' hown hbw
          have HR5 := Lib.hid (show RpAt w w' a b c m v' (Sp.pre a b c (k + 1)) from ⟨(HR4.out.bel.mono (Nat.le_refl _)).trans (hbw.mono (by omega)), HR4.out.box.on hbw (by omega), by rw [HE.out, List.length_append, Sp.cellsOf_append]; exact hown⟩)
          clear hown hbw HR4
          go_wp2_with fail
          go_roundw
          case rel => exact ⟨k + 1, by omega, by go_num, HR5.out⟩
          case measure => simp [intOf]; omega
        · have hL := Sp.pre_last a b c k h0
          have g1 : decide (0 < (((Sp.pre a b c k).length : Nat) : Int)) = true := by
            obtain ⟨L, p, h⟩ := hL
            rw [h, List.length_append]
            simp
          have g1n : decide (0 < (Sp.pre a b c k).length) = true := by
            obtain ⟨L, p, h⟩ := hL
            rw [h, List.length_append]
            simp
          by_cases hkc : (k : Int) = c
          · subst hkc
            clear hL
            have HE := Lib.hid (Sp.pre_new (a := a) (b := b) (c := (k : Int)) (k := k) ha hb k3 (.inr rfl))
            clear h0
            have hsz := HR4.out.bel.size
            have hlt4 := HR4.out.box.lt
            have HZ := Lib.hid (show w.heap.size + 1 ≤ w4.heap.size by omega)
            clear hsz hlt4
            go_wp2_with (at_builtin; refine wpList_push rfl _ _ 125 rfl (w.heap.size + 1) 129 _ 3 24 Tryz.underlying125 info_rp rfl (by omega) (by omega) _ _ _ rfl HR4.out.own #[.int .u64 (Sp.byte a b k k), .int .i64 1, .int .i64 (8 * k)] rfl (pc_one _ _ _) _ rfl rfl (by have := HPL.out; omega) HZ.out ?_)
            intro v' w' hown hbw
            have HR5 := Lib.hid (show RpAt w w' a b k m v' (Sp.pre a b k (k + 1)) from ⟨(HR4.out.bel.mono (Nat.le_refl _)).trans (hbw.mono (by omega)), HR4.out.box.on hbw (by omega), by rw [HE.out, List.length_append, Sp.cellsOf_append]; exact hown⟩)
            clear hown hbw HR4
            go_wp2_with fail
            go_roundw
            case rel => exact ⟨k + 1, by omega, by go_num, HR5.out⟩
            case measure => simp [intOf]; omega
          · have g2 : ((k : Int) == c) = false := by simpa using hkc
            have HG := Lib.hid (Sp.pre_grow (a := a) (b := b) (c := c) (k := k) ha hb k3 h0 (by omega) hkc)
            have HOK := Lib.hid (Sp.pre_ok (a := a) (b := b) (c := c) (k := k) ha hb k3 (by omega))
            obtain ⟨L, ⟨qa, qn, qs⟩, hLq⟩ := hL
            have hq := HOK.out ⟨qa, qn, qs⟩ (by rw [hLq]; simp)
            have q0 : 0 ≤ qa := hq.a0
            have q1 : qa < 18446744073709551616 := hq.a1
            have HQ := Lib.hid hq
            have HLQ := Lib.hid hLq
            clear hq HOK
            rw [hLq] at HR4 HPL HG g1 g1n
            rw [hLq]
            have HLn : (L ++ [(⟨qa, qn, qs⟩ : Sp.P)]).length = L.length + 1 := by simp
            have hown := HR4.out.own
            rw [HLn] at hown HR4 HPL g1 g1n
            rw [HLn]
            clear HLn
            rw [Sp.grow_app] at HG
            obtain ⟨g, cap', hp, hg0, hg1, hcp⟩ := own_pos hown (by omega)
            obtain ⟨rfl, rfl⟩ : p = some ⟨g, 0, none⟩ ∧ cap = cap' := by simpa using hp
            clear hp
            have d0 := hown.cellAt (L.length * 3) (by omega)
            have d1 := hown.cellAt (L.length * 3 + 1) (by omega)
            rw [show L.length * 3 = L.length * 3 + 0 by omega, Sp.cellsOf_at _ _ _ (by simp) (by omega), show (L ++ [(⟨qa, qn, qs⟩ : Sp.P)]).getD L.length Sp.p0 = ⟨qa, qn, qs⟩ by simp] at d0
            rw [Sp.cellsOf_at _ _ _ (by simp) (by omega), show (L ++ [(⟨qa, qn, qs⟩ : Sp.P)]).getD L.length Sp.p0 = ⟨qa, qn, qs⟩ by simp] at d1
            have f1 := hown.frozenAt (L.length * 3 + 1)
            replace d0 : w4.cell? ⟨g, L.length * 3, none⟩ = some (.int .u64 qa) := d0
            replace d1 : w4.cell? ⟨g, L.length * 3 + 1, none⟩ = some (.int .i64 qn) := d1
            have hll : (L.length : Int) ≤ 3 := by have := HPL.out; omega
            have HO := Lib.hid hown
            clear hown
            have n0 : 1 ≤ qn := HQ.out.n0
            have n1 : qn ≤ 8 := HQ.out.n1
            by_cases he : Sp.byte a b c k / 64 = qa / 64
            · have g3 : (Sp.byte a b c k / 64 == qa / 64) = true := by simpa using he
              have HE := Lib.hid (show Sp.pre a b c (k + 1) = L ++ [⟨qa, qn + 1, qs⟩] by rw [HG.out, if_pos he])
              clear he HG hLq
              generalize Sp.byte a b c k = x at *
              have hst := HO.out.stored (L.length * 3 + 1) (.int .i64 (qn + 1))
              have HR5 := Lib.hid (show RpAt w (w4.setCell ⟨g, L.length * 3 + 1, none⟩ (.int .i64 (qn + 1))) a b c m (.slice (some ⟨g, 0, none⟩) (L.length + 1) cap) (Sp.pre a b c (k + 1)) from
                ⟨HR4.out.bel.setCell (by simp only []; omega) _, HR4.out.box.far (by omega) _, by
                  rw [HE.out, ← Sp.cellsOf_last L ⟨qa, qn, qs⟩ (qn + 1), show (L ++ [(⟨qa, qn + 1, qs⟩ : Sp.P)]).length = L.length + 1 by simp]
                  exact hst.1⟩)
              clear hst HR4
              go_wp2_with fail
              go_roundw
              case rel => exact ⟨k + 1, by omega, by go_num, HR5.out⟩
              case measure => simp [intOf]; omega
            · have g3 : (Sp.byte a b c k / 64 == qa / 64) = false := by simpa using he
              have HE := Lib.hid (show Sp.pre a b c (k + 1) = L ++ [⟨qa, qn, qs⟩] ++ [⟨Sp.byte a b c k, 1, 8 * k⟩] by rw [HG.out, if_neg he])
              clear d1 f1 n0 n1 he
              have hsz := HR4.out.bel.size
              have hlt4 := HR4.out.box.lt
              have HZ := Lib.hid (show w.heap.size + 1 ≤ w4.heap.size by omega)
              clear hsz hlt4
              go_wp2_with (at_builtin; refine wpList_push rfl _ _ 125 rfl (w.heap.size + 1) 129 _ 3 24 Tryz.underlying125 info_rp rfl (by omega) (by omega) _ _ _ rfl HO.out #[.int .u64 (Sp.byte a b c k), .int .i64 1, .int .i64 (8 * k)] rfl (pc_one _ _ _) _ rfl rfl (by have := HPL.out; omega) HZ.out ?_)
              intro v' w' hown hbw
              have HR5 := Lib.hid (show RpAt w w' a b c m v' (Sp.pre a b c (k + 1)) from ⟨(HR4.out.bel.mono (Nat.le_refl _)).trans (hbw.mono (by omega)), HR4.out.box.on hbw (by omega), by rw [HE.out, List.length_append, List.length_append, Sp.cellsOf_append]; exact hown⟩)
              clear hown hbw HR4 HO
              go_wp2_with fail
              go_roundw
              case rel => exact ⟨k + 1, by omega, by go_num, HR5.out⟩
              case measure => simp [intOf]; omega
      · obtain rfl : k = m := by omega
        go_wp2_with fail
        go_ret
        refine ⟨_, rfl, ?_, HR.out.bel⟩
        rw [← HP.out]
        exact own_mono HR.out.own (Nat.le_succ _)
end Go.Proofs.YtabackklpemhpaaGreat
set_option maxRecDepth 20000
namespace Go.Proofs.YtabackklpemhpaaGreat
open Go.ChangeShapes Go.WideShapes Go.ChangeAt Go.RowKit Wd

theorem run_eq3 (w : World) (t : TypeId) (f1 f2 f3 : Field) (ku ki kj : IntKind) (hf : (Tryz.prog.fieldsOf t).toList = [f1, f2, f3]) (ht : Tryz.prog.underlying t = some (.struct (Tryz.prog.fieldsOf t))) (hp : Tryz.prog.stoodInHeld t = false)
    (h1 : f1.name ≠ "_" ∧ f1.offset = 0 ∧ Tryz.prog.underlying f1.type = some (.int ku)) (h2 : f2.name ≠ "_" ∧ f2.offset = 1 ∧ Tryz.prog.underlying f2.type = some (.int ki)) (h3 : f3.name ≠ "_" ∧ f3.offset = 2 ∧ Tryz.prog.underlying f3.type = some (.int kj))
    (a b c a' b' c' : Int) :
    (Op.equalIn 10000 t (.agg #[.int ku a, .int ki b, .int kj c]) (.agg #[.int ku a', .int ki b', .int kj c'])).run Tryz.prog w = .ok (a == a' && (b == b' && c == c')) w := by
  obtain ⟨n1, o1, u1⟩ := h1
  obtain ⟨n2, o2, u2⟩ := h2
  obtain ⟨n3, o3, u3⟩ := h3
  rw [run_equalIn_agg w 9999 t _ _ ht hp, hf]
  have q1 : (Op.equalIn 9999 f1.type (.int ku a) (.int ku a')).run Tryz.prog w = .ok (a == a') w := run_equalIn_int w 9998 f1.type ku ku a a' u1
  have q2 : (Op.equalIn 9999 f2.type (.int ki b) (.int ki b')).run Tryz.prog w = .ok (b == b') w := run_equalIn_int w 9998 f2.type ki ki b b' u2
  have q3 : (Op.equalIn 9999 f3.type (.int kj c) (.int kj c')).run Tryz.prog w = .ok (c == c') w := run_equalIn_int w 9998 f3.type kj kj c c' u3
  have p1 : ∀ (x y z : Value), (part f1.type #[x, y, z] 0).run Tryz.prog w = .ok x w := fun x y z => by simp [part, isAgg, run_underlying u1]
  have p2 : ∀ (x y z : Value), (part f2.type #[x, y, z] 1).run Tryz.prog w = .ok y w := fun x y z => by simp [part, isAgg, run_underlying u2]
  have p3 : ∀ (x y z : Value), (part f3.type #[x, y, z] 2).run Tryz.prog w = .ok z w := fun x y z => by simp [part, isAgg, run_underlying u3]
  simp only [Op.eqFields, if_pos n1, if_pos n2, if_pos n3, Sem.run_bind, o1, o2, o3, p1, Result.andThen_ok, q1]
  cases (a == a') <;> cases hb : (b == b') <;> cases hc : (c == c') <;> simp [p2, p3, q2, q3, hb, hc]
theorem eq_pc (w : World) (a b c a' b' c' : Int) : (binOp .eql 156 (.agg #[.int .u64 a, .int .i64 b, .int .i64 c]) (.agg #[.int .u64 a', .int .i64 b', .int .i64 c'])).run Tryz.prog w = .ok (.bool (a == a' && (b == b' && c == c'))) w := by
  rw [run_eql_struct, run_eq3 w 156 _ _ _ .u64 .i64 .i64 rfl Tryz.underlying156 (by kernel_rfl) ⟨by decide, rfl, by kernel_rfl⟩ ⟨by decide, rfl, by kernel_rfl⟩ ⟨by decide, rfl, by kernel_rfl⟩]
  rfl
theorem wpList_load_midW {P : Program} {ops : Array Oper} {rest : List Oper} {op : Oper} {a : Act} {w : World} {Q : Exit → Act → World → Prop} (hw : Region.wanted op (yielded ops a.tmps) = true) (ty : TypeId) (x : Operand) (ho : op.op = .load ty x)
    (b o : Nat) (hx : a.eval x = .pointer (some ⟨b, o, none⟩)) (cs : List Value) (d : TypeDesc) (hc : w.rangeAt b o cs)
    (hu : P.underlying ty = some d) (hd : d.isRow = true) (hi : (P.info? ty).map (·.size) = some cs.length)
    (h : wpList P ops Q rest (a.put op.dst (.agg cs.toArray)) w) : wpList P ops Q (op :: rest) a w :=
  wpList_step fun _ hK => by
    rw [if_pos hw]
    exact wp_load_mid ty x ho b o hx cs d hc hu hd hi (hK _ _ h)
/-- A piece among others, in its cells. -/
theorem range_pc {w : World} {base : Nat} {e : TypeId} {g cap : Nat} {l : List Sp.P} (h : w.ownsRow base e 3 (.slice (some ⟨g, 0, none⟩) l.length cap) l.length (Sp.cellsOf l)) (i : Nat) (hi : i < l.length) : w.rangeAt g (i * 3) (l.getD i Sp.p0).cells := by
  intro j v hj
  have hj3 : j < 3 := (List.getElem?_eq_some_iff.1 hj).1
  rw [h.cellAt _ (by omega), Sp.cellsOf_at l i j hi hj3, hj]
theorem guard_pc : Tryz.prog.eqGuardType Tryz.prog.depth 156 = false := by kernel_rfl
theorem pieces_live : Sp.pieces 62 0 0 4 = [⟨62, 2, 0⟩, ⟨64, 2, 16⟩] := by
  unfold Sp.pieces Sp.run
  rw [if_pos (by decide), if_pos rfl, if_pos (by decide)]
  rfl
theorem cut_live : Sp.cut 4094 4 = 2 := by decide
end Go.Proofs.YtabackklpemhpaaGreat
