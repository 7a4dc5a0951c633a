/-
  The statement LineKeeps (P9.3): for every two lines' bytes, place, and number, roebucklaw09.LineKeeps returns true and its arguments read afterwards as before. No condition.
-/
import Derived.Test.YteaooopjfmlcbaaL9B
namespace Go.Proofs.Yteaooopjfmlcbaa
open Go.ChangeShapes Go.WideShapes Go.ChangeAt Go.RowKit Wd

/-- Three numbers and two lines, in their blocks. -/
structure K9 (w W : World) (xb lb ob : Nat) (x0 x1 x2 : Int) (L O : List Int) : Prop where
  c0 : W.cell? ⟨xb, 0, none⟩ = some (.int .i64 x0)
  c1 : W.cell? ⟨xb, 1, none⟩ = some (.int .i64 x1)
  c2 : W.cell? ⟨xb, 2, none⟩ = some (.int .i64 x2)
  lt : xb < W.heap.size
  l : RowAt .u8 W lb 26 L
  o : RowAt .u8 W ob 26 O
  bel : Below w.heap.size w W
theorem K9.low {w W W' : World} {xb lb ob : Nat} {x0 x1 x2 : Int} {L O : List Int} (h : K9 w W xb lb ob x0 x1 x2 L O) (hb : Below W.heap.size W W') : K9 w W' xb lb ob x0 x1 x2 L O :=
  ⟨(hb.cell (p := ⟨xb, 0, none⟩) h.lt).trans h.c0, (hb.cell (p := ⟨xb, 1, none⟩) h.lt).trans h.c1, (hb.cell (p := ⟨xb, 2, none⟩) h.lt).trans h.c2, Nat.lt_of_lt_of_le h.lt hb.size, h.l.low hb, h.o.low hb, h.bel.trans (hb.mono h.bel.size)⟩
theorem K9.drew {w W : World} {xb lb ob : Nat} {x0 x1 x2 : Int} {L O : List Int} (h : K9 w W xb lb ob x0 x1 x2 L O) : K9 w W.drew xb lb ob x0 x1 x2 L O := h.low ((Below.refl _ _).drew)
theorem blend_back_c (ws os : List Int) (h : Ln.Is ws) (h' : Ln.Is os) (w : World) :
    Calls Try.prog 14 #[.agg (aV .u8 ws), .agg (aV .u8 os), .int .u64 (Ln.diff ws os)] w fun e w' => e = .returned (.agg (aV .u8 os)) ∧ Below w.heap.size w w' :=
  (blend_c ws os h h' _ w (Ln.diff_range ws os)).mono fun _ _ hh => ⟨by rw [hh.1, Ln.blend_diff h h'], hh.2⟩
theorem blend_none_c (ws os : List Int) (h : Ln.Is ws) (h' : Ln.Is os) (w : World) :
    Calls Try.prog 14 #[.agg (aV .u8 ws), .agg (aV .u8 os), .int .u64 0] w fun e w' => e = .returned (.agg (aV .u8 ws)) ∧ Below w.heap.size w w' :=
  (blend_c ws os h h' _ w (by decide)).mono fun _ _ hh => ⟨by rw [hh.1, Ln.blend_zero h h'], hh.2⟩
theorem diff_self_c (ws : List Int) (h : Ln.Is ws) (w : World) :
    Calls Try.prog 16 #[.agg (aV .u8 ws), .agg (aV .u8 ws)] w fun e w' => e = .returned (.int .u64 0) ∧ Below w.heap.size w w' :=
  (diff_c ws ws h h w).mono fun _ _ hh => ⟨by rw [hh.1, Ln.diff_self], hh.2⟩
theorem cut_low {v : Int} (h0 : 0 ≤ v) (h : v < 18446744073709551616) {n : Int} (h1 : 1 ≤ n) (h8 : n ≤ 8) : cutS v 0 (8 * n) = v % 256 ^ n.toNat := by
  obtain ⟨m, rfl⟩ := Int.eq_ofNat_of_zero_le (show 0 ≤ n by omega)
  rw [Int.toNat_natCast, Ln.pow_two]
  have hp : (0 : Int) < 2 ^ (8 * m) := Int.pow_pos (by decide)
  have r0 := Int.emod_nonneg v (Int.ne_of_gt hp)
  have r1 : v % 2 ^ (8 * m) ≤ v := by
    have e1 := Int.emod_add_mul_ediv v (2 ^ (8 * m))
    have e2 : 0 ≤ 2 ^ (8 * m) * (v / 2 ^ (8 * m)) := Int.mul_nonneg (Int.le_of_lt hp) (Int.ediv_nonneg h0 (Int.le_of_lt hp))
    omega
  refine Wd.ext (cutS_range _ _ _).1 (cutS_range _ _ _).2 r0 (by omega) fun i hi => ?_
  unfold cutS
  rw [tb_word]
  have e : tb (v % 2 ^ (8 * m)) i = (decide (i < 8 * m) && tb v i) := by
    obtain ⟨V, rfl⟩ := Int.eq_ofNat_of_zero_le h0
    unfold tb
    rw [pow_cast, ← Int.natCast_emod, Int.toNat_natCast, Int.toNat_natCast, Nat.testBit_mod_two_pow]
  rw [e, decide_eq_true hi, Bool.true_and, show ((0 : Int) + (i : Int)).toNat = i by omega]
  congr 1
  exact decide_eq_decide.2 (by omega)
theorem get_keep {ws : List Int} (h : Ln.Is ws) (p n v : Int) (h0 : 0 ≤ v) (hv : v < 18446744073709551616) (hf : Ln.fits p n = true) : Ln.get (Ln.put ws p n v) p n = cutS v 0 (8 * n) := by
  have f := Ln.fits_iff.1 hf
  rw [Ln.get_put h p n v hf, cut_low h0 hv f.1 f.2.1]
theorem diff_lanes {ws : List Int} (h : Ln.Is ws) (p n v : Int) : bits .andNot .u64 (Ln.diff ws (Ln.put ws p n v)) (onesS p n) = 0 := by
  have a := Ln.diff_range ws (Ln.put ws p n v)
  have b := onesS_range p n
  have c := andNot_range a.1 a.2 (y := onesS p n) b.1 b.2
  refine Wd.ext c.1 c.2 (by decide) (by decide) fun i hi => ?_
  rw [tb_andNot a.1 a.2 b.1 b.2, tb_zero, Ln.tb_diff]
  unfold onesS
  rw [tb_word]
  cases hp : inP p n i
  · have : Ln.un ws (Ln.put ws p n v) i = false := by
      unfold Ln.un
      unfold inP at hp
      simp only [decide_eq_false_iff_not] at hp
      by_cases hf : Ln.fits p n = true
      · have f := Ln.fits_iff.1 hf
        rw [Ln.put_far h p n v i (by omega)]
        simp
      · unfold Ln.put
        rw [if_neg hf]
        simp
    simp [this]
  · simp [hi]
set_option maxRecDepth 4000 in
set_option maxHeartbeats 4000000 in
theorem keeps_walk (w : World) (p1 : Option Addr) (cap1 : Nat) (ls : List Int) (p2 : Option Addr) (cap2 : Nat) (bs : List Int) (xs : List Int) (hs1 : SlAt w p1 ls) (_hn1 : ls.length ≤ 9223372036854775807) (hs2 : SlAt w p2 bs) (_hn2 : bs.length ≤ 9223372036854775807) (hx : xs.length = 3) (hxw : ∀ x ∈ xs, (Lit.int .i64 x).wf = true) :
    Calls Try.prog 5 #[.slice p1 ls.length cap1, .slice p2 bs.length cap2, .agg (aV .i64 xs)] w fun e w' => e = .returned (.bool true) ∧ Below w.heap.size w w' := by
  obtain ⟨x0, x1, x2, rfl⟩ : ∃ x0 x1 x2, xs = [x0, x1, x2] := by
    match xs, hx with
    | [a, b, c], _ => exact ⟨a, b, c, rfl⟩
  have HX0 := Lib.hid (bounds_i64 (hxw x0 (by simp)))
  have HX1 := Lib.hid (bounds_i64 (hxw x1 (by simp)))
  have HV := Lib.hid (wrap_range x2)
  have HL := Lib.hid (Ln.ofB_is hs1.rng)
  have HO := Lib.hid (Ln.ofB_is hs2.rng)
  have hB0 := (Below.refl w.heap.size w).alloc (Nat.le_refl _) (.cells #[.int .i64 x0, .int .i64 x1, .int .i64 x2] 47)
  have HS1 := Lib.hid (hs1.low hB0)
  have HS2 := Lib.hid (hs2.low hB0)
  have hC := CsAt.new w 47 #[.int .i64 x0, .int .i64 x1, .int .i64 x2]
  have HC := Lib.hid (And.intro hC (And.intro (hC.cell 0) (And.intro (hC.cell 1) (And.intro (hC.cell 2) hB0))))
  have HP := Lib.hid (Ln.put_is HL.out x0 x1 (IntKind.u64.wrap x2))
  rw [show aV .i64 [x0, x1, x2] = #[.int .i64 x0, .int .i64 x1, .int .i64 x2] from rfl]
  clear hs1 hs2 _hn1 _hn2 hx hxw hB0 hC
  go_enter Try.func5, Try.ntmps5
  go_wp2_with fail
  generalize w.alloc (.cells #[.int .i64 x0, .int .i64 x1, .int .i64 x2] 47) = w0 at *
  refine (ofL_c p1 cap1 ls _ HS1.out).mono ?_
  rintro e w1 ⟨rfl, hb1⟩
  have HT2 := Lib.hid (HS2.out.low hb1)
  have HB1 := Lib.hid hb1
  clear hb1 HS1 HS2
  go_wp2_with fail
  refine (ofL_c p2 cap2 bs _ HT2.out).mono ?_
  rintro e w2 ⟨rfl, hb2⟩
  have HB2 := Lib.hid (HB1.out.trans (hb2.mono HB1.out.size))
  clear hb2 HT2 HB1
  have HRa := Lib.hid ((RowAt.new .u8 w2 26 (List.replicate 64 0)).alloc (.cells (aV .u8 (List.replicate 64 0)) 26))
  have HRb := Lib.hid (show RowAt .u8 ((w2.alloc (.cells (aV .u8 (List.replicate 64 0)) 26)).alloc (.cells (aV .u8 (List.replicate 64 0)) 26)) (w2.heap.size + 1) 26 (List.replicate 64 0) by
    simpa using RowAt.new .u8 (w2.alloc (.cells (aV .u8 (List.replicate 64 0)) 26)) 26 (List.replicate 64 0))
  have hBz := ((Below.refl w2.heap.size w2).alloc (Nat.le_refl _) (.cells (aV .u8 (List.replicate 64 0)) 26)).alloc (by simp) (.cells (aV .u8 (List.replicate 64 0)) 26)
  have HBz := Lib.hid hBz
  clear hBz
  rw [zeros64] at HRa HRb HBz
  go_upto_region 2 with (first | (refine wpList_store_row rfl 26 _ _ rfl w2.heap.size _ rfl rfl 26 _ (HRa.out) (iL HL.out.1) (zeros_size HL.out.1) (aV_one _ _) ?_) | (refine wpList_store_row rfl 26 _ _ rfl (w2.heap.size + 1) _ rfl rfl 26 _ (HRb.out.rowFar (c := w2.heap.size) (by omega) _) (iL HO.out.1) (zeros_size HO.out.1) (aV_one _ _) ?_))
  rw [← zeros64] at HRa HRb HBz ⊢
  generalize (w2.alloc (.cells (aV .u8 (List.replicate 64 0)) 26)).alloc (.cells (aV .u8 (List.replicate 64 0)) 26) = wz at *
  have hR3 := ((HRa.out.row (Ln.ofB ls)).rowFar (c := w2.heap.size + 1) (by omega) (aV .u8 (Ln.ofB bs)))
  have hR4 := ((HRb.out.rowFar (c := w2.heap.size) (by omega) (aV .u8 (Ln.ofB ls))).row (Ln.ofB bs))
  have hB3 := below_setRow (below_setRow HBz.out (g := w2.heap.size) (by omega) (aV .u8 (Ln.ofB ls))) (g := w2.heap.size + 1) (by omega) (aV .u8 (Ln.ofB bs))
  generalize (wz.setRow w2.heap.size (aV .u8 (Ln.ofB ls))).setRow (w2.heap.size + 1) (aV .u8 (Ln.ofB bs)) = w3 at *
  have hB03 := HB2.out.trans (hB3.mono HB2.out.size)
  have h3 : K9 w w3 w.heap.size w2.heap.size (w2.heap.size + 1) x0 x1 x2 (Ln.ofB ls) (Ln.ofB bs) :=
    ⟨(hB03.cell (p := ⟨w.heap.size, 0, none⟩) HC.out.1.lt).trans HC.out.2.1, (hB03.cell (p := ⟨w.heap.size, 1, none⟩) HC.out.1.lt).trans HC.out.2.2.1, (hB03.cell (p := ⟨w.heap.size, 2, none⟩) HC.out.1.lt).trans HC.out.2.2.2.1,
     Nat.lt_of_lt_of_le HC.out.1.lt hB03.size, hR3, hR4, HC.out.2.2.2.2.trans (hB03.mono HC.out.2.2.2.2.size)⟩
  have H3 := Lib.hid h3
  clear hR3 hR4 hB3 hB03 h3 HRa HRb HBz HB2 HC
  refine wp_region_steady (fun W => K9 w W w.heap.size w2.heap.size (w2.heap.size + 1) x0 x1 x2 (Ln.ofB ls) (Ln.ofB bs)) (by kernel_rfl) (by kernel_rfl) H3.out.drew ?_
  refine steady_val (.agg (aV .u8 (Ln.ofB ls))) ?_ (by kernel_rfl) (fun W hS => exec_load_row _ _ rfl _ rfl _ _ _ hS.l Try.underlying26 rfl (iL HL.out.1)) ?_ ?_
  rotate_left 1
  · go_simp
    exact rfl
  refine steady_val (.agg (aV .u8 (Ln.ofB bs))) ?_ (by kernel_rfl) (fun W hS => exec_load_row _ _ rfl _ rfl _ _ _ hS.o Try.underlying26 rfl (iL HO.out.1)) ?_ ?_
  rotate_left 1
  · go_simp
    exact rfl
  refine steady_val (.agg (aV .u8 (Ln.ofB ls))) ?_ (by kernel_rfl) (fun W hS => exec_load_row _ _ rfl _ rfl _ _ _ hS.l Try.underlying26 rfl (iL HL.out.1)) ?_ ?_
  rotate_left 1
  · go_simp
    exact rfl
  refine steady_val (.agg (aV .u8 (Ln.ofB bs))) ?_ (by kernel_rfl) (fun W hS => exec_load_row _ _ rfl _ rfl _ _ _ hS.o Try.underlying26 rfl (iL HO.out.1)) ?_ ?_
  rotate_left 1
  · go_simp
    exact rfl
  refine steady_enter (.int .u64 (Ln.diff (Ln.ofB ls) (Ln.ofB bs))) 16 #[.agg (aV .u8 (Ln.ofB ls)), .agg (aV .u8 (Ln.ofB bs))] ?_ (by kernel_rfl) (fun W hS => ?_) (fun W hS => (diff_c _ _ HL.out HO.out _).mono fun e W' ⟨he, hb⟩ => ⟨he, hS.low hb⟩) ?_ ?_
  rotate_left 1
  · go_simp
  · go_simp
    exact rfl
  refine steady_enter (.agg (aV .u8 (Ln.ofB bs))) 14 #[.agg (aV .u8 (Ln.ofB ls)), .agg (aV .u8 (Ln.ofB bs)), .int .u64 (Ln.diff (Ln.ofB ls) (Ln.ofB bs))] ?_ (by kernel_rfl) (fun W hS => ?_) (fun W hS => (blend_back_c _ _ HL.out HO.out _).mono fun e W' ⟨he, hb⟩ => ⟨he, hS.low hb⟩) ?_ ?_
  rotate_left 1
  · go_simp
  · go_simp
    exact rfl
  refine steady_val (.agg (aV .u8 (Ln.ofB bs))) ?_ (by kernel_rfl) (fun W hS => exec_load_row _ _ rfl _ rfl _ _ _ hS.o Try.underlying26 rfl (iL HO.out.1)) ?_ ?_
  rotate_left 1
  · go_simp
    exact rfl
  refine steady_val (.bool false) ?_ (by kernel_rfl) (fun W hS => exec_cmp .neq 26 _ _ _ rfl _ _ rfl rfl guard_line _ (ne_same _ _ HO.out.1)) ?_ ?_
  rotate_left 1
  · go_simp
    exact rfl
  refine steady_val ?_ ?_ (by kernel_rfl) (fun W hS => ?_) ?_ ?_
  rotate_left 2
  · go_simp
    exact rfl
  · go_simp
    exact rfl
  refine steady_val (.agg (aV .u8 (Ln.ofB ls))) ?_ (by kernel_rfl) (fun W hS => exec_load_row _ _ rfl _ rfl _ _ _ hS.l Try.underlying26 rfl (iL HL.out.1)) ?_ ?_
  rotate_left 1
  · go_simp
    exact rfl
  refine steady_val (.agg (aV .u8 (Ln.ofB bs))) ?_ (by kernel_rfl) (fun W hS => exec_load_row _ _ rfl _ rfl _ _ _ hS.o Try.underlying26 rfl (iL HO.out.1)) ?_ ?_
  rotate_left 1
  · go_simp
    exact rfl
  refine steady_enter (.agg (aV .u8 (Ln.ofB ls))) 14 #[.agg (aV .u8 (Ln.ofB ls)), .agg (aV .u8 (Ln.ofB bs)), .int .u64 0] ?_ (by kernel_rfl) (fun W hS => ?_) (fun W hS => (blend_none_c _ _ HL.out HO.out _).mono fun e W' ⟨he, hb⟩ => ⟨he, hS.low hb⟩) ?_ ?_
  rotate_left 1
  · go_simp
  · go_simp
    exact rfl
  refine steady_val (.agg (aV .u8 (Ln.ofB ls))) ?_ (by kernel_rfl) (fun W hS => exec_load_row _ _ rfl _ rfl _ _ _ hS.l Try.underlying26 rfl (iL HL.out.1)) ?_ ?_
  rotate_left 1
  · go_simp
    exact rfl
  refine steady_val (.bool false) ?_ (by kernel_rfl) (fun W hS => exec_cmp .neq 26 _ _ _ rfl _ _ rfl rfl guard_line _ (ne_same _ _ HL.out.1)) ?_ ?_
  rotate_left 1
  · go_simp
    exact rfl
  iterate 2
    refine steady_val ?_ ?_ (by kernel_rfl) (fun W hS => ?_) ?_ ?_
    rotate_left 2
    · go_simp
      exact rfl
    · go_simp
      exact rfl
  refine steady_val (.agg (aV .u8 (Ln.ofB ls))) ?_ (by kernel_rfl) (fun W hS => exec_load_row _ _ rfl _ rfl _ _ _ hS.l Try.underlying26 rfl (iL HL.out.1)) ?_ ?_
  rotate_left 1
  · go_simp
    exact rfl
  refine steady_val (.agg (aV .u8 (Ln.ofB ls))) ?_ (by kernel_rfl) (fun W hS => exec_load_row _ _ rfl _ rfl _ _ _ hS.l Try.underlying26 rfl (iL HL.out.1)) ?_ ?_
  rotate_left 1
  · go_simp
    exact rfl
  refine steady_enter (.int .u64 0) 16 #[.agg (aV .u8 (Ln.ofB ls)), .agg (aV .u8 (Ln.ofB ls))] ?_ (by kernel_rfl) (fun W hS => ?_) (fun W hS => (diff_self_c _ HL.out _).mono fun e W' ⟨he, hb⟩ => ⟨he, hS.low hb⟩) ?_ ?_
  rotate_left 1
  · go_simp
  · go_simp
    exact rfl
  iterate 2
    refine steady_val ?_ ?_ (by kernel_rfl) (fun W hS => ?_) ?_ ?_
    rotate_left 2
    · go_simp
      exact rfl
    · go_simp
      exact rfl
  refine steady_nil ?_
  intro w4 h4
  have c0 := h4.c0
  have c1 := h4.c1
  have c2 := h4.c2
  have H4 := Lib.hid h4
  clear h4 H3
  go_wp2_with (refine wpList_load_row rfl 26 _ rfl w2.heap.size rfl 26 _ (0, 0) _ H4.out.l Try.underlying26 rfl (iL HL.out.1) ?_)
  refine (put_c _ HL.out _ _ _ _ HX0.out HV.out).mono ?_
  rintro e w5 ⟨rfl, hb5⟩
  have H5 := Lib.hid (H4.out.low hb5)
  clear hb5 H4 c0 c1 c2
  go_upto_region 5 with (refine wpList_storeNew rfl 26 _ _ rfl _ _ _ rfl rfl (iL HP.out.1) (zeros_size HP.out.1) (aV_one _ _) ?_)
  have H6 := Lib.hid (H5.out.low ((Below.refl _ _).alloc (Nat.le_refl _) (.cells (aV .u8 (Ln.put (Ln.ofB ls) x0 x1 (IntKind.u64.wrap x2))) 26)))
  have HR6 := Lib.hid (RowAt.new .u8 w5 26 (Ln.put (Ln.ofB ls) x0 x1 (IntKind.u64.wrap x2)))
  clear H5
  generalize w5.alloc (.cells (aV .u8 (Ln.put (Ln.ofB ls) x0 x1 (IntKind.u64.wrap x2))) 26) = w6 at *
  have hft : Ln.fits x0 x1 = true ∨ Ln.fits x0 x1 = false := by cases Ln.fits x0 x1 <;> simp
  rcases hft with hf | hf
  · have HF := Lib.hid (Ln.fits_iff.1 hf)
    have hg := get_keep HL.out x0 x1 (IntKind.u64.wrap x2) HV.out.1 HV.out.2 hf
    have hd := diff_lanes HL.out x0 x1 (IntKind.u64.wrap x2)
    rw [hf]
    have HFT := Lib.hid hf
    have HM := Lib.hid (IntWalk.i64_in (8 * x1) (by have := HF.out.1; have := HF.out.2.1; omega))
    clear hf
    have HG := Lib.hid hg
    have HD := Lib.hid hd
    clear hg hd
    generalize hxx : Ln.put (Ln.ofB ls) x0 x1 (IntKind.u64.wrap x2) = X at *
    clear hxx
    have c0 := H6.out.c0
    have c1 := H6.out.c1
    go_wp2_with (refine wpList_load_row rfl 26 _ rfl w5.heap.size rfl 26 _ (0, 0) _ HR6.out Try.underlying26 rfl (iL HP.out.1) ?_)
    refine (get_c _ HP.out _ _ _ HX0.out).mono ?_
    rintro e w7 ⟨rfl, hb7⟩
    have H7 := Lib.hid (And.intro (H6.out.low hb7) (HR6.out.low hb7))
    clear hb7 H6 HR6 c0 c1
    rw [HG.out, HFT.out]
    go_upto_region 8 with (fail)
    refine wp_region_steady (fun W => K9 w W w.heap.size w2.heap.size (w2.heap.size + 1) x0 x1 x2 (Ln.ofB ls) (Ln.ofB bs) ∧ RowAt .u8 W w5.heap.size 26 X) (by kernel_rfl) (by kernel_rfl) ⟨H7.out.1.drew, H7.out.2⟩ ?_
    iterate 9
      refine steady_val ?_ ?_ (by kernel_rfl) (fun W hS => ?_) ?_ ?_
      rotate_left 2
      · have c0 := hS.1.c0; have c1 := hS.1.c1; have c2 := hS.1.c2; have hm := HM.out; go_simp
        exact rfl
      · go_simp
        exact rfl
    refine steady_enter (.int .u64 (cutS (IntKind.u64.wrap x2) 0 (8 * x1))) 20 #[.int .u64 (IntKind.u64.wrap x2), .int .i64 0, .int .i64 (8 * x1)] ?_ (by kernel_rfl) (fun W hS => ?_) (fun W hS => (refCut_c _ _ _ _ HV.out.1 HV.out.2 (by omega) (by have f2 := HF.out.2.1; omega)).mono fun e W' ⟨he, hb⟩ => ⟨he, hS.1.low hb, hS.2.low hb⟩) ?_ ?_
    rotate_left 1
    · go_simp
    · go_simp
      exact rfl
    iterate 3
      refine steady_val ?_ ?_ (by kernel_rfl) (fun W hS => ?_) ?_ ?_
      rotate_left 2
      · go_simp
        exact rfl
      · go_simp
        exact rfl
    refine steady_val (.agg (aV .u8 (Ln.ofB ls))) ?_ (by kernel_rfl) (fun W hS => exec_load_row _ _ rfl _ rfl _ _ _ hS.1.l Try.underlying26 rfl (iL HL.out.1)) ?_ ?_
    rotate_left 1
    · go_simp
      exact rfl
    refine steady_val (.agg (aV .u8 X)) ?_ (by kernel_rfl) (fun W hS => exec_load_row _ _ rfl _ rfl _ _ _ hS.2 Try.underlying26 rfl (iL HP.out.1)) ?_ ?_
    rotate_left 1
    · go_simp
      exact rfl
    refine steady_enter (.int .u64 (Ln.diff (Ln.ofB ls) X)) 16 #[.agg (aV .u8 (Ln.ofB ls)), .agg (aV .u8 X)] ?_ (by kernel_rfl) (fun W hS => ?_) (fun W hS => (diff_c _ _ HL.out HP.out _).mono fun e W' ⟨he, hb⟩ => ⟨he, hS.1.low hb, hS.2.low hb⟩) ?_ ?_
    rotate_left 1
    · go_simp
    · go_simp
      exact rfl
    iterate 4
      refine steady_val ?_ ?_ (by kernel_rfl) (fun W hS => ?_) ?_ ?_
      rotate_left 2
      · have c0 := hS.1.c0; have c1 := hS.1.c1; have c2 := hS.1.c2; have hm := HM.out; go_simp
        exact rfl
      · go_simp
        exact rfl
    refine steady_enter (.int .u64 (onesS x0 x1)) 18 #[.int .i64 x0, .int .i64 x1] ?_ (by kernel_rfl) (fun W hS => ?_) (fun W hS => (lanes_c _ _ _ HX0.out.1 (by have := HX0.out.2; omega) HX1.out.1 (by have := HX1.out.2; omega)).mono fun e W' ⟨he, hb⟩ => ⟨he, hb ▸ hS⟩) ?_ ?_
    rotate_left 1
    · go_simp
    · go_simp
      exact rfl
    refine steady_val ?_ ?_ (by kernel_rfl) (fun W hS => ?_) ?_ ?_
    rotate_left 2
    · have hd := HD.out; go_simp
      exact rfl
    · go_simp
      exact rfl
    iterate 3
      refine steady_val ?_ ?_ (by kernel_rfl) (fun W hS => ?_) ?_ ?_
      rotate_left 2
      · go_simp
        exact rfl
      · go_simp
        exact rfl
    refine steady_enter (.bool true) 13 #[] ?_ (by kernel_rfl) (fun W hS => ?_) (fun W hS => (live9_c _).mono fun e W' ⟨he, hb⟩ => ⟨he, hS.1.low hb, hS.2.low hb⟩) ?_ ?_
    rotate_left 1
    · go_simp
    · go_simp
      exact rfl
    iterate 2
      refine steady_val ?_ ?_ (by kernel_rfl) (fun W hS => ?_) ?_ ?_
      rotate_left 2
      · go_simp
        exact rfl
      · go_simp
        exact rfl
    refine steady_nil ?_
    intro w8 h8
    have H8 := Lib.hid h8
    clear h8
    go_wp2_with fail
    go_ret
    exact ⟨rfl, H8.out.1.bel⟩
  · have HE := Lib.hid (show Ln.put (Ln.ofB ls) x0 x1 (IntKind.u64.wrap x2) = Ln.ofB ls by unfold Ln.put; rw [if_neg (by simp [hf])])
    rw [hf]
    rw [HE.out] at HR6
    clear hf
    go_wp2_with (first | (refine wpList_load_row rfl 26 _ rfl w5.heap.size rfl 26 _ (0, 0) _ HR6.out Try.underlying26 rfl (iL HL.out.1) ?_) | (refine wpList_load_row rfl 26 _ rfl w2.heap.size rfl 26 _ (0, 0) _ H6.out.l Try.underlying26 rfl (iL HL.out.1) ?_) | (refine wpList_cmp rfl .eql 26 _ _ _ rfl _ _ rfl rfl guard_line _ (eq_same _ _ HL.out.1) ?_))
    refine (live9_c _).mono ?_
    rintro e w7 ⟨rfl, hb7⟩
    have H7 := Lib.hid (H6.out.low hb7)
    clear hb7
    go_wp2_with fail
    go_ret
    exact ⟨rfl, H7.out.bel⟩

set_option maxRecDepth 100000 in
theorem keeps_lifted (os : Os) (started : os.Started) (H : Type) (enc : TypeId × Value → H) :
    ReturnsInHanded {} Try.checked os 5 .any (Rows.lineKeepsSpec.pre6 enc Try.prog Try.f5 Rows.lineKeepsRow.domain false) (Rows.lineKeepsSpec.post enc Try.prog Try.f5 false true false false) := by
  refine returnsInHanded_of_change (C := Try.checked) own started (by kernel_rfl) Try.func5
    (ChangeSpec.witness6 (enc := enc) (C := Try.checked) false ⟨#[], #[.slice none 0 0, .slice none 0 0, .agg #[.int .i64 0, .int .i64 0, .int .i64 0]], []⟩ 8 (by kernel_rfl) (by kernel_rfl) (by kernel_rfl) (by kernel_rfl)) ?_
  intro W base args ds gs before hval0 hW hcnd _
  have hval : ∀ (j : Nat) t v, Try.f5.params[j]? = some t → args[j]? = some v → Value.okWide Try.prog W .any base t v := hval0
  have hW' := hW
  obtain ⟨p, q, hA0, hV, rfl, hfz, hnd⟩ := hW
  have hA : DataW.TrodAll enc Try.prog W 0 (fun _ => true) true Try.f5.params.toList args.toList ds p := hA0
  rw [Try.params5] at hA hval
  obtain ⟨v0, vs0, d0, ds0, p0, q0, hargs, rfl, rfl, h0, r0⟩ := trodAll_cons hA
  obtain ⟨v1, vs1, d1, ds1, p1, q1, rfl, rfl, rfl, h1, r1⟩ := trodAll_cons r0
  obtain ⟨v2, vs2, d2, ds2, p2, q2, rfl, rfl, rfl, h2, r2⟩ := trodAll_cons r1
  obtain ⟨rfl, rfl, rfl⟩ := trodAll_nil r2
  obtain rfl : args = #[v0, v1, v2] := by cases args; simp_all
  obtain ⟨rfl, rfl⟩ := trodVars_none hV
  have k0 := h0
  have lt0 : ∀ x ∈ p0, x.block < W.heap.size := by obtain ⟨m, hm⟩ := k0; exact DataW.trod_lt m _ _ _ hm
  obtain ⟨o0, n0, c0, l0, rfl, rfl, m0, s0⟩ := open_bytes (hval 0 22 v0 rfl rfl) h0
  have k1 := h1
  have lt1 : ∀ x ∈ p1, x.block < W.heap.size := by obtain ⟨m, hm⟩ := k1; exact DataW.trod_lt m _ _ _ hm
  obtain ⟨o1, n1, c1, l1, rfl, rfl, m1, s1⟩ := open_bytes (hval 1 22 v1 rfl rfl) h1
  have k2 := h2
  have lt2 : ∀ x ∈ p2, x.block < W.heap.size := by obtain ⟨m, hm⟩ := k2; exact DataW.trod_lt m _ _ _ hm
  obtain ⟨l2, rfl, n2, b2⟩ := open_arr Try.underlying47 Try.underlying3 (by kernel_rfl) (by kernel_rfl) (hval 2 47 v2 rfl rfl) h2
  clear hA0 hval0
  refine (keeps_walk W o0 c0 l0 o1 c1 l1 l2 s0 m0 s1 m1 n2 b2).mono fun e W' ⟨he, bel⟩ => ?_
  subst he
  exact ⟨_, rfl, _, _, _, [], _, [], hW', trodAll_mk1 (shut_bool Try.underlying4 _), (trodAll_cons_mk (Below.trod laidOut (by kernel_rfl) (of_decide_eq_true (by kernel_rfl)) k0 bel lt0) (trodAll_cons_mk (Below.trod laidOut (by kernel_rfl) (of_decide_eq_true (by kernel_rfl)) k1 bel lt1) (trodAll_cons_mk (Below.trod laidOut (by kernel_rfl) (of_decide_eq_true (by kernel_rfl)) k2 bel lt2) trodAll_mk0))), rfl, bel.frame _, fun h => by cases h⟩

theorem keeps_over : Rows.lineKeepsRow.holds Try.pinned (OpenSpec.ofChange Rows.lineKeepsSpec) :=
  OpenClaim.holds_of_wide 5 Try.f5 rfl rfl rfl rfl rfl rfl rfl ⟨rfl, rfl, rfl, rfl, rfl⟩ rfl rfl rfl rfl rfl (by kernel_rfl) Try.func5 (by kernel_rfl)
    (of_decide_eq_true (by kernel_rfl)) (by unfold Func.isWrapper; first | (rw [if_pos (by decide +kernel)]; kernel_rfl) | (rw [if_neg (by decide +kernel)]; exact ⟨rfl, rfl⟩))
    (fun os started H enc _ => keeps_lifted os started H enc)

theorem keeps_said : Rows.LineKeepsSaid := keeps_over
end Go.Proofs.Yteaooopjfmlcbaa
