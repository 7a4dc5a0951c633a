/-
  The statement LineBlends (P9.2): for every two lines' bytes, lanes, and place, roebucklaw09.LineBlends returns true and its arguments read afterwards as before. No condition.
-/
import Derived.Test.YteaooopjfmlcbaaL9Law
import Derived.Test.YteaooopjfmlcbaaSteady
namespace Go.Proofs.Yteaooopjfmlcbaa
open Go.ChangeShapes Go.WideShapes Go.ChangeAt Go.RowKit Wd

theorem wrap_rng (x : Int) : -9223372036854775808 ≤ IntKind.i64.wrap x ∧ IntKind.i64.wrap x < 9223372036854775808 := by
  rw [IntKind.wrap_i64]; omega
/-- Three words, two lines and the reference's two, in their blocks. -/
structure B9 (w W : World) (xb lb ob pb qb : Nat) (x0 x1 x2 : Int) (L O : List Int) : Prop where
  c0 : W.cell? ⟨xb, 0, none⟩ = some (.int .u64 x0)
  c1 : W.cell? ⟨xb, 1, none⟩ = some (.int .u64 x1)
  c2 : W.cell? ⟨xb, 2, none⟩ = some (.int .u64 x2)
  lt : xb < W.heap.size
  l : RowAt .u8 W lb 26 L
  o : RowAt .u8 W ob 26 O
  p : RowAt .u8 W pb 25 L
  q : RowAt .u8 W qb 25 O
  bel : Below w.heap.size w W
theorem B9.low {w W W' : World} {xb lb ob pb qb : Nat} {x0 x1 x2 : Int} {L O : List Int} (h : B9 w W xb lb ob pb qb x0 x1 x2 L O) (hb : Below W.heap.size W W') : B9 w W' xb lb ob pb qb x0 x1 x2 L O :=
  ⟨(hb.cell (p := ⟨xb, 0, none⟩) h.lt).trans h.c0, (hb.cell (p := ⟨xb, 1, none⟩) h.lt).trans h.c1, (hb.cell (p := ⟨xb, 2, none⟩) h.lt).trans h.c2, Nat.lt_of_lt_of_le h.lt hb.size, h.l.low hb, h.o.low hb, h.p.low hb, h.q.low hb, h.bel.trans (hb.mono h.bel.size)⟩
theorem B9.drew {w W : World} {xb lb ob pb qb : Nat} {x0 x1 x2 : Int} {L O : List Int} (h : B9 w W xb lb ob pb qb x0 x1 x2 L O) : B9 w W.drew xb lb ob pb qb x0 x1 x2 L O :=
  h.low ((Below.refl _ _).drew)
set_option maxRecDepth 4000 in
set_option maxHeartbeats 4000000 in
theorem blends_walk (w : World) (p1 : Option Addr) (cap1 : Nat) (ls : List Int) (p2 : Option Addr) (cap2 : Nat) (bs : List Int) (xs : List Int) (hs1 : SlAt w p1 ls) (_hn1 : ls.length ≤ 9223372036854775807) (hs2 : SlAt w p2 bs) (_hn2 : bs.length ≤ 9223372036854775807) (hx : xs.length = 3) (hxw : ∀ x ∈ xs, (Lit.int .u64 x).wf = true) :
    Calls Try.prog 4 #[.slice p1 ls.length cap1, .slice p2 bs.length cap2, .agg (aV .u64 xs)] w fun e w' => e = .returned (.bool true) ∧ Below w.heap.size w w' := by
  obtain ⟨x0, x1, x2, rfl⟩ : ∃ x0 x1 x2, xs = [x0, x1, x2] := by
    match xs, hx with
    | [a, b, c], _ => exact ⟨a, b, c, rfl⟩
  have g0 := bounds_u64 (hxw x0 (by simp))
  have g1 := bounds_u64 (hxw x1 (by simp))
  have g2 := bounds_u64 (hxw x2 (by simp))
  have HX := Lib.hid (show (0 ≤ x0 ∧ x0 < 18446744073709551616) ∧ (0 ≤ x1 ∧ x1 < 18446744073709551616) ∧ (0 ≤ x2 ∧ x2 < 18446744073709551616) by omega)
  have HL := Lib.hid (Ln.ofB_is hs1.rng)
  have HO := Lib.hid (Ln.ofB_is hs2.rng)
  have hB0 := (Below.refl w.heap.size w).alloc (Nat.le_refl _) (.cells #[.int .u64 x0, .int .u64 x1, .int .u64 x2] 40)
  have HS1 := Lib.hid (hs1.low hB0)
  have HS2 := Lib.hid (hs2.low hB0)
  have hC := CsAt.new w 40 #[.int .u64 x0, .int .u64 x1, .int .u64 x2]
  have HC := Lib.hid (And.intro hC (And.intro (hC.cell 0) (And.intro (hC.cell 1) (And.intro (hC.cell 2) hB0))))
  rw [show aV .u64 [x0, x1, x2] = #[.int .u64 x0, .int .u64 x1, .int .u64 x2] from rfl]
  clear hs1 hs2 _hn1 _hn2 hx hxw hB0 hC g0 g1 g2
  have HBL := Lib.hid (Ln.blend_is HL.out HO.out x0 64).1
  go_enter Try.func4, Try.ntmps4
  go_wp2_with fail
  generalize w.alloc (.cells #[.int .u64 x0, .int .u64 x1, .int .u64 x2] 40) = w0 at *
  refine (ofL_c p1 cap1 ls _ HS1.out).mono ?_
  rintro e w1 ⟨rfl, hb1⟩
  have HT1 := Lib.hid (HS1.out.low hb1)
  have HT2 := Lib.hid (HS2.out.low hb1)
  have HB1 := Lib.hid hb1
  clear hb1 HS1 HS2
  go_wp2_with fail
  refine (ofL_c p2 cap2 bs _ HT2.out).mono ?_
  rintro e w2 ⟨rfl, hb2⟩
  have HU1 := Lib.hid (HT1.out.low hb2)
  have HU2 := Lib.hid (HT2.out.low hb2)
  have HB2 := Lib.hid (HB1.out.trans (hb2.mono HB1.out.size))
  clear hb2 HT1 HT2 HB1
  have HRa := Lib.hid ((RowAt.new .u8 w2 26 (List.replicate 64 0)).alloc (.cells (aV .u8 (List.replicate 64 0)) 26))
  have HRb := Lib.hid (show RowAt .u8 ((w2.alloc (.cells (aV .u8 (List.replicate 64 0)) 26)).alloc (.cells (aV .u8 (List.replicate 64 0)) 26)) (w2.heap.size + 1) 26 (List.replicate 64 0) by
    simpa using RowAt.new .u8 (w2.alloc (.cells (aV .u8 (List.replicate 64 0)) 26)) 26 (List.replicate 64 0))
  have hBz := ((Below.refl w2.heap.size w2).alloc (Nat.le_refl _) (.cells (aV .u8 (List.replicate 64 0)) 26)).alloc (by simp) (.cells (aV .u8 (List.replicate 64 0)) 26)
  have HBz := Lib.hid hBz
  clear hBz
  rw [zeros64] at HRa HRb HBz
  go_upto_region 2 with (first | (refine wpList_store_row rfl 26 _ _ rfl w2.heap.size _ rfl rfl 26 _ (HRa.out) (iL HL.out.1) (zeros_size HL.out.1) (aV_one _ _) ?_) | (refine wpList_store_row rfl 26 _ _ rfl (w2.heap.size + 1) _ rfl rfl 26 _ (HRb.out.rowFar (c := w2.heap.size) (by omega) _) (iL HO.out.1) (zeros_size HO.out.1) (aV_one _ _) ?_))
  rw [← zeros64] at HRa HRb HBz ⊢
  generalize (w2.alloc (.cells (aV .u8 (List.replicate 64 0)) 26)).alloc (.cells (aV .u8 (List.replicate 64 0)) 26) = wz at *
  have HR3 := Lib.hid ((HRa.out.row (Ln.ofB ls)).rowFar (c := w2.heap.size + 1) (by omega) (aV .u8 (Ln.ofB bs)))
  have HR4 := Lib.hid ((HRb.out.rowFar (c := w2.heap.size) (by omega) (aV .u8 (Ln.ofB ls))).row (Ln.ofB bs))
  have hB3 := below_setRow (below_setRow HBz.out (g := w2.heap.size) (by omega) (aV .u8 (Ln.ofB ls))) (g := w2.heap.size + 1) (by omega) (aV .u8 (Ln.ofB bs))
  have HB3 := Lib.hid (And.intro hB3 (And.intro (HU1.out.low hB3) (And.intro (HU2.out.low hB3) (HB2.out.trans (hB3.mono HB2.out.size)))))
  clear hB3 HRa HRb HBz HU1 HU2 HB2
  generalize (wz.setRow w2.heap.size (aV .u8 (Ln.ofB ls))).setRow (w2.heap.size + 1) (aV .u8 (Ln.ofB bs)) = w3 at *
  go_wp2_with fail
  refine (rof_c p1 cap1 ls _ HB3.out.2.1).mono ?_
  rintro e w4 ⟨rfl, hb4⟩
  have HT2 := Lib.hid (HB3.out.2.2.1.low hb4)
  have HB4 := Lib.hid hb4
  clear hb4
  go_wp2_with fail
  refine (rof_c p2 cap2 bs _ HT2.out).mono ?_
  rintro e w5 ⟨rfl, hb5⟩
  have HB5 := Lib.hid (HB4.out.trans (hb5.mono HB4.out.size))
  clear hb5 HT2 HB4
  have HRa := Lib.hid ((RowAt.new .u8 w5 25 (List.replicate 64 0)).alloc (.cells (aV .u8 (List.replicate 64 0)) 25))
  have HRb := Lib.hid (show RowAt .u8 ((w5.alloc (.cells (aV .u8 (List.replicate 64 0)) 25)).alloc (.cells (aV .u8 (List.replicate 64 0)) 25)) (w5.heap.size + 1) 25 (List.replicate 64 0) by
    simpa using RowAt.new .u8 (w5.alloc (.cells (aV .u8 (List.replicate 64 0)) 25)) 25 (List.replicate 64 0))
  have hBz := ((Below.refl w5.heap.size w5).alloc (Nat.le_refl _) (.cells (aV .u8 (List.replicate 64 0)) 25)).alloc (by simp) (.cells (aV .u8 (List.replicate 64 0)) 25)
  have HBz := Lib.hid hBz
  clear hBz
  rw [zeros64] at HRa HRb HBz
  go_upto_region 3 with (first | (refine wpList_store_row rfl 25 _ _ rfl w5.heap.size _ rfl rfl 25 _ (HRa.out) (iR HL.out.1) (zeros_size HL.out.1) (aV_one _ _) ?_) | (refine wpList_store_row rfl 25 _ _ rfl (w5.heap.size + 1) _ rfl rfl 25 _ (HRb.out.rowFar (c := w5.heap.size) (by omega) _) (iR HO.out.1) (zeros_size HO.out.1) (aV_one _ _) ?_))
  rw [← zeros64] at HRa HRb HBz ⊢
  generalize (w5.alloc (.cells (aV .u8 (List.replicate 64 0)) 25)).alloc (.cells (aV .u8 (List.replicate 64 0)) 25) = wy at *
  have hR6 := ((HRa.out.row (Ln.ofB ls)).rowFar (c := w5.heap.size + 1) (by omega) (aV .u8 (Ln.ofB bs)))
  have hR7 := ((HRb.out.rowFar (c := w5.heap.size) (by omega) (aV .u8 (Ln.ofB ls))).row (Ln.ofB bs))
  have hB6 := below_setRow (below_setRow HBz.out (g := w5.heap.size) (by omega) (aV .u8 (Ln.ofB ls))) (g := w5.heap.size + 1) (by omega) (aV .u8 (Ln.ofB bs))
  generalize (wy.setRow w5.heap.size (aV .u8 (Ln.ofB ls))).setRow (w5.heap.size + 1) (aV .u8 (Ln.ofB bs)) = w6 at *
  have hB36 := HB5.out.trans (hB6.mono HB5.out.size)
  have hB06 := HB3.out.2.2.2.trans (hB36.mono HB3.out.2.2.2.size)
  have h6 : B9 w w6 w.heap.size w2.heap.size (w2.heap.size + 1) w5.heap.size (w5.heap.size + 1) x0 x1 x2 (Ln.ofB ls) (Ln.ofB bs) :=
    ⟨(hB06.cell (p := ⟨w.heap.size, 0, none⟩) HC.out.1.lt).trans HC.out.2.1, (hB06.cell (p := ⟨w.heap.size, 1, none⟩) HC.out.1.lt).trans HC.out.2.2.1, (hB06.cell (p := ⟨w.heap.size, 2, none⟩) HC.out.1.lt).trans HC.out.2.2.2.1,
     Nat.lt_of_lt_of_le HC.out.1.lt hB06.size, HR3.out.low hB36, HR4.out.low hB36, hR6, hR7, HC.out.2.2.2.2.trans (hB06.mono HC.out.2.2.2.2.size)⟩
  have H6 := Lib.hid h6
  clear hR6 hR7 hB6 hB36 hB06 h6 HRa HRb HBz HB5 HB3 HR3 HR4 HC
  refine wp_region_steady (fun W => B9 w W w.heap.size w2.heap.size (w2.heap.size + 1) w5.heap.size (w5.heap.size + 1) x0 x1 x2 (Ln.ofB ls) (Ln.ofB bs)) (by kernel_rfl) (by kernel_rfl) H6.out.drew ?_
  iterate 8
    refine steady_val ?_ ?_ (by kernel_rfl) (fun W hS => ?_) ?_ ?_
    rotate_left 2
    · have c0 := hS.c0; have c1 := hS.c1; have c2 := hS.c2; go_simp
      exact rfl
    · go_simp
      exact rfl
  refine steady_nil ?_
  intro w7 h7
  have H7 := Lib.hid h7
  clear h7 H6
  have HY1 := Lib.hid (wrap_rng x1)
  have HY2 := Lib.hid (wrap_rng x2)
  generalize IntKind.i64.wrap x1 = y1 at *
  generalize IntKind.i64.wrap x2 = y2 at *
  go_upto_region 4 with (fail)
  refine wp_region_steady (fun W => B9 w W w.heap.size w2.heap.size (w2.heap.size + 1) w5.heap.size (w5.heap.size + 1) x0 x1 x2 (Ln.ofB ls) (Ln.ofB bs)) (by kernel_rfl) (by kernel_rfl) H7.out.drew ?_
  refine steady_val (.agg (aV .u8 (Ln.ofB ls))) ?_ (by kernel_rfl) (fun W hS => exec_load_row _ _ rfl _ rfl _ _ _ hS.l Try.underlying26 rfl (iL HL.out.1)) ?_ ?_
  rotate_left 1
  · go_simp
    exact rfl
  refine steady_val (.agg (aV .u8 (Ln.ofB bs))) ?_ (by kernel_rfl) (fun W hS => exec_load_row _ _ rfl _ rfl _ _ _ hS.o Try.underlying26 rfl (iL HO.out.1)) ?_ ?_
  rotate_left 1
  · go_simp
    exact rfl
  iterate 2
    refine steady_val ?_ ?_ (by kernel_rfl) (fun W hS => ?_) ?_ ?_
    rotate_left 2
    · have c0 := hS.c0; have c1 := hS.c1; have c2 := hS.c2; go_simp
      exact rfl
    · go_simp
      exact rfl
  refine steady_enter (.agg (aV .u8 (Ln.blend (Ln.ofB ls) (Ln.ofB bs) x0 64))) 14 #[.agg (aV .u8 (Ln.ofB ls)), .agg (aV .u8 (Ln.ofB bs)), .int .u64 x0] ?_ (by kernel_rfl) (fun W hS => ?_) (fun W hS => (blend_c _ _ HL.out HO.out _ _ HX.out.1).mono fun e W' ⟨he, hb⟩ => ⟨he, hS.low hb⟩) ?_ ?_
  rotate_left 1
  · go_simp
  · go_simp
    exact rfl
  refine steady_val (.agg (aV .u8 (Ln.ofB ls))) ?_ (by kernel_rfl) (fun W hS => exec_load_row _ _ rfl _ rfl _ _ _ hS.p Try.underlying25 rfl (iR HL.out.1)) ?_ ?_
  rotate_left 1
  · go_simp
    exact rfl
  refine steady_val (.agg (aV .u8 (Ln.ofB bs))) ?_ (by kernel_rfl) (fun W hS => exec_load_row _ _ rfl _ rfl _ _ _ hS.q Try.underlying25 rfl (iR HO.out.1)) ?_ ?_
  rotate_left 1
  · go_simp
    exact rfl
  iterate 2
    refine steady_val ?_ ?_ (by kernel_rfl) (fun W hS => ?_) ?_ ?_
    rotate_left 2
    · have c0 := hS.c0; have c1 := hS.c1; have c2 := hS.c2; go_simp
      exact rfl
    · go_simp
      exact rfl
  refine steady_enter (.agg (aV .u8 (Ln.blend (Ln.ofB ls) (Ln.ofB bs) x0 64))) 15 #[.agg (aV .u8 (Ln.ofB ls)), .agg (aV .u8 (Ln.ofB bs)), .int .u64 x0] ?_ (by kernel_rfl) (fun W hS => ?_) (fun W hS => (rblend_c _ _ HL.out HO.out _ _ HX.out.1).mono fun e W' ⟨he, hb⟩ => ⟨he, hS.low hb⟩) ?_ ?_
  rotate_left 1
  · go_simp
  · go_simp
    exact rfl
  refine steady_val (.bool true) ?_ (by kernel_rfl) (fun W hS => exec_cmp .eql 26 _ _ _ rfl _ _ rfl rfl guard_line _ (eq_same _ _ HBL.out)) ?_ ?_
  rotate_left 1
  · go_simp
    exact rfl
  refine steady_val ?_ ?_ (by kernel_rfl) (fun W hS => ?_) ?_ ?_
  rotate_left 2
  · go_simp
    exact rfl
  · go_simp
    exact rfl
  refine steady_val (.agg (aV .u8 (Ln.ofB ls))) ?_ (by kernel_rfl) (fun W hS => exec_load_row _ _ rfl _ rfl _ _ _ hS.l Try.underlying26 rfl (iL HL.out.1)) ?_ ?_
  rotate_left 1
  · go_simp
    exact rfl
  refine steady_val (.agg (aV .u8 (Ln.ofB bs))) ?_ (by kernel_rfl) (fun W hS => exec_load_row _ _ rfl _ rfl _ _ _ hS.o Try.underlying26 rfl (iL HO.out.1)) ?_ ?_
  rotate_left 1
  · go_simp
    exact rfl
  refine steady_enter (.int .u64 (Ln.diff (Ln.ofB ls) (Ln.ofB bs))) 16 #[.agg (aV .u8 (Ln.ofB ls)), .agg (aV .u8 (Ln.ofB bs))] ?_ (by kernel_rfl) (fun W hS => ?_) (fun W hS => (diff_c _ _ HL.out HO.out _).mono fun e W' ⟨he, hb⟩ => ⟨he, hS.low hb⟩) ?_ ?_
  rotate_left 1
  · go_simp
  · go_simp
    exact rfl
  refine steady_val (.agg (aV .u8 (Ln.ofB ls))) ?_ (by kernel_rfl) (fun W hS => exec_load_row _ _ rfl _ rfl _ _ _ hS.p Try.underlying25 rfl (iR HL.out.1)) ?_ ?_
  rotate_left 1
  · go_simp
    exact rfl
  refine steady_val (.agg (aV .u8 (Ln.ofB bs))) ?_ (by kernel_rfl) (fun W hS => exec_load_row _ _ rfl _ rfl _ _ _ hS.q Try.underlying25 rfl (iR HO.out.1)) ?_ ?_
  rotate_left 1
  · go_simp
    exact rfl
  refine steady_enter (.int .u64 (Ln.diff (Ln.ofB ls) (Ln.ofB bs))) 17 #[.agg (aV .u8 (Ln.ofB ls)), .agg (aV .u8 (Ln.ofB bs))] ?_ (by kernel_rfl) (fun W hS => ?_) (fun W hS => (rdiff_c _ _ HL.out HO.out _).mono fun e W' ⟨he, hb⟩ => ⟨he, hS.low hb⟩) ?_ ?_
  rotate_left 1
  · go_simp
  · go_simp
    exact rfl
  iterate 5
    refine steady_val ?_ ?_ (by kernel_rfl) (fun W hS => ?_) ?_ ?_
    rotate_left 2
    · go_simp
      exact rfl
    · go_simp
      exact rfl
  refine steady_enter (.int .u64 (onesS y1 y2)) 18 #[.int .i64 y1, .int .i64 y2] ?_ (by kernel_rfl) (fun W hS => ?_) (fun W hS => (lanes_c _ _ _ HY1.out.1 HY1.out.2 HY2.out.1 HY2.out.2).mono fun e W' ⟨he, hb⟩ => ⟨he, hb ▸ hS⟩) ?_ ?_
  rotate_left 1
  · go_simp
  · go_simp
    exact rfl
  iterate 2
    refine steady_val ?_ ?_ (by kernel_rfl) (fun W hS => ?_) ?_ ?_
    rotate_left 2
    · go_simp
      exact rfl
    · go_simp
      exact rfl
  refine steady_enter (.int .u64 (onesS y1 y2)) 19 #[.int .i64 y1, .int .i64 y2] ?_ (by kernel_rfl) (fun W hS => ?_) (fun W hS => (refOnes_c _ _ _ HY1.out.1 HY2.out.2).mono fun e W' ⟨he, hb⟩ => ⟨he, hS.low hb⟩) ?_ ?_
  rotate_left 1
  · go_simp
  · go_simp
    exact rfl
  iterate 3
    refine steady_val ?_ ?_ (by kernel_rfl) (fun W hS => ?_) ?_ ?_
    rotate_left 2
    · go_simp
      exact rfl
    · go_simp
      exact rfl
  refine steady_enter (.bool true) 13 #[] ?_ (by kernel_rfl) (fun W hS => ?_) (fun W hS => (live9_c _).mono fun e W' ⟨he, hb⟩ => ⟨he, hS.low hb⟩) ?_ ?_
  rotate_left 1
  · go_simp
  · go_simp
    exact rfl
  iterate 2
    refine steady_val ?_ ?_ (by kernel_rfl) (fun W hS => ?_) ?_ ?_
    rotate_left 2
    · go_simp
      exact rfl
    · go_simp
      exact rfl
  refine steady_nil ?_
  intro w8 h8
  have H8 := Lib.hid h8
  clear h8
  go_wp2_with fail
  go_ret
  exact ⟨rfl, H8.out.bel⟩

set_option maxRecDepth 100000 in
theorem blends_lifted (os : Os) (started : os.Started) (H : Type) (enc : TypeId × Value → H) :
    ReturnsInHanded {} Try.checked os 4 .any (Rows.lineBlendsSpec.pre6 enc Try.prog Try.f4 Rows.lineBlendsRow.domain false) (Rows.lineBlendsSpec.post enc Try.prog Try.f4 false true false false) := by
  refine returnsInHanded_of_change (C := Try.checked) own started (by kernel_rfl) Try.func4
    (ChangeSpec.witness6 (enc := enc) (C := Try.checked) false ⟨#[], #[.slice none 0 0, .slice none 0 0, .agg #[.int .u64 0, .int .u64 0, .int .u64 0]], []⟩ 8 (by kernel_rfl) (by kernel_rfl) (by kernel_rfl) (by kernel_rfl)) ?_
  intro W base args ds gs before hval0 hW hcnd _
  have hval : ∀ (j : Nat) t v, Try.f4.params[j]? = some t → args[j]? = some v → Value.okWide Try.prog W .any base t v := hval0
  have hW' := hW
  obtain ⟨p, q, hA0, hV, rfl, hfz, hnd⟩ := hW
  have hA : DataW.TrodAll enc Try.prog W 0 (fun _ => true) true Try.f4.params.toList args.toList ds p := hA0
  rw [Try.params4] at hA hval
  obtain ⟨v0, vs0, d0, ds0, p0, q0, hargs, rfl, rfl, h0, r0⟩ := trodAll_cons hA
  obtain ⟨v1, vs1, d1, ds1, p1, q1, rfl, rfl, rfl, h1, r1⟩ := trodAll_cons r0
  obtain ⟨v2, vs2, d2, ds2, p2, q2, rfl, rfl, rfl, h2, r2⟩ := trodAll_cons r1
  obtain ⟨rfl, rfl, rfl⟩ := trodAll_nil r2
  obtain rfl : args = #[v0, v1, v2] := by cases args; simp_all
  obtain ⟨rfl, rfl⟩ := trodVars_none hV
  have k0 := h0
  have lt0 : ∀ x ∈ p0, x.block < W.heap.size := by obtain ⟨m, hm⟩ := k0; exact DataW.trod_lt m _ _ _ hm
  obtain ⟨o0, n0, c0, l0, rfl, rfl, m0, s0⟩ := open_bytes (hval 0 22 v0 rfl rfl) h0
  have k1 := h1
  have lt1 : ∀ x ∈ p1, x.block < W.heap.size := by obtain ⟨m, hm⟩ := k1; exact DataW.trod_lt m _ _ _ hm
  obtain ⟨o1, n1, c1, l1, rfl, rfl, m1, s1⟩ := open_bytes (hval 1 22 v1 rfl rfl) h1
  have k2 := h2
  have lt2 : ∀ x ∈ p2, x.block < W.heap.size := by obtain ⟨m, hm⟩ := k2; exact DataW.trod_lt m _ _ _ hm
  obtain ⟨l2, rfl, n2, b2⟩ := open_arr Try.underlying40 Try.underlying24 (by kernel_rfl) (by kernel_rfl) (hval 2 40 v2 rfl rfl) h2
  clear hA0 hval0
  refine (blends_walk W o0 c0 l0 o1 c1 l1 l2 s0 m0 s1 m1 n2 b2).mono fun e W' ⟨he, bel⟩ => ?_
  subst he
  exact ⟨_, rfl, _, _, _, [], _, [], hW', trodAll_mk1 (shut_bool Try.underlying4 _), (trodAll_cons_mk (Below.trod laidOut (by kernel_rfl) (of_decide_eq_true (by kernel_rfl)) k0 bel lt0) (trodAll_cons_mk (Below.trod laidOut (by kernel_rfl) (of_decide_eq_true (by kernel_rfl)) k1 bel lt1) (trodAll_cons_mk (Below.trod laidOut (by kernel_rfl) (of_decide_eq_true (by kernel_rfl)) k2 bel lt2) trodAll_mk0))), rfl, bel.frame _, fun h => by cases h⟩

theorem blends_over : Rows.lineBlendsRow.holds Try.pinned (OpenSpec.ofChange Rows.lineBlendsSpec) :=
  OpenClaim.holds_of_wide 4 Try.f4 rfl rfl rfl rfl rfl rfl rfl ⟨rfl, rfl, rfl, rfl, rfl⟩ rfl rfl rfl rfl rfl (by kernel_rfl) Try.func4 (by kernel_rfl)
    (of_decide_eq_true (by kernel_rfl)) (by unfold Func.isWrapper; first | (rw [if_pos (by decide +kernel)]; kernel_rfl) | (rw [if_neg (by decide +kernel)]; exact ⟨rfl, rfl⟩))
    (fun os started H enc _ => blends_lifted os started H enc)

theorem blends_said : Rows.LineBlendsSaid := blends_over
end Go.Proofs.Yteaooopjfmlcbaa
