/-
  A byte that comes in interrupts a hart (BusCalls walked).
-/
import Derived.Test.YtihinimgenpijaaBcA
set_option maxRecDepth 20000
namespace Go.Proofs.Ytihinimgenpijaa
open Go.ChangeShapes Go.WideShapes Go.ChangeAt Go.RowKit
theorem BuL.low {w0 w w' : World} {b : Nat} {X : Bs.B} (h : BuL w0 w b X) (hb : Below w.heap.size w w') : BuL w0 w' b X := h.next (fun _ hB => hB.keepQ hb)
abbrev X2T : TypeId := 85
theorem Bs.readA_in {addr size : Int} (ha : 0 ≤ addr ∧ addr ≤ 18446744073709551615) (hs : -9223372036854775808 ≤ size ∧ size ≤ 9223372036854775807) : (Bs.readA addr size).In :=
  ⟨⟨by simp, by simp⟩, ha, ⟨by simp, by simp⟩, ⟨by simp, by simp⟩, hs, ⟨by simp, by simp⟩, ⟨by simp, by simp⟩, ⟨by simp, by simp⟩, ⟨by simp, by simp⟩, by constructor <;> simp, by constructor <;> simp⟩
set_option maxRecDepth 100000 in
set_option maxHeartbeats 32000000 in
theorem bcalls_walk (w : World) (hart x u v : Int) (hh : 0 ≤ hart ∧ hart ≤ 255) (hx : 0 ≤ x ∧ x ≤ 255) (hu : 0 ≤ u ∧ u ≤ 255) (hv : 0 ≤ v ∧ v ≤ 255) :
    Calls Try.prog 7 #[.int .u8 hart, .int .u8 x, .agg #[.int .u8 u, .int .u8 v]] w fun e w' => e = .returned (.bool true) ∧ Below w.heap.size w w' := by
  obtain ⟨k, hk⟩ : ∃ k : Nat, hart % 8 = k := ⟨(hart % 8).toNat, by omega⟩
  obtain ⟨p, hp⟩ : ∃ p : Nat, u % 8 = p := ⟨(u % 8).toNat, by omega⟩
  obtain ⟨l, hl⟩ : ∃ l : Nat, v % 8 = l := ⟨(v % 8).toNat, by omega⟩
  have hk8 : k < 8 := by omega
  have hp8 : p < 8 := by omega
  have hl8 : l < 8 := by omega
  have hb0 : Below w.heap.size w (w.alloc (.cells #[.int .u8 u, .int .u8 v] X2T)) := (Below.refl _ _).alloc (Nat.le_refl _) _
  have HB0 := Lib.hid hb0
  have HR := Lib.hid (CsAt.new w X2T #[.int .u8 u, .int .u8 v])
  clear hb0
  go_enter Try.func7, Try.ntmps7
  go_upto_region 1 with fail
  generalize w.alloc (.cells #[.int .u8 u, .int .u8 v] X2T) = w1 at *
  go_wp2_with fail
  refine (bnew_c 8 w1).mono ?_
  rintro e w2 ⟨hb2, h2⟩
  rcases h2 with ⟨h2, -⟩ | ⟨-, F, b, rfl, hB, hF, hlb⟩
  · exact absurd h2 (by decide)
  have HL0 := Lib.hid (show BuL w1 w2 b Bs.c0 from ⟨⟨F, hB, hF⟩, hlb, hb2⟩)
  have hR2 := HR.out.low hb2
  have c0 : w2.cell? ⟨w.heap.size, 0, none⟩ = some (.int .u8 u) := by rw [hR2.cell]; rfl
  have c1 : w2.cell? ⟨w.heap.size, 1, none⟩ = some (.int .u8 v) := by rw [hR2.cell]; rfl
  clear hb2 hB hF hlb hR2 HR
  go_upto_region 5 with fail
  refine wp_region_steady (fun W => W = w2.drew) (by kernel_rfl) (by kernel_rfl) rfl ?_
  iterate 10
    refine steady_val ?_ ?_ (by rfl) (fun W hS => ?_) ?_ ?_
    rotate_left 2
    · subst hS
      go_simp
      exact rfl
    · go_simp
      exact rfl
  refine steady_nil ?_
  rintro W rfl
  rw [show u.tmod 8 = p by rw [Int.tmod_eq_emod_of_nonneg hu.1]; exact hp, show v.tmod 8 = l by rw [Int.tmod_eq_emod_of_nonneg hv.1]; exact hl]
  have wp : ∀ n : Nat, n < 8 → IntKind.u64.wrap (n : Int) = n := fun n hn => by rw [IntKind.wrap_u64]; omega
  rw [wp p hp8, wp l hl8]
  clear wp
  have HL := Lib.hid (show BuL w1 w2.drew b Bs.c0 from HL0.out.low (below_dU (Below.refl w2.heap.size w2) 1))
  clear c0 c1 HL0
  generalize w2.drew = w3 at *
  obtain ⟨ck, cn⟩ := Bs.chk_all hk8 hp8 hl8 x
  have rd := Bs.read_all hk8 hp8 hl8 x
  rw [show x % 256 = x by omega] at rd
  simp only [Bs.chk, Bool.and_eq_true, beq_iff_eq] at ck
  simp only [Bs.chkN, Bool.and_eq_true, beq_iff_eq] at cn
  obtain ⟨⟨⟨⟨⟨⟨⟨⟨⟨⟨e1, e2⟩, e3⟩, e4⟩, e5⟩, e6⟩, e7⟩, e8⟩, e9⟩, e10⟩, e11⟩ := ck
  obtain ⟨⟨⟨⟨⟨⟨⟨n0, n1⟩, n2⟩, n3⟩, n4⟩, n5⟩, n6⟩, n7⟩ := cn
  have E1 := Lib.hid e1
  have E2 := Lib.hid e2
  have E3 := Lib.hid e3
  have E4 := Lib.hid e4
  have E5 := Lib.hid e5
  have E6 := Lib.hid e6
  have E7 := Lib.hid e7
  have E8 := Lib.hid e8
  have E9 := Lib.hid e9
  have E10 := Lib.hid e10
  have E11 := Lib.hid e11
  have RD := Lib.hid rd
  have lt9 : ∀ n : Nat, n = 0 → n < 900 := fun n h => by omega
  have NN := Lib.hid (And.intro (lt9 _ n0) (And.intro (lt9 _ n1) (And.intro (lt9 _ n2) (And.intro (lt9 _ n3) (And.intro (lt9 _ n4) (And.intro (lt9 _ n5) (And.intro (lt9 _ n6) (lt9 _ n7))))))))
  clear lt9
  clear e1 e2 e3 e4 e5 e6 e7 e8 e9 e10 e11 rd n0 n1 n2 n3 n4 n5 n6 n7
  have gk : (k : Int) < 8 := by omega
  go_wp2_with fail
  refine (lay_l 201326632 4 p (by decide) (by decide) ⟨by omega, by omega⟩ NN.out.1 HL.out).mono ?_
  rintro e w4 ⟨rfl, h4⟩
  rw [E1.out]
  have HL1 := Lib.hid (show BuL w1 w4 b (Bs.c1 p) from h4)
  clear h4 HL
  go_wp2_with fail
  refine (lay_l (201334784 + 128 * (2 * (k : Int))) 4 1024 ⟨by omega, by omega⟩ (by decide) (by decide) NN.out.2.1 HL1.out).mono ?_
  rintro e w5 ⟨rfl, h5⟩
  rw [E2.out]
  have HL2 := Lib.hid (show BuL w1 w5 b (Bs.c2 k p) from h5)
  clear h5 HL1
  go_wp2_with fail
  refine (lay_l (203423744 + 4096 * (2 * (k : Int))) 4 l ⟨by omega, by omega⟩ (by decide) ⟨by omega, by omega⟩ NN.out.2.2.1 HL2.out).mono ?_
  rintro e w6 ⟨rfl, h6⟩
  rw [E3.out]
  have HL3 := Lib.hid (show BuL w1 w6 b (Bs.c3 k p l) from h6)
  clear h6 HL2
  go_wp2_with fail
  refine (do_l 0 (Bs.inA x) (Bs.inA_in ⟨by omega, by omega⟩) NN.out.2.2.2.1 HL3.out).mono ?_
  rintro e w7 ⟨rfl, h7⟩
  have HL4 := Lib.hid (show BuL w1 w7 b (Bs.c4 k p l x) from h7)
  have HN4 := Lib.hid (lines_l (k : Int) HL4.out)
  rw [E7.out] at HN4
  clear h7 HL3
  go_wp2_with fail
  refine HN4.out.mono ?_
  rintro e w8 ⟨rfl, h8⟩
  have HL5 := Lib.hid h8
  clear h8 HN4 HL4
  go_wp2_with fail
  refine (lay_l 268435457 1 1 (by decide) (by decide) (by decide) NN.out.2.2.2.2.1 HL5.out).mono ?_
  rintro e w9 ⟨rfl, h9⟩
  rw [E4.out]
  have HL6 := Lib.hid (show BuL w1 w9 b (Bs.c5 k p l x) from h9)
  have HN5 := Lib.hid (lines_l (k : Int) HL6.out)
  rw [E8.out] at HN5
  clear h9 HL5
  have h3 : l < p ∨ (¬ l < p ∧ 0 < p) ∨ (¬ l < p ∧ p = 0) := by omega
  rcases h3 with hc | ⟨hc, hq⟩ | ⟨hc, rfl⟩
  · have hq : 0 < p := by omega
    have g0 : decide ((p : Int) > (l : Int)) = true := by simp; omega
    have g3 : decide (l < p) = true := by simpa using hc
    have g4 : decide (0 < p) = true := by simp; omega
    have g5 : (p == 0) = false := by simp; omega
    have g1 : decide ((p : Int) > 0) = true := by simp; omega
    have g2 : ((p : Int) == 0) = false := by simp; omega
    rw [if_pos hc] at HN5
    rw [if_pos hq] at E9
    clear hc
    try clear hq
    go_wp2_with fail
    refine HN5.out.mono ?_
    rintro e w10 ⟨rfl, h10⟩
    have HL7 := Lib.hid h10
    clear h10 HN5 HL6
    have HD := Lib.hid (do_l (k : Int) (Bs.readA (203423748 + 4096 * (2 * (k : Int))) 4) (Bs.readA_in ⟨by omega, by omega⟩ (by decide)) NN.out.2.2.2.2.2.1 HL7.out)
    rw [E9.out] at HD
    have hz := zero_an
    go_wp2_with fail
    refine HD.out.mono ?_
    rintro e w11 ⟨rfl, h11⟩
    have hb12 : Below w11.heap.size w11 (w11.alloc (.cells (anB 10) ANT)) := (Below.refl _ _).alloc (Nat.le_refl _) _
    have HL8 := Lib.hid ((show BuL w1 w11 b (Bs.c6 k p l x) from h11).low hb12)
    have hT := CsAt.new w11 ANT (anB 10)
    clear h11 HD HL7 hb12
    go_upto_region 17 with (refine wpList_storeNew (w0 := w11) rfl ANT _ _ rfl (anB 0) (anB 10) ANT (by kernel_rfl) (by kernel_rfl) (iAN _) rfl (anB_one _) ?_)
    have t0 := hT.cell 0
    clear hz hT
    generalize w11.alloc (.cells (anB 10) ANT) = w12 at *
    generalize w11.heap.size = tb at *
    have t1 : w12.cell? ⟨tb, 0, none⟩ = some (.int .u64 10) := t0
    clear t0
    have HN6 := Lib.hid (lines_l (k : Int) HL8.out)
    rw [E10.out] at HN6
    go_wp2_with fail
    refine HN6.out.mono ?_
    rintro e w13 ⟨rfl, h13⟩
    have HL9 := Lib.hid h13
    clear h13 HN6 HL8 t1
    have HD := Lib.hid (do_l (k : Int) (Bs.readA 268435456 1) (Bs.readA_in (by decide) (by decide)) NN.out.2.2.2.2.2.2.1 HL9.out)
    rw [RD.out, E5.out] at HD
    have hz := zero_an
    go_wp2_with fail
    refine HD.out.mono ?_
    rintro e w14 ⟨rfl, h14⟩
    have hb15 : Below w14.heap.size w14 (w14.alloc (.cells (anB x) ANT)) := (Below.refl _ _).alloc (Nat.le_refl _) _
    have HL10 := Lib.hid ((show BuL w1 w14 b (Bs.c7 k p l x) from h14).low hb15)
    have hT := CsAt.new w14 ANT (anB x)
    clear h14 HD HL9 hb15
    go_upto_region 20 with (refine wpList_storeNew (w0 := w14) rfl ANT _ _ rfl (anB 0) (anB x) ANT (by kernel_rfl) (by kernel_rfl) (iAN _) rfl (anB_one _) ?_)
    have t0 := hT.cell 0
    clear hz hT
    generalize w14.alloc (.cells (anB x) ANT) = w15 at *
    generalize w14.heap.size = tc at *
    have t1 : w15.cell? ⟨tc, 0, none⟩ = some (.int .u64 x) := t0
    clear t0
    go_wp2_with fail
    refine (lay_l (203423748 + 4096 * (2 * (k : Int))) 4 10 ⟨by omega, by omega⟩ (by decide) (by decide) NN.out.2.2.2.2.2.2.2 HL10.out).mono ?_
    rintro e w16 ⟨rfl, h16⟩
    rw [E6.out]
    have HL11 := Lib.hid (show BuL w1 w16 b (Bs.c8 k p l x) from h16)
    have HN8 := Lib.hid (lines_l (k : Int) HL11.out)
    rw [E11.out] at HN8
    clear h16 HL10 t1
    go_wp2_with fail
    refine HN8.out.mono ?_
    rintro e w17 ⟨rfl, h17⟩
    have HB17 := Lib.hid (HB0.out.trans (h17.bel.mono HB0.out.size))
    clear h17 HN8 HL11
    go_wp2_with fail
    refine (live18_c w17).mono ?_
    rintro e w18 ⟨rfl, hb18⟩
    have HB18 := Lib.hid (HB17.out.trans (hb18.mono HB17.out.size))
    clear hb18 HB17
    go_wp2_with fail
    go_ret
    exact ⟨rfl, HB18.out⟩
  · have g0 : decide ((p : Int) > (l : Int)) = false := by simp; omega
    have g3 : decide (l < p) = false := by simpa using hc
    have g4 : decide (0 < p) = true := by simp; omega
    have g5 : (p == 0) = false := by simp; omega
    have g1 : decide ((p : Int) > 0) = true := by simp; omega
    have g2 : ((p : Int) == 0) = false := by simp; omega
    rw [if_neg hc] at HN5
    rw [if_pos hq] at E9
    clear hc
    try clear hq
    go_wp2_with fail
    refine HN5.out.mono ?_
    rintro e w10 ⟨rfl, h10⟩
    have HL7 := Lib.hid h10
    clear h10 HN5 HL6
    have HD := Lib.hid (do_l (k : Int) (Bs.readA (203423748 + 4096 * (2 * (k : Int))) 4) (Bs.readA_in ⟨by omega, by omega⟩ (by decide)) NN.out.2.2.2.2.2.1 HL7.out)
    rw [E9.out] at HD
    have hz := zero_an
    go_wp2_with fail
    refine HD.out.mono ?_
    rintro e w11 ⟨rfl, h11⟩
    have hb12 : Below w11.heap.size w11 (w11.alloc (.cells (anB 10) ANT)) := (Below.refl _ _).alloc (Nat.le_refl _) _
    have HL8 := Lib.hid ((show BuL w1 w11 b (Bs.c6 k p l x) from h11).low hb12)
    have hT := CsAt.new w11 ANT (anB 10)
    clear h11 HD HL7 hb12
    go_upto_region 17 with (refine wpList_storeNew (w0 := w11) rfl ANT _ _ rfl (anB 0) (anB 10) ANT (by kernel_rfl) (by kernel_rfl) (iAN _) rfl (anB_one _) ?_)
    have t0 := hT.cell 0
    clear hz hT
    generalize w11.alloc (.cells (anB 10) ANT) = w12 at *
    generalize w11.heap.size = tb at *
    have t1 : w12.cell? ⟨tb, 0, none⟩ = some (.int .u64 10) := t0
    clear t0
    have HN6 := Lib.hid (lines_l (k : Int) HL8.out)
    rw [E10.out] at HN6
    go_wp2_with fail
    refine HN6.out.mono ?_
    rintro e w13 ⟨rfl, h13⟩
    have HL9 := Lib.hid h13
    clear h13 HN6 HL8 t1
    have HD := Lib.hid (do_l (k : Int) (Bs.readA 268435456 1) (Bs.readA_in (by decide) (by decide)) NN.out.2.2.2.2.2.2.1 HL9.out)
    rw [RD.out, E5.out] at HD
    have hz := zero_an
    go_wp2_with fail
    refine HD.out.mono ?_
    rintro e w14 ⟨rfl, h14⟩
    have hb15 : Below w14.heap.size w14 (w14.alloc (.cells (anB x) ANT)) := (Below.refl _ _).alloc (Nat.le_refl _) _
    have HL10 := Lib.hid ((show BuL w1 w14 b (Bs.c7 k p l x) from h14).low hb15)
    have hT := CsAt.new w14 ANT (anB x)
    clear h14 HD HL9 hb15
    go_upto_region 20 with (refine wpList_storeNew (w0 := w14) rfl ANT _ _ rfl (anB 0) (anB x) ANT (by kernel_rfl) (by kernel_rfl) (iAN _) rfl (anB_one _) ?_)
    have t0 := hT.cell 0
    clear hz hT
    generalize w14.alloc (.cells (anB x) ANT) = w15 at *
    generalize w14.heap.size = tc at *
    have t1 : w15.cell? ⟨tc, 0, none⟩ = some (.int .u64 x) := t0
    clear t0
    go_wp2_with fail
    refine (lay_l (203423748 + 4096 * (2 * (k : Int))) 4 10 ⟨by omega, by omega⟩ (by decide) (by decide) NN.out.2.2.2.2.2.2.2 HL10.out).mono ?_
    rintro e w16 ⟨rfl, h16⟩
    rw [E6.out]
    have HL11 := Lib.hid (show BuL w1 w16 b (Bs.c8 k p l x) from h16)
    have HN8 := Lib.hid (lines_l (k : Int) HL11.out)
    rw [E11.out] at HN8
    clear h16 HL10 t1
    go_wp2_with fail
    refine HN8.out.mono ?_
    rintro e w17 ⟨rfl, h17⟩
    have HB17 := Lib.hid (HB0.out.trans (h17.bel.mono HB0.out.size))
    clear h17 HN8 HL11
    go_wp2_with fail
    refine (live18_c w17).mono ?_
    rintro e w18 ⟨rfl, hb18⟩
    have HB18 := Lib.hid (HB17.out.trans (hb18.mono HB17.out.size))
    clear hb18 HB17
    go_wp2_with fail
    go_ret
    exact ⟨rfl, HB18.out⟩
  · have g0 : decide (((0 : Nat) : Int) > (l : Int)) = false := by simp
    have g3 : decide ((l : Int) < 0) = false := by simp
    rw [if_neg hc] at HN5
    rw [if_neg (by omega)] at E9
    clear hc
    try clear hq
    go_wp2_with fail
    refine HN5.out.mono ?_
    rintro e w10 ⟨rfl, h10⟩
    have HL7 := Lib.hid h10
    clear h10 HN5 HL6
    have HD := Lib.hid (do_l (k : Int) (Bs.readA (203423748 + 4096 * (2 * (k : Int))) 4) (Bs.readA_in ⟨by omega, by omega⟩ (by decide)) NN.out.2.2.2.2.2.1 HL7.out)
    rw [E9.out] at HD
    have hz := zero_an
    go_wp2_with fail
    refine HD.out.mono ?_
    rintro e w11 ⟨rfl, h11⟩
    have hb12 : Below w11.heap.size w11 (w11.alloc (.cells (anB 0) ANT)) := (Below.refl _ _).alloc (Nat.le_refl _) _
    have HL8 := Lib.hid ((show BuL w1 w11 b (Bs.c6 k 0 l x) from h11).low hb12)
    have hT := CsAt.new w11 ANT (anB 0)
    clear h11 HD HL7 hb12
    go_upto_region 17 with (refine wpList_storeNew (w0 := w11) rfl ANT _ _ rfl (anB 0) (anB 0) ANT (by kernel_rfl) (by kernel_rfl) (iAN _) rfl (anB_one _) ?_)
    have t0 := hT.cell 0
    clear hz hT
    generalize w11.alloc (.cells (anB 0) ANT) = w12 at *
    generalize w11.heap.size = tb at *
    have t1 : w12.cell? ⟨tb, 0, none⟩ = some (.int .u64 0) := t0
    clear t0
    have HN6 := Lib.hid (lines_l (k : Int) HL8.out)
    rw [E10.out] at HN6
    go_wp2_with fail
    refine HN6.out.mono ?_
    rintro e w13 ⟨rfl, h13⟩
    have HL9 := Lib.hid h13
    clear h13 HN6 HL8 t1
    have HD := Lib.hid (do_l (k : Int) (Bs.readA 268435456 1) (Bs.readA_in (by decide) (by decide)) NN.out.2.2.2.2.2.2.1 HL9.out)
    rw [RD.out, E5.out] at HD
    have hz := zero_an
    go_wp2_with fail
    refine HD.out.mono ?_
    rintro e w14 ⟨rfl, h14⟩
    have hb15 : Below w14.heap.size w14 (w14.alloc (.cells (anB x) ANT)) := (Below.refl _ _).alloc (Nat.le_refl _) _
    have HL10 := Lib.hid ((show BuL w1 w14 b (Bs.c7 k 0 l x) from h14).low hb15)
    have hT := CsAt.new w14 ANT (anB x)
    clear h14 HD HL9 hb15
    go_upto_region 20 with (refine wpList_storeNew (w0 := w14) rfl ANT _ _ rfl (anB 0) (anB x) ANT (by kernel_rfl) (by kernel_rfl) (iAN _) rfl (anB_one _) ?_)
    have t0 := hT.cell 0
    clear hz hT
    generalize w14.alloc (.cells (anB x) ANT) = w15 at *
    generalize w14.heap.size = tc at *
    have t1 : w15.cell? ⟨tc, 0, none⟩ = some (.int .u64 x) := t0
    clear t0
    go_wp2_with fail
    refine (lay_l (203423748 + 4096 * (2 * (k : Int))) 4 10 ⟨by omega, by omega⟩ (by decide) (by decide) NN.out.2.2.2.2.2.2.2 HL10.out).mono ?_
    rintro e w16 ⟨rfl, h16⟩
    rw [E6.out]
    have HL11 := Lib.hid (show BuL w1 w16 b (Bs.c8 k 0 l x) from h16)
    have HN8 := Lib.hid (lines_l (k : Int) HL11.out)
    rw [E11.out] at HN8
    clear h16 HL10 t1
    go_wp2_with fail
    refine HN8.out.mono ?_
    rintro e w17 ⟨rfl, h17⟩
    have HB17 := Lib.hid (HB0.out.trans (h17.bel.mono HB0.out.size))
    clear h17 HN8 HL11
    go_wp2_with fail
    refine (live18_c w17).mono ?_
    rintro e w18 ⟨rfl, hb18⟩
    have HB18 := Lib.hid (HB17.out.trans (hb18.mono HB17.out.size))
    clear hb18 HB17
    go_wp2_with fail
    go_ret
    exact ⟨rfl, HB18.out⟩
end Go.Proofs.Ytihinimgenpijaa
