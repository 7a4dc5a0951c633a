/-
  The statement LinePlaces (P9.1): for every bytes, place, and number, roebucklaw09.LinePlaces returns true and its arguments read afterwards as before. No condition.
-/
import Derived.Test.YteaooopjfmlcbaaLnE
import Derived.Test.YteaooopjfmlcbaaOpenL
import Derived.Test.YteaooopjfmlcbaaLive9
namespace Go.Proofs.Yteaooopjfmlcbaa
open Go.ChangeShapes Go.WideShapes Go.ChangeAt Go.RowKit Wd

theorem sz_u8 (w : World) : (sizeOf 5).run Try.prog w = .ok 1 w := by kernel_rfl
theorem eq_line (w : World) (xs ys : List Int) (hx : xs.length = 64) (hy : ys.length = 64) : (binOp .eql 26 (.agg (aV .u8 xs)) (.agg (aV .u8 ys))).run Try.prog w = .ok (.bool (xs == ys)) w :=
  run_eql_ints w 26 5 64 .u8 Try.underlying26 Try.underlying5 sz_u8 xs ys hx hy
theorem ne_line (w : World) (xs ys : List Int) (hx : xs.length = 64) (hy : ys.length = 64) : (binOp .neq 26 (.agg (aV .u8 xs)) (.agg (aV .u8 ys))).run Try.prog w = .ok (.bool (!(xs == ys))) w :=
  run_neq_ints w 26 5 64 .u8 Try.underlying26 Try.underlying5 sz_u8 xs ys hx hy
theorem eq_same (w : World) (xs : List Int) (hx : xs.length = 64) : (binOp .eql 26 (.agg (aV .u8 xs)) (.agg (aV .u8 xs))).run Try.prog w = .ok (.bool true) w := by
  rw [eq_line w xs xs hx hx]; simp
theorem ne_same (w : World) (xs : List Int) (hx : xs.length = 64) : (binOp .neq 26 (.agg (aV .u8 xs)) (.agg (aV .u8 xs))).run Try.prog w = .ok (.bool false) w := by
  rw [ne_line w xs xs hx hx]; simp
theorem guard_line : Try.prog.eqGuardType Try.prog.depth 26 = false := by kernel_rfl
/-- The place, the line and the reference's bytes, in their blocks. -/
structure P9 (w W : World) (pb lb xb : Nat) (a b : Int) (L : List Int) : Prop where
  c0 : W.cell? ⟨pb, 0, none⟩ = some (.int .i64 a)
  c1 : W.cell? ⟨pb, 1, none⟩ = some (.int .i64 b)
  lt : pb < W.heap.size
  l : RowAt .u8 W lb 26 L
  x : RowAt .u8 W xb 25 L
  bel : Below w.heap.size w W
theorem P9.low {w W W' : World} {pb lb xb : Nat} {a b : Int} {L : List Int} (h : P9 w W pb lb xb a b L) (hb : Below W.heap.size W W') : P9 w W' pb lb xb a b L :=
  ⟨(hb.cell (p := ⟨pb, 0, none⟩) h.lt).trans h.c0, (hb.cell (p := ⟨pb, 1, none⟩) h.lt).trans h.c1, Nat.lt_of_lt_of_le h.lt hb.size, h.l.low hb, h.x.low hb, h.bel.trans (hb.mono h.bel.size)⟩
theorem P9.alloc {w W : World} {pb lb xb : Nat} {a b : Int} {L : List Int} (h : P9 w W pb lb xb a b L) (o : Obj) : P9 w (W.alloc o) pb lb xb a b L := h.low ((Below.refl _ _).alloc (Nat.le_refl _) _)
set_option maxHeartbeats 4000000 in
set_option maxRecDepth 4000 in
theorem places_walk (w : World) (p : Option Addr) (cap : Nat) (bs : List Int) (a b v : Int) (hs : SlAt w p bs) (_hn : bs.length ≤ 9223372036854775807) (ha : -9223372036854775808 ≤ a ∧ a ≤ 9223372036854775807) (_hb : -9223372036854775808 ≤ b ∧ b ≤ 9223372036854775807) (hv : 0 ≤ v ∧ v ≤ 18446744073709551615) :
    Calls Try.prog 3 #[.slice p bs.length cap, .agg #[.int .i64 a, .int .i64 b], .int .u64 v] w fun e w' => e = .returned (.bool true) ∧ Below w.heap.size w w' := by
  have HI := Lib.hid (Ln.ofB_is hs.rng)
  have HP := Lib.hid (Ln.put_is (Ln.ofB_is hs.rng) a b v)
  have HA := Lib.hid ha
  have HV := Lib.hid (show 0 ≤ v ∧ v < 18446744073709551616 by omega)
  have hB0 := (Below.refl w.heap.size w).alloc (Nat.le_refl _) (.cells #[.int .i64 a, .int .i64 b] 23)
  have HS := Lib.hid (hs.low hB0)
  have hC := CsAt.new w 23 #[.int .i64 a, .int .i64 b]
  have HWN := Lib.hid (wordsN_get (Ln.ofB bs) 8 (Nat.le_refl _))
  have HWL := Lib.hid (wordsN_len (Ln.ofB bs) 8)
  have hc0 : (w.alloc (.cells #[.int .i64 a, .int .i64 b] 23)).cell? ⟨w.heap.size, 0, none⟩ = some (.int .i64 a) := hC.cell 0
  have hc1 : (w.alloc (.cells #[.int .i64 a, .int .i64 b] 23)).cell? ⟨w.heap.size, 1, none⟩ = some (.int .i64 b) := hC.cell 1
  have HC := Lib.hid (And.intro hC (And.intro hc0 (And.intro hc1 hB0)))
  clear hs ha _hb _hn hv hB0 hC hc0 hc1
  go_enter Try.func3, Try.ntmps3
  go_wp2_with fail
  generalize w.alloc (.cells #[.int .i64 a, .int .i64 b] 23) = w0 at *
  refine (ofL_c p cap bs _ HS.out).mono ?_
  rintro e w1 ⟨rfl, hb1⟩
  have HS1 := Lib.hid (HS.out.low hb1)
  have HB1 := Lib.hid hb1
  clear hb1 HS
  go_upto_region 2 with (refine wpList_storeNew rfl 26 _ _ rfl _ _ _ rfl rfl (iL HI.out.1) (zeros_size HI.out.1) (aV_one _ _) ?_)
  have hR2 := RowAt.new .u8 w1 26 (Ln.ofB bs)
  have hB2 := (Below.refl w1.heap.size w1).alloc (Nat.le_refl _) (.cells (aV .u8 (Ln.ofB bs)) 26)
  have HS2 := Lib.hid (HS1.out.low hB2)
  have HB2 := Lib.hid (HB1.out.trans (hB2.mono HB1.out.size))
  have HR2 := Lib.hid hR2
  clear hR2 hB2 HS1 HB1
  generalize w1.alloc (.cells (aV .u8 (Ln.ofB bs)) 26) = w2 at *
  go_wp2_with fail
  refine (rof_c p cap bs _ HS2.out).mono ?_
  rintro e w3 ⟨rfl, hb3⟩
  go_upto_region 3 with (refine wpList_storeNew rfl 25 _ _ rfl _ _ _ rfl rfl (iR HI.out.1) (zeros_size HI.out.1) (aV_one _ _) ?_)
  have hR4 := RowAt.new .u8 w3 25 (Ln.ofB bs)
  have hB4 := hb3.alloc hb3.size (.cells (aV .u8 (Ln.ofB bs)) 25)
  have hB24 := HB2.out.trans (hB4.mono HB2.out.size)
  have H4 : P9 w (w3.alloc (.cells (aV .u8 (Ln.ofB bs)) 25)) w.heap.size w1.heap.size w3.heap.size a b (Ln.ofB bs) :=
    ⟨(hB24.cell (p := ⟨w.heap.size, 0, none⟩) HC.out.1.lt).trans HC.out.2.1, (hB24.cell (p := ⟨w.heap.size, 1, none⟩) HC.out.1.lt).trans HC.out.2.2.1, Nat.lt_of_lt_of_le HC.out.1.lt hB24.size, HR2.out.low hB4, hR4, HC.out.2.2.2.trans (hB24.mono HC.out.2.2.2.size)⟩
  clear hb3 hR4 hB4 hB24 HR2 HS2 HB2 HC
  generalize w3.alloc (.cells (aV .u8 (Ln.ofB bs)) 25) = w4 at *
  have c0 := H4.c0
  have c1 := H4.c1
  have HH4 := Lib.hid H4
  clear H4
  go_wp2_with (first | (refine wpList_load_row rfl 26 _ rfl w1.heap.size rfl 26 _ (0, 0) _ HH4.out.l Try.underlying26 rfl (iL HI.out.1) ?_) | (refine wpList_load_row rfl 25 _ rfl w3.heap.size rfl 25 _ (0, 0) _ HH4.out.x Try.underlying25 rfl (iR HI.out.1) ?_) | (refine wpList_cmp rfl .neq 26 _ _ _ rfl _ _ rfl rfl guard_line _ (ne_same _ _ HI.out.1) ?_))
  refine (get_c _ HI.out _ _ _ HA.out).mono ?_
  rintro e w5 ⟨rfl, hb5⟩
  have HH5 := Lib.hid (HH4.out.low hb5)
  clear c0 c1 hb5 HH4
  have c0 := HH5.out.c0
  have c1 := HH5.out.c1
  go_wp2_with (refine wpList_load_row rfl 25 _ rfl w3.heap.size rfl 25 _ (0, 0) _ HH5.out.x Try.underlying25 rfl (iR HI.out.1) ?_)
  refine (rget_c _ HI.out _ _ _ HA.out).mono ?_
  rintro e w6 ⟨rfl, hb6⟩
  have HH6 := Lib.hid (HH5.out.low hb6)
  clear c0 c1 hb6 HH5
  go_wp2_with (refine wpList_load_row rfl 26 _ rfl w1.heap.size rfl 26 _ (0, 0) _ HH6.out.l Try.underlying26 rfl (iL HI.out.1) ?_)
  refine (lwords_c _ HI.out _).mono ?_
  rintro e w7 ⟨rfl, hb7⟩
  have HH7 := Lib.hid (HH6.out.low hb7)
  clear hb7 HH6
  go_upto_region 10 with (refine wpList_storeNew rfl 32 _ _ rfl _ _ _ rfl rfl (iW HWL.out) (zeros8_size HWL.out) (aV_one _ _) ?_)
  have HH8 := Lib.hid (HH7.out.alloc (.cells (aV .u64 (wordsN (Ln.ofB bs) 8)) 32))
  have HW8 := Lib.hid (RowAt.new .u64 w7 32 (wordsN (Ln.ofB bs) 8))
  clear HH7
  generalize w7.alloc (.cells (aV .u64 (wordsN (Ln.ofB bs) 8)) 32) = w8 at *
  go_wp2_with fail
  go_loopw [14] (fun i wr => ∃ k : Nat, k ≤ 8 ∧ i = .int .i64 k ∧ P9 w wr w.heap.size w1.heap.size w3.heap.size a b (Ln.ofB bs) ∧ RowAt .u64 wr w7.heap.size 32 (wordsN (Ln.ofB bs) 8)) (fun i _ => 8 - (intOf i).toNat)
  case atStart => exact ⟨0, by omega, rfl, HH8.out, HW8.out⟩
  case round =>
    obtain ⟨k, hk, rfl, hh, hw⟩ := hrel
    have HHr := Lib.hid hh
    have HWr := Lib.hid hw
    clear hh hw HH8 HW8
    by_cases hlt : k < 8
    · have hlt2 : (k : Int) < 8 := by omega
      go_wp2_with (refine wpList_load_row rfl 25 _ rfl w3.heap.size rfl 25 _ (0, 0) _ HHr.out.x Try.underlying25 rfl (iR HI.out.1) ?_)
      refine (rget_c _ HI.out _ _ _ (by omega)).mono ?_
      rintro e wq ⟨rfl, hbq⟩
      have HHq := Lib.hid (HHr.out.low hbq)
      have HWq := Lib.hid (HWr.out.low hbq)
      have hc := HWq.out.cell k (by rw [HWL.out]; exact hlt)
      rw [HWN.out k hlt, show ((8 * k : Nat) : Int) = 8 * (k : Int) by omega] at hc
      clear hbq HHr HWr
      generalize Ln.get (Ln.ofB bs) (8 * (k : Int)) 8 = z at *
      go_wp2_with fail
      go_roundw
      case rel => exact ⟨k + 1, by omega, by go_num, HHq.out, HWq.out⟩
      case measure => simp [intOf]; omega
    · obtain rfl : k = 8 := by omega
      have c0 := HHr.out.c0
      have c1 := HHr.out.c1
      clear HWr
      go_wp2_with (refine wpList_load_row rfl 26 _ rfl w1.heap.size rfl 26 _ (0, 0) _ HHr.out.l Try.underlying26 rfl (iL HI.out.1) ?_)
      refine (put_c _ HI.out _ _ _ _ HA.out HV.out).mono ?_
      rintro e wa ⟨rfl, hba⟩
      have HHa := Lib.hid (HHr.out.low hba)
      clear c0 c1 hba HHr
      go_upto_region 17 with (refine wpList_storeNew rfl 26 _ _ rfl _ _ _ rfl rfl (iL HP.out.1) (zeros_size HP.out.1) (aV_one _ _) ?_)
      have HHb := Lib.hid (HHa.out.alloc (.cells (aV .u8 (Ln.put (Ln.ofB bs) a b v)) 26))
      have HRb := Lib.hid (RowAt.new .u8 wa 26 (Ln.put (Ln.ofB bs) a b v))
      clear HHa
      generalize wa.alloc (.cells (aV .u8 (Ln.put (Ln.ofB bs) a b v)) 26) = wb at *
      have c0 := HHb.out.c0
      have c1 := HHb.out.c1
      go_wp2_with (refine wpList_load_row rfl 25 _ rfl w3.heap.size rfl 25 _ (0, 0) _ HHb.out.x Try.underlying25 rfl (iR HI.out.1) ?_)
      refine (rput_c _ HI.out _ _ _ _ HA.out HV.out).mono ?_
      rintro e wc ⟨rfl, hbc⟩
      have HHc := Lib.hid (HHb.out.low hbc)
      have HRc := Lib.hid (HRb.out.low hbc)
      clear c0 c1 hbc HHb HRb
      go_upto_region 18 with (refine wpList_storeNew rfl 25 _ _ rfl _ _ _ rfl rfl (iR HP.out.1) (zeros_size HP.out.1) (aV_one _ _) ?_)
      have HHd := Lib.hid (HHc.out.alloc (.cells (aV .u8 (Ln.put (Ln.ofB bs) a b v)) 25))
      have HRd := Lib.hid (HRc.out.alloc (.cells (aV .u8 (Ln.put (Ln.ofB bs) a b v)) 25))
      have HQd := Lib.hid (RowAt.new .u8 wc 25 (Ln.put (Ln.ofB bs) a b v))
      clear HHc HRc
      generalize wc.alloc (.cells (aV .u8 (Ln.put (Ln.ofB bs) a b v)) 25) = wd at *
      generalize Ln.fits a b = ft at *
      go_wp2_with (first
        | (refine wpList_load_row rfl 26 _ rfl wa.heap.size rfl 26 _ (0, 0) _ HRd.out Try.underlying26 rfl (iL HP.out.1) ?_)
        | (refine wpList_load_row rfl 25 _ rfl wc.heap.size rfl 25 _ (0, 0) _ HQd.out Try.underlying25 rfl (iR HP.out.1) ?_)
        | (refine wpList_cmp rfl .eql 26 _ _ _ rfl _ _ rfl rfl guard_line _ (eq_same _ _ HP.out.1) ?_)
        | (refine wpList_load_rowW (by rfl) 26 _ rfl w1.heap.size rfl 26 _ (0, 0) _ HHd.out.l Try.underlying26 rfl (iL HI.out.1) ?_)
        | (refine wpList_load_rowW (by rfl) 25 _ rfl w3.heap.size rfl 25 _ (0, 0) _ HHd.out.x Try.underlying25 rfl (iR HI.out.1) ?_)
        | (refine wpList_cmpW (by rfl) .eql 26 _ _ _ rfl _ _ rfl rfl guard_line _ (eq_same _ _ HI.out.1) ?_))
      refine (live9_c _).mono ?_
      rintro e we ⟨rfl, hbe⟩
      have HHe := Lib.hid (HHd.out.low hbe)
      clear hbe HHd
      go_wp2_with fail
      go_ret
      exact ⟨rfl, HHe.out.bel⟩

set_option maxRecDepth 100000 in
theorem places_lifted (os : Os) (started : os.Started) (H : Type) (enc : TypeId × Value → H) :
    ReturnsInHanded {} Try.checked os 3 .any (Rows.linePlacesSpec.pre6 enc Try.prog Try.f3 Rows.linePlacesRow.domain false) (Rows.linePlacesSpec.post enc Try.prog Try.f3 false true false false) := by
  refine returnsInHanded_of_change (C := Try.checked) own started (by kernel_rfl) Try.func3
    (ChangeSpec.witness6 (enc := enc) (C := Try.checked) false ⟨#[], #[.slice none 0 0, .agg #[.int .i64 0, .int .i64 0], .int .u64 0], []⟩ 8 (by kernel_rfl) (by kernel_rfl) (by kernel_rfl) (by kernel_rfl)) ?_
  intro W base args ds gs before hval0 hW hcnd _
  have hval : ∀ (j : Nat) t v, Try.f3.params[j]? = some t → args[j]? = some v → Value.okWide Try.prog W .any base t v := hval0
  have hW' := hW
  obtain ⟨p, q, hA0, hV, rfl, hfz, hnd⟩ := hW
  have hA : DataW.TrodAll enc Try.prog W 0 (fun _ => true) true Try.f3.params.toList args.toList ds p := hA0
  rw [Try.params3] at hA hval
  obtain ⟨v0, vs0, d0, ds0, p0, q0, hargs, rfl, rfl, h0, r0⟩ := trodAll_cons hA
  obtain ⟨v1, vs1, d1, ds1, p1, q1, rfl, rfl, rfl, h1, r1⟩ := trodAll_cons r0
  obtain ⟨v2, vs2, d2, ds2, p2, q2, rfl, rfl, rfl, h2, r2⟩ := trodAll_cons r1
  obtain ⟨rfl, rfl, rfl⟩ := trodAll_nil r2
  obtain rfl : args = #[v0, v1, v2] := by cases args; simp_all
  obtain ⟨rfl, rfl⟩ := trodVars_none hV
  have k0 := h0
  have lt0 : ∀ x ∈ p0, x.block < W.heap.size := by obtain ⟨m, hm⟩ := k0; exact DataW.trod_lt m _ _ _ hm
  obtain ⟨o0, n0, c0, l0, rfl, rfl, m0, s0⟩ := open_bytes (hval 0 22 v0 rfl rfl) h0
  have k1 := h1
  have lt1 : ∀ x ∈ p1, x.block < W.heap.size := by obtain ⟨m, hm⟩ := k1; exact DataW.trod_lt m _ _ _ hm
  obtain ⟨a1, b1, rfl, w1, z1⟩ := open_arr2 Try.underlying23 Try.underlying3 (by kernel_rfl) (by kernel_rfl) (hval 1 23 v1 rfl rfl) h1
  obtain ⟨a2, rfl, rfl, rfl, w2⟩ := open_int Try.underlying24 (hval 2 24 v2 rfl rfl) h2
  clear hA0 hval0
  refine (places_walk W o0 c0 l0 a1 b1 a2 s0 m0 (bounds_i64 w1) (bounds_i64 z1) (bounds_u64 w2)).mono fun e W' ⟨he, bel⟩ => ?_
  subst he
  exact ⟨_, rfl, _, _, _, [], _, [], hW', trodAll_mk1 (shut_bool Try.underlying4 _), (trodAll_cons_mk (Below.trod laidOut (by kernel_rfl) (of_decide_eq_true (by kernel_rfl)) k0 bel lt0) (trodAll_cons_mk (Below.trod laidOut (by kernel_rfl) (of_decide_eq_true (by kernel_rfl)) k1 bel lt1) (trodAll_cons_mk (shut_int Try.underlying24 w2) trodAll_mk0))), rfl, bel.frame _, fun h => by cases h⟩

theorem places_over : Rows.linePlacesRow.holds Try.pinned (OpenSpec.ofChange Rows.linePlacesSpec) :=
  OpenClaim.holds_of_wide 3 Try.f3 rfl rfl rfl rfl rfl rfl rfl ⟨rfl, rfl, rfl, rfl, rfl⟩ rfl rfl rfl rfl rfl (by kernel_rfl) Try.func3 (by kernel_rfl)
    (of_decide_eq_true (by kernel_rfl)) (by unfold Func.isWrapper; first | (rw [if_pos (by decide +kernel)]; kernel_rfl) | (rw [if_neg (by decide +kernel)]; exact ⟨rfl, rfl⟩))
    (fun os started H enc _ => places_lifted os started H enc)

theorem places_said : Rows.LinePlacesSaid := places_over
end Go.Proofs.Yteaooopjfmlcbaa
