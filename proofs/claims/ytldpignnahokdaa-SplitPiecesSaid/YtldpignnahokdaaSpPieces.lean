/-
  The statement SplitPieces (P11.2): for every access, and number of stripes, roebucklaw11.SplitPieces returns true and its arguments read afterwards as before. No condition.
-/
import Derived.Test.YtldpignnahokdaaSpG
import Derived.Test.YtldpignnahokdaaOpenSp
namespace Go.Proofs.Ytldpignnahokdaa
open Go.ChangeShapes Go.WideShapes Go.ChangeAt Go.RowKit Wd

theorem exec_load_mid {P : Program} {o : Oper} {a : Act} {w : World} (ty : TypeId) (x : Operand) (ho : o.op = .load ty x) (b off : Nat) (hx : a.eval x = .pointer (some ⟨b, off, none⟩)) (cs : List Value) (d : TypeDesc) (hc : w.rangeAt b off cs)
    (hu : P.underlying ty = some d) (hd : d.isRow = true) (hi : (P.info? ty).map (·.size) = some cs.length) : (execOp a.eval o).run P w = .ok (.value (.agg cs.toArray)) w := by
  unfold execOp
  simp only [ho, hx, Instr.loadAt, Instr.sureAddr, Sem.run_bind, Sem.run_pure, Result.andThen_ok, run_loadVar_mid w b off ty cs d hc hu hd hi]
theorem neq_rp (w : World) (a b c : Int) : (binOp .neq 38 (.agg #[.int .u64 a, .int .i64 b, .int .i64 c]) (.agg #[.int .u64 a, .int .i64 b, .int .i64 c])).run Try.prog w = .ok (.bool false) w := by
  rw [run_neq_struct, run_eq3 w 38 _ _ _ .u64 .i64 .i64 rfl Try.underlying38 (by kernel_rfl) ⟨by decide, rfl, by kernel_rfl⟩ ⟨by decide, rfl, by kernel_rfl⟩ ⟨by decide, rfl, by kernel_rfl⟩]
  simp
theorem guard_rp : Try.prog.eqGuardType Try.prog.depth 38 = false := by kernel_rfl
/-- The access in its block, both lists of pieces. -/
structure SpAt (w W : World) (a b c n : Int) (v3 v4 : Value) (l : List Sp.P) : Prop where
  bel : Below w.heap.size w W
  box : CsAt W w.heap.size 24 (axV a b c n)
  o3 : W.ownsRow w.heap.size 39 3 v3 l.length (Sp.cellsOf l)
  o4 : W.ownsRow w.heap.size 38 3 v4 l.length (Sp.cellsOf l)
theorem SpAt.low {w W W' : World} {a b c n : Int} {v3 v4 : Value} {l : List Sp.P} (h : SpAt w W a b c n v3 v4 l) (hb : Below W.heap.size W W') : SpAt w W' a b c n v3 v4 l :=
  ⟨h.bel.trans (hb.mono h.bel.size), h.box.low hb, own_low h.o3 hb, own_low h.o4 hb⟩
theorem SpAt.drew {w W : World} {a b c n : Int} {v3 v4 : Value} {l : List Sp.P} (h : SpAt w W a b c n v3 v4 l) : SpAt w W.drew a b c n v3 v4 l := h.low ((Below.refl _ _).drew)
theorem range_drew {W : World} {g o : Nat} {cs : List Value} (h : W.rangeAt g o cs) : W.drew.rangeAt g o cs := h
set_option maxRecDepth 4000 in
set_option maxHeartbeats 4000000 in
theorem spieces_walk (w : World) (a b c n s : Int) (ha : 0 ≤ a ∧ a < 18446744073709551616) (hb : 0 ≤ b ∧ b < 18446744073709551616) (_hc : -9223372036854775808 ≤ c ∧ c ≤ 9223372036854775807) (_hn : -9223372036854775808 ≤ n ∧ n ≤ 9223372036854775807)
    (hs : -9223372036854775808 ≤ s ∧ s ≤ 9223372036854775807) :
    Calls Try.prog 4 #[.agg (axV a b c n), .int .i64 s] w fun e w' => e = .returned (.bool true) ∧ Below w.heap.size w w' := by
  have HB := Lib.hid ((Below.refl w.heap.size w).alloc (Nat.le_refl _) (.cells (axV a b c n) 24))
  have HC := Lib.hid (CsAt.new w 24 (axV a b c n))
  have HSS := Lib.hid hs
  clear _hc _hn hs
  go_enter Try.func4, Try.ntmps4
  go_upto_region 1 with (fail)
  generalize w.alloc (.cells (axV a b c n) 24) = w1 at *
  go_wp2_with (refine wpList_load_row rfl 24 _ rfl w.heap.size rfl 24 _ (0, 0) _ HC.out Try.underlying24 rfl (by kernel_rfl) ?_)
  refine (pieces_c _ _ _ _ _ ha hb).mono ?_
  rintro e w3 ⟨v3, rfl, hown3, hb3⟩
  have HC3 := Lib.hid (HC.out.low hb3)
  go_wp2_with (refine wpList_load_row rfl 24 _ rfl w.heap.size rfl 24 _ (0, 0) _ HC3.out Try.underlying24 rfl (by kernel_rfl) ?_)
  refine (rpieces_c _ _ _ _ _ ha hb).mono ?_
  rintro e w4 ⟨v4, rfl, hown4, hb4⟩
  have HA := Lib.hid (show SpAt w w4 a b c n v3 v4 (Sp.pieces a b c n) from ⟨HB.out.trans ((hb3.trans (hb4.mono hb3.size)).mono HB.out.size), HC3.out.low hb4, own_mono (own_low hown3 hb4) HB.out.size, own_mono hown4 (Nat.le_trans HB.out.size hb3.size)⟩)
  have HPL := Lib.hid (Sp.pieces_len a b c n)
  have HST := Lib.hid (Srt.set_len (stL (Sp.pieces a b c n) s))
  generalize hlq : Sp.pieces a b c n = l at *
  have HLQ := Lib.hid hlq
  clear hlq hown3 hown4 hb3 hb4 HC3 HB HC
  obtain ⟨p3, cap3, rfl, hv3, -, -⟩ := own_form HA.out.o3
  obtain ⟨p4, cap4, rfl, hv4, -, -⟩ := own_form HA.out.o4
  clear hv3 hv4
  go_wp2_with fail
  go_loopw [7] (fun iv wr => ∃ k : Nat, k ≤ l.length ∧ iv = .int .i64 k ∧ SpAt w wr a b c n (.slice p3 l.length cap3) (.slice p4 l.length cap4) l) (fun iv _ => l.length - (intOf iv).toNat)
  case atStart => exact ⟨0, Nat.zero_le _, rfl, HA.out⟩
  case round =>
    obtain ⟨k, hk, rfl, ha⟩ := hrel
    clear HA
    have HA := Lib.hid ha
    clear ha
    have hl4 := HPL.out
    by_cases hlt : k < l.length
    · have h3 := HA.out.o3
      have h4 := HA.out.o4
      obtain ⟨g, cap', hp, -, -, -⟩ := own_pos h3 (by omega)
      obtain ⟨rfl, rfl⟩ : p3 = some ⟨g, 0, none⟩ ∧ cap3 = cap' := by simpa using hp
      obtain ⟨g2, cap2', hp2, -, -, -⟩ := own_pos h4 (by omega)
      obtain ⟨rfl, rfl⟩ : p4 = some ⟨g2, 0, none⟩ ∧ cap4 = cap2' := by simpa using hp2
      clear hp hp2
      have HR1 := Lib.hid (range_drew (range_pc h3 k hlt))
      have HR2 := Lib.hid (range_drew (range_pc h4 k hlt))
      have hli : (k : Int) < l.length := by omega
      clear h3 h4
      generalize l.getD k Sp.p0 = q at *
      go_wp2_with fail
      refine wp_region_steady (fun W => W.rangeAt g (k * 3) q.cells ∧ W.rangeAt g2 (k * 3) q.cells ∧ SpAt w W a b c n (.slice (some ⟨g, 0, none⟩) l.length cap3) (.slice (some ⟨g2, 0, none⟩) l.length cap4) l) (by kernel_rfl) (by kernel_rfl) ⟨HR1.out, HR2.out, HA.out.drew⟩ ?_
      iterate 3
        refine steady_val ?_ ?_ (by kernel_rfl) (fun W hS => ?_) ?_ ?_
        rotate_left 2
        · go_simp
          exact rfl
        · go_simp
          exact rfl
      refine steady_val (.agg q.cells.toArray) ?_ (by kernel_rfl) (fun W hS => exec_load_mid _ _ rfl g (k * 3) rfl _ _ hS.1 Try.underlying39 rfl (by kernel_rfl)) ?_ ?_
      rotate_left 1
      · go_simp
        exact rfl
      iterate 3
        refine steady_val ?_ ?_ (by kernel_rfl) (fun W hS => ?_) ?_ ?_
        rotate_left 2
        · go_simp
          exact rfl
        · go_simp
          exact rfl
      refine steady_val (.agg q.cells.toArray) ?_ (by kernel_rfl) (fun W hS => exec_load_mid _ _ rfl g2 (k * 3) rfl _ _ hS.2.1 Try.underlying38 rfl (by kernel_rfl)) ?_ ?_
      rotate_left 1
      · go_simp
        exact rfl
      refine steady_val (.bool false) ?_ (by kernel_rfl) (fun W hS => exec_cmp .neq 38 _ _ _ rfl _ _ rfl rfl guard_rp _ (neq_rp _ _ _ _)) ?_ ?_
      rotate_left 1
      · go_simp
        exact rfl
      refine steady_nil ?_
      intro w5 h5
      have H5 := Lib.hid h5.2.2
      clear h5 HA HR1 HR2
      go_wp2_with fail
      go_roundw
      case rel => exact ⟨k + 1, by omega, by go_num, H5.out⟩
      case measure => simp [intOf]; omega
    · obtain rfl : k = l.length := by omega
      clear hlt hk
      go_wp2_with (refine wpList_load_row rfl 24 _ rfl w.heap.size rfl 24 _ (0, 0) _ HA.out.box Try.underlying24 rfl (by kernel_rfl) ?_)
      refine (stripes_c _ _ _ _ _ _ ‹_› hb HSS.out.2).mono ?_
      rintro e w6 ⟨v6, rfl, hown6, hb6⟩
      have HA6 := Lib.hid (HA.out.low hb6)
      clear HA
      go_wp2_with (refine wpList_load_row rfl 24 _ rfl w.heap.size rfl 24 _ (0, 0) _ HA6.out.box Try.underlying24 rfl (by kernel_rfl) ?_)
      refine (rstripes_c _ _ _ _ _ _ ‹_› hb HSS.out.2).mono ?_
      rintro e w7 ⟨v7, rfl, hown7, hb7⟩
      have HA7 := Lib.hid (HA6.out.low hb7)
      have hown6' := own_low hown6 hb7
      rw [HLQ.out] at hown6' hown7
      have hsl := stL_len l s
      have hsm : (Srt.set (stL l s)).length ≤ 4 := by have := HST.out; omega
      generalize Srt.set (stL l s) = xs at *
      have H6 := Lib.hid hown6'
      have H7 := Lib.hid hown7
      obtain ⟨p6, cap6, rfl, -, -, -⟩ := own_form hown6'
      obtain ⟨p7, cap7, rfl, -, -, -⟩ := own_form hown7
      clear hown6 hown6' hown7 hb6 hb7 HA6 hsl HST
      go_wp2_with fail
      go_loopw [10] (fun iv ws => ∃ m : Nat, m ≤ xs.length ∧ iv = .int .i64 m ∧ ws.ownsRow wr.heap.size 3 1 (.slice p6 xs.length cap6) xs.length (iV xs) ∧ ws.ownsRow w6.heap.size 3 1 (.slice p7 xs.length cap7) xs.length (iV xs) ∧ Below w.heap.size w ws) (fun iv _ => xs.length - (intOf iv).toNat)
      case atStart => exact ⟨0, Nat.zero_le _, rfl, H6.out, H7.out, HA7.out.bel⟩
      case round =>
        obtain ⟨m, hm, rfl, h6, h7, hbel⟩ := hrel
        have HX := Lib.hid (And.intro h6 (And.intro h7 hbel))
        by_cases hlt : m < xs.length
        · obtain ⟨g6, cap6', hp6, -, -, -⟩ := own_pos h6 (by omega)
          obtain ⟨rfl, rfl⟩ : p6 = some ⟨g6, 0, none⟩ ∧ cap6 = cap6' := by simpa using hp6
          obtain ⟨g7, cap7', hp7, -, -, -⟩ := own_pos h7 (by omega)
          obtain ⟨rfl, rfl⟩ : p7 = some ⟨g7, 0, none⟩ ∧ cap7 = cap7' := by simpa using hp7
          have c6 := h6.cellAt m (by omega)
          have c7 := h7.cellAt m (by omega)
          rw [iV_at xs m hlt] at c6 c7
          have hli : (m : Int) < xs.length := by omega
          clear h6 h7 hbel hp6 hp7 H6 H7 HA7
          generalize xs.getD m 0 = y at c6 c7
          go_wp2_with fail
          go_quiet (fail)
          have HX' := Lib.hid (And.intro (own_low HX.out.1 (w' := wr.drewN nq) ⟨rfl, rfl, rfl, Nat.le_refl _, fun _ _ => rfl⟩) (And.intro (own_low HX.out.2.1 (w' := wr.drewN nq) ⟨rfl, rfl, rfl, Nat.le_refl _, fun _ _ => rfl⟩) (below_dnS HX.out.2.2 nq)))
          go_wp2_with fail
          go_roundw
          case rel => exact ⟨m + 1, by omega, by go_num, HX'.out.1, HX'.out.2.1, HX'.out.2.2⟩
          case measure => simp [intOf]; omega
        · obtain rfl : m = xs.length := by omega
          clear h6 h7 hbel
          go_wp2_with fail
          refine (live11_c _).mono ?_
          rintro e w8 ⟨rfl, hb8⟩
          have H8 := Lib.hid (HX.out.2.2.trans (hb8.mono HX.out.2.2.size))
          clear hb8
          go_wp2_with fail
          go_ret
          exact ⟨rfl, H8.out⟩

set_option maxRecDepth 100000 in
theorem spieces_lifted (os : Os) (started : os.Started) (H : Type) (enc : TypeId × Value → H) :
    ReturnsInHanded {} Try.checked os 4 .any (Rows.splitPiecesSpec.pre6 enc Try.prog Try.f4 Rows.splitPiecesRow.domain false) (Rows.splitPiecesSpec.post enc Try.prog Try.f4 false true false false) := by
  refine returnsInHanded_of_change (C := Try.checked) own started (by kernel_rfl) Try.func4
    (ChangeSpec.witness6 (enc := enc) (C := Try.checked) false ⟨#[], #[.agg #[.int .u64 0, .int .u64 0, .int .i64 0, .int .i64 0], .int .i64 0], []⟩ 8 (by kernel_rfl) (by kernel_rfl) (by kernel_rfl) (by kernel_rfl)) ?_
  intro W base args ds gs before hval0 hW hcnd _
  have hval : ∀ (j : Nat) t v, Try.f4.params[j]? = some t → args[j]? = some v → Value.okWide Try.prog W .any base t v := hval0
  have hW' := hW
  obtain ⟨p, q, hA0, hV, rfl, hfz, hnd⟩ := hW
  have hA : DataW.TrodAll enc Try.prog W 0 (fun _ => true) true Try.f4.params.toList args.toList ds p := hA0
  rw [Try.params4] at hA hval
  obtain ⟨v0, vs0, d0, ds0, p0, q0, hargs, rfl, rfl, h0, r0⟩ := trodAll_cons hA
  obtain ⟨v1, vs1, d1, ds1, p1, q1, rfl, rfl, rfl, h1, r1⟩ := trodAll_cons r0
  obtain ⟨rfl, rfl, rfl⟩ := trodAll_nil r1
  obtain rfl : args = #[v0, v1] := by cases args; simp_all
  obtain ⟨rfl, rfl⟩ := trodVars_none hV
  have k0 := h0
  have lt0 : ∀ x ∈ p0, x.block < W.heap.size := by obtain ⟨m, hm⟩ := k0; exact DataW.trod_lt m _ _ _ hm
  obtain ⟨x0, y0, c0, n0, rfl, u0, w0, s0, t0⟩ := open_ax (hval 0 24 v0 rfl rfl) h0
  obtain ⟨a1, rfl, rfl, rfl, w1⟩ := open_int Try.underlying3 (hval 1 3 v1 rfl rfl) h1
  clear hA0 hval0
  refine (spieces_walk W x0 y0 c0 n0 a1 u0 w0 s0 t0 (bounds_i64 w1)).mono fun e W' ⟨he, bel⟩ => ?_
  subst he
  exact ⟨_, rfl, _, _, _, [], _, [], hW', trodAll_mk1 (shut_bool Try.underlying4 _), (trodAll_cons_mk (Below.trod laidOut (by kernel_rfl) (of_decide_eq_true (by kernel_rfl)) k0 bel lt0) (trodAll_cons_mk (shut_int Try.underlying3 w1) trodAll_mk0)), rfl, bel.frame _, fun h => by cases h⟩

theorem spieces_over : Rows.splitPiecesRow.holds Try.pinned (OpenSpec.ofChange Rows.splitPiecesSpec) :=
  OpenClaim.holds_of_wide 4 Try.f4 rfl rfl rfl rfl rfl rfl rfl ⟨rfl, rfl, rfl, rfl, rfl⟩ rfl rfl rfl rfl rfl (by kernel_rfl) Try.func4 (by kernel_rfl)
    (of_decide_eq_true (by kernel_rfl)) (by unfold Func.isWrapper; first | (rw [if_pos (by decide +kernel)]; kernel_rfl) | (rw [if_neg (by decide +kernel)]; exact ⟨rfl, rfl⟩))
    (fun os started H enc _ => spieces_lifted os started H enc)

theorem spieces_said : Rows.SplitPiecesSaid := spieces_over
end Go.Proofs.Ytldpignnahokdaa
