/-
  The reference of layer 15: Write, Tick, Lines. Plain: what the reference's steps leave, as words (layer 16). The reference of layer 16: Read, Write, Wire.
-/
import Derived.Test.YtfjdalepaacmgaaGreatYao
import Derived.Test.YtfjdalepaacmgaaGreatYap
import Derived.Test.YtfjdalepaacmgaaGreatYag
set_option maxRecDepth 20000
namespace Go.Proofs.YtfjdalepaacmgaaGreat
open Go.ChangeShapes Go.WideShapes Go.ChangeAt Go.RowKit

/-- The reference's value beside a cell for the result. -/
structure XrAt (w w' : World) (bx br : Nat) (n : Nat) (ws : List Int) : Prop where
  x : XcAt w' bx n ws
  r : CsAt w' br X15 (x15V 0 (Ct.newW 0))
  bel : Below w.heap.size w w'
section
variable {w w' : World} {bx br n : Nat} {ws : List Int}
theorem XrAt.setW (h : XrAt w w' bx br n ws) (hge : w.heap.size ≤ bx) (hne : br ≠ bx) {i : Nat} (hi : i < 9) (v : Int) (hk : Ct.Ok n (ws.set i v)) : XrAt w (w'.setCell ⟨bx, i + 1, none⟩ (.int .u64 v)) bx br n (ws.set i v) :=
  ⟨h.x.setW hi v hk, h.r.far hne _, h.bel.setCell hge _⟩
theorem XrAt.setB (h : XrAt w w' bx br n ws) (hge : w.heap.size ≤ bx) (hne : br ≠ bx) {i : Nat} (hi : i < 8) (v : Int) (hk : Ct.Ok n (ws.set (9 + i) v)) : XrAt w (w'.setCell ⟨bx, i + 10, none⟩ (.bool (v == 1))) bx br n (ws.set (9 + i) v) :=
  ⟨h.x.setB hi v hk, h.r.far hne _, h.bel.setCell hge _⟩
theorem XrAt.new (w : World) (hk : Ct.Ok n ws) : XrAt w ((w.alloc (Obj.cells (x15V n ws) X15)).alloc (Obj.cells (x15V 0 (Ct.newW 0)) X15)) w.heap.size (w.heap.size + 1) n ws := by
  have hb1 := (Below.refl w.heap.size w).alloc (Nat.le_refl _) (Obj.cells (x15V n ws) X15)
  have e : (w.alloc (Obj.cells (x15V n ws) X15)).heap.size = w.heap.size + 1 := by simp
  refine ⟨(XcAt.box w hk).low ((Below.refl _ _).alloc (Nat.le_refl _) _), ?_, hb1.alloc hb1.size _⟩
  have := CsAt.new (w.alloc (Obj.cells (x15V n ws) X15)) X15 (x15V 0 (Ct.newW 0))
  rw [e] at this
  exact this
end
theorem iXok {n : Nat} {ws : List Int} (h : Ct.Ok n ws) : (Tryz.prog.info? X15).map (·.size) = some (x15V n ws).size := iX15 h.len
theorem size_ok {n : Nat} {ws : List Int} (h : Ct.Ok n ws) : (x15V 0 (Ct.newW 0)).size = (x15V n ws).size := by rw [x15V_size rfl, x15V_size h.len]
set_option maxRecDepth 100000 in
set_option maxHeartbeats 8000000 in
theorem rwrite15_c (n : Nat) (ws : List Int) (hk : Ct.Ok n ws) (off size v : Int) (o0 : 0 ≤ off) (v0 : 0 ≤ v) (v1 : v ≤ 18446744073709551615) (w : World) :
    Calls Tryz.prog 35 #[.agg (x15V n ws), .int .u64 off, .int .i64 size, .int .u64 v] w fun e w' => e = .returned (.tuple #[.agg (x15V n (Ct.writeC n ws off size v)), .bool (Ct.is n off size)]) ∧ Below w.heap.size w w' := by
  have HX := Lib.hid (XrAt.new w hk)
  have hz := zero_x15
  have hn8 := hk.n8
  have HAT := Lib.hid (rat15_c n hn8 off size o0)
  have hl := Ct.at_lt (n := n) (size := size) o0
  have HOK := Lib.hid (Ct.write_ok hk o0 size ⟨v0, v1⟩)
  have HWD := Lib.hid (show Ct.writeC n ws off size v = if (Ct.at_ n off size).1 = 0 then ws else if (Ct.at_ n off size).1 = 1 then ws.set (9 + (Ct.at_ n off size).2.1) (v % 2)
    else ws.set (Ct.idx (Ct.at_ n off size).1 (Ct.at_ n off size).2.1) (Ct.with_ (ws.getD (Ct.idx (Ct.at_ n off size).1 (Ct.at_ n off size).2.1) 0) (Ct.at_ n off size).2.2 v) from rfl)
  have HIS := Lib.hid (show Ct.is n off size = decide ((Ct.at_ n off size).1 ≠ 0) from rfl)
  have HRG := Lib.hid hk.rng
  rw [HWD.out] at HOK ⊢
  rw [HIS.out]
  generalize Ct.at_ n off size = t at *
  obtain ⟨t1, h, b⟩ := t
  simp only at hl HOK HWD HIS ⊢
  have ht : t1 = 0 ∨ (t1 = 1 ∧ h < n) ∨ (t1 = 2 ∧ h < n) ∨ (t1 = 3) := by omega
  clear hl hk HWD HIS
  rcases ht with rfl | ⟨rfl, hh⟩ | ⟨rfl, hh⟩ | rfl
  · simp only [if_true]
    go_enter Tryz.func35, Tryz.ntmps35
    go_upto_region 1 with fail
    generalize (w.alloc (Obj.cells (x15V n ws) X15)).alloc (Obj.cells (x15V 0 (Ct.newW 0)) X15) = w2 at *
    clear hz
    have q0 := HX.out.x.n0
    go_wp2_with fail
    refine (HAT.out w2).mono ?_
    rintro e w3 ⟨rfl, rfl⟩
    simp only [atT]
    go_wp2_with (first | (refine wpList_load_row rfl X15 _ rfl w.heap.size rfl X15 _ (0, 0) _ HX.out.x.row Tryz.underlying42 rfl (iXok HX.out.x.ok) ?_) | (refine wpList_store_row rfl X15 _ _ rfl (w.heap.size + 1) (x15V n (ws)) rfl rfl X15 (x15V 0 (Ct.newW 0)) HX.out.r (iXok HX.out.x.ok) (size_ok HX.out.x.ok) x15V_one ?_))
    exact bodyPost_ret (results_cb X15 Tryz.results35 _ _ (w.heap.size + 1) _ _ rfl rfl (run_loadVar_row _ _ X15 X15 _ (0, 0) _ (HX.out.r.row _) Tryz.underlying42 rfl (iXok HX.out.x.ok))) rfl ⟨rfl, below_setRow HX.out.bel (by omega) _⟩
  · simp only [Nat.reduceEqDiff, if_false, if_true] at HOK ⊢
    go_enter Tryz.func35, Tryz.ntmps35
    go_upto_region 1 with fail
    generalize (w.alloc (Obj.cells (x15V n ws) X15)).alloc (Obj.cells (x15V 0 (Ct.newW 0)) X15) = w2 at *
    clear hz
    have q0 := HX.out.x.n0
    have q := HX.out.x.cb (i := h) (by omega)
    have f := HX.out.x.row.frozen (10 + h)
    have HX2 := Lib.hid (HX.out.setB (Nat.le_refl _) (by omega) (i := h) (by omega) (v % 2) HOK.out)
    rw [show h + 10 = 10 + h by omega] at q HX2
    have gh : (h : Int) < 8 := by omega
    generalize (ws.getD (9 + h) 0 == 1) = old at *
    go_wp2_with fail
    refine (HAT.out w2).mono ?_
    rintro e w3 ⟨rfl, rfl⟩
    simp only [atT]
    go_wp2_with (first | (refine wpList_load_row rfl X15 _ rfl w.heap.size rfl X15 _ (0, 0) _ HX2.out.x.row Tryz.underlying42 rfl (iXok HX2.out.x.ok) ?_) | (refine wpList_store_row rfl X15 _ _ rfl (w.heap.size + 1) (x15V n (ws.set (9 + h) (v % 2))) rfl rfl X15 (x15V 0 (Ct.newW 0)) HX2.out.r (iXok HX2.out.x.ok) (size_ok HX2.out.x.ok) x15V_one ?_))
    exact bodyPost_ret (results_cb X15 Tryz.results35 _ _ (w.heap.size + 1) _ _ rfl rfl (run_loadVar_row _ _ X15 X15 _ (0, 0) _ (HX2.out.r.row _) Tryz.underlying42 rfl (iXok HX2.out.x.ok))) rfl ⟨rfl, below_setRow HX2.out.bel (by omega) _⟩
  · simp only [Nat.reduceEqDiff, if_false] at HOK ⊢
    rw [show Ct.idx 2 h = 1 + h from rfl] at HOK ⊢
    have hr := HRG.out (1 + h)
    obtain ⟨x, hx⟩ : ∃ x, ws.getD (1 + h) 0 = x := ⟨_, rfl⟩
    rw [hx] at HOK hr ⊢
    go_enter Tryz.func35, Tryz.ntmps35
    go_upto_region 1 with fail
    generalize (w.alloc (Obj.cells (x15V n ws) X15)).alloc (Obj.cells (x15V 0 (Ct.newW 0)) X15) = w2 at *
    clear hz
    have q0 := HX.out.x.n0
    have q := HX.out.x.cw (i := 1 + h) (by omega)
    have f := HX.out.x.row.frozen (2 + h)
    have HX2 := Lib.hid (HX.out.setW (Nat.le_refl _) (by omega) (i := 1 + h) (by omega) (Ct.with_ x b v) HOK.out)
    rw [show 1 + h + 1 = 2 + h by omega, hx] at q
    rw [show 1 + h + 1 = 2 + h by omega] at HX2
    have gh : (h : Int) < 8 := by omega
    clear hx
    go_wp2_with fail
    refine (HAT.out w2).mono ?_
    rintro e w3 ⟨rfl, rfl⟩
    simp only [atT]
    go_wp2_with fail
    refine (with_c x b v w3 hr.1 hr.2 v0 v1).mono ?_
    rintro e w4 ⟨rfl, rfl⟩
    go_wp2_with (first | (refine wpList_load_row rfl X15 _ rfl w.heap.size rfl X15 _ (0, 0) _ HX2.out.x.row Tryz.underlying42 rfl (iXok HX2.out.x.ok) ?_) | (refine wpList_store_row rfl X15 _ _ rfl (w.heap.size + 1) (x15V n (ws.set (1 + h) (Ct.with_ x b v))) rfl rfl X15 (x15V 0 (Ct.newW 0)) HX2.out.r (iXok HX2.out.x.ok) (size_ok HX2.out.x.ok) x15V_one ?_))
    exact bodyPost_ret (results_cb X15 Tryz.results35 _ _ (w.heap.size + 1) _ _ rfl rfl (run_loadVar_row _ _ X15 X15 _ (0, 0) _ (HX2.out.r.row _) Tryz.underlying42 rfl (iXok HX2.out.x.ok))) rfl ⟨rfl, below_setRow HX2.out.bel (by omega) _⟩
  · simp only [Nat.reduceEqDiff, if_false] at HOK ⊢
    rw [show Ct.idx 3 h = 0 from rfl] at HOK ⊢
    have hr := HRG.out 0
    obtain ⟨x, hx⟩ : ∃ x, ws.getD 0 0 = x := ⟨_, rfl⟩
    rw [hx] at HOK hr ⊢
    go_enter Tryz.func35, Tryz.ntmps35
    go_upto_region 1 with fail
    generalize (w.alloc (Obj.cells (x15V n ws) X15)).alloc (Obj.cells (x15V 0 (Ct.newW 0)) X15) = w2 at *
    clear hz
    have q0 := HX.out.x.n0
    have q := HX.out.x.cw (i := 0) (by omega)
    have f := HX.out.x.row.frozen 1
    have HX2 := Lib.hid (HX.out.setW (Nat.le_refl _) (by omega) (i := 0) (by omega) (Ct.with_ x b v) HOK.out)
    rw [hx] at q
    clear hx
    go_wp2_with fail
    refine (HAT.out w2).mono ?_
    rintro e w3 ⟨rfl, rfl⟩
    simp only [atT]
    go_wp2_with fail
    refine (with_c x b v w3 hr.1 hr.2 v0 v1).mono ?_
    rintro e w4 ⟨rfl, rfl⟩
    go_wp2_with (first | (refine wpList_load_row rfl X15 _ rfl w.heap.size rfl X15 _ (0, 0) _ HX2.out.x.row Tryz.underlying42 rfl (iXok HX2.out.x.ok) ?_) | (refine wpList_store_row rfl X15 _ _ rfl (w.heap.size + 1) (x15V n (ws.set 0 (Ct.with_ x b v))) rfl rfl X15 (x15V 0 (Ct.newW 0)) HX2.out.r (iXok HX2.out.x.ok) (size_ok HX2.out.x.ok) x15V_one ?_))
    exact bodyPost_ret (results_cb X15 Tryz.results35 _ _ (w.heap.size + 1) _ _ rfl rfl (run_loadVar_row _ _ X15 X15 _ (0, 0) _ (HX2.out.r.row _) Tryz.underlying42 rfl (iXok HX2.out.x.ok))) rfl ⟨rfl, below_setRow HX2.out.bel (by omega) _⟩
set_option maxRecDepth 100000 in
set_option maxHeartbeats 8000000 in
theorem rtick15_c (n : Nat) (ws : List Int) (hk : Ct.Ok n ws) (t : Int) (g0 : -9223372036854775808 ≤ t) (g1 : t ≤ 9223372036854775807) (w : World) :
    Calls Tryz.prog 39 #[.agg (x15V n ws), .int .i64 t] w fun e w' => e = .returned (.agg (x15V n (Ct.tickC n ws t))) ∧ Below w.heap.size w w' := by
  have HX := Lib.hid (XrAt.new w hk)
  have hz := zero_x15
  have hn8 := hk.n8
  have HOK := Lib.hid (Ct.tick_ok hk t)
  have hr := hk.rng 0
  by_cases ht : 0 < t
  · have e0 : decide (t > 0) = true := by simpa using ht
    by_cases hn : 0 < n
    · have HE := Lib.hid (show Ct.tickC n ws t = ws.set 0 ((ws.getD 0 0 + t) % 18446744073709551616) by unfold Ct.tickC; rw [if_pos ⟨ht, hn⟩])
      rw [HE.out, ← IntKind.wrap_u64] at HOK ⊢
      have e1 : decide ((n : Int) > 0) = true := by simp; omega
      obtain ⟨x, hx⟩ : ∃ x, ws.getD 0 0 = x := ⟨_, rfl⟩
      rw [hx] at HOK hr ⊢
      clear hk HE
      go_enter Tryz.func39, Tryz.ntmps39
      go_upto_region 1 with fail
      generalize (w.alloc (Obj.cells (x15V n ws) X15)).alloc (Obj.cells (x15V 0 (Ct.newW 0)) X15) = w2 at *
      have q0 := HX.out.x.n0
      have q := HX.out.x.cw (i := 0) (by omega)
      rw [hx] at q
      have f := HX.out.x.row.frozen 1
      have HX2 := Lib.hid (HX.out.setW (Nat.le_refl _) (by omega) (i := 0) (by omega) (IntKind.u64.wrap (x + t)) HOK.out)
      clear hz hx
      go_wp2_with (first | (refine wpList_load_row rfl X15 _ rfl w.heap.size rfl X15 _ (0, 0) _ HX2.out.x.row Tryz.underlying42 rfl (iXok HX2.out.x.ok) ?_) | (refine wpList_store_row rfl X15 _ _ rfl (w.heap.size + 1) (x15V n (ws.set 0 (IntKind.u64.wrap (x + t)))) rfl rfl X15 (x15V 0 (Ct.newW 0)) HX2.out.r (iXok HX2.out.x.ok) (size_ok HX2.out.x.ok) x15V_one ?_))
      exact bodyPost_ret (results_cell_row Tryz.results39 _ _ _ _ _ _ _ rfl (HX2.out.r.row _) Tryz.underlying42 rfl (iXok HX2.out.x.ok)) rfl ⟨rfl, below_setRow HX2.out.bel (by omega) _⟩
    · have HE := Lib.hid (show Ct.tickC n ws t = ws by unfold Ct.tickC; rw [if_neg (by omega)])
      rw [HE.out] at HOK ⊢
      have e1 : decide ((n : Int) > 0) = false := by simp; omega
      clear hk HE
      go_enter Tryz.func39, Tryz.ntmps39
      go_upto_region 1 with fail
      generalize (w.alloc (Obj.cells (x15V n ws) X15)).alloc (Obj.cells (x15V 0 (Ct.newW 0)) X15) = w2 at *
      have q0 := HX.out.x.n0
      clear hz
      go_wp2_with (first | (refine wpList_load_row rfl X15 _ rfl w.heap.size rfl X15 _ (0, 0) _ HX.out.x.row Tryz.underlying42 rfl (iXok HX.out.x.ok) ?_) | (refine wpList_store_row rfl X15 _ _ rfl (w.heap.size + 1) (x15V n (ws)) rfl rfl X15 (x15V 0 (Ct.newW 0)) HX.out.r (iXok HX.out.x.ok) (size_ok HX.out.x.ok) x15V_one ?_))
      exact bodyPost_ret (results_cell_row Tryz.results39 _ _ _ _ _ _ _ rfl (HX.out.r.row _) Tryz.underlying42 rfl (iXok HX.out.x.ok)) rfl ⟨rfl, below_setRow HX.out.bel (by omega) _⟩
  · have e0 : decide (t > 0) = false := by simpa using ht
    have HE := Lib.hid (show Ct.tickC n ws t = ws by unfold Ct.tickC; rw [if_neg (by omega)])
    rw [HE.out] at HOK ⊢
    clear hk HE
    go_enter Tryz.func39, Tryz.ntmps39
    go_upto_region 1 with fail
    generalize (w.alloc (Obj.cells (x15V n ws) X15)).alloc (Obj.cells (x15V 0 (Ct.newW 0)) X15) = w2 at *
    have q0 := HX.out.x.n0
    clear hz
    go_wp2_with (first | (refine wpList_load_row rfl X15 _ rfl w.heap.size rfl X15 _ (0, 0) _ HX.out.x.row Tryz.underlying42 rfl (iXok HX.out.x.ok) ?_) | (refine wpList_store_row rfl X15 _ _ rfl (w.heap.size + 1) (x15V n (ws)) rfl rfl X15 (x15V 0 (Ct.newW 0)) HX.out.r (iXok HX.out.x.ok) (size_ok HX.out.x.ok) x15V_one ?_))
    exact bodyPost_ret (results_cell_row Tryz.results39 _ _ _ _ _ _ _ rfl (HX.out.r.row _) Tryz.underlying42 rfl (iXok HX.out.x.ok)) rfl ⟨rfl, below_setRow HX.out.bel (by omega) _⟩
set_option maxHeartbeats 4000000 in
theorem rlines15_c (n : Nat) (ws : List Int) (hk : Ct.Ok n ws) (hart : Int) (w : World) :
    Calls Tryz.prog 74 #[.agg (x15V n ws), .int .i64 hart] w fun e w' => e = .returned (.int .u64 (Ct.lineC n ws hart)) ∧ Below w.heap.size w w' := by
  have HX := Lib.hid (XcAt.box w hk)
  have HB := Lib.hid ((Below.refl w.heap.size w).alloc (Nat.le_refl _) (Obj.cells (x15V n ws) X15))
  have hn8 := hk.n8
  by_cases hneg : hart < 0
  · have HE := Lib.hid (show Ct.lineC n ws hart = 0 by unfold Ct.lineC; rw [if_neg (by omega)])
    rw [HE.out]
    have e0 : decide (hart < 0) = true := by simpa using hneg
    clear hk
    go_enter Tryz.func74, Tryz.ntmps74
    go_upto_region 1 with fail
    generalize w.alloc (Obj.cells (x15V n ws) X15) = w1 at *
    go_wp2_with fail
    go_ret
    exact ⟨rfl, HB.out⟩
  · have e0 : decide (hart < 0) = false := by simpa using hneg
    obtain ⟨k, rfl⟩ := Int.eq_ofNat_of_zero_le (by omega : 0 ≤ hart)
    by_cases hlt : k < n
    · have hbit := hk.bit k
      have HE := Lib.hid (show Ct.lineC n ws (k : Int) = (if ws.getD (9 + k) 0 = 1 then 8 else 0) + (if ws.getD (1 + k) 0 ≤ ws.getD 0 0 then 128 else 0) by unfold Ct.lineC; rw [if_pos (by omega), Int.toNat_natCast])
      rw [HE.out]
      have e1 : decide ((k : Int) ≥ (n : Int)) = false := by simp; omega
      have gk : (k : Int) < 8 := by omega
      have q0 := HX.out.n0
      have q1 := HX.out.cb (i := k) (by omega)
      have q2 := HX.out.cw (i := 1 + k) (by omega)
      have q3 := HX.out.cw (i := 0) (by omega)
      rw [show k + 10 = 10 + k by omega] at q1
      rw [show 1 + k + 1 = 2 + k by omega] at q2
      clear HE hk
      generalize ws.getD (9 + k) 0 = s at *
      generalize ws.getD (1 + k) 0 = c at *
      generalize ws.getD 0 0 = t at *
      by_cases hct : c ≤ t
      · have e2 : decide (c ≤ t) = true := by simpa using hct
        rw [if_pos hct]
        rcases hbit with rfl | rfl
        all_goals
          go_enter Tryz.func74, Tryz.ntmps74
          go_upto_region 1 with fail
          generalize w.alloc (Obj.cells (x15V n ws) X15) = w1 at *
          go_wp2_with fail
          go_quiet (fail)
          have HB2 := Lib.hid (below_dnC HB.out nq)
          go_wp2_with fail
          go_ret
          exact ⟨rfl, HB2.out⟩
      · have e2 : decide (c ≤ t) = false := by simpa using hct
        rw [if_neg hct]
        rcases hbit with rfl | rfl
        all_goals
          go_enter Tryz.func74, Tryz.ntmps74
          go_upto_region 1 with fail
          generalize w.alloc (Obj.cells (x15V n ws) X15) = w1 at *
          go_wp2_with fail
          go_quiet (fail)
          have HB2 := Lib.hid (below_dnC HB.out nq)
          go_wp2_with fail
          go_ret
          exact ⟨rfl, HB2.out⟩
    · have HE := Lib.hid (show Ct.lineC n ws (k : Int) = 0 by unfold Ct.lineC; rw [if_neg (by omega)])
      rw [HE.out]
      have e1 : decide ((k : Int) ≥ (n : Int)) = true := by simp; omega
      have q0 := HX.out.n0
      clear hk
      go_enter Tryz.func74, Tryz.ntmps74
      go_upto_region 1 with fail
      generalize w.alloc (Obj.cells (x15V n ws) X15) = w1 at *
      go_wp2_with fail
      go_ret
      exact ⟨rfl, HB.out⟩
end Go.Proofs.YtfjdalepaacmgaaGreat
set_option maxRecDepth 20000
namespace Go.Proofs.YtfjdalepaacmgaaGreat
open Wd
namespace Pc
/-- A word with one bit laid. -/
def stb (x : Int) (i : Nat) (q : Bool) : Int := word fun j => if i = j then q else tb x j
theorem tb_stb {x : Int} {i : Nat} {q : Bool} {j : Nat} (hj : j < 32) : tb (stb x i q) j = if i = j then q else tb x j := by
  rw [stb, tb_word, show decide (j < 64) = true by simp; omega, Bool.true_and]
theorem tb_oneN {s : Nat} (h1 : 1 ≤ s) (h2 : s < 32) (j : Nat) : tb (one (s : Int)) j = decide (s = j) := by
  rw [tb_one, show decide (1 ≤ (s : Int) ∧ (s : Int) < 32) = true by simp; omega, Bool.and_true]
  apply decide_eq_decide.2
  omega
section
variable {x y z u : Int} {s j : Nat}
theorem stb_no (hx : St x) (h1 : 1 ≤ s) (h2 : s < 32) (hj : j < 32) : tb (stb x s false) j = tb (Go.bits .andNot .u64 x (one (s : Int))) j := by
  rw [tb_stb hj, tb_andNot hx.lo hx.hi (one_range _).1 (one_range _).2, tb_oneN h1 h2]
  by_cases e : s = j
  · simp [e]
  · simp [e]
theorem stb_or (hx : St x) (h1 : 1 ≤ s) (h2 : s < 32) (hj : j < 32) : tb (stb x s true) j = tb (Go.bits .or .u64 x (one (s : Int))) j := by
  rw [tb_stb hj, tb_or hx.lo hx.hi (one_range _).1 (one_range _).2, tb_oneN h1 h2]
  by_cases e : s = j
  · simp [e]
  · simp [e]
theorem stb_noor (hx : St x) (h1 : 1 ≤ s) (h2 : s < 32) (hj : j < 32) : tb (stb x s true) j = tb (Go.bits .or .u64 (Go.bits .andNot .u64 x (one (s : Int))) (one (s : Int))) j := by
  have ha := hx.andNot (one_range (s : Int)).1 (one_range _).2
  rw [tb_stb hj, tb_or ha.lo ha.hi (one_range _).1 (one_range _).2, tb_andNot hx.lo hx.hi (one_range _).1 (one_range _).2, tb_oneN h1 h2]
  by_cases e : s = j
  · simp [e]
  · simp [e]
theorem tb_orno (hx : St x) (hy : St y) (h1 : 1 ≤ s) (h2 : s < 32) : tb (Go.bits .or .u64 x (Go.bits .andNot .u64 (one (s : Int)) y)) j = (tb x j || (decide (s = j) && !tb y j)) := by
  have ho := St.one (s : Int)
  have ha := ho.andNot hy.lo hy.hi
  rw [tb_or hx.lo hx.hi ha.lo ha.hi, tb_andNot ho.lo ho.hi hy.lo hy.hi, tb_oneN h1 h2]
theorem stb_orno (hx : St x) (hy : St y) (h1 : 1 ≤ s) (h2 : s < 32) (hs : tb y s = false) (hj : j < 32) : tb (stb x s true) j = tb (Go.bits .or .u64 x (Go.bits .andNot .u64 (one (s : Int)) y)) j := by
  rw [tb_stb hj, tb_orno hx hy h1 h2]
  by_cases e : s = j
  · rw [← e]; simp [hs]
  · simp [e]
theorem same_orno (hx : St x) (hy : St y) (h1 : 1 ≤ s) (h2 : s < 32) (hs : tb y s = true) : tb x j = tb (Go.bits .or .u64 x (Go.bits .andNot .u64 (one (s : Int)) y)) j := by
  rw [tb_orno hx hy h1 h2]
  by_cases e : s = j
  · rw [← e]; simp [hs]
  · simp [e]
end
section
variable {n : Nat} {ws : List Int}
theorem tri_id (hl : ws.length = 67) : tri ws (ws.getD 0 0) (ws.getD 1 0) (ws.getD 2 0) = ws := by
  unfold tri
  rw [set0 (by omega), set1 (by omega), set2 (by omega)]
theorem tri_two (hl : ws.length = 67) (y : Int) : ws.set 2 y = tri ws (ws.getD 0 0) (ws.getD 1 0) y := by
  unfold tri
  rw [set0 (by omega), set1 (by omega)]
theorem tri_01 (hl : ws.length = 67) (a b : Int) : (ws.set 0 a).set 1 b = tri ws a b (ws.getD 2 0) := by
  unfold tri
  have e : ((ws.set 0 a).set 1 b).getD 2 0 = ws.getD 2 0 := by rw [get_set (by simp; omega), if_neg (by omega), get_set (by omega), if_neg (by omega)]
  have := set2 (ws := (ws.set 0 a).set 1 b) (by simp; omega)
  rw [e] at this
  exact this.symm
theorem tb_endedN (h : Ok n ws) {c : Nat} (hc : c < 16) {s : Nat} (h1 : 1 ≤ s) (h2 : s < 32) (j : Nat) : tb (ended ws c (s : Int)) j = (decide (s = j) && tb (ws.getD (35 + c) 0) s && tb (ws.getD 2 0) s) := by
  rw [tb_ended h hc, tb_oneN h1 h2]
  by_cases e : s = j
  · rw [e]
  · simp [e]
end
end Pc
theorem x16_bits {n : Nat} {vs us : List Int} (h0 : ∀ j, j < 32 → tb (vs.getD 0 0) j = tb (us.getD 0 0) j) (h1 : ∀ j, j < 32 → tb (vs.getD 1 0) j = tb (us.getD 1 0) j) (h2 : ∀ j, j < 32 → tb (vs.getD 2 0) j = tb (us.getD 2 0) j)
    (hp : ∀ i, i < 32 → vs.getD (3 + i) 0 = us.getD (3 + i) 0) (ho : ∀ c, c < 16 → ∀ j, j < 32 → tb (vs.getD (35 + c) 0) j = tb (us.getD (35 + c) 0) j) (hl : ∀ c, c < 16 → vs.getD (51 + c) 0 = us.getD (51 + c) 0) : x16V n vs = x16V n us := by
  unfold x16V
  congr 1
  refine List.map_congr_left fun j hj => ?_
  have hj := List.mem_range.1 hj
  exact xc_same hj (fun _ _ => hp _ (by omega)) (fun _ _ => h0 _ (by omega)) (fun _ _ => h1 _ (by omega)) (fun _ _ => h2 _ (by omega)) (fun _ _ => ho _ (by omega) _ (by omega)) (fun _ => hl _ (by omega))
theorem x16_tri {n : Nat} {ws : List Int} (hl : ws.length = 67) {a b c a' b' c' : Int} (ha : ∀ j, j < 32 → tb a j = tb a' j) (hb : ∀ j, j < 32 → tb b j = tb b' j) (hc : ∀ j, j < 32 → tb c j = tb c' j) : x16V n (Pc.tri ws a b c) = x16V n (Pc.tri ws a' b' c') := by
  have g := Pc.tri_get hl a b c
  have g' := Pc.tri_get hl a' b' c'
  refine x16_bits (fun j hj => ?_) (fun j hj => ?_) (fun j hj => ?_) (fun i hi => ?_) (fun c hc j hj => ?_) (fun c hc => ?_)
  · rw [g, g', if_pos rfl, if_pos rfl]; exact ha j hj
  · rw [g, g', if_neg (by omega), if_pos rfl, if_neg (by omega), if_pos rfl]; exact hb j hj
  · rw [g, g', if_neg (by omega), if_neg (by omega), if_pos rfl, if_neg (by omega), if_neg (by omega), if_pos rfl]; exact hc j hj
  · rw [g, g', if_neg (by omega), if_neg (by omega), if_neg (by omega), if_neg (by omega), if_neg (by omega), if_neg (by omega)]
  · rw [g, g', if_neg (by omega), if_neg (by omega), if_neg (by omega), if_neg (by omega), if_neg (by omega), if_neg (by omega)]
  · rw [g, g', if_neg (by omega), if_neg (by omega), if_neg (by omega), if_neg (by omega), if_neg (by omega), if_neg (by omega)]
section
variable {n : Nat} {ws : List Int}
open Pc
theorem x_claim (h : Ok n ws) {c m : Nat} (hm : bst ws c 0 = m) (h1 : 1 ≤ m) (h2 : m < 32) : x16V n ((ws.set 1 (stb (ws.getD 1 0) m false)).set 2 (stb (ws.getD 2 0) m true)) = x16V n (claimP ws c) := by
  rw [tri_claim (by rw [h.len]; omega), claimP, hm]
  exact x16_tri h.len (fun _ _ => rfl) (fun j hj => stb_no h.wait h1 h2 hj) (fun j hj => stb_or h.serv h1 h2 hj)
theorem x_claim0 (h : Ok n ws) {c : Nat} (hm : bst ws c 0 = 0) : claimP ws c = ws := by
  rw [claimP, hm]
  have e1 : Go.bits .andNot .u64 (ws.getD 1 0) (one ((0 : Nat) : Int)) = ws.getD 1 0 := by
    have hs := h.wait.andNot (one_range ((0 : Nat) : Int)).1 (one_range _).2
    refine ext hs.lo hs.hi h.wait.lo h.wait.hi fun i _ => ?_
    rw [tb_andNot h.wait.lo h.wait.hi (one_range _).1 (one_range _).2, tb_one]
    simp
  have e2 : Go.bits .or .u64 (ws.getD 2 0) (one ((0 : Nat) : Int)) = ws.getD 2 0 := by
    have hs := h.serv.or (St.one ((0 : Nat) : Int))
    refine ext hs.lo hs.hi h.serv.lo h.serv.hi fun i _ => ?_
    rw [tb_or h.serv.lo h.serv.hi (one_range _).1 (one_range _).2, tb_one]
    simp
  rw [e1, e2, tri_id h.len]
theorem x_end (h : Ok n ws) {c : Nat} (hc : c < 16) {s : Nat} (h1 : 1 ≤ s) (h2 : s < 32) (ho : tb (ws.getD (35 + c) 0) s = true) (hs : tb (ws.getD 2 0) s = true) (hw : tb (ws.getD 0 0) s = true) :
    x16V n ((ws.set 2 (stb (ws.getD 2 0) s false)).set 1 (stb (ws.getD 1 0) s true)) = x16V n (endP ws c (s : Int)) := by
  have hE := ended_st h hc (s : Int)
  have hEw := hE.and h.wire.lo h.wire.hi
  rw [tri_end (by rw [h.len]; omega), endP]
  refine x16_tri h.len (fun _ _ => rfl) (fun j hj => ?_) (fun j hj => ?_)
  · rw [tb_stb hj, tb_or h.wait.lo h.wait.hi hEw.lo hEw.hi, tb_and hE.lo hE.hi h.wire.lo h.wire.hi, tb_endedN h hc h1 h2, ho, hs]
    by_cases e : s = j
    · rw [← e, hw]; simp
    · simp [e]
  · rw [tb_stb hj, tb_andNot h.serv.lo h.serv.hi hE.lo hE.hi, tb_endedN h hc h1 h2, ho, hs]
    by_cases e : s = j
    · simp [e]
    · simp [e]
theorem x_endOff (h : Ok n ws) {c : Nat} (hc : c < 16) {s : Nat} (h1 : 1 ≤ s) (h2 : s < 32) (ho : tb (ws.getD (35 + c) 0) s = true) (hs : tb (ws.getD 2 0) s = true) (hw : tb (ws.getD 0 0) s = false) :
    x16V n (ws.set 2 (stb (ws.getD 2 0) s false)) = x16V n (endP ws c (s : Int)) := by
  have hE := ended_st h hc (s : Int)
  have hEw := hE.and h.wire.lo h.wire.hi
  rw [tri_two h.len, endP]
  refine x16_tri h.len (fun _ _ => rfl) (fun j hj => ?_) (fun j hj => ?_)
  · rw [tb_or h.wait.lo h.wait.hi hEw.lo hEw.hi, tb_and hE.lo hE.hi h.wire.lo h.wire.hi, tb_endedN h hc h1 h2, ho, hs]
    by_cases e : s = j
    · rw [← e, hw]; simp
    · simp [e]
  · rw [tb_stb hj, tb_andNot h.serv.lo h.serv.hi hE.lo hE.hi, tb_endedN h hc h1 h2, ho, hs]
    by_cases e : s = j
    · simp [e]
    · simp [e]
theorem x_endNo (h : Ok n ws) {c : Nat} (hc : c < 16) {s : Int} (hno : ¬ (1 ≤ s ∧ s < 32) ∨ (tb (ws.getD (35 + c) 0) s.toNat = false ∨ tb (ws.getD 2 0) s.toNat = false)) : endP ws c s = ws := by
  have hE := ended_st h hc s
  have e0 : ended ws c s = 0 := by
    refine ext hE.lo hE.hi (by omega) (by omega) fun i _ => ?_
    rw [tb_ended h hc, tb_zero, tb_one]
    by_cases e : (i : Int) = s
    · have ei : s.toNat = i := by omega
      rw [ei] at hno
      rcases hno with hno | hno | hno
      · simp [hno]
      · rw [hno]; simp
      · rw [hno]; simp
    · simp [e]
  have z1 : Go.bits .or .u64 (ws.getD 1 0) (Go.bits .and .u64 0 (ws.getD 0 0)) = ws.getD 1 0 := by
    have ha := St.zero.and h.wire.lo h.wire.hi
    have hs := h.wait.or ha
    refine ext hs.lo hs.hi h.wait.lo h.wait.hi fun i _ => ?_
    rw [tb_or h.wait.lo h.wait.hi ha.lo ha.hi, tb_and (by omega) (by omega) h.wire.lo h.wire.hi, tb_zero]
    simp
  have z2 : Go.bits .andNot .u64 (ws.getD 2 0) 0 = ws.getD 2 0 := by
    have hs := h.serv.andNot (y := 0) (by omega) (by omega)
    refine ext hs.lo hs.hi h.serv.lo h.serv.hi fun i _ => ?_
    rw [tb_andNot h.serv.lo h.serv.hi (by omega) (by omega), tb_zero]
    simp
  rw [endP, e0, z1, z2, tri_id h.len]
theorem x_wireOff (h : Ok n ws) {s : Nat} (h1 : 1 ≤ s) (h2 : s < 32) : x16V n (ws.set 0 (stb (ws.getD 0 0) s false)) = x16V n (wireP ws (s : Int) false) := by
  rw [tri_off h.len, wireP, if_neg (by simp)]
  exact x16_tri h.len (fun j hj => stb_no h.wire h1 h2 hj) (fun _ _ => rfl) (fun _ _ => rfl)
theorem x_wireOn (h : Ok n ws) {s : Nat} (h1 : 1 ≤ s) (h2 : s < 32) (hs : tb (ws.getD 2 0) s = false) : x16V n ((ws.set 0 (stb (ws.getD 0 0) s true)).set 1 (stb (ws.getD 1 0) s true)) = x16V n (wireP ws (s : Int) true) := by
  rw [tri_01 h.len, wireP, if_pos rfl]
  exact x16_tri h.len (fun j hj => stb_noor h.wire h1 h2 hj) (fun j hj => stb_orno h.wait h.serv h1 h2 hs hj) (fun _ _ => rfl)
theorem x_wireHeld (h : Ok n ws) {s : Nat} (h1 : 1 ≤ s) (h2 : s < 32) (hs : tb (ws.getD 2 0) s = true) : x16V n (ws.set 0 (stb (ws.getD 0 0) s true)) = x16V n (wireP ws (s : Int) true) := by
  rw [tri_off h.len, wireP, if_pos rfl]
  exact x16_tri h.len (fun j hj => stb_noor h.wire h1 h2 hj) (fun j _ => same_orno h.wait h.serv h1 h2 hs) (fun _ _ => rfl)
/-- What is enabled while the reference lays it, source by source. -/
def onY (old v : Int) (k : Nat) : Int := word fun j => if 1 ≤ j ∧ j < k then tb v j else tb old j
theorem tb_onY {old v : Int} {k j : Nat} (hj : j < 32) : tb (onY old v k) j = if 1 ≤ j ∧ j < k then tb v j else tb old j := by
  rw [onY, tb_word, show decide (j < 64) = true by simp; omega, Bool.true_and]
theorem onY_next {old v : Int} {k : Nat} (h1 : 1 ≤ k) : ∀ j, j < 32 → tb (onY old v (k + 1)) j = if k = j then tb v k else tb (onY old v k) j := fun j hj => by
  rw [tb_onY hj, tb_onY hj]
  by_cases e : k = j
  · rw [if_pos e, if_pos (by omega), e]
  · rw [if_neg e]
    by_cases h : 1 ≤ j ∧ j < k
    · rw [if_pos h, if_pos (by omega)]
    · rw [if_neg h, if_neg (by omega)]
theorem x_on1 (h : Ok n ws) {c : Nat} (hc : c < 16) (v : Int) : x16V n ws = x16V n (ws.set (35 + c) (onY (ws.getD (35 + c) 0) v 1)) := by
  have g := get_set (l := ws) (i := 35 + c) (by rw [h.len]; omega) (onY (ws.getD (35 + c) 0) v 1)
  refine x16_bits (fun j hj => ?_) (fun j hj => ?_) (fun j hj => ?_) (fun i hi => ?_) (fun d hd j hj => ?_) (fun d hd => ?_)
  · rw [g, if_neg (by omega)]
  · rw [g, if_neg (by omega)]
  · rw [g, if_neg (by omega)]
  · rw [g, if_neg (by omega)]
  · rw [g]
    by_cases e : 35 + c = 35 + d
    · rw [if_pos e, tb_onY hj, if_neg (by omega), e]
    · rw [if_neg e]
  · rw [g, if_neg (by omega)]
theorem x_on32 (h : Ok n ws) {c : Nat} (hc : c < 16) {v : Int} (v0 : 0 ≤ v) (v1 : v < 18446744073709551616) : x16V n (ws.set (35 + c) (onY (ws.getD (35 + c) 0) v 32)) = x16V n (ws.set (35 + c) (Go.bits .and .u64 v (onesS 1 31))) := by
  have g := get_set (l := ws) (i := 35 + c) (by rw [h.len]; omega) (onY (ws.getD (35 + c) 0) v 32)
  have g' := get_set (l := ws) (i := 35 + c) (by rw [h.len]; omega) (Go.bits .and .u64 v (onesS 1 31))
  refine x16_bits (fun j hj => ?_) (fun j hj => ?_) (fun j hj => ?_) (fun i hi => ?_) (fun d hd j hj => ?_) (fun d hd => ?_)
  · rw [g, g', if_neg (by omega), if_neg (by omega)]
  · rw [g, g', if_neg (by omega), if_neg (by omega)]
  · rw [g, g', if_neg (by omega), if_neg (by omega)]
  · rw [g, g', if_neg (by omega), if_neg (by omega)]
  · rw [g, g']
    by_cases e : 35 + c = 35 + d
    · rw [if_pos e, if_pos e, tb_onY hj, tb_and v0 v1 (onesS_range _ _).1 (onesS_range _ _).2]
      have ho : tb (onesS 1 31) j = decide (1 ≤ j) := by
        unfold onesS
        rw [tb_word]
        by_cases h1 : 1 ≤ j
        · simp [inP, h1]; omega
        · simp [inP, h1]; omega
      rw [ho]
      by_cases h1 : 1 ≤ j
      · rw [if_pos ⟨h1, hj⟩]; simp [h1]
      · rw [if_neg (by omega), show j = 0 by omega]
        have := (h.en c hc).at0
        rw [this]; simp
    · rw [if_neg e, if_neg e]
  · rw [g, g', if_neg (by omega), if_neg (by omega)]
theorem set_set {l : List Int} (i : Nat) (x y : Int) : (l.set i x).set i y = l.set i y := by simp
/-- What v halved is, bit by bit. -/
theorem half_bit {v : Int} (v0 : 0 ≤ v) (k : Nat) : (v / 2 ^ k % 2 == 1) = tb v k := by
  have h3 := tb_div v0 k 0
  rw [Nat.zero_add] at h3
  rw [← h3, tb, Nat.testBit_zero]
  have h2 : 0 ≤ v / 2 ^ k := Int.ediv_nonneg v0 (Int.pow_nonneg (by omega))
  have h4 : ((v / 2 ^ k).toNat : Int) = v / 2 ^ k := Int.toNat_of_nonneg h2
  rw [show (v / 2 ^ k % 2 == 1) = decide (v / 2 ^ k % 2 = 1) from rfl]
  apply decide_eq_decide.2
  omega
end
end Go.Proofs.YtfjdalepaacmgaaGreat
set_option maxRecDepth 20000
namespace Go.Proofs.YtfjdalepaacmgaaGreat
open Go.ChangeShapes Go.WideShapes Go.ChangeAt Go.RowKit

theorem results_cbb {F : Func} {x y z : Tmp} (ty : TypeId) (hF : F.results = #[.cell x ty, .tmp y, .tmp z]) (tmps : Array Value) (w : World) (b : Nat) (cs : Array Value) (r u : Value) (h2 : tmps.getD x undef = .pointer (some ⟨b, 0, none⟩)) (h3 : tmps.getD y undef = r) (h4 : tmps.getD z undef = u)
    (hl : (loadVar ty ⟨b, 0, none⟩).run Tryz.prog w = .ok (.agg cs) w) :
    (results F tmps).run Tryz.prog w = .ok (.tuple #[.agg cs, r, u]) w := by
  have h2' : tmps[x]?.getD undef = .pointer (some ⟨b, 0, none⟩) := by simpa using h2
  have h3' : tmps[y]?.getD undef = r := by simpa using h3
  have h4' : tmps[z]?.getD undef = u := by simpa using h4
  simp [results, hF, h2', h3', h4', asAddr, hl]
/-- The reference's value beside a cell for the result. -/
structure XqAt (w w' : World) (n : Nat) (ws : List Int) : Prop where
  x : XpAt w' w.heap.size n ws
  r : CsAt w' (w.heap.size + 1) X16 (x16V 0 Pc.zeros)
  bel : Below w.heap.size w w'
section
variable {w w' w'' : World} {n : Nat} {ws vs : List Int}
theorem XpAt.frz {b : Nat} (h : XpAt w b n ws) (i : Nat) : w.frozen? ⟨b, i, none⟩ = false := CsAt.frozen h i
theorem XqAt.upd (h : XqAt w w' n ws) {i : Nat} {v : Value} (e : (x16V n ws).setIfInBounds i v = x16V n vs) : XqAt w (w'.setCell ⟨w.heap.size, i, none⟩ v) n vs :=
  ⟨h.x.upd e, h.r.far (by omega) _, h.bel.setCell (Nat.le_refl _) _⟩
theorem XqAt.low (h : XqAt w w' n ws) (hb : Below w'.heap.size w' w'') : XqAt w w'' n ws := ⟨h.x.low hb, h.r.low hb, h.bel.trans (hb.mono h.bel.size)⟩
theorem XqAt.drew (h : XqAt w w' n ws) : XqAt w w'.drew n ws := h.low (Below.refl _ _).drew
theorem XqAt.eq (h : XqAt w w' n ws) (e : x16V n ws = x16V n vs) : XqAt w w' n vs := ⟨by have := h.x; unfold XpAt at this ⊢; rw [← e]; exact this, h.r, h.bel⟩
theorem XqAt.new (w : World) (n : Nat) (ws : List Int) : XqAt w ((w.alloc (Obj.cells (x16V n ws) X16)).alloc (Obj.cells (x16V 0 Pc.zeros) X16)) n ws := by
  have hb1 := (Below.refl w.heap.size w).alloc (Nat.le_refl _) (Obj.cells (x16V n ws) X16)
  have e : (w.alloc (Obj.cells (x16V n ws) X16)).heap.size = w.heap.size + 1 := by simp
  refine ⟨(XpAt.box w n ws).low ((Below.refl _ _).alloc (Nat.le_refl _) _), ?_, hb1.alloc hb1.size _⟩
  have := CsAt.new (w.alloc (Obj.cells (x16V n ws) X16)) X16 (x16V 0 Pc.zeros)
  rw [e] at this
  exact this
/-- 32 bools of the reference's value, loaded. -/
theorem load_bits {W : World} {b : Nat} (h : XpAt W b n ws) (i : Nat) (x : Int) (hi : i + 32 ≤ 657) (hx : ∀ j, j < 32 → xc n ws (i + j) = .bool (Wd.tb x j)) : W.rangeAt b i (bV x).toList := fun j v hv => by
  have hj : j < 32 := by
    have := (List.getElem?_eq_some_iff.1 hv).1
    simpa [bV] using this
  have e : v = .bool (Wd.tb x j) := by
    have h1 := bV_at x hj
    rw [← Array.getElem?_toList, hv] at h1
    exact Option.some.inj h1
  rw [e, ← hx j hj]
  exact h.at_ (by omega)
theorem load_wait {W : World} {b : Nat} (h : XpAt W b n ws) : W.rangeAt b 65 (bV (ws.getD 1 0)).toList := load_bits h 65 _ (by omega) fun _ hj => xc_wait hj
theorem load_serv {W : World} {b : Nat} (h : XpAt W b n ws) : W.rangeAt b 97 (bV (ws.getD 2 0)).toList := load_bits h 97 _ (by omega) fun _ hj => xc_serv hj
theorem load_on {W : World} {b : Nat} (h : XpAt W b n ws) {c : Nat} (hc : c < 16) : W.rangeAt b (129 + c * 32) (bV (ws.getD (35 + c) 0)).toList := load_bits h _ _ (by omega) fun _ hj => xc_on hc hj
end
theorem info_61 : (Tryz.prog.info? T61).map (·.size) = some 32 := by kernel_rfl
theorem i61 {x : Int} : (Tryz.prog.info? T61).map (·.size) = some (bV x).size := by rw [bV_size]; exact info_61
theorem sz16 {n : Nat} {ws : List Int} : (x16V 0 Pc.zeros).size = (x16V n ws).size := by rw [x16_size, x16_size]
theorem exec_load_mid {P : Program} {o : Oper} {a : Act} {w : World} (ty : TypeId) (x : Operand) (ho : o.op = .load ty x) (b off : Nat) (hx : a.eval x = .pointer (some ⟨b, off, none⟩)) (cs : Array Value) (d : TypeDesc) (hg : w.rangeAt b off cs.toList)
    (hu : P.underlying ty = some d) (hd : d.isRow = true) (hi : (P.info? ty).map (·.size) = some cs.size) : (execOp a.eval o).run P w = .ok (.value (.agg cs)) w := by
  have e := run_loadVar_mid (P := P) w b off ty cs.toList d hg hu hd (by simpa using hi)
  unfold execOp
  simp only [ho, hx, Instr.loadAt, Instr.sureAddr, Sem.run_bind, Sem.run_pure, Result.andThen_ok, e, Array.toArray_toList]
theorem rword61_c (x : Int) (hx : Pc.St x) (w : World) : Calls Tryz.prog 69 #[.agg (bV x)] w fun e w' => e = .returned (.int .u64 x) ∧ Below w.heap.size w w' := rword_c x hx.lo hx.lt32 w
set_option maxRecDepth 100000 in
set_option maxHeartbeats 16000000 in
theorem rread16_c (n : Nat) (ws : List Int) (hk : Pc.Ok n ws) (off size : Int) (w : World) :
    Calls Tryz.prog 33 #[.agg (x16V n ws), .int .u64 off, .int .i64 size] w fun e w' => e = .returned (.tuple #[.agg (x16V n (Pc.readW n ws off size)), .int .u64 (Pc.readV n ws off size), .bool (Pc.is n off size)]) ∧ Below w.heap.size w w' := by
  have HX := Lib.hid (XqAt.new w n ws)
  have hz := zero_x16
  have hn8 := hk.n8
  have HAT := Lib.hid (rat16_c n off size)
  have hof := Pc.at_of (n := n) (off := off) (size := size)
  have HRV := Lib.hid (show Pc.readV n ws off size = if (Pc.at_ n off size).1 = 1 then ws.getD (3 + (Pc.at_ n off size).2) 0 else if (Pc.at_ n off size).1 = 2 then ws.getD 1 0 else if (Pc.at_ n off size).1 = 3 then ws.getD (35 + (Pc.at_ n off size).2) 0
    else if (Pc.at_ n off size).1 = 4 then ws.getD (51 + (Pc.at_ n off size).2) 0 else if (Pc.at_ n off size).1 = 5 then Pc.bst ws (Pc.at_ n off size).2 0 else 0 from rfl)
  have HRW := Lib.hid (show Pc.readW n ws off size = if (Pc.at_ n off size).1 = 5 then Pc.claimP ws (Pc.at_ n off size).2 else ws from rfl)
  have HIS := Lib.hid (show Pc.is n off size = decide ((Pc.at_ n off size).1 ≠ 0) from rfl)
  have HK := Lib.hid hk
  rw [HRV.out, HRW.out, HIS.out]
  generalize Pc.at_ n off size = t at *
  obtain ⟨t1, c⟩ := t
  simp only at hof HRV HRW HIS ⊢
  have ht : (t1 = 0) ∨ (t1 = 1 ∧ c < 32) ∨ (t1 = 2) ∨ (t1 = 3 ∧ c < 16) ∨ (t1 = 4 ∧ c < 16) ∨ (t1 = 5 ∧ c < 16) := by omega
  clear hof hk HRV HRW HIS
  rcases ht with rfl | ⟨rfl, hc⟩ | rfl | ⟨rfl, hc⟩ | ⟨rfl, hc⟩ | ⟨rfl, hc⟩
  · simp only [Nat.reduceEqDiff, if_false]
    go_enter Tryz.func33, Tryz.ntmps33
    go_upto_region 1 with fail
    generalize (w.alloc (Obj.cells (x16V n ws) X16)).alloc (Obj.cells (x16V 0 Pc.zeros) X16) = w2 at *
    clear hz
    have q0 := HX.out.x.n0
    go_wp2_with fail
    refine (HAT.out w2).mono ?_
    rintro e w3 ⟨rfl, rfl⟩
    rw [atV]
    have HX9 := HX
    go_wp2_with (first | (refine wpList_load_row rfl X16 _ rfl w.heap.size rfl X16 _ (0, 0) _ HX.out.x Tryz.underlying48 rfl iX16 ?_) | (refine wpList_store_row rfl X16 _ _ rfl (w.heap.size + 1) (x16V n (ws)) rfl rfl X16 (x16V 0 Pc.zeros) HX.out.r iX16 sz16 x16_one ?_))
    exact bodyPost_ret (results_cbb X16 Tryz.results33 _ _ (w.heap.size + 1) _ _ _ rfl rfl rfl (run_loadVar_row _ _ X16 X16 _ (0, 0) _ (HX9.out.r.row _) Tryz.underlying48 rfl iX16)) rfl ⟨rfl, below_setRow HX9.out.bel (by omega) _⟩
  · simp only [Nat.reduceEqDiff, if_false, if_true]
    obtain ⟨v, hv⟩ : ∃ v, ws.getD (3 + c) 0 = v := ⟨_, rfl⟩
    have HV := Lib.hid hv
    clear hv
    rw [HV.out]
    have hr := HK.out.pri c hc
    rw [HV.out] at hr
    have gc : (c : Int) < 32 := by omega
    have hwv : IntKind.u64.wrap v = v := by rw [IntKind.wrap_u64]; omega
    go_enter Tryz.func33, Tryz.ntmps33
    go_upto_region 1 with fail
    generalize (w.alloc (Obj.cells (x16V n ws) X16)).alloc (Obj.cells (x16V 0 Pc.zeros) X16) = w2 at *
    clear hz
    have q0 := HX.out.x.n0
    go_wp2_with fail
    refine (HAT.out w2).mono ?_
    rintro e w3 ⟨rfl, rfl⟩
    rw [atV]
    go_upto_region 4 with fail
    have hS0 : XpAt w3.drew w.heap.size n ws ∧ Below w.heap.size w w3.drew := ⟨HX.out.drew.x, HX.out.drew.bel⟩
    have hz3 := HX.out.drew.r
    refine wp_region_noPanic ?_
    refine wp_region_held (S := (fun W => XpAt W w.heap.size n ws ∧ Below w.heap.size w W)) (by kernel_rfl) ?_
    refine takeH (fuel := 8) (i := 0) (.agg (x16V n ws)) ?_ rfl (by kernel_rfl) (by kernel_rfl) (by kernel_rfl) (fun _ _ _ h => h) (by kernel_rfl) (fun W hS => exec_load_row X16 _ rfl w.heap.size rfl X16 _ _ hS.1 Tryz.underlying48 rfl iX16) hS0 ?_ ?_
    rotate_left 1
    · go_simp
      exact rfl
    refine takeH (fuel := 7) (i := 1) (.int .i64 (c : Int)) ?_ rfl (by kernel_rfl) (by kernel_rfl) (by kernel_rfl) (fun _ _ _ h => h) (by kernel_rfl) (fun W hS => by go_simp) hS0 ?_ ?_
    rotate_left 1
    · go_simp
      exact rfl
    refine takeH (fuel := 6) (i := 2) (.pointer (some ⟨w.heap.size, 1, none⟩)) ?_ rfl (by kernel_rfl) (by kernel_rfl) (by kernel_rfl) (fun _ _ _ h => h) (by kernel_rfl) (fun W hS => by go_simp) hS0 ?_ ?_
    rotate_left 1
    · go_simp
      exact rfl
    refine takeH (fuel := 5) (i := 3) (.pointer (some ⟨w.heap.size, 1 + c, none⟩)) ?_ rfl (by kernel_rfl) (by kernel_rfl) (by kernel_rfl) (fun _ _ _ h => h) (by kernel_rfl) (fun W hS => by go_simp) hS0 ?_ ?_
    rotate_left 1
    · go_simp
      exact rfl
    refine takeH (fuel := 4) (i := 4) (.int .i64 v) ?_ rfl (by kernel_rfl) (by kernel_rfl) (by kernel_rfl) (fun _ _ _ h => h) (by kernel_rfl) (fun W hS => by have q := hS.1.pri hc; rw [HV.out] at q; go_simp) hS0 ?_ ?_
    rotate_left 1
    · go_simp
      exact rfl
    refine takeH (fuel := 3) (i := 5) (.int .u64 v) ?_ rfl (by kernel_rfl) (by kernel_rfl) (by kernel_rfl) (fun _ _ _ h => h) (by kernel_rfl) (fun W hS => by go_simp) hS0 ?_ ?_
    rotate_left 1
    · go_simp
      exact rfl
    refine wpAnyH_all (fuel := 2) (rs := [6]) (by kernel_rfl) (by decide) ?_
    intro i hi
    obtain rfl : i = 6 := by simpa using hi
    change Go.wpOp _ _ _ _ _ _ w3.drew
    refine wpOp_unitB (w3.drew.setRow (w.heap.size + 1) (x16V n ws)) _ rfl (by kernel_rfl) (exec_store_row X16 _ _ rfl (w.heap.size + 1) (x16V n ws) rfl rfl X16 (x16V 0 Pc.zeros) hz3 iX16 sz16 x16_one) rfl ?_
    have hS5 : XpAt (w3.drew.setRow (w.heap.size + 1) (x16V n ws)) w.heap.size n ws ∧ Below w.heap.size w (w3.drew.setRow (w.heap.size + 1) (x16V n ws)) := ⟨CsAt.rowFar hS0.1 (by omega) _, below_setRow hS0.2 (by omega) _⟩
    have HR5 := Lib.hid (CsAt.row hz3 (x16V n ws))
    refine ⟨hS5, ?_⟩
    generalize w3.drew.setRow (w.heap.size + 1) (x16V n ws) = w5 at *
    refine takeH (fuel := 1) (i := 7) (.int .u64 v) ?_ rfl (by kernel_rfl) (by kernel_rfl) (by kernel_rfl) (fun _ _ _ h => h) (by kernel_rfl) (fun W hS => by go_simp) hS5 ?_ ?_
    rotate_left 1
    · go_simp
      exact rfl
    refine takeH (fuel := 0) (i := 8) (.bool true) ?_ rfl (by kernel_rfl) (by kernel_rfl) (by kernel_rfl) (fun _ _ _ h => h) (by kernel_rfl) (fun W hS => by go_simp) hS5 ?_ ?_
    rotate_left 1
    · go_simp
      exact rfl
    refine wpAnyH_done (by kernel_rfl) ?_ _
    refine NoPanic.normal ?_
    have HB5 := Lib.hid hS5.2
    clear hS5 hS0 hz3
    go_wp2_with fail
    exact bodyPost_ret (results_cbb X16 Tryz.results33 _ _ (w.heap.size + 1) _ _ _ rfl rfl rfl (run_loadVar_row _ _ X16 X16 _ (0, 0) _ HR5.out Tryz.underlying48 rfl iX16)) rfl ⟨rfl, HB5.out⟩
  · simp only [Nat.reduceEqDiff, if_false, if_true]
    obtain ⟨v, hv⟩ : ∃ v, ws.getD 1 0 = v := ⟨_, rfl⟩
    have HV := Lib.hid hv
    clear hv
    rw [HV.out]
    have hst := HK.out.wait
    rw [HV.out] at hst
    go_enter Tryz.func33, Tryz.ntmps33
    go_upto_region 1 with fail
    generalize (w.alloc (Obj.cells (x16V n ws) X16)).alloc (Obj.cells (x16V 0 Pc.zeros) X16) = w2 at *
    clear hz
    have q0 := HX.out.x.n0
    go_wp2_with fail
    refine (HAT.out w2).mono ?_
    rintro e w3 ⟨rfl, rfl⟩
    rw [atV]
    go_upto_region 6 with fail
    have hS0 : XpAt w3.drew w.heap.size n ws ∧ Below w.heap.size w w3.drew := ⟨HX.out.drew.x, HX.out.drew.bel⟩
    have hz3 := HX.out.drew.r
    refine wp_region_noPanic ?_
    refine wp_region_held (S := (fun W => XpAt W w.heap.size n ws ∧ Below w.heap.size w W)) (by kernel_rfl) ?_
    refine takeH (fuel := 6) (i := 0) (.agg (x16V n ws)) ?_ rfl (by kernel_rfl) (by kernel_rfl) (by kernel_rfl) (fun _ _ _ h => h) (by kernel_rfl) (fun W hS => exec_load_row X16 _ rfl w.heap.size rfl X16 _ _ hS.1 Tryz.underlying48 rfl iX16) hS0 ?_ ?_
    rotate_left 1
    · go_simp
      exact rfl
    refine takeH (fuel := 5) (i := 1) (.pointer (some ⟨w.heap.size, 65, none⟩)) ?_ rfl (by kernel_rfl) (by kernel_rfl) (by kernel_rfl) (fun _ _ _ h => h) (by kernel_rfl) (fun W hS => by go_simp) hS0 ?_ ?_
    rotate_left 1
    · go_simp
      exact rfl
    refine takeH (fuel := 4) (i := 2) (.agg (bV v)) ?_ rfl (by kernel_rfl) (by kernel_rfl) (by kernel_rfl) (fun _ _ _ h => h) (by kernel_rfl) (fun W hS => exec_load_mid T61 _ rfl w.heap.size 65 rfl _ _ (by rw [← HV.out]; exact load_wait hS.1) Tryz.underlying44 rfl i61) hS0 ?_ ?_
    rotate_left 1
    · go_simp
      exact rfl
    refine wpAnyH_all (fuel := 3) (rs := [3]) (by kernel_rfl) (by decide) ?_
    intro i hi
    obtain rfl : i = 3 := by simpa using hi
    change Go.wpOp _ _ _ _ _ _ w3.drew
    refine wpOp_callX 69 #[.agg (bV v)] rfl (by kernel_rfl) (by go_simp) ?_
    refine (rword61_c v hst w3.drew).mono ?_
    rintro e w4 ⟨rfl, hb4⟩
    have hS4 : XpAt w4 w.heap.size n ws ∧ Below w.heap.size w w4 := ⟨hS0.1.low hb4, hS0.2.trans (hb4.mono hS0.2.size)⟩
    have hz4 := hz3.low hb4
    refine ⟨_, rfl, hS4, ?_⟩
    refine wpAnyH_all (fuel := 2) (rs := [4]) (by kernel_rfl) (by decide) ?_
    intro i hi
    obtain rfl : i = 4 := by simpa using hi
    refine wpOp_unitB (w4.setRow (w.heap.size + 1) (x16V n ws)) _ rfl (by kernel_rfl) (exec_store_row X16 _ _ rfl (w.heap.size + 1) (x16V n ws) rfl rfl X16 (x16V 0 Pc.zeros) hz4 iX16 sz16 x16_one) rfl ?_
    have hS5 : XpAt (w4.setRow (w.heap.size + 1) (x16V n ws)) w.heap.size n ws ∧ Below w.heap.size w (w4.setRow (w.heap.size + 1) (x16V n ws)) := ⟨CsAt.rowFar hS4.1 (by omega) _, below_setRow hS4.2 (by omega) _⟩
    have HR5 := Lib.hid (CsAt.row hz4 (x16V n ws))
    refine ⟨hS5, ?_⟩
    generalize w4.setRow (w.heap.size + 1) (x16V n ws) = w5 at *
    refine takeH (fuel := 1) (i := 5) (.int .u64 v) ?_ rfl (by kernel_rfl) (by kernel_rfl) (by kernel_rfl) (fun _ _ _ h => h) (by kernel_rfl) (fun W hS => by go_simp) hS5 ?_ ?_
    rotate_left 1
    · go_simp
      exact rfl
    refine takeH (fuel := 0) (i := 6) (.bool true) ?_ rfl (by kernel_rfl) (by kernel_rfl) (by kernel_rfl) (fun _ _ _ h => h) (by kernel_rfl) (fun W hS => by go_simp) hS5 ?_ ?_
    rotate_left 1
    · go_simp
      exact rfl
    refine wpAnyH_done (by kernel_rfl) ?_ _
    refine NoPanic.normal ?_
    have HB5 := Lib.hid hS5.2
    clear hS5 hS0 hz3 hS4 hz4 hb4
    go_wp2_with fail
    exact bodyPost_ret (results_cbb X16 Tryz.results33 _ _ (w.heap.size + 1) _ _ _ rfl rfl rfl (run_loadVar_row _ _ X16 X16 _ (0, 0) _ HR5.out Tryz.underlying48 rfl iX16)) rfl ⟨rfl, HB5.out⟩
  · simp only [Nat.reduceEqDiff, if_false, if_true]
    obtain ⟨v, hv⟩ : ∃ v, ws.getD (35 + c) 0 = v := ⟨_, rfl⟩
    have HV := Lib.hid hv
    clear hv
    rw [HV.out]
    have hst := HK.out.en c hc
    rw [HV.out] at hst
    have gc : (c : Int) < 16 := by omega
    go_enter Tryz.func33, Tryz.ntmps33
    go_upto_region 1 with fail
    generalize (w.alloc (Obj.cells (x16V n ws) X16)).alloc (Obj.cells (x16V 0 Pc.zeros) X16) = w2 at *
    clear hz
    have q0 := HX.out.x.n0
    go_wp2_with fail
    refine (HAT.out w2).mono ?_
    rintro e w3 ⟨rfl, rfl⟩
    rw [atV]
    go_upto_region 8 with fail
    have hS0 : XpAt w3.drew w.heap.size n ws ∧ Below w.heap.size w w3.drew := ⟨HX.out.drew.x, HX.out.drew.bel⟩
    have hz3 := HX.out.drew.r
    refine wp_region_noPanic ?_
    refine wp_region_held (S := (fun W => XpAt W w.heap.size n ws ∧ Below w.heap.size w W)) (by kernel_rfl) ?_
    refine takeH (fuel := 8) (i := 0) (.agg (x16V n ws)) ?_ rfl (by kernel_rfl) (by kernel_rfl) (by kernel_rfl) (fun _ _ _ h => h) (by kernel_rfl) (fun W hS => exec_load_row X16 _ rfl w.heap.size rfl X16 _ _ hS.1 Tryz.underlying48 rfl iX16) hS0 ?_ ?_
    rotate_left 1
    · go_simp
      exact rfl
    refine takeH (fuel := 7) (i := 1) (.int .i64 (c : Int)) ?_ rfl (by kernel_rfl) (by kernel_rfl) (by kernel_rfl) (fun _ _ _ h => h) (by kernel_rfl) (fun W hS => by go_simp) hS0 ?_ ?_
    rotate_left 1
    · go_simp
      exact rfl
    refine takeH (fuel := 6) (i := 2) (.pointer (some ⟨w.heap.size, 129, none⟩)) ?_ rfl (by kernel_rfl) (by kernel_rfl) (by kernel_rfl) (fun _ _ _ h => h) (by kernel_rfl) (fun W hS => by go_simp) hS0 ?_ ?_
    rotate_left 1
    · go_simp
      exact rfl
    refine takeH (fuel := 5) (i := 3) (.pointer (some ⟨w.heap.size, 129 + c * 32, none⟩)) ?_ rfl (by kernel_rfl) (by kernel_rfl) (by kernel_rfl) (fun _ _ _ h => h) (by kernel_rfl) (fun W hS => by go_simp) hS0 ?_ ?_
    rotate_left 1
    · go_simp
      exact rfl
    refine takeH (fuel := 4) (i := 4) (.agg (bV v)) ?_ rfl (by kernel_rfl) (by kernel_rfl) (by kernel_rfl) (fun _ _ _ h => h) (by kernel_rfl) (fun W hS => exec_load_mid T61 _ rfl w.heap.size (129 + c * 32) rfl _ _ (by rw [← HV.out]; exact load_on hS.1 hc) Tryz.underlying44 rfl i61) hS0 ?_ ?_
    rotate_left 1
    · go_simp
      exact rfl
    refine wpAnyH_all (fuel := 3) (rs := [5]) (by kernel_rfl) (by decide) ?_
    intro i hi
    obtain rfl : i = 5 := by simpa using hi
    change Go.wpOp _ _ _ _ _ _ w3.drew
    refine wpOp_callX 69 #[.agg (bV v)] rfl (by kernel_rfl) (by go_simp) ?_
    refine (rword61_c v hst w3.drew).mono ?_
    rintro e w4 ⟨rfl, hb4⟩
    have hS4 : XpAt w4 w.heap.size n ws ∧ Below w.heap.size w w4 := ⟨hS0.1.low hb4, hS0.2.trans (hb4.mono hS0.2.size)⟩
    have hz4 := hz3.low hb4
    refine ⟨_, rfl, hS4, ?_⟩
    refine wpAnyH_all (fuel := 2) (rs := [6]) (by kernel_rfl) (by decide) ?_
    intro i hi
    obtain rfl : i = 6 := by simpa using hi
    refine wpOp_unitB (w4.setRow (w.heap.size + 1) (x16V n ws)) _ rfl (by kernel_rfl) (exec_store_row X16 _ _ rfl (w.heap.size + 1) (x16V n ws) rfl rfl X16 (x16V 0 Pc.zeros) hz4 iX16 sz16 x16_one) rfl ?_
    have hS5 : XpAt (w4.setRow (w.heap.size + 1) (x16V n ws)) w.heap.size n ws ∧ Below w.heap.size w (w4.setRow (w.heap.size + 1) (x16V n ws)) := ⟨CsAt.rowFar hS4.1 (by omega) _, below_setRow hS4.2 (by omega) _⟩
    have HR5 := Lib.hid (CsAt.row hz4 (x16V n ws))
    refine ⟨hS5, ?_⟩
    generalize w4.setRow (w.heap.size + 1) (x16V n ws) = w5 at *
    refine takeH (fuel := 1) (i := 7) (.int .u64 v) ?_ rfl (by kernel_rfl) (by kernel_rfl) (by kernel_rfl) (fun _ _ _ h => h) (by kernel_rfl) (fun W hS => by go_simp) hS5 ?_ ?_
    rotate_left 1
    · go_simp
      exact rfl
    refine takeH (fuel := 0) (i := 8) (.bool true) ?_ rfl (by kernel_rfl) (by kernel_rfl) (by kernel_rfl) (fun _ _ _ h => h) (by kernel_rfl) (fun W hS => by go_simp) hS5 ?_ ?_
    rotate_left 1
    · go_simp
      exact rfl
    refine wpAnyH_done (by kernel_rfl) ?_ _
    refine NoPanic.normal ?_
    have HB5 := Lib.hid hS5.2
    clear hS5 hS0 hz3 hS4 hz4 hb4
    go_wp2_with fail
    exact bodyPost_ret (results_cbb X16 Tryz.results33 _ _ (w.heap.size + 1) _ _ _ rfl rfl rfl (run_loadVar_row _ _ X16 X16 _ (0, 0) _ HR5.out Tryz.underlying48 rfl iX16)) rfl ⟨rfl, HB5.out⟩
  · simp only [Nat.reduceEqDiff, if_false, if_true]
    obtain ⟨v, hv⟩ : ∃ v, ws.getD (51 + c) 0 = v := ⟨_, rfl⟩
    have HV := Lib.hid hv
    clear hv
    rw [HV.out]
    have hr := HK.out.thr c hc
    rw [HV.out] at hr
    have hwv : IntKind.u64.wrap v = v := by rw [IntKind.wrap_u64]; omega
    have gc : (c : Int) < 16 := by omega
    go_enter Tryz.func33, Tryz.ntmps33
    go_upto_region 1 with fail
    generalize (w.alloc (Obj.cells (x16V n ws) X16)).alloc (Obj.cells (x16V 0 Pc.zeros) X16) = w2 at *
    clear hz
    have q0 := HX.out.x.n0
    go_wp2_with fail
    refine (HAT.out w2).mono ?_
    rintro e w3 ⟨rfl, rfl⟩
    rw [atV]
    go_upto_region 10 with fail
    have hS0 : XpAt w3.drew w.heap.size n ws ∧ Below w.heap.size w w3.drew := ⟨HX.out.drew.x, HX.out.drew.bel⟩
    have hz3 := HX.out.drew.r
    refine wp_region_noPanic ?_
    refine wp_region_held (S := (fun W => XpAt W w.heap.size n ws ∧ Below w.heap.size w W)) (by kernel_rfl) ?_
    refine takeH (fuel := 8) (i := 0) (.agg (x16V n ws)) ?_ rfl (by kernel_rfl) (by kernel_rfl) (by kernel_rfl) (fun _ _ _ h => h) (by kernel_rfl) (fun W hS => exec_load_row X16 _ rfl w.heap.size rfl X16 _ _ hS.1 Tryz.underlying48 rfl iX16) hS0 ?_ ?_
    rotate_left 1
    · go_simp
      exact rfl
    refine takeH (fuel := 7) (i := 1) (.int .i64 (c : Int)) ?_ rfl (by kernel_rfl) (by kernel_rfl) (by kernel_rfl) (fun _ _ _ h => h) (by kernel_rfl) (fun W hS => by go_simp) hS0 ?_ ?_
    rotate_left 1
    · go_simp
      exact rfl
    refine takeH (fuel := 6) (i := 2) (.pointer (some ⟨w.heap.size, 641, none⟩)) ?_ rfl (by kernel_rfl) (by kernel_rfl) (by kernel_rfl) (fun _ _ _ h => h) (by kernel_rfl) (fun W hS => by go_simp) hS0 ?_ ?_
    rotate_left 1
    · go_simp
      exact rfl
    refine takeH (fuel := 5) (i := 3) (.pointer (some ⟨w.heap.size, 641 + c, none⟩)) ?_ rfl (by kernel_rfl) (by kernel_rfl) (by kernel_rfl) (fun _ _ _ h => h) (by kernel_rfl) (fun W hS => by go_simp) hS0 ?_ ?_
    rotate_left 1
    · go_simp
      exact rfl
    refine takeH (fuel := 4) (i := 4) (.int .i64 v) ?_ rfl (by kernel_rfl) (by kernel_rfl) (by kernel_rfl) (fun _ _ _ h => h) (by kernel_rfl) (fun W hS => by have q := hS.1.lev hc; rw [HV.out] at q; go_simp) hS0 ?_ ?_
    rotate_left 1
    · go_simp
      exact rfl
    refine takeH (fuel := 3) (i := 5) (.int .u64 v) ?_ rfl (by kernel_rfl) (by kernel_rfl) (by kernel_rfl) (fun _ _ _ h => h) (by kernel_rfl) (fun W hS => by go_simp) hS0 ?_ ?_
    rotate_left 1
    · go_simp
      exact rfl
    refine wpAnyH_all (fuel := 2) (rs := [6]) (by kernel_rfl) (by decide) ?_
    intro i hi
    obtain rfl : i = 6 := by simpa using hi
    change Go.wpOp _ _ _ _ _ _ w3.drew
    refine wpOp_unitB (w3.drew.setRow (w.heap.size + 1) (x16V n ws)) _ rfl (by kernel_rfl) (exec_store_row X16 _ _ rfl (w.heap.size + 1) (x16V n ws) rfl rfl X16 (x16V 0 Pc.zeros) hz3 iX16 sz16 x16_one) rfl ?_
    have hS5 : XpAt (w3.drew.setRow (w.heap.size + 1) (x16V n ws)) w.heap.size n ws ∧ Below w.heap.size w (w3.drew.setRow (w.heap.size + 1) (x16V n ws)) := ⟨CsAt.rowFar hS0.1 (by omega) _, below_setRow hS0.2 (by omega) _⟩
    have HR5 := Lib.hid (CsAt.row hz3 (x16V n ws))
    refine ⟨hS5, ?_⟩
    generalize w3.drew.setRow (w.heap.size + 1) (x16V n ws) = w5 at *
    refine takeH (fuel := 1) (i := 7) (.int .u64 v) ?_ rfl (by kernel_rfl) (by kernel_rfl) (by kernel_rfl) (fun _ _ _ h => h) (by kernel_rfl) (fun W hS => by go_simp) hS5 ?_ ?_
    rotate_left 1
    · go_simp
      exact rfl
    refine takeH (fuel := 0) (i := 8) (.bool true) ?_ rfl (by kernel_rfl) (by kernel_rfl) (by kernel_rfl) (fun _ _ _ h => h) (by kernel_rfl) (fun W hS => by go_simp) hS5 ?_ ?_
    rotate_left 1
    · go_simp
      exact rfl
    refine wpAnyH_done (by kernel_rfl) ?_ _
    refine NoPanic.normal ?_
    have HB5 := Lib.hid hS5.2
    clear hS5 hS0 hz3
    go_wp2_with fail
    exact bodyPost_ret (results_cbb X16 Tryz.results33 _ _ (w.heap.size + 1) _ _ _ rfl rfl rfl (run_loadVar_row _ _ X16 X16 _ (0, 0) _ HR5.out Tryz.underlying48 rfl iX16)) rfl ⟨rfl, HB5.out⟩
  · simp only [Nat.reduceEqDiff, if_false, if_true]
    have HBst := Lib.hid (rbest_c n ws HK.out c hc 0)
    have HOF := Lib.hid (Pc.bst_of HK.out hc 0)
    obtain ⟨m, hm⟩ : ∃ m, Pc.bst ws c 0 = m := ⟨_, rfl⟩
    rw [hm] at HBst HOF
    rw [hm]
    have gc : (c : Int) < 16 := by omega
    have HM := Lib.hid hm
    clear hm
    rcases HOF.out with rfl | ⟨m1, m2, m3, m4, m5⟩
    · have HE := Lib.hid (x_claim0 HK.out HM.out)
      rw [HE.out]
      go_enter Tryz.func33, Tryz.ntmps33
      go_upto_region 1 with fail
      generalize (w.alloc (Obj.cells (x16V n ws) X16)).alloc (Obj.cells (x16V 0 Pc.zeros) X16) = w2 at *
      clear hz
      have q0 := HX.out.x.n0
      go_wp2_with fail
      refine (HAT.out w2).mono ?_
      rintro e w3 ⟨rfl, rfl⟩
      rw [atV]
      go_wp2_with (refine wpList_load_row rfl X16 _ rfl w.heap.size rfl X16 _ (0, 0) _ HX.out.x Tryz.underlying48 rfl iX16 ?_)
      refine (HBst.out w3).mono ?_
      rintro e w4 ⟨rfl, hb4⟩
      have HX4 := Lib.hid (HX.out.low hb4)
      clear hb4 HX q0
      have HX9 := HX4
      go_wp2_with (first | (refine wpList_load_row rfl X16 _ rfl w.heap.size rfl X16 _ (0, 0) _ HX4.out.x Tryz.underlying48 rfl iX16 ?_) | (refine wpList_store_row rfl X16 _ _ rfl (w.heap.size + 1) (x16V n (ws)) rfl rfl X16 (x16V 0 Pc.zeros) HX4.out.r iX16 sz16 x16_one ?_))
      exact bodyPost_ret (results_cbb X16 Tryz.results33 _ _ (w.heap.size + 1) _ _ _ rfl rfl rfl (run_loadVar_row _ _ X16 X16 _ (0, 0) _ (HX9.out.r.row _) Tryz.underlying48 rfl iX16)) rfl ⟨rfl, below_setRow HX9.out.bel (by omega) _⟩
    · have HE2 := Lib.hid (show ∀ x, (ws.set 1 x).getD 2 0 = ws.getD 2 0 from fun x => by rw [Pc.get_set (by rw [HK.out.len]; omega), if_neg (by omega)])
      obtain ⟨us, hus⟩ : ∃ us, Pc.claimP ws c = us := ⟨_, rfl⟩
      have HUS := Lib.hid hus
      clear hus
      rw [HUS.out]
      go_enter Tryz.func33, Tryz.ntmps33
      go_upto_region 1 with fail
      generalize (w.alloc (Obj.cells (x16V n ws) X16)).alloc (Obj.cells (x16V 0 Pc.zeros) X16) = w2 at *
      clear hz
      have q0 := HX.out.x.n0
      go_wp2_with fail
      refine (HAT.out w2).mono ?_
      rintro e w3 ⟨rfl, rfl⟩
      rw [atV]
      go_wp2_with (refine wpList_load_row rfl X16 _ rfl w.heap.size rfl X16 _ (0, 0) _ HX.out.x Tryz.underlying48 rfl iX16 ?_)
      refine (HBst.out w3).mono ?_
      rintro e w4 ⟨rfl, hb4⟩
      have HX4 := Lib.hid (HX.out.low hb4)
      clear hb4 HX q0
      have HX5 := Lib.hid (HX4.out.upd (x16_wait HK.out.len m2 (x := Pc.stb (ws.getD 1 0) m false) (q := false) (fun j hj => Pc.tb_stb hj)))
      have HX6 := Lib.hid (HX5.out.upd (x16_serv (by simp [HK.out.len]) m2 (x := Pc.stb (ws.getD 2 0) m true) (q := true) (fun j hj => by rw [Pc.tb_stb hj, HE2.out])))
      have HX9 := Lib.hid (HX6.out.eq (x_claim HK.out HM.out m1 m2))
      rw [HUS.out] at HX9
      have q1 := HX4.out.x.wait m2
      have q2 := HX5.out.x.serv m2
      rw [m3] at q1
      rw [HE2.out, m4] at q2
      have f1 := HX4.out.x.frz (65 + m)
      have f2 := HX5.out.x.frz (97 + m)
      have gm : (m : Int) < 32 := by omega
      have g0 : decide ((m : Int) > 0) = true := by simp; omega
      clear HX4 HX5 HX6 m3 m4 m5 HOF HBst HM
      go_wp2_with (first | (refine wpList_load_row rfl X16 _ rfl w.heap.size rfl X16 _ (0, 0) _ HX9.out.x Tryz.underlying48 rfl iX16 ?_) | (refine wpList_store_row rfl X16 _ _ rfl (w.heap.size + 1) (x16V n (us)) rfl rfl X16 (x16V 0 Pc.zeros) HX9.out.r iX16 sz16 x16_one ?_))
      exact bodyPost_ret (results_cbb X16 Tryz.results33 _ _ (w.heap.size + 1) _ _ _ rfl rfl rfl (run_loadVar_row _ _ X16 X16 _ (0, 0) _ (HX9.out.r.row _) Tryz.underlying48 rfl iX16)) rfl ⟨rfl, below_setRow HX9.out.bel (by omega) _⟩
set_option maxRecDepth 100000 in
set_option maxHeartbeats 16000000 in
theorem rwrite16_c (n : Nat) (ws : List Int) (hk : Pc.Ok n ws) (off size v : Int) (v0 : 0 ≤ v) (v1 : v < 18446744073709551616) (w : World) :
    Calls Tryz.prog 36 #[.agg (x16V n ws), .int .u64 off, .int .i64 size, .int .u64 v] w fun e w' => e = .returned (.tuple #[.agg (x16V n (Pc.writeW n ws off size v)), .bool (Pc.is n off size)]) ∧ Below w.heap.size w w' := by
  have HX := Lib.hid (XqAt.new w n ws)
  have hz := zero_x16
  have hn8 := hk.n8
  have HAT := Lib.hid (rat16_c n off size)
  have hof := Pc.at_of (n := n) (off := off) (size := size)
  have HRW := Lib.hid (show Pc.writeW n ws off size v = if (Pc.at_ n off size).1 = 1 then ws.set (3 + (Pc.at_ n off size).2) (Wd.cutS v 0 3) else if (Pc.at_ n off size).1 = 3 then ws.set (35 + (Pc.at_ n off size).2) (Go.bits .and .u64 v (Wd.onesS 1 31))
    else if (Pc.at_ n off size).1 = 4 then ws.set (51 + (Pc.at_ n off size).2) (Wd.cutS v 0 3) else if (Pc.at_ n off size).1 = 5 then Pc.endP ws (Pc.at_ n off size).2 (Wd.cutS v 0 32) else ws from rfl)
  have HIS := Lib.hid (show Pc.is n off size = decide ((Pc.at_ n off size).1 ≠ 0) from rfl)
  have HK := Lib.hid hk
  rw [HRW.out, HIS.out, Pc.cut3 v0 v1, Pc.cut32 v0 v1]
  generalize Pc.at_ n off size = t at *
  obtain ⟨t1, c⟩ := t
  simp only at hof HRW HIS ⊢
  have ht : (t1 = 0) ∨ (t1 = 1 ∧ c < 32) ∨ (t1 = 2) ∨ (t1 = 3 ∧ c < 16) ∨ (t1 = 4 ∧ c < 16) ∨ (t1 = 5 ∧ c < 16) := by omega
  clear hof hk HRW HIS
  rcases ht with rfl | ⟨rfl, hc⟩ | rfl | ⟨rfl, hc⟩ | ⟨rfl, hc⟩ | ⟨rfl, hc⟩
  · simp only [Nat.reduceEqDiff, if_false]
    go_enter Tryz.func36, Tryz.ntmps36
    go_upto_region 1 with fail
    generalize (w.alloc (Obj.cells (x16V n ws) X16)).alloc (Obj.cells (x16V 0 Pc.zeros) X16) = w2 at *
    clear hz
    have q0 := HX.out.x.n0
    go_wp2_with fail
    refine (HAT.out w2).mono ?_
    rintro e w3 ⟨rfl, rfl⟩
    rw [atV]
    go_wp2_with (first | (refine wpList_load_row rfl X16 _ rfl w.heap.size rfl X16 _ (0, 0) _ HX.out.x Tryz.underlying48 rfl iX16 ?_) | (refine wpList_store_row rfl X16 _ _ rfl (w.heap.size + 1) (x16V n (ws)) rfl rfl X16 (x16V 0 Pc.zeros) HX.out.r iX16 sz16 x16_one ?_))
    exact bodyPost_ret (results_cb X16 Tryz.results36 _ _ (w.heap.size + 1) _ _ rfl rfl (run_loadVar_row _ _ X16 X16 _ (0, 0) _ (HX.out.r.row _) Tryz.underlying48 rfl iX16)) rfl ⟨rfl, below_setRow HX.out.bel (by omega) _⟩
  · simp only [if_true]
    go_enter Tryz.func36, Tryz.ntmps36
    go_upto_region 1 with fail
    generalize (w.alloc (Obj.cells (x16V n ws) X16)).alloc (Obj.cells (x16V 0 Pc.zeros) X16) = w2 at *
    clear hz
    have q0 := HX.out.x.n0
    have q := HX.out.x.pri hc
    have f := HX.out.x.frz (1 + c)
    generalize ws.getD (3 + c) 0 = old at *
    have HX2 := Lib.hid (HX.out.upd (x16_pri HK.out.len hc (v % 8)))
    have gc : (c : Int) < 32 := by omega
    go_wp2_with fail
    refine (HAT.out w2).mono ?_
    rintro e w3 ⟨rfl, rfl⟩
    rw [atV]
    go_wp2_with (first | (refine wpList_load_row rfl X16 _ rfl w.heap.size rfl X16 _ (0, 0) _ HX2.out.x Tryz.underlying48 rfl iX16 ?_) | (refine wpList_store_row rfl X16 _ _ rfl (w.heap.size + 1) (x16V n (ws.set (3 + c) (v % 8))) rfl rfl X16 (x16V 0 Pc.zeros) HX2.out.r iX16 sz16 x16_one ?_))
    exact bodyPost_ret (results_cb X16 Tryz.results36 _ _ (w.heap.size + 1) _ _ rfl rfl (run_loadVar_row _ _ X16 X16 _ (0, 0) _ (HX2.out.r.row _) Tryz.underlying48 rfl iX16)) rfl ⟨rfl, below_setRow HX2.out.bel (by omega) _⟩
  · simp only [Nat.reduceEqDiff, if_false]
    go_enter Tryz.func36, Tryz.ntmps36
    go_upto_region 1 with fail
    generalize (w.alloc (Obj.cells (x16V n ws) X16)).alloc (Obj.cells (x16V 0 Pc.zeros) X16) = w2 at *
    clear hz
    have q0 := HX.out.x.n0
    go_wp2_with fail
    refine (HAT.out w2).mono ?_
    rintro e w3 ⟨rfl, rfl⟩
    rw [atV]
    go_wp2_with (first | (refine wpList_load_row rfl X16 _ rfl w.heap.size rfl X16 _ (0, 0) _ HX.out.x Tryz.underlying48 rfl iX16 ?_) | (refine wpList_store_row rfl X16 _ _ rfl (w.heap.size + 1) (x16V n (ws)) rfl rfl X16 (x16V 0 Pc.zeros) HX.out.r iX16 sz16 x16_one ?_))
    exact bodyPost_ret (results_cb X16 Tryz.results36 _ _ (w.heap.size + 1) _ _ rfl rfl (run_loadVar_row _ _ X16 X16 _ (0, 0) _ (HX.out.r.row _) Tryz.underlying48 rfl iX16)) rfl ⟨rfl, below_setRow HX.out.bel (by omega) _⟩
  · simp only [Nat.reduceEqDiff, if_false, if_true]
    obtain ⟨us, hus⟩ : ∃ us, ws.set (35 + c) (Go.bits .and .u64 v (Wd.onesS 1 31)) = us := ⟨_, rfl⟩
    have HUS := Lib.hid hus
    clear hus
    rw [HUS.out]
    go_enter Tryz.func36, Tryz.ntmps36
    go_upto_region 1 with fail
    generalize (w.alloc (Obj.cells (x16V n ws) X16)).alloc (Obj.cells (x16V 0 Pc.zeros) X16) = w2 at *
    clear hz
    have q0 := HX.out.x.n0
    go_wp2_with fail
    refine (HAT.out w2).mono ?_
    rintro e w3 ⟨rfl, rfl⟩
    rw [atV]
    have gc : (c : Int) < 16 := by omega
    have HX1 := Lib.hid (HX.out.eq (x_on1 HK.out hc v))
    go_wp2_with fail
    go_loopw [12, 13] (fun nv sv wr => ∃ k : Nat, 1 ≤ k ∧ k ≤ 32 ∧ sv = .int .i64 k ∧ nv = .int .u64 (v / 2 ^ k) ∧ XqAt w wr n (ws.set (35 + c) (onY (ws.getD (35 + c) 0) v k))) (fun _ sv _ => 32 - (intOf sv).toNat)
    case atStart => exact ⟨1, by omega, by omega, rfl, rfl, HX1.out⟩
    case round =>
      obtain ⟨k, hk1, hk2, rfl, rfl, hx⟩ := hrel
      have HR := Lib.hid hx
      clear hx HX HX1 q0
      by_cases hlt : k < 32
      · have e0 : decide ((k : Int) < 32) = true := by simp; omega
        have q := HR.out.x.on hc hlt
        have f := HR.out.x.frz (129 + c * 32 + k)
        rw [Pc.get_set (by rw [HK.out.len]; omega), if_pos rfl] at q
        have HH := Lib.hid (half_bit v0 k)
        have HY := Lib.hid (show v / 2 ^ k / 2 = v / 2 ^ (k + 1) from Pc.div_next (S := v) k)
        have hy : 0 ≤ v / 2 ^ k ∧ v / 2 ^ k < 18446744073709551616 := ⟨Int.ediv_nonneg v0 (Int.pow_nonneg (by omega)), Int.lt_of_le_of_lt (Int.ediv_le_self _ v0) v1⟩
        generalize v / 2 ^ k = y at *
        obtain ⟨qb, hqb⟩ : ∃ qb, (y % 2 == 1) = qb := ⟨_, rfl⟩
        have HN := Lib.hid (HR.out.upd (x16_on (by simp [HK.out.len]) hc hlt (x := onY (ws.getD (35 + c) 0) v (k + 1)) (q := qb) (fun j hj => by rw [onY_next hk1 j hj, Pc.get_set (i := 35 + c) (by rw [HK.out.len]; omega), if_pos rfl, ← HH.out, hqb])))
        rw [set_set] at HN
        generalize Wd.tb (onY (ws.getD (35 + c) 0) v k) k = oq at *
        clear HH
        go_wp2_with fail
        go_roundw
        case rel => exact ⟨k + 1, by omega, by omega, by go_num, by rw [← HY.out], HN.out⟩
        case measure => simp [intOf]; omega
      · obtain rfl : k = 32 := by omega
        have e0 : decide (((32 : Nat) : Int) < 32) = false := by decide
        have HX9 := Lib.hid (HR.out.eq (x_on32 HK.out hc v0 v1))
        rw [HUS.out] at HX9
        rw [show ((32 : Nat) : Int) = 32 from rfl]
        go_wp2_with (first | (refine wpList_load_row rfl X16 _ rfl w.heap.size rfl X16 _ (0, 0) _ HX9.out.x Tryz.underlying48 rfl iX16 ?_) | (refine wpList_store_row rfl X16 _ _ rfl (w.heap.size + 1) (x16V n (us)) rfl rfl X16 (x16V 0 Pc.zeros) HX9.out.r iX16 sz16 x16_one ?_))
        exact bodyPost_ret (results_cb X16 Tryz.results36 _ _ (w.heap.size + 1) _ _ rfl rfl (run_loadVar_row _ _ X16 X16 _ (0, 0) _ (HX9.out.r.row _) Tryz.underlying48 rfl iX16)) rfl ⟨rfl, below_setRow HX9.out.bel (by omega) _⟩
  · simp only [Nat.reduceEqDiff, if_false, if_true]
    go_enter Tryz.func36, Tryz.ntmps36
    go_upto_region 1 with fail
    generalize (w.alloc (Obj.cells (x16V n ws) X16)).alloc (Obj.cells (x16V 0 Pc.zeros) X16) = w2 at *
    clear hz
    have q0 := HX.out.x.n0
    have q := HX.out.x.lev hc
    have f := HX.out.x.frz (641 + c)
    generalize ws.getD (51 + c) 0 = old at *
    have HX2 := Lib.hid (HX.out.upd (x16_lev HK.out.len hc (v % 8)))
    have gc : (c : Int) < 16 := by omega
    go_wp2_with fail
    refine (HAT.out w2).mono ?_
    rintro e w3 ⟨rfl, rfl⟩
    rw [atV]
    go_wp2_with (first | (refine wpList_load_row rfl X16 _ rfl w.heap.size rfl X16 _ (0, 0) _ HX2.out.x Tryz.underlying48 rfl iX16 ?_) | (refine wpList_store_row rfl X16 _ _ rfl (w.heap.size + 1) (x16V n (ws.set (51 + c) (v % 8))) rfl rfl X16 (x16V 0 Pc.zeros) HX2.out.r iX16 sz16 x16_one ?_))
    exact bodyPost_ret (results_cb X16 Tryz.results36 _ _ (w.heap.size + 1) _ _ rfl rfl (run_loadVar_row _ _ X16 X16 _ (0, 0) _ (HX2.out.r.row _) Tryz.underlying48 rfl iX16)) rfl ⟨rfl, below_setRow HX2.out.bel (by omega) _⟩
  · simp only [Nat.reduceEqDiff, if_false, if_true]
    have hx : 0 ≤ v % 4294967296 ∧ v % 4294967296 < 4294967296 := by omega
    obtain ⟨x, hxe⟩ : ∃ x, v % 4294967296 = x := ⟨_, rfl⟩
    rw [hxe] at hx ⊢
    have gc : (c : Int) < 16 := by omega
    by_cases hlo : x < 1
    · have g1 : decide (x ≥ 1) = false := by simp; omega
      have HE := Lib.hid (x_endNo HK.out hc (s := x) (.inl (by omega)))
      rw [HE.out]
      go_enter Tryz.func36, Tryz.ntmps36
      go_upto_region 1 with fail
      generalize (w.alloc (Obj.cells (x16V n ws) X16)).alloc (Obj.cells (x16V 0 Pc.zeros) X16) = w2 at *
      clear hz
      have q0 := HX.out.x.n0
      go_wp2_with fail
      refine (HAT.out w2).mono ?_
      rintro e w3 ⟨rfl, rfl⟩
      rw [atV]
      go_wp2_with (first | (refine wpList_load_row rfl X16 _ rfl w.heap.size rfl X16 _ (0, 0) _ HX.out.x Tryz.underlying48 rfl iX16 ?_) | (refine wpList_store_row rfl X16 _ _ rfl (w.heap.size + 1) (x16V n (ws)) rfl rfl X16 (x16V 0 Pc.zeros) HX.out.r iX16 sz16 x16_one ?_))
      exact bodyPost_ret (results_cb X16 Tryz.results36 _ _ (w.heap.size + 1) _ _ rfl rfl (run_loadVar_row _ _ X16 X16 _ (0, 0) _ (HX.out.r.row _) Tryz.underlying48 rfl iX16)) rfl ⟨rfl, below_setRow HX.out.bel (by omega) _⟩
    by_cases hhi : 31 < x
    · have g1 : decide (x ≥ 1) = true := by simp; omega
      have g2 : decide (x ≤ 31) = false := by simp; omega
      have HE := Lib.hid (x_endNo HK.out hc (s := x) (.inl (by omega)))
      rw [HE.out]
      go_enter Tryz.func36, Tryz.ntmps36
      go_upto_region 1 with fail
      generalize (w.alloc (Obj.cells (x16V n ws) X16)).alloc (Obj.cells (x16V 0 Pc.zeros) X16) = w2 at *
      clear hz
      have q0 := HX.out.x.n0
      go_wp2_with fail
      refine (HAT.out w2).mono ?_
      rintro e w3 ⟨rfl, rfl⟩
      rw [atV]
      go_wp2_with (first | (refine wpList_load_row rfl X16 _ rfl w.heap.size rfl X16 _ (0, 0) _ HX.out.x Tryz.underlying48 rfl iX16 ?_) | (refine wpList_store_row rfl X16 _ _ rfl (w.heap.size + 1) (x16V n (ws)) rfl rfl X16 (x16V 0 Pc.zeros) HX.out.r iX16 sz16 x16_one ?_))
      exact bodyPost_ret (results_cb X16 Tryz.results36 _ _ (w.heap.size + 1) _ _ rfl rfl (run_loadVar_row _ _ X16 X16 _ (0, 0) _ (HX.out.r.row _) Tryz.underlying48 rfl iX16)) rfl ⟨rfl, below_setRow HX.out.bel (by omega) _⟩
    obtain ⟨s, rfl⟩ := Int.eq_ofNat_of_zero_le hx.1
    have hs1 : 1 ≤ s := by omega
    have hs2 : s < 32 := by omega
    have gs : (s : Int) < 32 := by omega
    have g1 : decide ((s : Int) ≥ 1) = true := by simp; omega
    have g2 : decide ((s : Int) ≤ 31) = true := by simp; omega
    cases ho : Wd.tb (ws.getD (35 + c) 0) s with
    | false =>
      have HE := Lib.hid (x_endNo HK.out hc (s := (s : Int)) (.inr (.inl (by rw [Int.toNat_natCast]; exact ho))))
      rw [HE.out]
      go_enter Tryz.func36, Tryz.ntmps36
      go_upto_region 1 with fail
      generalize (w.alloc (Obj.cells (x16V n ws) X16)).alloc (Obj.cells (x16V 0 Pc.zeros) X16) = w2 at *
      clear hz
      have q0 := HX.out.x.n0
      have qo := HX.out.x.on hc hs2
      rw [ho] at qo
      go_wp2_with fail
      refine (HAT.out w2).mono ?_
      rintro e w3 ⟨rfl, rfl⟩
      rw [atV]
      go_wp2_with (first | (refine wpList_load_row rfl X16 _ rfl w.heap.size rfl X16 _ (0, 0) _ HX.out.x Tryz.underlying48 rfl iX16 ?_) | (refine wpList_store_row rfl X16 _ _ rfl (w.heap.size + 1) (x16V n (ws)) rfl rfl X16 (x16V 0 Pc.zeros) HX.out.r iX16 sz16 x16_one ?_))
      exact bodyPost_ret (results_cb X16 Tryz.results36 _ _ (w.heap.size + 1) _ _ rfl rfl (run_loadVar_row _ _ X16 X16 _ (0, 0) _ (HX.out.r.row _) Tryz.underlying48 rfl iX16)) rfl ⟨rfl, below_setRow HX.out.bel (by omega) _⟩
    | true =>
      cases hv : Wd.tb (ws.getD 2 0) s with
      | false =>
        have HE := Lib.hid (x_endNo HK.out hc (s := (s : Int)) (.inr (.inr (by rw [Int.toNat_natCast]; exact hv))))
        rw [HE.out]
        go_enter Tryz.func36, Tryz.ntmps36
        go_upto_region 1 with fail
        generalize (w.alloc (Obj.cells (x16V n ws) X16)).alloc (Obj.cells (x16V 0 Pc.zeros) X16) = w2 at *
        clear hz
        have q0 := HX.out.x.n0
        have qo := HX.out.x.on hc hs2
        rw [ho] at qo
        have qs := HX.out.x.serv hs2
        rw [hv] at qs
        go_wp2_with fail
        refine (HAT.out w2).mono ?_
        rintro e w3 ⟨rfl, rfl⟩
        rw [atV]
        go_wp2_with (first | (refine wpList_load_row rfl X16 _ rfl w.heap.size rfl X16 _ (0, 0) _ HX.out.x Tryz.underlying48 rfl iX16 ?_) | (refine wpList_store_row rfl X16 _ _ rfl (w.heap.size + 1) (x16V n (ws)) rfl rfl X16 (x16V 0 Pc.zeros) HX.out.r iX16 sz16 x16_one ?_))
        exact bodyPost_ret (results_cb X16 Tryz.results36 _ _ (w.heap.size + 1) _ _ rfl rfl (run_loadVar_row _ _ X16 X16 _ (0, 0) _ (HX.out.r.row _) Tryz.underlying48 rfl iX16)) rfl ⟨rfl, below_setRow HX.out.bel (by omega) _⟩
      | true =>
        have HE2 := Lib.hid (show ∀ x, (ws.set 2 x).getD 0 0 = ws.getD 0 0 from fun x => by rw [Pc.get_set (by rw [HK.out.len]; omega), if_neg (by omega)])
        have HE3 := Lib.hid (show ∀ x, (ws.set 2 x).getD 1 0 = ws.getD 1 0 from fun x => by rw [Pc.get_set (by rw [HK.out.len]; omega), if_neg (by omega)])
        obtain ⟨us, hus⟩ : ∃ us, Pc.endP ws c (s : Int) = us := ⟨_, rfl⟩
        have HUS := Lib.hid hus
        clear hus
        rw [HUS.out]
        cases hw : Wd.tb (ws.getD 0 0) s with
        | false =>
          go_enter Tryz.func36, Tryz.ntmps36
          go_upto_region 1 with fail
          generalize (w.alloc (Obj.cells (x16V n ws) X16)).alloc (Obj.cells (x16V 0 Pc.zeros) X16) = w2 at *
          clear hz
          have q0 := HX.out.x.n0
          have qo := HX.out.x.on hc hs2
          rw [ho] at qo
          have qs := HX.out.x.serv hs2
          rw [hv] at qs
          have f1 := HX.out.x.frz (97 + s)
          have HX5 := Lib.hid (HX.out.upd (x16_serv HK.out.len hs2 (x := Pc.stb (ws.getD 2 0) s false) (q := false) (fun j hj => Pc.tb_stb hj)))
          have qw := HX5.out.x.wire hs2
          rw [HE2.out, hw] at qw
          have HX9 := Lib.hid (HX5.out.eq (x_endOff HK.out hc hs1 hs2 ho hv hw))
          rw [HUS.out] at HX9
          clear HX5 ho hv hw
          go_wp2_with fail
          refine (HAT.out w2).mono ?_
          rintro e w3 ⟨rfl, rfl⟩
          rw [atV]
          go_wp2_with (first | (refine wpList_load_row rfl X16 _ rfl w.heap.size rfl X16 _ (0, 0) _ HX9.out.x Tryz.underlying48 rfl iX16 ?_) | (refine wpList_store_row rfl X16 _ _ rfl (w.heap.size + 1) (x16V n (us)) rfl rfl X16 (x16V 0 Pc.zeros) HX9.out.r iX16 sz16 x16_one ?_))
          exact bodyPost_ret (results_cb X16 Tryz.results36 _ _ (w.heap.size + 1) _ _ rfl rfl (run_loadVar_row _ _ X16 X16 _ (0, 0) _ (HX9.out.r.row _) Tryz.underlying48 rfl iX16)) rfl ⟨rfl, below_setRow HX9.out.bel (by omega) _⟩
        | true =>
          go_enter Tryz.func36, Tryz.ntmps36
          go_upto_region 1 with fail
          generalize (w.alloc (Obj.cells (x16V n ws) X16)).alloc (Obj.cells (x16V 0 Pc.zeros) X16) = w2 at *
          clear hz
          have q0 := HX.out.x.n0
          have qo := HX.out.x.on hc hs2
          rw [ho] at qo
          have qs := HX.out.x.serv hs2
          rw [hv] at qs
          have f1 := HX.out.x.frz (97 + s)
          have HX5 := Lib.hid (HX.out.upd (x16_serv HK.out.len hs2 (x := Pc.stb (ws.getD 2 0) s false) (q := false) (fun j hj => Pc.tb_stb hj)))
          have qw := HX5.out.x.wire hs2
          rw [HE2.out, hw] at qw
          have qa := HX5.out.x.wait hs2
          rw [HE3.out] at qa
          have f2 := HX5.out.x.frz (65 + s)
          have HX6 := Lib.hid (HX5.out.upd (x16_wait (by simp [HK.out.len]) hs2 (x := Pc.stb (ws.getD 1 0) s true) (q := true) (fun j hj => by rw [Pc.tb_stb hj, HE3.out])))
          have HX9 := Lib.hid (HX6.out.eq (x_end HK.out hc hs1 hs2 ho hv hw))
          rw [HUS.out] at HX9
          generalize Wd.tb (ws.getD 1 0) s = oq at *
          clear HX5 HX6 ho hv hw
          go_wp2_with fail
          refine (HAT.out w2).mono ?_
          rintro e w3 ⟨rfl, rfl⟩
          rw [atV]
          go_wp2_with (first | (refine wpList_load_row rfl X16 _ rfl w.heap.size rfl X16 _ (0, 0) _ HX9.out.x Tryz.underlying48 rfl iX16 ?_) | (refine wpList_store_row rfl X16 _ _ rfl (w.heap.size + 1) (x16V n (us)) rfl rfl X16 (x16V 0 Pc.zeros) HX9.out.r iX16 sz16 x16_one ?_))
          exact bodyPost_ret (results_cb X16 Tryz.results36 _ _ (w.heap.size + 1) _ _ rfl rfl (run_loadVar_row _ _ X16 X16 _ (0, 0) _ (HX9.out.r.row _) Tryz.underlying48 rfl iX16)) rfl ⟨rfl, below_setRow HX9.out.bel (by omega) _⟩
set_option maxRecDepth 100000 in
set_option maxHeartbeats 16000000 in
theorem rwire16_c (n : Nat) (ws : List Int) (hk : Pc.Ok n ws) (s : Int) (on : Bool) (w : World) :
    Calls Tryz.prog 41 #[.agg (x16V n ws), .int .i64 s, .bool on] w fun e w' => e = .returned (.tuple #[.agg (x16V n (Pc.wireW n ws s on)), .bool (Pc.wires n s)]) ∧ Below w.heap.size w w' := by
  have HX := Lib.hid (XqAt.new w n ws)
  have hz := zero_x16
  have hn8 := hk.n8
  have HK := Lib.hid hk
  clear hk
  by_cases n0 : n = 0
  · have g0 : ((n : Int) == 0) = true := by simp; omega
    have HI := Lib.hid (show Pc.wires n s = false by unfold Pc.wires; simp; omega)
    have HW := Lib.hid (show Pc.wireW n ws s on = ws by unfold Pc.wireW; rw [HI.out]; rfl)
    rw [HI.out, HW.out]
    clear n0
    go_enter Tryz.func41, Tryz.ntmps41
    go_upto_region 1 with fail
    generalize (w.alloc (Obj.cells (x16V n ws) X16)).alloc (Obj.cells (x16V 0 Pc.zeros) X16) = w2 at *
    clear hz
    have q0 := HX.out.x.n0
    go_wp2_with (first | (refine wpList_load_row rfl X16 _ rfl w.heap.size rfl X16 _ (0, 0) _ HX.out.x Tryz.underlying48 rfl iX16 ?_) | (refine wpList_store_row rfl X16 _ _ rfl (w.heap.size + 1) (x16V n (ws)) rfl rfl X16 (x16V 0 Pc.zeros) HX.out.r iX16 sz16 x16_one ?_))
    exact bodyPost_ret (results_cb X16 Tryz.results41 _ _ (w.heap.size + 1) _ _ rfl rfl (run_loadVar_row _ _ X16 X16 _ (0, 0) _ (HX.out.r.row _) Tryz.underlying48 rfl iX16)) rfl ⟨rfl, below_setRow HX.out.bel (by omega) _⟩
  have g0 : ((n : Int) == 0) = false := by simp; omega
  by_cases hlo : s < 1
  · have g1 : decide (s < 1) = true := by simp; omega
    have HI := Lib.hid (show Pc.wires n s = false by unfold Pc.wires; simp; omega)
    have HW := Lib.hid (show Pc.wireW n ws s on = ws by unfold Pc.wireW; rw [HI.out]; rfl)
    rw [HI.out, HW.out]
    go_enter Tryz.func41, Tryz.ntmps41
    go_upto_region 1 with fail
    generalize (w.alloc (Obj.cells (x16V n ws) X16)).alloc (Obj.cells (x16V 0 Pc.zeros) X16) = w2 at *
    clear hz
    have q0 := HX.out.x.n0
    go_wp2_with (first | (refine wpList_load_row rfl X16 _ rfl w.heap.size rfl X16 _ (0, 0) _ HX.out.x Tryz.underlying48 rfl iX16 ?_) | (refine wpList_store_row rfl X16 _ _ rfl (w.heap.size + 1) (x16V n (ws)) rfl rfl X16 (x16V 0 Pc.zeros) HX.out.r iX16 sz16 x16_one ?_))
    exact bodyPost_ret (results_cb X16 Tryz.results41 _ _ (w.heap.size + 1) _ _ rfl rfl (run_loadVar_row _ _ X16 X16 _ (0, 0) _ (HX.out.r.row _) Tryz.underlying48 rfl iX16)) rfl ⟨rfl, below_setRow HX.out.bel (by omega) _⟩
  have g1 : decide (s < 1) = false := by simp; omega
  by_cases hhi : 31 < s
  · have g2 : decide (s > 31) = true := by simp; omega
    have HI := Lib.hid (show Pc.wires n s = false by unfold Pc.wires; simp; omega)
    have HW := Lib.hid (show Pc.wireW n ws s on = ws by unfold Pc.wireW; rw [HI.out]; rfl)
    rw [HI.out, HW.out]
    go_enter Tryz.func41, Tryz.ntmps41
    go_upto_region 1 with fail
    generalize (w.alloc (Obj.cells (x16V n ws) X16)).alloc (Obj.cells (x16V 0 Pc.zeros) X16) = w2 at *
    clear hz
    have q0 := HX.out.x.n0
    go_wp2_with (first | (refine wpList_load_row rfl X16 _ rfl w.heap.size rfl X16 _ (0, 0) _ HX.out.x Tryz.underlying48 rfl iX16 ?_) | (refine wpList_store_row rfl X16 _ _ rfl (w.heap.size + 1) (x16V n (ws)) rfl rfl X16 (x16V 0 Pc.zeros) HX.out.r iX16 sz16 x16_one ?_))
    exact bodyPost_ret (results_cb X16 Tryz.results41 _ _ (w.heap.size + 1) _ _ rfl rfl (run_loadVar_row _ _ X16 X16 _ (0, 0) _ (HX.out.r.row _) Tryz.underlying48 rfl iX16)) rfl ⟨rfl, below_setRow HX.out.bel (by omega) _⟩
  have g2 : decide (s > 31) = false := by simp; omega
  obtain ⟨k, rfl⟩ := Int.eq_ofNat_of_zero_le (by omega : 0 ≤ s)
  have hs1 : 1 ≤ k := by omega
  have hs2 : k < 32 := by omega
  have gs : (k : Int) < 32 := by omega
  have HI := Lib.hid (show Pc.wires n (k : Int) = true by unfold Pc.wires; simp; omega)
  have HW := Lib.hid (show Pc.wireW n ws (k : Int) on = Pc.wireP ws (k : Int) on by unfold Pc.wireW; rw [HI.out, if_pos rfl])
  rw [HI.out, HW.out]
  have HE2 := Lib.hid (show ∀ x, (ws.set 0 x).getD 2 0 = ws.getD 2 0 from fun x => by rw [Pc.get_set (by rw [HK.out.len]; omega), if_neg (by omega)])
  have HE3 := Lib.hid (show ∀ x, (ws.set 0 x).getD 1 0 = ws.getD 1 0 from fun x => by rw [Pc.get_set (by rw [HK.out.len]; omega), if_neg (by omega)])
  clear HI HW n0 hlo hhi
  obtain ⟨us, hus⟩ : ∃ us, Pc.wireP ws (k : Int) on = us := ⟨_, rfl⟩
  have HUS := Lib.hid hus
  clear hus
  rw [HUS.out]
  cases on with
  | false =>
    go_enter Tryz.func41, Tryz.ntmps41
    go_upto_region 1 with fail
    generalize (w.alloc (Obj.cells (x16V n ws) X16)).alloc (Obj.cells (x16V 0 Pc.zeros) X16) = w2 at *
    clear hz
    have q0 := HX.out.x.n0
    have qw := HX.out.x.wire hs2
    have f0 := HX.out.x.frz (33 + k)
    have HX5 := Lib.hid (HX.out.upd (x16_wire HK.out.len hs2 (x := Pc.stb (ws.getD 0 0) k false) (q := false) (fun j hj => Pc.tb_stb hj)))
    have qs := HX5.out.x.serv hs2
    rw [HE2.out] at qs
    have HX9 := Lib.hid (HX5.out.eq (x_wireOff HK.out hs1 hs2))
    rw [HUS.out] at HX9
    generalize Wd.tb (ws.getD 0 0) k = ow at *
    generalize Wd.tb (ws.getD 2 0) k = os at *
    clear HX5
    go_wp2_with (first | (refine wpList_load_row rfl X16 _ rfl w.heap.size rfl X16 _ (0, 0) _ HX9.out.x Tryz.underlying48 rfl iX16 ?_) | (refine wpList_store_row rfl X16 _ _ rfl (w.heap.size + 1) (x16V n (us)) rfl rfl X16 (x16V 0 Pc.zeros) HX9.out.r iX16 sz16 x16_one ?_))
    exact bodyPost_ret (results_cb X16 Tryz.results41 _ _ (w.heap.size + 1) _ _ rfl rfl (run_loadVar_row _ _ X16 X16 _ (0, 0) _ (HX9.out.r.row _) Tryz.underlying48 rfl iX16)) rfl ⟨rfl, below_setRow HX9.out.bel (by omega) _⟩
  | true =>
    cases hv : Wd.tb (ws.getD 2 0) k with
    | false =>
      go_enter Tryz.func41, Tryz.ntmps41
      go_upto_region 1 with fail
      generalize (w.alloc (Obj.cells (x16V n ws) X16)).alloc (Obj.cells (x16V 0 Pc.zeros) X16) = w2 at *
      clear hz
      have q0 := HX.out.x.n0
      have qw := HX.out.x.wire hs2
      have f0 := HX.out.x.frz (33 + k)
      have HX5 := Lib.hid (HX.out.upd (x16_wire HK.out.len hs2 (x := Pc.stb (ws.getD 0 0) k true) (q := true) (fun j hj => Pc.tb_stb hj)))
      have qs := HX5.out.x.serv hs2
      rw [HE2.out] at qs
      rw [hv] at qs
      have qa := HX5.out.x.wait hs2
      rw [HE3.out] at qa
      have f1 := HX5.out.x.frz (65 + k)
      have HX6 := Lib.hid (HX5.out.upd (x16_wait (by simp [HK.out.len]) hs2 (x := Pc.stb (ws.getD 1 0) k true) (q := true) (fun j hj => by rw [Pc.tb_stb hj, HE3.out])))
      have HX9 := Lib.hid (HX6.out.eq (x_wireOn HK.out hs1 hs2 hv))
      generalize Wd.tb (ws.getD 1 0) k = oq at *
      clear HX6
      rw [HUS.out] at HX9
      generalize Wd.tb (ws.getD 0 0) k = ow at *
      clear HX5
      go_wp2_with (first | (refine wpList_load_row rfl X16 _ rfl w.heap.size rfl X16 _ (0, 0) _ HX9.out.x Tryz.underlying48 rfl iX16 ?_) | (refine wpList_store_row rfl X16 _ _ rfl (w.heap.size + 1) (x16V n (us)) rfl rfl X16 (x16V 0 Pc.zeros) HX9.out.r iX16 sz16 x16_one ?_))
      exact bodyPost_ret (results_cb X16 Tryz.results41 _ _ (w.heap.size + 1) _ _ rfl rfl (run_loadVar_row _ _ X16 X16 _ (0, 0) _ (HX9.out.r.row _) Tryz.underlying48 rfl iX16)) rfl ⟨rfl, below_setRow HX9.out.bel (by omega) _⟩
    | true =>
      go_enter Tryz.func41, Tryz.ntmps41
      go_upto_region 1 with fail
      generalize (w.alloc (Obj.cells (x16V n ws) X16)).alloc (Obj.cells (x16V 0 Pc.zeros) X16) = w2 at *
      clear hz
      have q0 := HX.out.x.n0
      have qw := HX.out.x.wire hs2
      have f0 := HX.out.x.frz (33 + k)
      have HX5 := Lib.hid (HX.out.upd (x16_wire HK.out.len hs2 (x := Pc.stb (ws.getD 0 0) k true) (q := true) (fun j hj => Pc.tb_stb hj)))
      have qs := HX5.out.x.serv hs2
      rw [HE2.out] at qs
      rw [hv] at qs
      have HX9 := Lib.hid (HX5.out.eq (x_wireHeld HK.out hs1 hs2 hv))
      rw [HUS.out] at HX9
      generalize Wd.tb (ws.getD 0 0) k = ow at *
      clear HX5
      go_wp2_with (first | (refine wpList_load_row rfl X16 _ rfl w.heap.size rfl X16 _ (0, 0) _ HX9.out.x Tryz.underlying48 rfl iX16 ?_) | (refine wpList_store_row rfl X16 _ _ rfl (w.heap.size + 1) (x16V n (us)) rfl rfl X16 (x16V 0 Pc.zeros) HX9.out.r iX16 sz16 x16_one ?_))
      exact bodyPost_ret (results_cb X16 Tryz.results41 _ _ (w.heap.size + 1) _ _ rfl rfl (run_loadVar_row _ _ X16 X16 _ (0, 0) _ (HX9.out.r.row _) Tryz.underlying48 rfl iX16)) rfl ⟨rfl, below_setRow HX9.out.bel (by omega) _⟩
end Go.Proofs.YtfjdalepaacmgaaGreat
