/-
  The reference of layer 15: Write, Tick, Lines.
-/
import Derived.Test.YtjeolfcefeglpaaCtR2
set_option maxRecDepth 20000
namespace Go.Proofs.Ytjeolfcefeglpaa
open Go.ChangeShapes Go.WideShapes Go.ChangeAt Go.RowKit

/-- The reference's value beside a cell for the result. -/
structure XrAt (w w' : World) (bx br : Nat) (n : Nat) (ws : List Int) : Prop where
  x : XcAt w' bx n ws
  r : CsAt w' br X15 (x15V 0 (Ct.newW 0))
  bel : Below w.heap.size w w'
section
variable {w w' : World} {bx br n : Nat} {ws : List Int}
theorem XrAt.setW (h : XrAt w w' bx br n ws) (hge : w.heap.size ≤ bx) (hne : br ≠ bx) {i : Nat} (hi : i < 9) (v : Int) (hk : Ct.Ok n (ws.set i v)) : XrAt w (w'.setCell ⟨bx, i + 1, none⟩ (.int .u64 v)) bx br n (ws.set i v) :=
  ⟨h.x.setW hi v hk, h.r.far hne _, h.bel.setCell hge _⟩
theorem XrAt.setB (h : XrAt w w' bx br n ws) (hge : w.heap.size ≤ bx) (hne : br ≠ bx) {i : Nat} (hi : i < 8) (v : Int) (hk : Ct.Ok n (ws.set (9 + i) v)) : XrAt w (w'.setCell ⟨bx, i + 10, none⟩ (.bool (v == 1))) bx br n (ws.set (9 + i) v) :=
  ⟨h.x.setB hi v hk, h.r.far hne _, h.bel.setCell hge _⟩
theorem XrAt.new (w : World) (hk : Ct.Ok n ws) : XrAt w ((w.alloc (Obj.cells (x15V n ws) X15)).alloc (Obj.cells (x15V 0 (Ct.newW 0)) X15)) w.heap.size (w.heap.size + 1) n ws := by
  have hb1 := (Below.refl w.heap.size w).alloc (Nat.le_refl _) (Obj.cells (x15V n ws) X15)
  have e : (w.alloc (Obj.cells (x15V n ws) X15)).heap.size = w.heap.size + 1 := by simp
  refine ⟨(XcAt.box w hk).low ((Below.refl _ _).alloc (Nat.le_refl _) _), ?_, hb1.alloc hb1.size _⟩
  have := CsAt.new (w.alloc (Obj.cells (x15V n ws) X15)) X15 (x15V 0 (Ct.newW 0))
  rw [e] at this
  exact this
end
theorem iXok {n : Nat} {ws : List Int} (h : Ct.Ok n ws) : (Try.prog.info? X15).map (·.size) = some (x15V n ws).size := iX15 h.len
theorem size_ok {n : Nat} {ws : List Int} (h : Ct.Ok n ws) : (x15V 0 (Ct.newW 0)).size = (x15V n ws).size := by rw [x15V_size rfl, x15V_size h.len]
set_option maxRecDepth 100000 in
set_option maxHeartbeats 8000000 in
theorem rwrite15_c (n : Nat) (ws : List Int) (hk : Ct.Ok n ws) (off size v : Int) (o0 : 0 ≤ off) (v0 : 0 ≤ v) (v1 : v ≤ 18446744073709551615) (w : World) :
    Calls Try.prog 16 #[.agg (x15V n ws), .int .u64 off, .int .i64 size, .int .u64 v] w fun e w' => e = .returned (.tuple #[.agg (x15V n (Ct.writeC n ws off size v)), .bool (Ct.is n off size)]) ∧ Below w.heap.size w w' := by
  have HX := Lib.hid (XrAt.new w hk)
  have hz := zero_x15
  have hn8 := hk.n8
  have HAT := Lib.hid (rat15_c n hn8 off size o0)
  have hl := Ct.at_lt (n := n) (size := size) o0
  have HOK := Lib.hid (Ct.write_ok hk o0 size ⟨v0, v1⟩)
  have HWD := Lib.hid (show Ct.writeC n ws off size v = if (Ct.at_ n off size).1 = 0 then ws else if (Ct.at_ n off size).1 = 1 then ws.set (9 + (Ct.at_ n off size).2.1) (v % 2)
    else ws.set (Ct.idx (Ct.at_ n off size).1 (Ct.at_ n off size).2.1) (Ct.with_ (ws.getD (Ct.idx (Ct.at_ n off size).1 (Ct.at_ n off size).2.1) 0) (Ct.at_ n off size).2.2 v) from rfl)
  have HIS := Lib.hid (show Ct.is n off size = decide ((Ct.at_ n off size).1 ≠ 0) from rfl)
  have HRG := Lib.hid hk.rng
  rw [HWD.out] at HOK ⊢
  rw [HIS.out]
  generalize Ct.at_ n off size = t at *
  obtain ⟨t1, h, b⟩ := t
  simp only at hl HOK HWD HIS ⊢
  have ht : t1 = 0 ∨ (t1 = 1 ∧ h < n) ∨ (t1 = 2 ∧ h < n) ∨ (t1 = 3) := by omega
  clear hl hk HWD HIS
  rcases ht with rfl | ⟨rfl, hh⟩ | ⟨rfl, hh⟩ | rfl
  · simp only [if_true]
    go_enter Try.func16, Try.ntmps16
    go_upto_region 1 with fail
    generalize (w.alloc (Obj.cells (x15V n ws) X15)).alloc (Obj.cells (x15V 0 (Ct.newW 0)) X15) = w2 at *
    clear hz
    have q0 := HX.out.x.n0
    go_wp2_with fail
    refine (HAT.out w2).mono ?_
    rintro e w3 ⟨rfl, rfl⟩
    simp only [atT]
    go_wp2_with (first | (refine wpList_load_row rfl X15 _ rfl w.heap.size rfl X15 _ (0, 0) _ HX.out.x.row Try.underlying31 rfl (iXok HX.out.x.ok) ?_) | (refine wpList_store_row rfl X15 _ _ rfl (w.heap.size + 1) (x15V n (ws)) rfl rfl X15 (x15V 0 (Ct.newW 0)) HX.out.r (iXok HX.out.x.ok) (size_ok HX.out.x.ok) x15V_one ?_))
    exact bodyPost_ret (results_cb X15 Try.results16 _ _ (w.heap.size + 1) _ _ rfl rfl (run_loadVar_row _ _ X15 X15 _ (0, 0) _ (HX.out.r.row _) Try.underlying31 rfl (iXok HX.out.x.ok))) rfl ⟨rfl, below_setRow HX.out.bel (by omega) _⟩
  · simp only [Nat.reduceEqDiff, if_false, if_true] at HOK ⊢
    go_enter Try.func16, Try.ntmps16
    go_upto_region 1 with fail
    generalize (w.alloc (Obj.cells (x15V n ws) X15)).alloc (Obj.cells (x15V 0 (Ct.newW 0)) X15) = w2 at *
    clear hz
    have q0 := HX.out.x.n0
    have q := HX.out.x.cb (i := h) (by omega)
    have f := HX.out.x.row.frozen (10 + h)
    have HX2 := Lib.hid (HX.out.setB (Nat.le_refl _) (by omega) (i := h) (by omega) (v % 2) HOK.out)
    rw [show h + 10 = 10 + h by omega] at q HX2
    have gh : (h : Int) < 8 := by omega
    generalize (ws.getD (9 + h) 0 == 1) = old at *
    go_wp2_with fail
    refine (HAT.out w2).mono ?_
    rintro e w3 ⟨rfl, rfl⟩
    simp only [atT]
    go_wp2_with (first | (refine wpList_load_row rfl X15 _ rfl w.heap.size rfl X15 _ (0, 0) _ HX2.out.x.row Try.underlying31 rfl (iXok HX2.out.x.ok) ?_) | (refine wpList_store_row rfl X15 _ _ rfl (w.heap.size + 1) (x15V n (ws.set (9 + h) (v % 2))) rfl rfl X15 (x15V 0 (Ct.newW 0)) HX2.out.r (iXok HX2.out.x.ok) (size_ok HX2.out.x.ok) x15V_one ?_))
    exact bodyPost_ret (results_cb X15 Try.results16 _ _ (w.heap.size + 1) _ _ rfl rfl (run_loadVar_row _ _ X15 X15 _ (0, 0) _ (HX2.out.r.row _) Try.underlying31 rfl (iXok HX2.out.x.ok))) rfl ⟨rfl, below_setRow HX2.out.bel (by omega) _⟩
  · simp only [Nat.reduceEqDiff, if_false] at HOK ⊢
    rw [show Ct.idx 2 h = 1 + h from rfl] at HOK ⊢
    have hr := HRG.out (1 + h)
    obtain ⟨x, hx⟩ : ∃ x, ws.getD (1 + h) 0 = x := ⟨_, rfl⟩
    rw [hx] at HOK hr ⊢
    go_enter Try.func16, Try.ntmps16
    go_upto_region 1 with fail
    generalize (w.alloc (Obj.cells (x15V n ws) X15)).alloc (Obj.cells (x15V 0 (Ct.newW 0)) X15) = w2 at *
    clear hz
    have q0 := HX.out.x.n0
    have q := HX.out.x.cw (i := 1 + h) (by omega)
    have f := HX.out.x.row.frozen (2 + h)
    have HX2 := Lib.hid (HX.out.setW (Nat.le_refl _) (by omega) (i := 1 + h) (by omega) (Ct.with_ x b v) HOK.out)
    rw [show 1 + h + 1 = 2 + h by omega, hx] at q
    rw [show 1 + h + 1 = 2 + h by omega] at HX2
    have gh : (h : Int) < 8 := by omega
    clear hx
    go_wp2_with fail
    refine (HAT.out w2).mono ?_
    rintro e w3 ⟨rfl, rfl⟩
    simp only [atT]
    go_wp2_with fail
    refine (with_c x b v w3 hr.1 hr.2 v0 v1).mono ?_
    rintro e w4 ⟨rfl, rfl⟩
    go_wp2_with (first | (refine wpList_load_row rfl X15 _ rfl w.heap.size rfl X15 _ (0, 0) _ HX2.out.x.row Try.underlying31 rfl (iXok HX2.out.x.ok) ?_) | (refine wpList_store_row rfl X15 _ _ rfl (w.heap.size + 1) (x15V n (ws.set (1 + h) (Ct.with_ x b v))) rfl rfl X15 (x15V 0 (Ct.newW 0)) HX2.out.r (iXok HX2.out.x.ok) (size_ok HX2.out.x.ok) x15V_one ?_))
    exact bodyPost_ret (results_cb X15 Try.results16 _ _ (w.heap.size + 1) _ _ rfl rfl (run_loadVar_row _ _ X15 X15 _ (0, 0) _ (HX2.out.r.row _) Try.underlying31 rfl (iXok HX2.out.x.ok))) rfl ⟨rfl, below_setRow HX2.out.bel (by omega) _⟩
  · simp only [Nat.reduceEqDiff, if_false] at HOK ⊢
    rw [show Ct.idx 3 h = 0 from rfl] at HOK ⊢
    have hr := HRG.out 0
    obtain ⟨x, hx⟩ : ∃ x, ws.getD 0 0 = x := ⟨_, rfl⟩
    rw [hx] at HOK hr ⊢
    go_enter Try.func16, Try.ntmps16
    go_upto_region 1 with fail
    generalize (w.alloc (Obj.cells (x15V n ws) X15)).alloc (Obj.cells (x15V 0 (Ct.newW 0)) X15) = w2 at *
    clear hz
    have q0 := HX.out.x.n0
    have q := HX.out.x.cw (i := 0) (by omega)
    have f := HX.out.x.row.frozen 1
    have HX2 := Lib.hid (HX.out.setW (Nat.le_refl _) (by omega) (i := 0) (by omega) (Ct.with_ x b v) HOK.out)
    rw [hx] at q
    clear hx
    go_wp2_with fail
    refine (HAT.out w2).mono ?_
    rintro e w3 ⟨rfl, rfl⟩
    simp only [atT]
    go_wp2_with fail
    refine (with_c x b v w3 hr.1 hr.2 v0 v1).mono ?_
    rintro e w4 ⟨rfl, rfl⟩
    go_wp2_with (first | (refine wpList_load_row rfl X15 _ rfl w.heap.size rfl X15 _ (0, 0) _ HX2.out.x.row Try.underlying31 rfl (iXok HX2.out.x.ok) ?_) | (refine wpList_store_row rfl X15 _ _ rfl (w.heap.size + 1) (x15V n (ws.set 0 (Ct.with_ x b v))) rfl rfl X15 (x15V 0 (Ct.newW 0)) HX2.out.r (iXok HX2.out.x.ok) (size_ok HX2.out.x.ok) x15V_one ?_))
    exact bodyPost_ret (results_cb X15 Try.results16 _ _ (w.heap.size + 1) _ _ rfl rfl (run_loadVar_row _ _ X15 X15 _ (0, 0) _ (HX2.out.r.row _) Try.underlying31 rfl (iXok HX2.out.x.ok))) rfl ⟨rfl, below_setRow HX2.out.bel (by omega) _⟩
set_option maxRecDepth 100000 in
set_option maxHeartbeats 8000000 in
theorem rtick15_c (n : Nat) (ws : List Int) (hk : Ct.Ok n ws) (t : Int) (g0 : -9223372036854775808 ≤ t) (g1 : t ≤ 9223372036854775807) (w : World) :
    Calls Try.prog 18 #[.agg (x15V n ws), .int .i64 t] w fun e w' => e = .returned (.agg (x15V n (Ct.tickC n ws t))) ∧ Below w.heap.size w w' := by
  have HX := Lib.hid (XrAt.new w hk)
  have hz := zero_x15
  have hn8 := hk.n8
  have HOK := Lib.hid (Ct.tick_ok hk t)
  have hr := hk.rng 0
  by_cases ht : 0 < t
  · have e0 : decide (t > 0) = true := by simpa using ht
    by_cases hn : 0 < n
    · have HE := Lib.hid (show Ct.tickC n ws t = ws.set 0 ((ws.getD 0 0 + t) % 18446744073709551616) by unfold Ct.tickC; rw [if_pos ⟨ht, hn⟩])
      rw [HE.out, ← IntKind.wrap_u64] at HOK ⊢
      have e1 : decide ((n : Int) > 0) = true := by simp; omega
      obtain ⟨x, hx⟩ : ∃ x, ws.getD 0 0 = x := ⟨_, rfl⟩
      rw [hx] at HOK hr ⊢
      clear hk HE
      go_enter Try.func18, Try.ntmps18
      go_upto_region 1 with fail
      generalize (w.alloc (Obj.cells (x15V n ws) X15)).alloc (Obj.cells (x15V 0 (Ct.newW 0)) X15) = w2 at *
      have q0 := HX.out.x.n0
      have q := HX.out.x.cw (i := 0) (by omega)
      rw [hx] at q
      have f := HX.out.x.row.frozen 1
      have HX2 := Lib.hid (HX.out.setW (Nat.le_refl _) (by omega) (i := 0) (by omega) (IntKind.u64.wrap (x + t)) HOK.out)
      clear hz hx
      go_wp2_with (first | (refine wpList_load_row rfl X15 _ rfl w.heap.size rfl X15 _ (0, 0) _ HX2.out.x.row Try.underlying31 rfl (iXok HX2.out.x.ok) ?_) | (refine wpList_store_row rfl X15 _ _ rfl (w.heap.size + 1) (x15V n (ws.set 0 (IntKind.u64.wrap (x + t)))) rfl rfl X15 (x15V 0 (Ct.newW 0)) HX2.out.r (iXok HX2.out.x.ok) (size_ok HX2.out.x.ok) x15V_one ?_))
      exact bodyPost_ret (results_cell_row Try.results18 _ _ _ _ _ _ _ rfl (HX2.out.r.row _) Try.underlying31 rfl (iXok HX2.out.x.ok)) rfl ⟨rfl, below_setRow HX2.out.bel (by omega) _⟩
    · have HE := Lib.hid (show Ct.tickC n ws t = ws by unfold Ct.tickC; rw [if_neg (by omega)])
      rw [HE.out] at HOK ⊢
      have e1 : decide ((n : Int) > 0) = false := by simp; omega
      clear hk HE
      go_enter Try.func18, Try.ntmps18
      go_upto_region 1 with fail
      generalize (w.alloc (Obj.cells (x15V n ws) X15)).alloc (Obj.cells (x15V 0 (Ct.newW 0)) X15) = w2 at *
      have q0 := HX.out.x.n0
      clear hz
      go_wp2_with (first | (refine wpList_load_row rfl X15 _ rfl w.heap.size rfl X15 _ (0, 0) _ HX.out.x.row Try.underlying31 rfl (iXok HX.out.x.ok) ?_) | (refine wpList_store_row rfl X15 _ _ rfl (w.heap.size + 1) (x15V n (ws)) rfl rfl X15 (x15V 0 (Ct.newW 0)) HX.out.r (iXok HX.out.x.ok) (size_ok HX.out.x.ok) x15V_one ?_))
      exact bodyPost_ret (results_cell_row Try.results18 _ _ _ _ _ _ _ rfl (HX.out.r.row _) Try.underlying31 rfl (iXok HX.out.x.ok)) rfl ⟨rfl, below_setRow HX.out.bel (by omega) _⟩
  · have e0 : decide (t > 0) = false := by simpa using ht
    have HE := Lib.hid (show Ct.tickC n ws t = ws by unfold Ct.tickC; rw [if_neg (by omega)])
    rw [HE.out] at HOK ⊢
    clear hk HE
    go_enter Try.func18, Try.ntmps18
    go_upto_region 1 with fail
    generalize (w.alloc (Obj.cells (x15V n ws) X15)).alloc (Obj.cells (x15V 0 (Ct.newW 0)) X15) = w2 at *
    have q0 := HX.out.x.n0
    clear hz
    go_wp2_with (first | (refine wpList_load_row rfl X15 _ rfl w.heap.size rfl X15 _ (0, 0) _ HX.out.x.row Try.underlying31 rfl (iXok HX.out.x.ok) ?_) | (refine wpList_store_row rfl X15 _ _ rfl (w.heap.size + 1) (x15V n (ws)) rfl rfl X15 (x15V 0 (Ct.newW 0)) HX.out.r (iXok HX.out.x.ok) (size_ok HX.out.x.ok) x15V_one ?_))
    exact bodyPost_ret (results_cell_row Try.results18 _ _ _ _ _ _ _ rfl (HX.out.r.row _) Try.underlying31 rfl (iXok HX.out.x.ok)) rfl ⟨rfl, below_setRow HX.out.bel (by omega) _⟩
set_option maxHeartbeats 4000000 in
theorem rlines15_c (n : Nat) (ws : List Int) (hk : Ct.Ok n ws) (hart : Int) (w : World) :
    Calls Try.prog 22 #[.agg (x15V n ws), .int .i64 hart] w fun e w' => e = .returned (.int .u64 (Ct.lineC n ws hart)) ∧ Below w.heap.size w w' := by
  have HX := Lib.hid (XcAt.box w hk)
  have HB := Lib.hid ((Below.refl w.heap.size w).alloc (Nat.le_refl _) (Obj.cells (x15V n ws) X15))
  have hn8 := hk.n8
  by_cases hneg : hart < 0
  · have HE := Lib.hid (show Ct.lineC n ws hart = 0 by unfold Ct.lineC; rw [if_neg (by omega)])
    rw [HE.out]
    have e0 : decide (hart < 0) = true := by simpa using hneg
    clear hk
    go_enter Try.func22, Try.ntmps22
    go_upto_region 1 with fail
    generalize w.alloc (Obj.cells (x15V n ws) X15) = w1 at *
    go_wp2_with fail
    go_ret
    exact ⟨rfl, HB.out⟩
  · have e0 : decide (hart < 0) = false := by simpa using hneg
    obtain ⟨k, rfl⟩ := Int.eq_ofNat_of_zero_le (by omega : 0 ≤ hart)
    by_cases hlt : k < n
    · have hbit := hk.bit k
      have HE := Lib.hid (show Ct.lineC n ws (k : Int) = (if ws.getD (9 + k) 0 = 1 then 8 else 0) + (if ws.getD (1 + k) 0 ≤ ws.getD 0 0 then 128 else 0) by unfold Ct.lineC; rw [if_pos (by omega), Int.toNat_natCast])
      rw [HE.out]
      have e1 : decide ((k : Int) ≥ (n : Int)) = false := by simp; omega
      have gk : (k : Int) < 8 := by omega
      have q0 := HX.out.n0
      have q1 := HX.out.cb (i := k) (by omega)
      have q2 := HX.out.cw (i := 1 + k) (by omega)
      have q3 := HX.out.cw (i := 0) (by omega)
      rw [show k + 10 = 10 + k by omega] at q1
      rw [show 1 + k + 1 = 2 + k by omega] at q2
      clear HE hk
      generalize ws.getD (9 + k) 0 = s at *
      generalize ws.getD (1 + k) 0 = c at *
      generalize ws.getD 0 0 = t at *
      by_cases hct : c ≤ t
      · have e2 : decide (c ≤ t) = true := by simpa using hct
        rw [if_pos hct]
        rcases hbit with rfl | rfl
        all_goals
          go_enter Try.func22, Try.ntmps22
          go_upto_region 1 with fail
          generalize w.alloc (Obj.cells (x15V n ws) X15) = w1 at *
          go_wp2_with fail
          go_quiet (fail)
          have HB2 := Lib.hid (below_dnC HB.out nq)
          go_wp2_with fail
          go_ret
          exact ⟨rfl, HB2.out⟩
      · have e2 : decide (c ≤ t) = false := by simpa using hct
        rw [if_neg hct]
        rcases hbit with rfl | rfl
        all_goals
          go_enter Try.func22, Try.ntmps22
          go_upto_region 1 with fail
          generalize w.alloc (Obj.cells (x15V n ws) X15) = w1 at *
          go_wp2_with fail
          go_quiet (fail)
          have HB2 := Lib.hid (below_dnC HB.out nq)
          go_wp2_with fail
          go_ret
          exact ⟨rfl, HB2.out⟩
    · have HE := Lib.hid (show Ct.lineC n ws (k : Int) = 0 by unfold Ct.lineC; rw [if_neg (by omega)])
      rw [HE.out]
      have e1 : decide ((k : Int) ≥ (n : Int)) = true := by simp; omega
      have q0 := HX.out.n0
      clear hk
      go_enter Try.func22, Try.ntmps22
      go_upto_region 1 with fail
      generalize w.alloc (Obj.cells (x15V n ws) X15) = w1 at *
      go_wp2_with fail
      go_ret
      exact ⟨rfl, HB.out⟩
end Go.Proofs.Ytjeolfcefeglpaa
