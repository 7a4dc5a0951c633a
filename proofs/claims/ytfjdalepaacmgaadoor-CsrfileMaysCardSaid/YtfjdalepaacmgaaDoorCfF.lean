/-
  The reference of layer 22: and, or, at, Word, with, New.
-/
import Derived.Test.YtfjdalepaacmgaaDoorCfE
set_option maxRecDepth 20000
namespace Go.Proofs.YtfjdalepaacmgaaDoor
open Go.ChangeShapes Go.WideShapes Go.ChangeAt Go.RowKit Wd Csr Sta Cf

theorem sum_or (f g : Nat → Bool) (n : Nat) : sumTo (fun i => f i || g i) n + sumTo (fun i => f i && g i) n = sumTo f n + sumTo g n := by
  induction n with
  | zero => rfl
  | succ n ih =>
    simp only [sumTo]
    cases f n <;> cases g n <;> simp <;> omega
theorem sum_not (f g : Nat → Bool) (n : Nat) : sumTo (fun i => f i && !g i) n + sumTo (fun i => f i && g i) n = sumTo f n := by
  induction n with
  | zero => rfl
  | succ n ih =>
    simp only [sumTo]
    cases f n <;> cases g n <;> simp <;> omega
theorem sum_next (f g m : Nat → Bool) (n : Nat) : sumTo (fun i => if m i then g i else f i) n = sumTo (fun i => f i && !m i) n + sumTo (fun i => g i && m i) n := by
  induction n with
  | zero => rfl
  | succ n ih =>
    simp only [sumTo]
    cases f n <;> cases g n <;> cases m n <;> simp <;> omega
theorem as_sum {x : Int} (h : W64 x) : x = (sumTo (tb x) 64 : Nat) := eq_word h.1 h.2 (fun _ _ => rfl)
theorem and_sum {a b : Int} (ha : W64 a) (hb : W64 b) : bits .and .u64 a b = (sumTo (fun i => tb a i && tb b i) 64 : Nat) := eq_word (and_64 ha hb).1 (and_64 ha hb).2 (fun i _ => tb_and ha.1 ha.2 hb.1 hb.2 i)
theorem or_sum {a b : Int} (ha : W64 a) (hb : W64 b) : bits .or .u64 a b = (sumTo (fun i => tb a i || tb b i) 64 : Nat) := eq_word (or_range ha.1 ha.2 hb.1 hb.2).1 (or_range ha.1 ha.2 hb.1 hb.2).2 (fun i _ => tb_or ha.1 ha.2 hb.1 hb.2 i)
theorem not_sum {a b : Int} (ha : W64 a) (hb : W64 b) : bits .andNot .u64 a b = (sumTo (fun i => tb a i && !tb b i) 64 : Nat) := eq_word (andNot_range ha.1 ha.2 hb.1 hb.2).1 (andNot_range ha.1 ha.2 hb.1 hb.2).2 (fun i _ => tb_andNot ha.1 ha.2 hb.1 hb.2 i)
theorem or_and {a b : Int} (ha : W64 a) (hb : W64 b) : bits .or .u64 a b + bits .and .u64 a b = a + b := by
  have h := sum_or (tb a) (tb b) 64
  have h1 := as_sum ha
  have h2 := as_sum hb
  rw [or_sum ha hb, and_sum ha hb]
  omega
theorem not_and {a b : Int} (ha : W64 a) (hb : W64 b) : bits .andNot .u64 a b + bits .and .u64 a b = a := by
  have h := sum_not (tb a) (tb b) 64
  have h1 := as_sum ha
  rw [not_sum ha hb, and_sum ha hb]
  omega
theorem next_sum {m a b : Int} (hm : W64 m) (ha : W64 a) (hb : W64 b) : nextS m a b = bits .andNot .u64 a m + bits .and .u64 b m := by
  have h := sum_next (tb a) (tb b) (tb m) 64
  rw [not_sum ha hm, and_sum hb hm]
  show ((sumTo (fun i => if tb m i then tb b i else tb a i) 64 : Nat) : Int) = _
  omega
theorem wrap_in {x : Int} (h : W64 x) : IntKind.u64.wrap x = x := by rw [IntKind.wrap_u64]; have := h.1; have := h.2; omega
theorem or_wrap {a b : Int} (ha : W64 a) (hb : W64 b) : IntKind.u64.wrap (IntKind.u64.wrap (a + b) - bits .and .u64 a b) = bits .or .u64 a b := by
  have h := or_and ha hb
  have h1 := or_range ha.1 ha.2 hb.1 hb.2
  rw [IntKind.wrap_u64, IntKind.wrap_u64]
  omega
set_option maxHeartbeats 4000000 in
theorem rand_c (a b : Int) (ha : W64 a) (hb : W64 b) (w : World) :
    Calls Tryd.prog 86 #[.int .u64 a, .int .u64 b] w fun e w' => e = .returned (.int .u64 (bits .and .u64 a b)) ∧ Below w.heap.size w w' := by
  obtain ⟨i0, hi, hz0, hz1, hz2⟩ := info_parts info_u64
  obtain ⟨f, hf⟩ : ∃ f : Nat → Bool, f = fun (i : Nat) => tb a i && tb b i := ⟨_, rfl⟩
  have HF := Lib.hid hf
  have HS := Lib.hid (and_sum ha hb)
  have HAA := Lib.hid ha
  have HBB := Lib.hid hb
  clear hf ha hb
  go_enter Tryd.func86, Tryd.ntmps86
  go_wp2_with fail
  go_loopw [5, 6] (fun l i wr => ∃ k : Nat, k ≤ 64 ∧ i = .int .i64 k ∧ wr.ownsRow w.heap.size 24 1 l k (bl f k) ∧ Below w.heap.size w wr) (fun _ i _ => 64 - (intOf i).toNat)
  case atStart => exact ⟨0, Nat.zero_le _, rfl, World.ownsRow_nil _ _ _ _, Below.refl _ _⟩
  case round =>
    obtain ⟨k, hk, rfl, hown, hnx⟩ := hrel
    have hsz := hnx.size
    have HW := Lib.hid hown
    have HNX := Lib.hid hnx
    clear hown hnx
    by_cases hlt : k < 64
    · have hd1 : decide ((k : Int) < 64) = true := decide_eq_true (by omega)
      have HBk := Lib.hid (show (tbI a k && tbI b k) = f k by rw [HF.out, tbI_nat a k hlt, tbI_nat b k hlt])
      have HB1 := Lib.hid (fun W => bit_c a k W HAA.out.1 HAA.out.2)
      have HB2 := Lib.hid (fun W => bit_c b k W HBB.out.1 HBB.out.2)
      generalize tbI a k = x at *
      generalize tbI b k = y at *
      have HM := Lib.hid (show IntKind.u64.wrap (bi x * bi y) = bi (x && y) by cases x <;> cases y <;> decide)
      go_wp2_with fail
      refine (HB1.out _).mono ?_
      rintro e w2 ⟨rfl, rfl⟩
      go_wp2_with fail
      refine (HB2.out _).mono ?_
      rintro e w2 ⟨rfl, rfl⟩
      go_wp2_with (at_builtin; rw [HM.out]; refine wpList_append_own _ rfl _ _ 82 rfl w.heap.size 24 i0 (.int .u64 0) 1 8 Tryd.underlying82 hi hz0 hz1 hz2 rfl (by decide) _ _ _ rfl (HW.out.alloc _) ⟨wr.heap.size, 0, none⟩ 1 1 [.int .u64 (bi (x && y))] rfl rfl news_one (one_cell _) (by unfold maxLen; omega) (by omega) (by simp; omega) ?_; intro v' w3 hown' hgrow _)
      have R := rel_app hsz HBk.out HW.out hown' hgrow HNX.out
      go_roundw
      case rel => exact ⟨k + 1, by omega, by go_num, R.1, R.2⟩
      case measure => simp [intOf]; omega
    · obtain rfl : k = 64 := by omega
      have HX2 := Lib.hid (show ((sumTo f 64 : Nat) : Int) = bits .and .u64 a b by rw [HS.out, HF.out])
      have HOF := Lib.hid (of_c f 64 _ w.heap.size _ (by omega) (by omega) HW.out)
      rw [HX2.out] at HOF
      generalize hz : bits .and .u64 a b = z at *
      have HZZ := Lib.hid hz
      clear hsz hz
      go_wp2_with fail
      refine HOF.out.mono ?_
      rintro e w3 ⟨rfl, rfl⟩
      go_wp2_with fail
      go_ret
      exact ⟨by rw [HZZ.out]; rfl, HNX.out⟩
set_option maxHeartbeats 1000000 in
theorem ror_c (a b : Int) (ha : W64 a) (hb : W64 b) (w : World) :
    Calls Tryd.prog 88 #[.int .u64 a, .int .u64 b] w fun e w' => e = .returned (.int .u64 (bits .or .u64 a b)) ∧ Below w.heap.size w w' := by
  have HA := Lib.hid (rand_c a b ha hb w)
  have HO := Lib.hid (or_wrap ha hb)
  clear ha hb
  generalize bits .and .u64 a b = z at *
  generalize bits .or .u64 a b = x at *
  go_enter Tryd.func88, Tryd.ntmps88
  go_wp2_with fail
  refine HA.out.mono ?_
  rintro e w1 ⟨rfl, hb⟩
  have HB := Lib.hid hb
  clear hb
  go_wp2_with fail
  go_ret
  exact ⟨by rw [← HO.out]; rfl, HB.out⟩
abbrev RfT : TypeId := 58
theorem info_rf : (Tryd.prog.info? RfT).map (·.size) = some 37 := by kernel_rfl
theorem iRf (s : S) : (Tryd.prog.info? RfT).map (·.size) = some (refV s).size := by rw [refV_size]; exact info_rf
theorem rfV_one (s : S) : (refV s).all (·.oneCell') = true := one_all s numsR
theorem zero_rf (W : World) : (zeroValue RfT).run Tryd.prog W = .ok (.agg (refV (zero 0))) W := by kernel_rfl
theorem built_rf (h : Int) : Tryd.prog.built RfT [(0, Value.int .i64 h)] = some (refV (zero h)) := by kernel_rfl
set_option maxHeartbeats 2000000 in
theorem rat_c (n : Int) (k : Nat) (hk : k < 34) (hn : n = ((rowC k).1 : Nat)) (w : World) : Calls Tryd.prog 82 #[.int .i64 n] w fun e w' => e = .returned (.int .i64 k) ∧ Below w.heap.size w w' := by
  have HNE := Lib.hid (fun j (hj : j < k) => show ((((rowC j).1 : Nat) : Int) == n) = false by
    rw [hn]
    have := nums_ne ⟨j, by omega⟩ ⟨k, hk⟩
    simp only at this
    simp only [beq_eq_false_iff_ne, ne_eq]
    intro e
    have e' : (rowC j).1 = (rowC k).1 := by exact_mod_cast e
    have := this e'
    omega)
  have HEQ := Lib.hid (show ((((rowC k).1 : Nat) : Int) == n) = true by rw [hn]; simp)
  clear hn
  go_enter Tryd.func82, Tryd.ntmps82
  go_wp2_with fail
  refine (rrows_c _).mono ?_
  rintro e w1 ⟨rfl, rfl⟩
  have hr := rrAt_new w
  have hB : Below w.heap.size w (w.alloc (.cells rrCells RrT)) := (Below.refl _ _).alloc (Nat.le_refl _) _
  generalize (w.alloc (.cells rrCells RrT)) = w2 at *
  have HR := Lib.hid hr
  have HB := Lib.hid hB
  clear hr hB
  go_wp2_with fail
  go_loop [4] (fun i => ∃ j : Nat, j ≤ k ∧ i = .int .i64 j) (fun i => 34 - (intOf i).toNat)
  case atStart => exact ⟨0, by omega, rfl⟩
  case round =>
    obtain ⟨j, hj, rfl⟩ := hrel
    have hlt : j < 34 := by omega
    have hl2 : (j : Int) < 34 := by omega
    obtain ⟨c0, c1, c2⟩ := HR.out.2 j hlt
    by_cases hjk : j < k
    · have t1 := HNE.out j hjk
      generalize (((rowC j).1 : Nat) : Int) = a at *
      go_wp2_with fail
      go_round
      case rel => exact ⟨j + 1, by omega, by go_num⟩
      case measure => simp [intOf]; omega
    · obtain rfl : j = k := by omega
      have t1 := HEQ.out
      generalize (((rowC j).1 : Nat) : Int) = a at *
      go_wp2_with fail
      go_ret
      exact ⟨rfl, HB.out⟩
/-- The reference's file in its box. -/
theorem ref_cell {w : World} {b : Nat} {s : S} (h : CsAt w b RfT (refV s)) {k : Nat} (hk : k < 34) : w.cell? ⟨b, 1 + k, none⟩ = some (.int .u64 (s.f ((rowC k).1 : Nat))) := by rw [h.cell, refV_w s hk]
set_option maxHeartbeats 2000000 in
theorem rword_c (s : S) (nm : ByteArray) (k : Nat) (hk : k < 34) (hn : numC nm = ((rowC k).1 : Nat)) (w : World) : Calls Tryd.prog 65 #[.agg (refV s), .string nm] w fun e w' => e = .returned (.int .u64 (s.f ((rowC k).1 : Nat))) ∧ Below w.heap.size w w' := by
  have hB : Below w.heap.size w (w.alloc (.cells (refV s) RfT)) := (Below.refl _ _).alloc (Nat.le_refl _) _
  have HB := Lib.hid hB
  have HR := Lib.hid (CsAt.new w RfT (refV s))
  have HN := Lib.hid (fun W => rnum_c nm W)
  rw [hn] at HN
  have HA := Lib.hid (fun W => rat_c ((rowC k).1 : Nat) k hk rfl W)
  have hk2 : (k : Int) < 34 := by omega
  clear hB hn
  go_enter Tryd.func65, Tryd.ntmps65
  go_upto_region 1 with fail
  generalize w.alloc (.cells (refV s) RfT) = w1 at *
  go_wp2_with fail
  refine (HN.out _).mono ?_
  rintro e w2 ⟨rfl, hb⟩
  have HR2 := Lib.hid (HR.out.low hb)
  have HB2 := Lib.hid (HB.out.trans (hb.mono HB.out.size))
  clear hb
  go_wp2_with fail
  refine (HA.out _).mono ?_
  rintro e w3 ⟨rfl, hb⟩
  have HR3 := Lib.hid (HR2.out.low hb)
  have HB3 := Lib.hid (HB2.out.trans (hb.mono HB2.out.size))
  clear hb
  have c0 := ref_cell HR3.out hk
  go_wp2_with fail
  go_ret
  exact ⟨rfl, HB3.out⟩
set_option maxHeartbeats 2000000 in
theorem rwith_c (s : S) (nm : ByteArray) (v : Int) (k : Nat) (hk : k < 34) (hn : numC nm = ((rowC k).1 : Nat)) (w : World) : Calls Tryd.prog 57 #[.agg (refV s), .string nm, .int .u64 v] w fun e w' => e = .returned (.agg (refV (s.put ((rowC k).1 : Nat) v))) ∧ Below w.heap.size w w' := by
  have hB : Below w.heap.size w ((w.alloc (.cells (refV s) RfT)).alloc (.cells (refV (zero 0)) RfT)) := ((Below.refl _ _).alloc (Nat.le_refl _) _).alloc (by simp) _
  have HB := Lib.hid hB
  have HR := Lib.hid ((CsAt.new w RfT (refV s)).alloc (.cells (refV (zero 0)) RfT))
  have HZ := Lib.hid (show CsAt ((w.alloc (.cells (refV s) RfT)).alloc (.cells (refV (zero 0)) RfT)) (w.heap.size + 1) RfT (refV (zero 0)) by
    have := CsAt.new (w.alloc (.cells (refV s) RfT)) RfT (refV (zero 0))
    simpa using this)
  have HN := Lib.hid (fun W => rnum_c nm W)
  rw [hn] at HN
  have HA := Lib.hid (fun W => rat_c ((rowC k).1 : Nat) k hk rfl W)
  have hk2 : (k : Int) < 34 := by omega
  have HP := Lib.hid (refV_put s hk v)
  clear hB hn
  go_enter Tryd.func57, Tryd.ntmps57
  go_upto_region 1 with (refine wpList_allocY rfl _ rfl RfT rfl (refV (zero 0)) (zero_rf _) ?_)
  generalize ((w.alloc (.cells (refV s) RfT)).alloc (.cells (refV (zero 0)) RfT)) = w1 at *
  go_wp2_with fail
  refine (HN.out _).mono ?_
  rintro e w2 ⟨rfl, hb⟩
  have HR2 := Lib.hid (HR.out.low hb)
  have HZ2 := Lib.hid (HZ.out.low hb)
  have HB2 := Lib.hid (HB.out.trans (hb.mono HB.out.size))
  clear hb
  go_wp2_with fail
  refine (HA.out _).mono ?_
  rintro e w3 ⟨rfl, hb⟩
  have HR3 := Lib.hid (HR2.out.low hb)
  have HZ3 := Lib.hid (HZ2.out.low hb)
  have HB3 := Lib.hid (HB2.out.trans (hb.mono HB2.out.size))
  clear hb
  have c0 := ref_cell HR3.out hk
  have y0 := HR3.out.frozen (1 + k)
  have HR4 := Lib.hid (show CsAt (w3.setCell ⟨w.heap.size, 1 + k, none⟩ (.int .u64 v)) w.heap.size RfT (refV (s.put ((rowC k).1 : Nat) v)) by
    unfold CsAt
    rw [heap_setCell_same w3 w.heap.size (1 + k) _ RfT _ HR3.out, HP.out])
  have HZ4 := Lib.hid (show CsAt (w3.setCell ⟨w.heap.size, 1 + k, none⟩ (.int .u64 v)) (w.heap.size + 1) RfT (refV (zero 0)) from (Chg.of_cell (S := one w.heap.size) rfl _ _).cs HZ3.out (fun (e : w.heap.size + 1 = w.heap.size) => by omega))
  have HB4 := Lib.hid (HB3.out.setCell (p := ⟨w.heap.size, 1 + k, none⟩) (by exact Nat.le_refl _) (.int .u64 v))
  go_upto_region 2 with fail
  generalize w3.setCell ⟨w.heap.size, 1 + k, none⟩ (.int .u64 v) = w4 at *
  clear c0 y0
  generalize ht : s.put ((rowC k).1 : Nat) v = t at *
  have HT := Lib.hid ht
  clear ht
  go_wp2_with (first
    | (refine wpList_load_row rfl RfT _ rfl w.heap.size rfl RfT _ (0, 0) _ HR4.out Tryd.underlying58 rfl (iRf _) ?_)
    | (refine wpList_store_row rfl RfT _ _ rfl (w.heap.size + 1) (refV t) rfl rfl RfT _ HZ4.out (iRf _) (by rw [refV_size, refV_size]) (rfV_one _) ?_))
  exact bodyPost_ret (results_cell_row Tryd.results57 _ _ _ _ _ _ _ rfl (HZ4.out.row _) Tryd.underlying58 rfl (iRf _)) rfl ⟨by rw [HT.out], below_setRow HB4.out (by omega) _⟩
end Go.Proofs.YtfjdalepaacmgaaDoor
