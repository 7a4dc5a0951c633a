/-
  Contracts of csrfile.New. The reference of layer 22: and, or, at, Word, with, New. The reference of layer 22: New, Get.
-/
import Derived.Test.YtkbgmppbkllnmaaDoorUal
import Derived.Great.Walk
set_option maxRecDepth 20000
namespace Go.Proofs.YtkbgmppbkllnmaaDoor
open Go.ChangeShapes Go.WideShapes Go.ChangeAt Go.RowKit Wd Csr Sta Cf

theorem zero_fl (W : World) : (zeroValue FlT).run Tryd.prog W = .ok (.agg (fileV (zero 0))) W := by kernel_rfl
theorem built_fl (h : Int) : Tryd.prog.built FlT [(0, Value.int .i64 h)] = some (fileV (zero h)) := by kernel_rfl
theorem wpList_allocY {P : Program} {ops : Array Oper} {rest : List Oper} {o : Oper} {a : Act} {w : World} {Q : Exit → Act → World → Prop} (hg : o.guard = none) (dst : Option Tmp) (hdst : o.dst = dst) (ty : TypeId) (ho : o.op = .alloc ty) (cs : Array Value) (hz : (zeroValue ty).run P w = .ok (.agg cs) w)
    (h : wpList P ops Q rest (a.put dst (.pointer (some ⟨w.heap.size, 0, none⟩))) (w.alloc (.cells cs ty))) : wpList P ops Q (o :: rest) a w :=
  Go.Great.wpList_allocTo hg dst hdst _ _ (exec_alloc ty ho (.agg cs) hz) h
theorem info_fl : (Tryd.prog.info? FlT).map (·.size) = some 25 := by kernel_rfl
theorem iFl (s : S) : (Tryd.prog.info? FlT).map (·.size) = some (fileV s).size := by rw [fileV_size]; exact info_fl
theorem flV_one (s : S) : (fileV s).all (·.oneCell') = true := one_all s keptL
set_option maxHeartbeats 2000000 in
theorem fnew1_c (g i : Nat) (hi : idxK 768 = some i) (s : S) (w : World) (h : FlAt w g s) :
    Calls Tryd.prog 66 #[.pointer (some ⟨g, 1 + i, none⟩)] w fun e w' => e = .returned (.tuple #[]) ∧ FQ g (s.put 768 42949672960) w w' := by
  have c0 := h.w hi
  have y0 := h.fz (1 + i)
  have HS := Lib.hid (h.store (w := w) (Below.refl _ _) hi (v := 42949672960) ⟨by omega, by omega⟩)
  clear h hi
  generalize s.f 768 = x at *
  go_enter Tryd.func66, Tryd.ntmps66
  go_wp2_with fail
  exact bodyPost_end (v := .tuple #[]) (by simp [results, Tryd.results66, go_sem]) rfl ⟨rfl, HS.out⟩
theorem zero_ok {h : Int} (hh : -9223372036854775808 ≤ h ∧ h ≤ 9223372036854775807) : Ok (zero h) := ⟨hh, fun _ => ⟨Int.le_refl _, by show (0 : Int) < _; omega⟩, fun _ _ => rfl⟩
set_option maxHeartbeats 2000000 in
theorem fnew_c (h : Int) (hh : -9223372036854775808 ≤ h ∧ h ≤ 9223372036854775807) (w : World) (hK : KeptIn w) :
    Calls Tryd.prog 31 #[.int .i64 h] w fun e w' => e = .returned (.agg (fileV (new h))) ∧ Below w.heap.size w w' := by
  have hB : Below w.heap.size w ((w.alloc (.cells (fileV (zero 0)) FlT)).alloc (.cells (fileV (zero h)) FlT)) := ((Below.refl _ _).alloc (Nat.le_refl _) _).alloc (by simp) _
  have h1 : CsAt ((w.alloc (.cells (fileV (zero 0)) FlT)).alloc (.cells (fileV (zero h)) FlT)) w.heap.size FlT (fileV (zero 0)) := (CsAt.new w FlT _).alloc _
  have h2 : CsAt ((w.alloc (.cells (fileV (zero 0)) FlT)).alloc (.cells (fileV (zero h)) FlT)) (w.heap.size + 1) FlT (fileV (zero h)) := by
    have := CsAt.new (w.alloc (.cells (fileV (zero 0)) FlT)) FlT (fileV (zero h))
    simpa using this
  have HB := Lib.hid hB
  have H1 := Lib.hid h1
  have HR := Lib.hid (reach_yes 66 #[] (w.heap.size + 1) 768 7 (by decide) _ (hK.low hB) _ (fnew1_c (w.heap.size + 1) 7 (by decide) (zero h) _ ⟨h2, zero_ok hh⟩) (Go.Proofs.enters_of Tryd.func66 (by kernel_rfl) rfl))
  clear hK hB h1 h2 hh
  go_enter Tryd.func31, Tryd.ntmps31
  go_upto_region 2 with (first
    | (refine wpList_allocY rfl _ rfl FlT rfl (fileV (zero 0)) (zero_fl _) ?_)
    | (refine wpList_buildTo rfl FlT _ rfl _ rfl (fileV (zero h)) ((congrArg (Tryd.prog.built FlT) (show _ = [(0, Value.int .i64 h)] by kernel_rfl)).trans (built_fl h)) ?_)
    | (refine wpList_storeNew (w0 := w.alloc (.cells (fileV (zero 0)) FlT)) rfl FlT _ _ rfl (fileV (zero 0)) (fileV (zero h)) FlT rfl rfl (iFl _) (by rw [fileV_size, fileV_size]) (flV_one _) ?_))
  generalize ((w.alloc (.cells (fileV (zero 0)) FlT)).alloc (.cells (fileV (zero h)) FlT)) = w1 at *
  go_wp2_with fail
  refine HR.out.mono ?_
  rintro e w2 ⟨rfl, hq⟩
  rw [new_put] at hq
  have HF := Lib.hid hq.fl.r
  have HZ := Lib.hid (hq.chg.cs H1.out (fun (e : w.heap.size = w.heap.size + 1) => by omega))
  have HB2 := Lib.hid (HB.out.trans (hq.chg.below HB.out.size (fun k hk => by rw [show k = w.heap.size + 1 from hk]; omega)))
  clear hq
  go_wp2_with (first
    | (refine wpList_load_row rfl FlT _ rfl (w.heap.size + 1) rfl FlT _ (0, 0) _ HF.out Tryd.underlying35 rfl (iFl _) ?_)
    | (refine wpList_store_row rfl FlT _ _ rfl w.heap.size (fileV (new h)) rfl rfl FlT _ HZ.out (iFl _) (by rw [fileV_size, fileV_size]) (flV_one _) ?_))
  exact bodyPost_ret (results_cell_row Tryd.results31 _ _ _ _ _ _ _ rfl (HZ.out.row _) Tryd.underlying35 rfl (iFl _)) rfl ⟨rfl, below_setRow HB2.out (Nat.le_refl _) _⟩
end Go.Proofs.YtkbgmppbkllnmaaDoor
set_option maxRecDepth 20000
namespace Go.Proofs.YtkbgmppbkllnmaaDoor
open Go.ChangeShapes Go.WideShapes Go.ChangeAt Go.RowKit Wd Csr Sta Cf

theorem sum_or (f g : Nat → Bool) (n : Nat) : sumTo (fun i => f i || g i) n + sumTo (fun i => f i && g i) n = sumTo f n + sumTo g n := by
  induction n with
  | zero => rfl
  | succ n ih =>
    simp only [sumTo]
    cases f n <;> cases g n <;> simp <;> omega
theorem sum_not (f g : Nat → Bool) (n : Nat) : sumTo (fun i => f i && !g i) n + sumTo (fun i => f i && g i) n = sumTo f n := by
  induction n with
  | zero => rfl
  | succ n ih =>
    simp only [sumTo]
    cases f n <;> cases g n <;> simp <;> omega
theorem sum_next (f g m : Nat → Bool) (n : Nat) : sumTo (fun i => if m i then g i else f i) n = sumTo (fun i => f i && !m i) n + sumTo (fun i => g i && m i) n := by
  induction n with
  | zero => rfl
  | succ n ih =>
    simp only [sumTo]
    cases f n <;> cases g n <;> cases m n <;> simp <;> omega
theorem as_sum {x : Int} (h : W64 x) : x = (sumTo (tb x) 64 : Nat) := eq_word h.1 h.2 (fun _ _ => rfl)
theorem and_sum {a b : Int} (ha : W64 a) (hb : W64 b) : bits .and .u64 a b = (sumTo (fun i => tb a i && tb b i) 64 : Nat) := eq_word (and_64 ha hb).1 (and_64 ha hb).2 (fun i _ => tb_and ha.1 ha.2 hb.1 hb.2 i)
theorem or_sum {a b : Int} (ha : W64 a) (hb : W64 b) : bits .or .u64 a b = (sumTo (fun i => tb a i || tb b i) 64 : Nat) := eq_word (or_range ha.1 ha.2 hb.1 hb.2).1 (or_range ha.1 ha.2 hb.1 hb.2).2 (fun i _ => tb_or ha.1 ha.2 hb.1 hb.2 i)
theorem not_sum {a b : Int} (ha : W64 a) (hb : W64 b) : bits .andNot .u64 a b = (sumTo (fun i => tb a i && !tb b i) 64 : Nat) := eq_word (andNot_range ha.1 ha.2 hb.1 hb.2).1 (andNot_range ha.1 ha.2 hb.1 hb.2).2 (fun i _ => tb_andNot ha.1 ha.2 hb.1 hb.2 i)
theorem or_and {a b : Int} (ha : W64 a) (hb : W64 b) : bits .or .u64 a b + bits .and .u64 a b = a + b := by
  have h := sum_or (tb a) (tb b) 64
  have h1 := as_sum ha
  have h2 := as_sum hb
  rw [or_sum ha hb, and_sum ha hb]
  omega
theorem not_and {a b : Int} (ha : W64 a) (hb : W64 b) : bits .andNot .u64 a b + bits .and .u64 a b = a := by
  have h := sum_not (tb a) (tb b) 64
  have h1 := as_sum ha
  rw [not_sum ha hb, and_sum ha hb]
  omega
theorem next_sum {m a b : Int} (hm : W64 m) (ha : W64 a) (hb : W64 b) : nextS m a b = bits .andNot .u64 a m + bits .and .u64 b m := by
  have h := sum_next (tb a) (tb b) (tb m) 64
  rw [not_sum ha hm, and_sum hb hm]
  show ((sumTo (fun i => if tb m i then tb b i else tb a i) 64 : Nat) : Int) = _
  omega
theorem wrap_in {x : Int} (h : W64 x) : IntKind.u64.wrap x = x := by rw [IntKind.wrap_u64]; have := h.1; have := h.2; omega
theorem or_wrap {a b : Int} (ha : W64 a) (hb : W64 b) : IntKind.u64.wrap (IntKind.u64.wrap (a + b) - bits .and .u64 a b) = bits .or .u64 a b := by
  have h := or_and ha hb
  have h1 := or_range ha.1 ha.2 hb.1 hb.2
  rw [IntKind.wrap_u64, IntKind.wrap_u64]
  omega
set_option maxHeartbeats 4000000 in
theorem rand_c (a b : Int) (ha : W64 a) (hb : W64 b) (w : World) :
    Calls Tryd.prog 81 #[.int .u64 a, .int .u64 b] w fun e w' => e = .returned (.int .u64 (bits .and .u64 a b)) ∧ Below w.heap.size w w' := by
  obtain ⟨i0, hi, hz0, hz1, hz2⟩ := info_parts info_u64
  obtain ⟨f, hf⟩ : ∃ f : Nat → Bool, f = fun (i : Nat) => tb a i && tb b i := ⟨_, rfl⟩
  have HF := Lib.hid hf
  have HS := Lib.hid (and_sum ha hb)
  have HAA := Lib.hid ha
  have HBB := Lib.hid hb
  clear hf ha hb
  go_enter Tryd.func81, Tryd.ntmps81
  go_wp2_with fail
  go_loopw [5, 6] (fun l i wr => ∃ k : Nat, k ≤ 64 ∧ i = .int .i64 k ∧ wr.ownsRow w.heap.size 25 1 l k (bl f k) ∧ Below w.heap.size w wr) (fun _ i _ => 64 - (intOf i).toNat)
  case atStart => exact ⟨0, Nat.zero_le _, rfl, World.ownsRow_nil _ _ _ _, Below.refl _ _⟩
  case round =>
    obtain ⟨k, hk, rfl, hown, hnx⟩ := hrel
    have hsz := hnx.size
    have HW := Lib.hid hown
    have HNX := Lib.hid hnx
    clear hown hnx
    by_cases hlt : k < 64
    · have hd1 : decide ((k : Int) < 64) = true := decide_eq_true (by omega)
      have HBk := Lib.hid (show (tbI a k && tbI b k) = f k by rw [HF.out, tbI_nat a k hlt, tbI_nat b k hlt])
      have HB1 := Lib.hid (fun W => bit_c a k W HAA.out.1 HAA.out.2)
      have HB2 := Lib.hid (fun W => bit_c b k W HBB.out.1 HBB.out.2)
      generalize tbI a k = x at *
      generalize tbI b k = y at *
      have HM := Lib.hid (show IntKind.u64.wrap (bi x * bi y) = bi (x && y) by cases x <;> cases y <;> decide)
      go_wp2_with fail
      refine (HB1.out _).mono ?_
      rintro e w2 ⟨rfl, rfl⟩
      go_wp2_with fail
      refine (HB2.out _).mono ?_
      rintro e w2 ⟨rfl, rfl⟩
      go_wp2_with (at_builtin; rw [HM.out]; refine wpList_append_own _ rfl _ _ 142 rfl w.heap.size 25 i0 (.int .u64 0) 1 8 Tryd.underlying142 hi hz0 hz1 hz2 rfl (by decide) _ _ _ rfl (HW.out.alloc _) ⟨wr.heap.size, 0, none⟩ 1 1 [.int .u64 (bi (x && y))] rfl rfl news_one (one_cell _) (by unfold maxLen; omega) (by omega) (by simp; omega) ?_; intro v' w3 hown' hgrow _)
      have R := rel_app hsz HBk.out HW.out hown' hgrow HNX.out
      go_roundw
      case rel => exact ⟨k + 1, by omega, by go_num, R.1, R.2⟩
      case measure => simp [intOf]; omega
    · obtain rfl : k = 64 := by omega
      have HX2 := Lib.hid (show ((sumTo f 64 : Nat) : Int) = bits .and .u64 a b by rw [HS.out, HF.out])
      have HOF := Lib.hid (of_c f 64 _ w.heap.size _ (by omega) (by omega) HW.out)
      rw [HX2.out] at HOF
      generalize hz : bits .and .u64 a b = z at *
      have HZZ := Lib.hid hz
      clear hsz hz
      go_wp2_with fail
      refine HOF.out.mono ?_
      rintro e w3 ⟨rfl, rfl⟩
      go_wp2_with fail
      go_ret
      exact ⟨by rw [HZZ.out]; rfl, HNX.out⟩
set_option maxHeartbeats 1000000 in
theorem ror_c (a b : Int) (ha : W64 a) (hb : W64 b) (w : World) :
    Calls Tryd.prog 80 #[.int .u64 a, .int .u64 b] w fun e w' => e = .returned (.int .u64 (bits .or .u64 a b)) ∧ Below w.heap.size w w' := by
  have HA := Lib.hid (rand_c a b ha hb w)
  have HO := Lib.hid (or_wrap ha hb)
  clear ha hb
  generalize bits .and .u64 a b = z at *
  generalize bits .or .u64 a b = x at *
  go_enter Tryd.func80, Tryd.ntmps80
  go_wp2_with fail
  refine HA.out.mono ?_
  rintro e w1 ⟨rfl, hb⟩
  have HB := Lib.hid hb
  clear hb
  go_wp2_with fail
  go_ret
  exact ⟨by rw [← HO.out]; rfl, HB.out⟩
abbrev RfT : TypeId := 38
theorem info_rf : (Tryd.prog.info? RfT).map (·.size) = some 37 := by kernel_rfl
theorem iRf (s : S) : (Tryd.prog.info? RfT).map (·.size) = some (refV s).size := by rw [refV_size]; exact info_rf
theorem rfV_one (s : S) : (refV s).all (·.oneCell') = true := one_all s numsR
theorem zero_rf (W : World) : (zeroValue RfT).run Tryd.prog W = .ok (.agg (refV (zero 0))) W := by kernel_rfl
theorem built_rf (h : Int) : Tryd.prog.built RfT [(0, Value.int .i64 h)] = some (refV (zero h)) := by kernel_rfl
set_option maxHeartbeats 2000000 in
theorem rat_c (n : Int) (k : Nat) (hk : k < 34) (hn : n = ((rowC k).1 : Nat)) (w : World) : Calls Tryd.prog 74 #[.int .i64 n] w fun e w' => e = .returned (.int .i64 k) ∧ Below w.heap.size w w' := by
  have HNE := Lib.hid (fun j (hj : j < k) => show ((((rowC j).1 : Nat) : Int) == n) = false by
    rw [hn]
    have := nums_ne ⟨j, by omega⟩ ⟨k, hk⟩
    simp only at this
    simp only [beq_eq_false_iff_ne, ne_eq]
    intro e
    have e' : (rowC j).1 = (rowC k).1 := by exact_mod_cast e
    have := this e'
    omega)
  have HEQ := Lib.hid (show ((((rowC k).1 : Nat) : Int) == n) = true by rw [hn]; simp)
  clear hn
  go_enter Tryd.func74, Tryd.ntmps74
  go_wp2_with fail
  refine (rrows_c _).mono ?_
  rintro e w1 ⟨rfl, rfl⟩
  have hr := rrAt_new w
  have hB : Below w.heap.size w (w.alloc (.cells rrCells RrT)) := (Below.refl _ _).alloc (Nat.le_refl _) _
  generalize (w.alloc (.cells rrCells RrT)) = w2 at *
  have HR := Lib.hid hr
  have HB := Lib.hid hB
  clear hr hB
  go_wp2_with fail
  go_loop [4] (fun i => ∃ j : Nat, j ≤ k ∧ i = .int .i64 j) (fun i => 34 - (intOf i).toNat)
  case atStart => exact ⟨0, by omega, rfl⟩
  case round =>
    obtain ⟨j, hj, rfl⟩ := hrel
    have hlt : j < 34 := by omega
    have hl2 : (j : Int) < 34 := by omega
    obtain ⟨c0, c1, c2⟩ := HR.out.2 j hlt
    by_cases hjk : j < k
    · have t1 := HNE.out j hjk
      generalize (((rowC j).1 : Nat) : Int) = a at *
      go_wp2_with fail
      go_round
      case rel => exact ⟨j + 1, by omega, by go_num⟩
      case measure => simp [intOf]; omega
    · obtain rfl : j = k := by omega
      have t1 := HEQ.out
      generalize (((rowC j).1 : Nat) : Int) = a at *
      go_wp2_with fail
      go_ret
      exact ⟨rfl, HB.out⟩
/-- The reference's file in its box. -/
theorem ref_cell {w : World} {b : Nat} {s : S} (h : CsAt w b RfT (refV s)) {k : Nat} (hk : k < 34) : w.cell? ⟨b, 1 + k, none⟩ = some (.int .u64 (s.f ((rowC k).1 : Nat))) := by rw [h.cell, refV_w s hk]
set_option maxHeartbeats 2000000 in
theorem rword_c (s : S) (nm : ByteArray) (k : Nat) (hk : k < 34) (hn : numC nm = ((rowC k).1 : Nat)) (w : World) : Calls Tryd.prog 35 #[.agg (refV s), .string nm] w fun e w' => e = .returned (.int .u64 (s.f ((rowC k).1 : Nat))) ∧ Below w.heap.size w w' := by
  have hB : Below w.heap.size w (w.alloc (.cells (refV s) RfT)) := (Below.refl _ _).alloc (Nat.le_refl _) _
  have HB := Lib.hid hB
  have HR := Lib.hid (CsAt.new w RfT (refV s))
  have HN := Lib.hid (fun W => rnum_c nm W)
  rw [hn] at HN
  have HA := Lib.hid (fun W => rat_c ((rowC k).1 : Nat) k hk rfl W)
  have hk2 : (k : Int) < 34 := by omega
  clear hB hn
  go_enter Tryd.func35, Tryd.ntmps35
  go_upto_region 1 with fail
  generalize w.alloc (.cells (refV s) RfT) = w1 at *
  go_wp2_with fail
  refine (HN.out _).mono ?_
  rintro e w2 ⟨rfl, hb⟩
  have HR2 := Lib.hid (HR.out.low hb)
  have HB2 := Lib.hid (HB.out.trans (hb.mono HB.out.size))
  clear hb
  go_wp2_with fail
  refine (HA.out _).mono ?_
  rintro e w3 ⟨rfl, hb⟩
  have HR3 := Lib.hid (HR2.out.low hb)
  have HB3 := Lib.hid (HB2.out.trans (hb.mono HB2.out.size))
  clear hb
  have c0 := ref_cell HR3.out hk
  go_wp2_with fail
  go_ret
  exact ⟨rfl, HB3.out⟩
set_option maxHeartbeats 2000000 in
theorem rwith_c (s : S) (nm : ByteArray) (v : Int) (k : Nat) (hk : k < 34) (hn : numC nm = ((rowC k).1 : Nat)) (w : World) : Calls Tryd.prog 67 #[.agg (refV s), .string nm, .int .u64 v] w fun e w' => e = .returned (.agg (refV (s.put ((rowC k).1 : Nat) v))) ∧ Below w.heap.size w w' := by
  have hB : Below w.heap.size w ((w.alloc (.cells (refV s) RfT)).alloc (.cells (refV (zero 0)) RfT)) := ((Below.refl _ _).alloc (Nat.le_refl _) _).alloc (by simp) _
  have HB := Lib.hid hB
  have HR := Lib.hid ((CsAt.new w RfT (refV s)).alloc (.cells (refV (zero 0)) RfT))
  have HZ := Lib.hid (show CsAt ((w.alloc (.cells (refV s) RfT)).alloc (.cells (refV (zero 0)) RfT)) (w.heap.size + 1) RfT (refV (zero 0)) by
    have := CsAt.new (w.alloc (.cells (refV s) RfT)) RfT (refV (zero 0))
    simpa using this)
  have HN := Lib.hid (fun W => rnum_c nm W)
  rw [hn] at HN
  have HA := Lib.hid (fun W => rat_c ((rowC k).1 : Nat) k hk rfl W)
  have hk2 : (k : Int) < 34 := by omega
  have HP := Lib.hid (refV_put s hk v)
  clear hB hn
  go_enter Tryd.func67, Tryd.ntmps67
  go_upto_region 1 with (refine wpList_allocY rfl _ rfl RfT rfl (refV (zero 0)) (zero_rf _) ?_)
  generalize ((w.alloc (.cells (refV s) RfT)).alloc (.cells (refV (zero 0)) RfT)) = w1 at *
  go_wp2_with fail
  refine (HN.out _).mono ?_
  rintro e w2 ⟨rfl, hb⟩
  have HR2 := Lib.hid (HR.out.low hb)
  have HZ2 := Lib.hid (HZ.out.low hb)
  have HB2 := Lib.hid (HB.out.trans (hb.mono HB.out.size))
  clear hb
  go_wp2_with fail
  refine (HA.out _).mono ?_
  rintro e w3 ⟨rfl, hb⟩
  have HR3 := Lib.hid (HR2.out.low hb)
  have HZ3 := Lib.hid (HZ2.out.low hb)
  have HB3 := Lib.hid (HB2.out.trans (hb.mono HB2.out.size))
  clear hb
  have c0 := ref_cell HR3.out hk
  have y0 := HR3.out.frozen (1 + k)
  have HR4 := Lib.hid (show CsAt (w3.setCell ⟨w.heap.size, 1 + k, none⟩ (.int .u64 v)) w.heap.size RfT (refV (s.put ((rowC k).1 : Nat) v)) by
    unfold CsAt
    rw [heap_setCell_same w3 w.heap.size (1 + k) _ RfT _ HR3.out, HP.out])
  have HZ4 := Lib.hid (show CsAt (w3.setCell ⟨w.heap.size, 1 + k, none⟩ (.int .u64 v)) (w.heap.size + 1) RfT (refV (zero 0)) from (Chg.of_cell (S := one w.heap.size) rfl _ _).cs HZ3.out (fun (e : w.heap.size + 1 = w.heap.size) => by omega))
  have HB4 := Lib.hid (HB3.out.setCell (p := ⟨w.heap.size, 1 + k, none⟩) (by exact Nat.le_refl _) (.int .u64 v))
  go_upto_region 2 with fail
  generalize w3.setCell ⟨w.heap.size, 1 + k, none⟩ (.int .u64 v) = w4 at *
  clear c0 y0
  generalize ht : s.put ((rowC k).1 : Nat) v = t at *
  have HT := Lib.hid ht
  clear ht
  go_wp2_with (first
    | (refine wpList_load_row rfl RfT _ rfl w.heap.size rfl RfT _ (0, 0) _ HR4.out Tryd.underlying38 rfl (iRf _) ?_)
    | (refine wpList_store_row rfl RfT _ _ rfl (w.heap.size + 1) (refV t) rfl rfl RfT _ HZ4.out (iRf _) (by rw [refV_size, refV_size]) (rfV_one _) ?_))
  exact bodyPost_ret (results_cell_row Tryd.results67 _ _ _ _ _ _ _ rfl (HZ4.out.row _) Tryd.underlying38 rfl (iRf _)) rfl ⟨by rw [HT.out], below_setRow HB4.out (by omega) _⟩
end Go.Proofs.YtkbgmppbkllnmaaDoor
set_option maxRecDepth 20000
namespace Go.Proofs.YtkbgmppbkllnmaaDoor
open Go.ChangeShapes Go.WideShapes Go.ChangeAt Go.RowKit Wd Csr Sta Cf

theorem nc_mstatus : numC ⟨#[109, 115, 116, 97, 116, 117, 115]⟩ = ((rowC 10).1 : Nat) := by kernel_rfl
theorem nc_mideleg : numC ⟨#[109, 105, 100, 101, 108, 101, 103]⟩ = ((rowC 13).1 : Nat) := by kernel_rfl
theorem nc_mie : numC ⟨#[109, 105, 101]⟩ = ((rowC 14).1 : Nat) := by kernel_rfl
theorem nc_mip : numC ⟨#[109, 105, 112]⟩ = ((rowC 21).1 : Nat) := by kernel_rfl
theorem nc_mcycle : numC ⟨#[109, 99, 121, 99, 108, 101]⟩ = ((rowC 25).1 : Nat) := by kernel_rfl
theorem nc_minstret : numC ⟨#[109, 105, 110, 115, 116, 114, 101, 116]⟩ = ((rowC 26).1 : Nat) := by kernel_rfl
theorem nc_mcounteren : numC ⟨#[109, 99, 111, 117, 110, 116, 101, 114, 101, 110]⟩ = ((rowC 16).1 : Nat) := by kernel_rfl
theorem nc_scounteren : numC ⟨#[115, 99, 111, 117, 110, 116, 101, 114, 101, 110]⟩ = ((rowC 3).1 : Nat) := by kernel_rfl
set_option maxHeartbeats 2000000 in
theorem rnew22_c (h : Int) (w : World) : Calls Tryd.prog 32 #[.int .i64 h] w fun e w' => e = .returned (.agg (refV (new h))) ∧ Below w.heap.size w w' := by
  have hB : Below w.heap.size w (w.alloc (.cells (refV (zero 0)) RfT)) := (Below.refl _ _).alloc (Nat.le_refl _) _
  have HB := Lib.hid hB
  have HZ := Lib.hid (CsAt.new w RfT (refV (zero 0)))
  have HW := Lib.hid (fun W => rwith_c (zero h) ⟨#[109, 115, 116, 97, 116, 117, 115]⟩ 42949672960 10 (by decide) nc_mstatus W)
  rw [show ((zero h).put (((rowC 10).1 : Nat) : Int) 42949672960) = new h from rfl] at HW
  clear hB
  go_enter Tryd.func32, Tryd.ntmps32
  go_upto_region 1 with (refine wpList_allocY rfl _ rfl RfT rfl (refV (zero 0)) (zero_rf _) ?_)
  generalize (w.alloc (.cells (refV (zero 0)) RfT)) = w1 at *
  go_wp2_with (refine wpList_buildTo rfl RfT _ rfl _ rfl (refV (zero h)) ((congrArg (Tryd.prog.built RfT) (show _ = [(0, Value.int .i64 h)] by kernel_rfl)).trans (built_rf h)) ?_)
  refine (HW.out _).mono ?_
  rintro e w2 ⟨rfl, hb⟩
  have HZ2 := Lib.hid (HZ.out.low hb)
  have HB2 := Lib.hid (HB.out.trans (hb.mono HB.out.size))
  clear hb
  go_wp2_with (refine wpList_store_row rfl RfT _ _ rfl w.heap.size (refV (new h)) rfl rfl RfT _ HZ2.out (iRf _) (by rw [refV_size, refV_size]) (rfV_one _) ?_)
  exact bodyPost_ret (results_cell_row Tryd.results32 _ _ _ _ _ _ _ rfl (HZ2.out.row _) Tryd.underlying38 rfl (iRf _)) rfl ⟨rfl, below_setRow HB2.out (Nat.le_refl _) _⟩
/-- What stands while the reference reads: its file in a box. -/
structure RgS (w W : World) (s : S) : Prop where
  r : CsAt W w.heap.size RfT (refV s)
  bel : Below w.heap.size w W
theorem RgS.low {w W W' : World} {s : S} (h : RgS w W s) (hb : Below W.heap.size W W') : RgS w W' s := ⟨h.r.low hb, h.bel.trans (hb.mono h.bel.size)⟩
theorem RgS.drew {w W : World} {s : S} (h : RgS w W s) : RgS w W.drew s := ⟨h.r, h.bel.drew⟩
set_option maxHeartbeats 4000000 in
theorem rg_0 (s : S) (ok : Ok s) (n l a m : Int) (nm : ByteArray) (hl : W64 l) (hOf : rAgg (ofN n) = .agg #[.int .i64 a, .string nm, .int .u64 m]) (e0 : (nm.toList == []) = true) (w : World) :
    Calls Tryd.prog 41 #[.agg (refV s), .int .i64 n, .int .u64 l] w fun e w' => e = .returned (.int .u64 (0)) ∧ Below w.heap.size w w' := by
  have HS1 := Lib.hid (show RgS w (w.alloc (.cells (refV s) RfT)) s from ⟨CsAt.new w RfT _, (Below.refl _ _).alloc (Nat.le_refl _) _⟩)
  have HO := Lib.hid (fun W => rof_c n W)
  rw [hOf] at HO
  have f1 := fld_rr1 a nm m
  go_enter Tryd.func41, Tryd.ntmps41
  go_upto_region 1 with fail
  generalize w.alloc (.cells (refV s) RfT) = w1 at *
  go_wp2_with (refine wpList_load_row rfl RfT _ rfl w.heap.size rfl RfT _ (0, 0) _ HS1.out.r Tryd.underlying38 rfl (iRf _) ?_)
  refine ((rword_c s ⟨#[109, 105, 112]⟩ 21 (by decide) nc_mip _)).mono ?_
  rintro e w2 ⟨rfl, hb⟩
  have HS2 := Lib.hid (HS1.out.low hb)
  clear hb
  go_wp2_with (refine wpList_load_row rfl RfT _ rfl w.heap.size rfl RfT _ (0, 0) _ HS2.out.r Tryd.underlying38 rfl (iRf _) ?_)
  refine (rand_c l 2696 hl ⟨by omega, by omega⟩ _).mono ?_
  rintro e w3 ⟨rfl, hb⟩
  have HS3 := Lib.hid (HS2.out.low hb)
  clear hb
  go_wp2_with (refine wpList_load_row rfl RfT _ rfl w.heap.size rfl RfT _ (0, 0) _ HS3.out.r Tryd.underlying38 rfl (iRf _) ?_)
  refine (ror_c (s.f 836) (bits .and .u64 l 2696) (ok.w _) (and_64 hl ⟨by omega, by omega⟩) _).mono ?_
  rintro e w4 ⟨rfl, hb⟩
  have HS4 := Lib.hid (HS3.out.low hb)
  clear hb
  rw [show bits .or .u64 (s.f 836) (bits .and .u64 l 2696) = pendS s l from rfl]
  go_wp2_with (refine wpList_load_row rfl RfT _ rfl w.heap.size rfl RfT _ (0, 0) _ HS4.out.r Tryd.underlying38 rfl (iRf _) ?_)
  refine (HO.out _).mono ?_
  rintro e w5 ⟨rfl, hb⟩
  have HS5 := Lib.hid (HS4.out.low hb)
  clear hb
  go_wp2_with (refine wpList_load_row rfl RfT _ rfl w.heap.size rfl RfT _ (0, 0) _ HS5.out.r Tryd.underlying38 rfl (iRf _) ?_)
  go_ret
  exact ⟨rfl, HS5.out.bel⟩
set_option maxHeartbeats 4000000 in
theorem rg_1 (s : S) (ok : Ok s) (n l a m : Int) (nm : ByteArray) (hl : W64 l) (hOf : rAgg (ofN n) = .agg #[.int .i64 a, .string nm, .int .u64 m]) (e0 : (nm.toList == []) = false) (e1 : (nm.toList == [116, 105, 109, 101]) = true) (w : World) :
    Calls Tryd.prog 41 #[.agg (refV s), .int .i64 n, .int .u64 l] w fun e w' => e = .returned (.int .u64 (0)) ∧ Below w.heap.size w w' := by
  have HS1 := Lib.hid (show RgS w (w.alloc (.cells (refV s) RfT)) s from ⟨CsAt.new w RfT _, (Below.refl _ _).alloc (Nat.le_refl _) _⟩)
  have HO := Lib.hid (fun W => rof_c n W)
  rw [hOf] at HO
  have f1 := fld_rr1 a nm m
  go_enter Tryd.func41, Tryd.ntmps41
  go_upto_region 1 with fail
  generalize w.alloc (.cells (refV s) RfT) = w1 at *
  go_wp2_with (refine wpList_load_row rfl RfT _ rfl w.heap.size rfl RfT _ (0, 0) _ HS1.out.r Tryd.underlying38 rfl (iRf _) ?_)
  refine ((rword_c s ⟨#[109, 105, 112]⟩ 21 (by decide) nc_mip _)).mono ?_
  rintro e w2 ⟨rfl, hb⟩
  have HS2 := Lib.hid (HS1.out.low hb)
  clear hb
  go_wp2_with (refine wpList_load_row rfl RfT _ rfl w.heap.size rfl RfT _ (0, 0) _ HS2.out.r Tryd.underlying38 rfl (iRf _) ?_)
  refine (rand_c l 2696 hl ⟨by omega, by omega⟩ _).mono ?_
  rintro e w3 ⟨rfl, hb⟩
  have HS3 := Lib.hid (HS2.out.low hb)
  clear hb
  go_wp2_with (refine wpList_load_row rfl RfT _ rfl w.heap.size rfl RfT _ (0, 0) _ HS3.out.r Tryd.underlying38 rfl (iRf _) ?_)
  refine (ror_c (s.f 836) (bits .and .u64 l 2696) (ok.w _) (and_64 hl ⟨by omega, by omega⟩) _).mono ?_
  rintro e w4 ⟨rfl, hb⟩
  have HS4 := Lib.hid (HS3.out.low hb)
  clear hb
  rw [show bits .or .u64 (s.f 836) (bits .and .u64 l 2696) = pendS s l from rfl]
  go_wp2_with (refine wpList_load_row rfl RfT _ rfl w.heap.size rfl RfT _ (0, 0) _ HS4.out.r Tryd.underlying38 rfl (iRf _) ?_)
  refine (HO.out _).mono ?_
  rintro e w5 ⟨rfl, hb⟩
  have HS5 := Lib.hid (HS4.out.low hb)
  clear hb
  go_wp2_with (refine wpList_load_row rfl RfT _ rfl w.heap.size rfl RfT _ (0, 0) _ HS5.out.r Tryd.underlying38 rfl (iRf _) ?_)
  go_ret
  exact ⟨rfl, HS5.out.bel⟩
set_option maxHeartbeats 4000000 in
theorem rg_2 (s : S) (ok : Ok s) (n l a m : Int) (nm : ByteArray) (hl : W64 l) (hOf : rAgg (ofN n) = .agg #[.int .i64 a, .string nm, .int .u64 m]) (e0 : (nm.toList == []) = false) (e1 : (nm.toList == [116, 105, 109, 101]) = false) (e2 : (nm.toList == [115, 104, 111, 111, 116]) = true) (w : World) :
    Calls Tryd.prog 41 #[.agg (refV s), .int .i64 n, .int .u64 l] w fun e w' => e = .returned (.int .u64 (0)) ∧ Below w.heap.size w w' := by
  have HS1 := Lib.hid (show RgS w (w.alloc (.cells (refV s) RfT)) s from ⟨CsAt.new w RfT _, (Below.refl _ _).alloc (Nat.le_refl _) _⟩)
  have HO := Lib.hid (fun W => rof_c n W)
  rw [hOf] at HO
  have f1 := fld_rr1 a nm m
  go_enter Tryd.func41, Tryd.ntmps41
  go_upto_region 1 with fail
  generalize w.alloc (.cells (refV s) RfT) = w1 at *
  go_wp2_with (refine wpList_load_row rfl RfT _ rfl w.heap.size rfl RfT _ (0, 0) _ HS1.out.r Tryd.underlying38 rfl (iRf _) ?_)
  refine ((rword_c s ⟨#[109, 105, 112]⟩ 21 (by decide) nc_mip _)).mono ?_
  rintro e w2 ⟨rfl, hb⟩
  have HS2 := Lib.hid (HS1.out.low hb)
  clear hb
  go_wp2_with (refine wpList_load_row rfl RfT _ rfl w.heap.size rfl RfT _ (0, 0) _ HS2.out.r Tryd.underlying38 rfl (iRf _) ?_)
  refine (rand_c l 2696 hl ⟨by omega, by omega⟩ _).mono ?_
  rintro e w3 ⟨rfl, hb⟩
  have HS3 := Lib.hid (HS2.out.low hb)
  clear hb
  go_wp2_with (refine wpList_load_row rfl RfT _ rfl w.heap.size rfl RfT _ (0, 0) _ HS3.out.r Tryd.underlying38 rfl (iRf _) ?_)
  refine (ror_c (s.f 836) (bits .and .u64 l 2696) (ok.w _) (and_64 hl ⟨by omega, by omega⟩) _).mono ?_
  rintro e w4 ⟨rfl, hb⟩
  have HS4 := Lib.hid (HS3.out.low hb)
  clear hb
  rw [show bits .or .u64 (s.f 836) (bits .and .u64 l 2696) = pendS s l from rfl]
  go_wp2_with (refine wpList_load_row rfl RfT _ rfl w.heap.size rfl RfT _ (0, 0) _ HS4.out.r Tryd.underlying38 rfl (iRf _) ?_)
  refine (HO.out _).mono ?_
  rintro e w5 ⟨rfl, hb⟩
  have HS5 := Lib.hid (HS4.out.low hb)
  clear hb
  go_wp2_with (refine wpList_load_row rfl RfT _ rfl w.heap.size rfl RfT _ (0, 0) _ HS5.out.r Tryd.underlying38 rfl (iRf _) ?_)
  go_ret
  exact ⟨rfl, HS5.out.bel⟩
set_option maxHeartbeats 4000000 in
theorem rg_3 (s : S) (ok : Ok s) (n l a m : Int) (nm : ByteArray) (hl : W64 l) (hOf : rAgg (ofN n) = .agg #[.int .i64 a, .string nm, .int .u64 m]) (e0 : (nm.toList == []) = false) (e1 : (nm.toList == [116, 105, 109, 101]) = false) (e2 : (nm.toList == [115, 104, 111, 111, 116]) = false) (e3 : (nm.toList == [109, 118, 101, 110, 100, 111, 114, 105, 100]) = true) (w : World) :
    Calls Tryd.prog 41 #[.agg (refV s), .int .i64 n, .int .u64 l] w fun e w' => e = .returned (.int .u64 (0)) ∧ Below w.heap.size w w' := by
  have HS1 := Lib.hid (show RgS w (w.alloc (.cells (refV s) RfT)) s from ⟨CsAt.new w RfT _, (Below.refl _ _).alloc (Nat.le_refl _) _⟩)
  have HO := Lib.hid (fun W => rof_c n W)
  rw [hOf] at HO
  have f1 := fld_rr1 a nm m
  go_enter Tryd.func41, Tryd.ntmps41
  go_upto_region 1 with fail
  generalize w.alloc (.cells (refV s) RfT) = w1 at *
  go_wp2_with (refine wpList_load_row rfl RfT _ rfl w.heap.size rfl RfT _ (0, 0) _ HS1.out.r Tryd.underlying38 rfl (iRf _) ?_)
  refine ((rword_c s ⟨#[109, 105, 112]⟩ 21 (by decide) nc_mip _)).mono ?_
  rintro e w2 ⟨rfl, hb⟩
  have HS2 := Lib.hid (HS1.out.low hb)
  clear hb
  go_wp2_with (refine wpList_load_row rfl RfT _ rfl w.heap.size rfl RfT _ (0, 0) _ HS2.out.r Tryd.underlying38 rfl (iRf _) ?_)
  refine (rand_c l 2696 hl ⟨by omega, by omega⟩ _).mono ?_
  rintro e w3 ⟨rfl, hb⟩
  have HS3 := Lib.hid (HS2.out.low hb)
  clear hb
  go_wp2_with (refine wpList_load_row rfl RfT _ rfl w.heap.size rfl RfT _ (0, 0) _ HS3.out.r Tryd.underlying38 rfl (iRf _) ?_)
  refine (ror_c (s.f 836) (bits .and .u64 l 2696) (ok.w _) (and_64 hl ⟨by omega, by omega⟩) _).mono ?_
  rintro e w4 ⟨rfl, hb⟩
  have HS4 := Lib.hid (HS3.out.low hb)
  clear hb
  rw [show bits .or .u64 (s.f 836) (bits .and .u64 l 2696) = pendS s l from rfl]
  go_wp2_with (refine wpList_load_row rfl RfT _ rfl w.heap.size rfl RfT _ (0, 0) _ HS4.out.r Tryd.underlying38 rfl (iRf _) ?_)
  refine (HO.out _).mono ?_
  rintro e w5 ⟨rfl, hb⟩
  have HS5 := Lib.hid (HS4.out.low hb)
  clear hb
  go_wp2_with (refine wpList_load_row rfl RfT _ rfl w.heap.size rfl RfT _ (0, 0) _ HS5.out.r Tryd.underlying38 rfl (iRf _) ?_)
  go_ret
  exact ⟨rfl, HS5.out.bel⟩
set_option maxHeartbeats 4000000 in
theorem rg_4 (s : S) (ok : Ok s) (n l a m : Int) (nm : ByteArray) (hl : W64 l) (hOf : rAgg (ofN n) = .agg #[.int .i64 a, .string nm, .int .u64 m]) (e0 : (nm.toList == []) = false) (e1 : (nm.toList == [116, 105, 109, 101]) = false) (e2 : (nm.toList == [115, 104, 111, 111, 116]) = false) (e3 : (nm.toList == [109, 118, 101, 110, 100, 111, 114, 105, 100]) = false) (e4 : (nm.toList == [109, 97, 114, 99, 104, 105, 100]) = true) (w : World) :
    Calls Tryd.prog 41 #[.agg (refV s), .int .i64 n, .int .u64 l] w fun e w' => e = .returned (.int .u64 (0)) ∧ Below w.heap.size w w' := by
  have HS1 := Lib.hid (show RgS w (w.alloc (.cells (refV s) RfT)) s from ⟨CsAt.new w RfT _, (Below.refl _ _).alloc (Nat.le_refl _) _⟩)
  have HO := Lib.hid (fun W => rof_c n W)
  rw [hOf] at HO
  have f1 := fld_rr1 a nm m
  go_enter Tryd.func41, Tryd.ntmps41
  go_upto_region 1 with fail
  generalize w.alloc (.cells (refV s) RfT) = w1 at *
  go_wp2_with (refine wpList_load_row rfl RfT _ rfl w.heap.size rfl RfT _ (0, 0) _ HS1.out.r Tryd.underlying38 rfl (iRf _) ?_)
  refine ((rword_c s ⟨#[109, 105, 112]⟩ 21 (by decide) nc_mip _)).mono ?_
  rintro e w2 ⟨rfl, hb⟩
  have HS2 := Lib.hid (HS1.out.low hb)
  clear hb
  go_wp2_with (refine wpList_load_row rfl RfT _ rfl w.heap.size rfl RfT _ (0, 0) _ HS2.out.r Tryd.underlying38 rfl (iRf _) ?_)
  refine (rand_c l 2696 hl ⟨by omega, by omega⟩ _).mono ?_
  rintro e w3 ⟨rfl, hb⟩
  have HS3 := Lib.hid (HS2.out.low hb)
  clear hb
  go_wp2_with (refine wpList_load_row rfl RfT _ rfl w.heap.size rfl RfT _ (0, 0) _ HS3.out.r Tryd.underlying38 rfl (iRf _) ?_)
  refine (ror_c (s.f 836) (bits .and .u64 l 2696) (ok.w _) (and_64 hl ⟨by omega, by omega⟩) _).mono ?_
  rintro e w4 ⟨rfl, hb⟩
  have HS4 := Lib.hid (HS3.out.low hb)
  clear hb
  rw [show bits .or .u64 (s.f 836) (bits .and .u64 l 2696) = pendS s l from rfl]
  go_wp2_with (refine wpList_load_row rfl RfT _ rfl w.heap.size rfl RfT _ (0, 0) _ HS4.out.r Tryd.underlying38 rfl (iRf _) ?_)
  refine (HO.out _).mono ?_
  rintro e w5 ⟨rfl, hb⟩
  have HS5 := Lib.hid (HS4.out.low hb)
  clear hb
  go_wp2_with (refine wpList_load_row rfl RfT _ rfl w.heap.size rfl RfT _ (0, 0) _ HS5.out.r Tryd.underlying38 rfl (iRf _) ?_)
  go_ret
  exact ⟨rfl, HS5.out.bel⟩
set_option maxHeartbeats 4000000 in
theorem rg_5 (s : S) (ok : Ok s) (n l a m : Int) (nm : ByteArray) (hl : W64 l) (hOf : rAgg (ofN n) = .agg #[.int .i64 a, .string nm, .int .u64 m]) (e0 : (nm.toList == []) = false) (e1 : (nm.toList == [116, 105, 109, 101]) = false) (e2 : (nm.toList == [115, 104, 111, 111, 116]) = false) (e3 : (nm.toList == [109, 118, 101, 110, 100, 111, 114, 105, 100]) = false) (e4 : (nm.toList == [109, 97, 114, 99, 104, 105, 100]) = false) (e5 : (nm.toList == [109, 105, 109, 112, 105, 100]) = true) (w : World) :
    Calls Tryd.prog 41 #[.agg (refV s), .int .i64 n, .int .u64 l] w fun e w' => e = .returned (.int .u64 (0)) ∧ Below w.heap.size w w' := by
  have HS1 := Lib.hid (show RgS w (w.alloc (.cells (refV s) RfT)) s from ⟨CsAt.new w RfT _, (Below.refl _ _).alloc (Nat.le_refl _) _⟩)
  have HO := Lib.hid (fun W => rof_c n W)
  rw [hOf] at HO
  have f1 := fld_rr1 a nm m
  go_enter Tryd.func41, Tryd.ntmps41
  go_upto_region 1 with fail
  generalize w.alloc (.cells (refV s) RfT) = w1 at *
  go_wp2_with (refine wpList_load_row rfl RfT _ rfl w.heap.size rfl RfT _ (0, 0) _ HS1.out.r Tryd.underlying38 rfl (iRf _) ?_)
  refine ((rword_c s ⟨#[109, 105, 112]⟩ 21 (by decide) nc_mip _)).mono ?_
  rintro e w2 ⟨rfl, hb⟩
  have HS2 := Lib.hid (HS1.out.low hb)
  clear hb
  go_wp2_with (refine wpList_load_row rfl RfT _ rfl w.heap.size rfl RfT _ (0, 0) _ HS2.out.r Tryd.underlying38 rfl (iRf _) ?_)
  refine (rand_c l 2696 hl ⟨by omega, by omega⟩ _).mono ?_
  rintro e w3 ⟨rfl, hb⟩
  have HS3 := Lib.hid (HS2.out.low hb)
  clear hb
  go_wp2_with (refine wpList_load_row rfl RfT _ rfl w.heap.size rfl RfT _ (0, 0) _ HS3.out.r Tryd.underlying38 rfl (iRf _) ?_)
  refine (ror_c (s.f 836) (bits .and .u64 l 2696) (ok.w _) (and_64 hl ⟨by omega, by omega⟩) _).mono ?_
  rintro e w4 ⟨rfl, hb⟩
  have HS4 := Lib.hid (HS3.out.low hb)
  clear hb
  rw [show bits .or .u64 (s.f 836) (bits .and .u64 l 2696) = pendS s l from rfl]
  go_wp2_with (refine wpList_load_row rfl RfT _ rfl w.heap.size rfl RfT _ (0, 0) _ HS4.out.r Tryd.underlying38 rfl (iRf _) ?_)
  refine (HO.out _).mono ?_
  rintro e w5 ⟨rfl, hb⟩
  have HS5 := Lib.hid (HS4.out.low hb)
  clear hb
  go_wp2_with (refine wpList_load_row rfl RfT _ rfl w.heap.size rfl RfT _ (0, 0) _ HS5.out.r Tryd.underlying38 rfl (iRf _) ?_)
  go_ret
  exact ⟨rfl, HS5.out.bel⟩
set_option maxHeartbeats 4000000 in
theorem rg_6 (s : S) (ok : Ok s) (n l a m : Int) (nm : ByteArray) (hl : W64 l) (hOf : rAgg (ofN n) = .agg #[.int .i64 a, .string nm, .int .u64 m]) (e0 : (nm.toList == []) = false) (e1 : (nm.toList == [116, 105, 109, 101]) = false) (e2 : (nm.toList == [115, 104, 111, 111, 116]) = false) (e3 : (nm.toList == [109, 118, 101, 110, 100, 111, 114, 105, 100]) = false) (e4 : (nm.toList == [109, 97, 114, 99, 104, 105, 100]) = false) (e5 : (nm.toList == [109, 105, 109, 112, 105, 100]) = false) (e6 : (nm.toList == [115, 115, 116, 97, 116, 117, 115]) = true) (w : World) :
    Calls Tryd.prog 41 #[.agg (refV s), .int .i64 n, .int .u64 l] w fun e w' => e = .returned (.int .u64 (viewS (s.f 768))) ∧ Below w.heap.size w w' := by
  have HS1 := Lib.hid (show RgS w (w.alloc (.cells (refV s) RfT)) s from ⟨CsAt.new w RfT _, (Below.refl _ _).alloc (Nat.le_refl _) _⟩)
  have HO := Lib.hid (fun W => rof_c n W)
  rw [hOf] at HO
  have f1 := fld_rr1 a nm m
  go_enter Tryd.func41, Tryd.ntmps41
  go_upto_region 1 with fail
  generalize w.alloc (.cells (refV s) RfT) = w1 at *
  go_wp2_with (refine wpList_load_row rfl RfT _ rfl w.heap.size rfl RfT _ (0, 0) _ HS1.out.r Tryd.underlying38 rfl (iRf _) ?_)
  refine ((rword_c s ⟨#[109, 105, 112]⟩ 21 (by decide) nc_mip _)).mono ?_
  rintro e w2 ⟨rfl, hb⟩
  have HS2 := Lib.hid (HS1.out.low hb)
  clear hb
  go_wp2_with (refine wpList_load_row rfl RfT _ rfl w.heap.size rfl RfT _ (0, 0) _ HS2.out.r Tryd.underlying38 rfl (iRf _) ?_)
  refine (rand_c l 2696 hl ⟨by omega, by omega⟩ _).mono ?_
  rintro e w3 ⟨rfl, hb⟩
  have HS3 := Lib.hid (HS2.out.low hb)
  clear hb
  go_wp2_with (refine wpList_load_row rfl RfT _ rfl w.heap.size rfl RfT _ (0, 0) _ HS3.out.r Tryd.underlying38 rfl (iRf _) ?_)
  refine (ror_c (s.f 836) (bits .and .u64 l 2696) (ok.w _) (and_64 hl ⟨by omega, by omega⟩) _).mono ?_
  rintro e w4 ⟨rfl, hb⟩
  have HS4 := Lib.hid (HS3.out.low hb)
  clear hb
  rw [show bits .or .u64 (s.f 836) (bits .and .u64 l 2696) = pendS s l from rfl]
  go_wp2_with (refine wpList_load_row rfl RfT _ rfl w.heap.size rfl RfT _ (0, 0) _ HS4.out.r Tryd.underlying38 rfl (iRf _) ?_)
  refine (HO.out _).mono ?_
  rintro e w5 ⟨rfl, hb⟩
  have HS5 := Lib.hid (HS4.out.low hb)
  clear hb
  go_wp2_with (refine wpList_load_row rfl RfT _ rfl w.heap.size rfl RfT _ (0, 0) _ HS5.out.r Tryd.underlying38 rfl (iRf _) ?_)
  refine ((rword_c s ⟨#[109, 115, 116, 97, 116, 117, 115]⟩ 10 (by decide) nc_mstatus _)).mono ?_
  rintro e w6 ⟨rfl, hb⟩
  have HS6 := Lib.hid (HS5.out.low hb)
  clear hb
  go_wp2_with (refine wpList_load_row rfl RfT _ rfl w.heap.size rfl RfT _ (0, 0) _ HS6.out.r Tryd.underlying38 rfl (iRf _) ?_)
  refine (rview_c (s.f 768) (ok.w _) _).mono ?_
  rintro e w7 ⟨rfl, hb⟩
  have HS7 := Lib.hid (HS6.out.low hb)
  clear hb
  go_wp2_with (refine wpList_load_row rfl RfT _ rfl w.heap.size rfl RfT _ (0, 0) _ HS7.out.r Tryd.underlying38 rfl (iRf _) ?_)
  go_ret
  exact ⟨rfl, HS7.out.bel⟩
set_option maxHeartbeats 4000000 in
theorem rg_7 (s : S) (ok : Ok s) (n l a m : Int) (nm : ByteArray) (hl : W64 l) (hOf : rAgg (ofN n) = .agg #[.int .i64 a, .string nm, .int .u64 m]) (e0 : (nm.toList == []) = false) (e1 : (nm.toList == [116, 105, 109, 101]) = false) (e2 : (nm.toList == [115, 104, 111, 111, 116]) = false) (e3 : (nm.toList == [109, 118, 101, 110, 100, 111, 114, 105, 100]) = false) (e4 : (nm.toList == [109, 97, 114, 99, 104, 105, 100]) = false) (e5 : (nm.toList == [109, 105, 109, 112, 105, 100]) = false) (e6 : (nm.toList == [115, 115, 116, 97, 116, 117, 115]) = false) (e7 : (nm.toList == [115, 105, 101]) = true) (w : World) :
    Calls Tryd.prog 41 #[.agg (refV s), .int .i64 n, .int .u64 l] w fun e w' => e = .returned (.int .u64 (bits .and .u64 (s.f 772) (s.f 771))) ∧ Below w.heap.size w w' := by
  have HS1 := Lib.hid (show RgS w (w.alloc (.cells (refV s) RfT)) s from ⟨CsAt.new w RfT _, (Below.refl _ _).alloc (Nat.le_refl _) _⟩)
  have HO := Lib.hid (fun W => rof_c n W)
  rw [hOf] at HO
  have f1 := fld_rr1 a nm m
  go_enter Tryd.func41, Tryd.ntmps41
  go_upto_region 1 with fail
  generalize w.alloc (.cells (refV s) RfT) = w1 at *
  go_wp2_with (refine wpList_load_row rfl RfT _ rfl w.heap.size rfl RfT _ (0, 0) _ HS1.out.r Tryd.underlying38 rfl (iRf _) ?_)
  refine ((rword_c s ⟨#[109, 105, 112]⟩ 21 (by decide) nc_mip _)).mono ?_
  rintro e w2 ⟨rfl, hb⟩
  have HS2 := Lib.hid (HS1.out.low hb)
  clear hb
  go_wp2_with (refine wpList_load_row rfl RfT _ rfl w.heap.size rfl RfT _ (0, 0) _ HS2.out.r Tryd.underlying38 rfl (iRf _) ?_)
  refine (rand_c l 2696 hl ⟨by omega, by omega⟩ _).mono ?_
  rintro e w3 ⟨rfl, hb⟩
  have HS3 := Lib.hid (HS2.out.low hb)
  clear hb
  go_wp2_with (refine wpList_load_row rfl RfT _ rfl w.heap.size rfl RfT _ (0, 0) _ HS3.out.r Tryd.underlying38 rfl (iRf _) ?_)
  refine (ror_c (s.f 836) (bits .and .u64 l 2696) (ok.w _) (and_64 hl ⟨by omega, by omega⟩) _).mono ?_
  rintro e w4 ⟨rfl, hb⟩
  have HS4 := Lib.hid (HS3.out.low hb)
  clear hb
  rw [show bits .or .u64 (s.f 836) (bits .and .u64 l 2696) = pendS s l from rfl]
  go_wp2_with (refine wpList_load_row rfl RfT _ rfl w.heap.size rfl RfT _ (0, 0) _ HS4.out.r Tryd.underlying38 rfl (iRf _) ?_)
  refine (HO.out _).mono ?_
  rintro e w5 ⟨rfl, hb⟩
  have HS5 := Lib.hid (HS4.out.low hb)
  clear hb
  go_upto_region 13 with (refine wpList_load_row rfl RfT _ rfl w.heap.size rfl RfT _ (0, 0) _ HS5.out.r Tryd.underlying38 rfl (iRf _) ?_)
  refine wp_region_steady (fun W => RgS w W s) (by kernel_rfl) (by kernel_rfl) HS5.out.drew ?_
  refine steady_val (.agg (refV s)) ?_ (by kernel_rfl) (fun W hS => exec_load_row RfT _ rfl w.heap.size rfl RfT _ _ hS.r Tryd.underlying38 rfl (iRf _)) ?_ ?_
  rotate_left 1
  · go_simp
    exact rfl
  refine steady_enter (.int .u64 (s.f 772)) 35 #[.agg (refV s), .string ⟨#[109, 105, 101]⟩] ?_ (by kernel_rfl) (fun W hS => ?_) (fun W hS => (rword_c s ⟨#[109, 105, 101]⟩ 14 (by decide) nc_mie W).mono (by rintro e w' ⟨rfl, hb⟩; exact ⟨rfl, hS.low hb⟩)) ?_ ?_
  rotate_left 1
  · go_simp
  · go_simp
    exact rfl
  refine steady_val (.agg (refV s)) ?_ (by kernel_rfl) (fun W hS => exec_load_row RfT _ rfl w.heap.size rfl RfT _ _ hS.r Tryd.underlying38 rfl (iRf _)) ?_ ?_
  rotate_left 1
  · go_simp
    exact rfl
  refine steady_enter (.int .u64 (s.f 771)) 35 #[.agg (refV s), .string ⟨#[109, 105, 100, 101, 108, 101, 103]⟩] ?_ (by kernel_rfl) (fun W hS => ?_) (fun W hS => (rword_c s ⟨#[109, 105, 100, 101, 108, 101, 103]⟩ 13 (by decide) nc_mideleg W).mono (by rintro e w' ⟨rfl, hb⟩; exact ⟨rfl, hS.low hb⟩)) ?_ ?_
  rotate_left 1
  · go_simp
  · go_simp
    exact rfl
  refine steady_enter (.int .u64 (bits .and .u64 (s.f 772) (s.f 771))) 81 #[.int .u64 (s.f 772), .int .u64 (s.f 771)] ?_ (by kernel_rfl) (fun W hS => ?_) (fun W hS => (rand_c (s.f 772) (s.f 771) (ok.w _) (ok.w _) W).mono (by rintro e w' ⟨rfl, hb⟩; exact ⟨rfl, hS.low hb⟩)) ?_ ?_
  rotate_left 1
  · go_simp
  · go_simp
    exact rfl
  refine steady_val ?_ ?_ (by kernel_rfl) (fun W hS => ?_) ?_ ?_
  rotate_left 2
  · go_simp
    exact rfl
  · go_simp
    exact rfl
  refine steady_nil ?_
  intro W hS
  have HS6 := Lib.hid hS
  clear hS
  go_wp2_with fail
  go_ret
  exact ⟨rfl, HS6.out.bel⟩
set_option maxHeartbeats 4000000 in
theorem rg_8 (s : S) (ok : Ok s) (n l a m : Int) (nm : ByteArray) (hl : W64 l) (hOf : rAgg (ofN n) = .agg #[.int .i64 a, .string nm, .int .u64 m]) (e0 : (nm.toList == []) = false) (e1 : (nm.toList == [116, 105, 109, 101]) = false) (e2 : (nm.toList == [115, 104, 111, 111, 116]) = false) (e3 : (nm.toList == [109, 118, 101, 110, 100, 111, 114, 105, 100]) = false) (e4 : (nm.toList == [109, 97, 114, 99, 104, 105, 100]) = false) (e5 : (nm.toList == [109, 105, 109, 112, 105, 100]) = false) (e6 : (nm.toList == [115, 115, 116, 97, 116, 117, 115]) = false) (e7 : (nm.toList == [115, 105, 101]) = false) (e8 : (nm.toList == [115, 105, 112]) = true) (w : World) :
    Calls Tryd.prog 41 #[.agg (refV s), .int .i64 n, .int .u64 l] w fun e w' => e = .returned (.int .u64 (bits .and .u64 (pendS s l) (s.f 771))) ∧ Below w.heap.size w w' := by
  have HS1 := Lib.hid (show RgS w (w.alloc (.cells (refV s) RfT)) s from ⟨CsAt.new w RfT _, (Below.refl _ _).alloc (Nat.le_refl _) _⟩)
  have HO := Lib.hid (fun W => rof_c n W)
  rw [hOf] at HO
  have f1 := fld_rr1 a nm m
  go_enter Tryd.func41, Tryd.ntmps41
  go_upto_region 1 with fail
  generalize w.alloc (.cells (refV s) RfT) = w1 at *
  go_wp2_with (refine wpList_load_row rfl RfT _ rfl w.heap.size rfl RfT _ (0, 0) _ HS1.out.r Tryd.underlying38 rfl (iRf _) ?_)
  refine ((rword_c s ⟨#[109, 105, 112]⟩ 21 (by decide) nc_mip _)).mono ?_
  rintro e w2 ⟨rfl, hb⟩
  have HS2 := Lib.hid (HS1.out.low hb)
  clear hb
  go_wp2_with (refine wpList_load_row rfl RfT _ rfl w.heap.size rfl RfT _ (0, 0) _ HS2.out.r Tryd.underlying38 rfl (iRf _) ?_)
  refine (rand_c l 2696 hl ⟨by omega, by omega⟩ _).mono ?_
  rintro e w3 ⟨rfl, hb⟩
  have HS3 := Lib.hid (HS2.out.low hb)
  clear hb
  go_wp2_with (refine wpList_load_row rfl RfT _ rfl w.heap.size rfl RfT _ (0, 0) _ HS3.out.r Tryd.underlying38 rfl (iRf _) ?_)
  refine (ror_c (s.f 836) (bits .and .u64 l 2696) (ok.w _) (and_64 hl ⟨by omega, by omega⟩) _).mono ?_
  rintro e w4 ⟨rfl, hb⟩
  have HS4 := Lib.hid (HS3.out.low hb)
  clear hb
  rw [show bits .or .u64 (s.f 836) (bits .and .u64 l 2696) = pendS s l from rfl]
  go_wp2_with (refine wpList_load_row rfl RfT _ rfl w.heap.size rfl RfT _ (0, 0) _ HS4.out.r Tryd.underlying38 rfl (iRf _) ?_)
  refine (HO.out _).mono ?_
  rintro e w5 ⟨rfl, hb⟩
  have HS5 := Lib.hid (HS4.out.low hb)
  clear hb
  go_wp2_with (refine wpList_load_row rfl RfT _ rfl w.heap.size rfl RfT _ (0, 0) _ HS5.out.r Tryd.underlying38 rfl (iRf _) ?_)
  refine ((rword_c s ⟨#[109, 105, 100, 101, 108, 101, 103]⟩ 13 (by decide) nc_mideleg _)).mono ?_
  rintro e w6 ⟨rfl, hb⟩
  have HS6 := Lib.hid (HS5.out.low hb)
  clear hb
  go_wp2_with (refine wpList_load_row rfl RfT _ rfl w.heap.size rfl RfT _ (0, 0) _ HS6.out.r Tryd.underlying38 rfl (iRf _) ?_)
  refine (rand_c (pendS s l) (s.f 771) (pend_64 ok hl) (ok.w _) _).mono ?_
  rintro e w7 ⟨rfl, hb⟩
  have HS7 := Lib.hid (HS6.out.low hb)
  clear hb
  go_wp2_with (refine wpList_load_row rfl RfT _ rfl w.heap.size rfl RfT _ (0, 0) _ HS7.out.r Tryd.underlying38 rfl (iRf _) ?_)
  go_ret
  exact ⟨rfl, HS7.out.bel⟩
set_option maxHeartbeats 4000000 in
theorem rg_9 (s : S) (ok : Ok s) (n l a m : Int) (nm : ByteArray) (hl : W64 l) (hOf : rAgg (ofN n) = .agg #[.int .i64 a, .string nm, .int .u64 m]) (e0 : (nm.toList == []) = false) (e1 : (nm.toList == [116, 105, 109, 101]) = false) (e2 : (nm.toList == [115, 104, 111, 111, 116]) = false) (e3 : (nm.toList == [109, 118, 101, 110, 100, 111, 114, 105, 100]) = false) (e4 : (nm.toList == [109, 97, 114, 99, 104, 105, 100]) = false) (e5 : (nm.toList == [109, 105, 109, 112, 105, 100]) = false) (e6 : (nm.toList == [115, 115, 116, 97, 116, 117, 115]) = false) (e7 : (nm.toList == [115, 105, 101]) = false) (e8 : (nm.toList == [115, 105, 112]) = false) (e9 : (nm.toList == [109, 105, 112]) = true) (w : World) :
    Calls Tryd.prog 41 #[.agg (refV s), .int .i64 n, .int .u64 l] w fun e w' => e = .returned (.int .u64 (pendS s l)) ∧ Below w.heap.size w w' := by
  have HS1 := Lib.hid (show RgS w (w.alloc (.cells (refV s) RfT)) s from ⟨CsAt.new w RfT _, (Below.refl _ _).alloc (Nat.le_refl _) _⟩)
  have HO := Lib.hid (fun W => rof_c n W)
  rw [hOf] at HO
  have f1 := fld_rr1 a nm m
  go_enter Tryd.func41, Tryd.ntmps41
  go_upto_region 1 with fail
  generalize w.alloc (.cells (refV s) RfT) = w1 at *
  go_wp2_with (refine wpList_load_row rfl RfT _ rfl w.heap.size rfl RfT _ (0, 0) _ HS1.out.r Tryd.underlying38 rfl (iRf _) ?_)
  refine ((rword_c s ⟨#[109, 105, 112]⟩ 21 (by decide) nc_mip _)).mono ?_
  rintro e w2 ⟨rfl, hb⟩
  have HS2 := Lib.hid (HS1.out.low hb)
  clear hb
  go_wp2_with (refine wpList_load_row rfl RfT _ rfl w.heap.size rfl RfT _ (0, 0) _ HS2.out.r Tryd.underlying38 rfl (iRf _) ?_)
  refine (rand_c l 2696 hl ⟨by omega, by omega⟩ _).mono ?_
  rintro e w3 ⟨rfl, hb⟩
  have HS3 := Lib.hid (HS2.out.low hb)
  clear hb
  go_wp2_with (refine wpList_load_row rfl RfT _ rfl w.heap.size rfl RfT _ (0, 0) _ HS3.out.r Tryd.underlying38 rfl (iRf _) ?_)
  refine (ror_c (s.f 836) (bits .and .u64 l 2696) (ok.w _) (and_64 hl ⟨by omega, by omega⟩) _).mono ?_
  rintro e w4 ⟨rfl, hb⟩
  have HS4 := Lib.hid (HS3.out.low hb)
  clear hb
  rw [show bits .or .u64 (s.f 836) (bits .and .u64 l 2696) = pendS s l from rfl]
  go_wp2_with (refine wpList_load_row rfl RfT _ rfl w.heap.size rfl RfT _ (0, 0) _ HS4.out.r Tryd.underlying38 rfl (iRf _) ?_)
  refine (HO.out _).mono ?_
  rintro e w5 ⟨rfl, hb⟩
  have HS5 := Lib.hid (HS4.out.low hb)
  clear hb
  go_wp2_with (refine wpList_load_row rfl RfT _ rfl w.heap.size rfl RfT _ (0, 0) _ HS5.out.r Tryd.underlying38 rfl (iRf _) ?_)
  go_ret
  exact ⟨rfl, HS5.out.bel⟩
set_option maxHeartbeats 4000000 in
theorem rg_10 (s : S) (ok : Ok s) (n l a m : Int) (nm : ByteArray) (hl : W64 l) (hOf : rAgg (ofN n) = .agg #[.int .i64 a, .string nm, .int .u64 m]) (e0 : (nm.toList == []) = false) (e1 : (nm.toList == [116, 105, 109, 101]) = false) (e2 : (nm.toList == [115, 104, 111, 111, 116]) = false) (e3 : (nm.toList == [109, 118, 101, 110, 100, 111, 114, 105, 100]) = false) (e4 : (nm.toList == [109, 97, 114, 99, 104, 105, 100]) = false) (e5 : (nm.toList == [109, 105, 109, 112, 105, 100]) = false) (e6 : (nm.toList == [115, 115, 116, 97, 116, 117, 115]) = false) (e7 : (nm.toList == [115, 105, 101]) = false) (e8 : (nm.toList == [115, 105, 112]) = false) (e9 : (nm.toList == [109, 105, 112]) = false) (e10 : (nm.toList == [109, 105, 115, 97]) = true) (w : World) :
    Calls Tryd.prog 41 #[.agg (refV s), .int .i64 n, .int .u64 l] w fun e w' => e = .returned (.int .u64 (9223372036856090881)) ∧ Below w.heap.size w w' := by
  have HS1 := Lib.hid (show RgS w (w.alloc (.cells (refV s) RfT)) s from ⟨CsAt.new w RfT _, (Below.refl _ _).alloc (Nat.le_refl _) _⟩)
  have HO := Lib.hid (fun W => rof_c n W)
  rw [hOf] at HO
  have f1 := fld_rr1 a nm m
  go_enter Tryd.func41, Tryd.ntmps41
  go_upto_region 1 with fail
  generalize w.alloc (.cells (refV s) RfT) = w1 at *
  go_wp2_with (refine wpList_load_row rfl RfT _ rfl w.heap.size rfl RfT _ (0, 0) _ HS1.out.r Tryd.underlying38 rfl (iRf _) ?_)
  refine ((rword_c s ⟨#[109, 105, 112]⟩ 21 (by decide) nc_mip _)).mono ?_
  rintro e w2 ⟨rfl, hb⟩
  have HS2 := Lib.hid (HS1.out.low hb)
  clear hb
  go_wp2_with (refine wpList_load_row rfl RfT _ rfl w.heap.size rfl RfT _ (0, 0) _ HS2.out.r Tryd.underlying38 rfl (iRf _) ?_)
  refine (rand_c l 2696 hl ⟨by omega, by omega⟩ _).mono ?_
  rintro e w3 ⟨rfl, hb⟩
  have HS3 := Lib.hid (HS2.out.low hb)
  clear hb
  go_wp2_with (refine wpList_load_row rfl RfT _ rfl w.heap.size rfl RfT _ (0, 0) _ HS3.out.r Tryd.underlying38 rfl (iRf _) ?_)
  refine (ror_c (s.f 836) (bits .and .u64 l 2696) (ok.w _) (and_64 hl ⟨by omega, by omega⟩) _).mono ?_
  rintro e w4 ⟨rfl, hb⟩
  have HS4 := Lib.hid (HS3.out.low hb)
  clear hb
  rw [show bits .or .u64 (s.f 836) (bits .and .u64 l 2696) = pendS s l from rfl]
  go_wp2_with (refine wpList_load_row rfl RfT _ rfl w.heap.size rfl RfT _ (0, 0) _ HS4.out.r Tryd.underlying38 rfl (iRf _) ?_)
  refine (HO.out _).mono ?_
  rintro e w5 ⟨rfl, hb⟩
  have HS5 := Lib.hid (HS4.out.low hb)
  clear hb
  go_wp2_with (refine wpList_load_row rfl RfT _ rfl w.heap.size rfl RfT _ (0, 0) _ HS5.out.r Tryd.underlying38 rfl (iRf _) ?_)
  go_ret
  exact ⟨rfl, HS5.out.bel⟩
set_option maxHeartbeats 4000000 in
theorem rg_11 (s : S) (ok : Ok s) (n l a m : Int) (nm : ByteArray) (hl : W64 l) (hOf : rAgg (ofN n) = .agg #[.int .i64 a, .string nm, .int .u64 m]) (e0 : (nm.toList == []) = false) (e1 : (nm.toList == [116, 105, 109, 101]) = false) (e2 : (nm.toList == [115, 104, 111, 111, 116]) = false) (e3 : (nm.toList == [109, 118, 101, 110, 100, 111, 114, 105, 100]) = false) (e4 : (nm.toList == [109, 97, 114, 99, 104, 105, 100]) = false) (e5 : (nm.toList == [109, 105, 109, 112, 105, 100]) = false) (e6 : (nm.toList == [115, 115, 116, 97, 116, 117, 115]) = false) (e7 : (nm.toList == [115, 105, 101]) = false) (e8 : (nm.toList == [115, 105, 112]) = false) (e9 : (nm.toList == [109, 105, 112]) = false) (e10 : (nm.toList == [109, 105, 115, 97]) = false) (e11 : (nm.toList == [99, 121, 99, 108, 101]) = true) (w : World) :
    Calls Tryd.prog 41 #[.agg (refV s), .int .i64 n, .int .u64 l] w fun e w' => e = .returned (.int .u64 (s.f 2816)) ∧ Below w.heap.size w w' := by
  have HS1 := Lib.hid (show RgS w (w.alloc (.cells (refV s) RfT)) s from ⟨CsAt.new w RfT _, (Below.refl _ _).alloc (Nat.le_refl _) _⟩)
  have HO := Lib.hid (fun W => rof_c n W)
  rw [hOf] at HO
  have f1 := fld_rr1 a nm m
  go_enter Tryd.func41, Tryd.ntmps41
  go_upto_region 1 with fail
  generalize w.alloc (.cells (refV s) RfT) = w1 at *
  go_wp2_with (refine wpList_load_row rfl RfT _ rfl w.heap.size rfl RfT _ (0, 0) _ HS1.out.r Tryd.underlying38 rfl (iRf _) ?_)
  refine ((rword_c s ⟨#[109, 105, 112]⟩ 21 (by decide) nc_mip _)).mono ?_
  rintro e w2 ⟨rfl, hb⟩
  have HS2 := Lib.hid (HS1.out.low hb)
  clear hb
  go_wp2_with (refine wpList_load_row rfl RfT _ rfl w.heap.size rfl RfT _ (0, 0) _ HS2.out.r Tryd.underlying38 rfl (iRf _) ?_)
  refine (rand_c l 2696 hl ⟨by omega, by omega⟩ _).mono ?_
  rintro e w3 ⟨rfl, hb⟩
  have HS3 := Lib.hid (HS2.out.low hb)
  clear hb
  go_wp2_with (refine wpList_load_row rfl RfT _ rfl w.heap.size rfl RfT _ (0, 0) _ HS3.out.r Tryd.underlying38 rfl (iRf _) ?_)
  refine (ror_c (s.f 836) (bits .and .u64 l 2696) (ok.w _) (and_64 hl ⟨by omega, by omega⟩) _).mono ?_
  rintro e w4 ⟨rfl, hb⟩
  have HS4 := Lib.hid (HS3.out.low hb)
  clear hb
  rw [show bits .or .u64 (s.f 836) (bits .and .u64 l 2696) = pendS s l from rfl]
  go_wp2_with (refine wpList_load_row rfl RfT _ rfl w.heap.size rfl RfT _ (0, 0) _ HS4.out.r Tryd.underlying38 rfl (iRf _) ?_)
  refine (HO.out _).mono ?_
  rintro e w5 ⟨rfl, hb⟩
  have HS5 := Lib.hid (HS4.out.low hb)
  clear hb
  go_wp2_with (refine wpList_load_row rfl RfT _ rfl w.heap.size rfl RfT _ (0, 0) _ HS5.out.r Tryd.underlying38 rfl (iRf _) ?_)
  refine ((rword_c s ⟨#[109, 99, 121, 99, 108, 101]⟩ 25 (by decide) nc_mcycle _)).mono ?_
  rintro e w6 ⟨rfl, hb⟩
  have HS6 := Lib.hid (HS5.out.low hb)
  clear hb
  go_wp2_with (refine wpList_load_row rfl RfT _ rfl w.heap.size rfl RfT _ (0, 0) _ HS6.out.r Tryd.underlying38 rfl (iRf _) ?_)
  go_ret
  exact ⟨rfl, HS6.out.bel⟩
set_option maxHeartbeats 4000000 in
theorem rg_12 (s : S) (ok : Ok s) (n l a m : Int) (nm : ByteArray) (hl : W64 l) (hOf : rAgg (ofN n) = .agg #[.int .i64 a, .string nm, .int .u64 m]) (e0 : (nm.toList == []) = false) (e1 : (nm.toList == [116, 105, 109, 101]) = false) (e2 : (nm.toList == [115, 104, 111, 111, 116]) = false) (e3 : (nm.toList == [109, 118, 101, 110, 100, 111, 114, 105, 100]) = false) (e4 : (nm.toList == [109, 97, 114, 99, 104, 105, 100]) = false) (e5 : (nm.toList == [109, 105, 109, 112, 105, 100]) = false) (e6 : (nm.toList == [115, 115, 116, 97, 116, 117, 115]) = false) (e7 : (nm.toList == [115, 105, 101]) = false) (e8 : (nm.toList == [115, 105, 112]) = false) (e9 : (nm.toList == [109, 105, 112]) = false) (e10 : (nm.toList == [109, 105, 115, 97]) = false) (e11 : (nm.toList == [99, 121, 99, 108, 101]) = false) (e12 : (nm.toList == [105, 110, 115, 116, 114, 101, 116]) = true) (w : World) :
    Calls Tryd.prog 41 #[.agg (refV s), .int .i64 n, .int .u64 l] w fun e w' => e = .returned (.int .u64 (s.f 2818)) ∧ Below w.heap.size w w' := by
  have HS1 := Lib.hid (show RgS w (w.alloc (.cells (refV s) RfT)) s from ⟨CsAt.new w RfT _, (Below.refl _ _).alloc (Nat.le_refl _) _⟩)
  have HO := Lib.hid (fun W => rof_c n W)
  rw [hOf] at HO
  have f1 := fld_rr1 a nm m
  go_enter Tryd.func41, Tryd.ntmps41
  go_upto_region 1 with fail
  generalize w.alloc (.cells (refV s) RfT) = w1 at *
  go_wp2_with (refine wpList_load_row rfl RfT _ rfl w.heap.size rfl RfT _ (0, 0) _ HS1.out.r Tryd.underlying38 rfl (iRf _) ?_)
  refine ((rword_c s ⟨#[109, 105, 112]⟩ 21 (by decide) nc_mip _)).mono ?_
  rintro e w2 ⟨rfl, hb⟩
  have HS2 := Lib.hid (HS1.out.low hb)
  clear hb
  go_wp2_with (refine wpList_load_row rfl RfT _ rfl w.heap.size rfl RfT _ (0, 0) _ HS2.out.r Tryd.underlying38 rfl (iRf _) ?_)
  refine (rand_c l 2696 hl ⟨by omega, by omega⟩ _).mono ?_
  rintro e w3 ⟨rfl, hb⟩
  have HS3 := Lib.hid (HS2.out.low hb)
  clear hb
  go_wp2_with (refine wpList_load_row rfl RfT _ rfl w.heap.size rfl RfT _ (0, 0) _ HS3.out.r Tryd.underlying38 rfl (iRf _) ?_)
  refine (ror_c (s.f 836) (bits .and .u64 l 2696) (ok.w _) (and_64 hl ⟨by omega, by omega⟩) _).mono ?_
  rintro e w4 ⟨rfl, hb⟩
  have HS4 := Lib.hid (HS3.out.low hb)
  clear hb
  rw [show bits .or .u64 (s.f 836) (bits .and .u64 l 2696) = pendS s l from rfl]
  go_wp2_with (refine wpList_load_row rfl RfT _ rfl w.heap.size rfl RfT _ (0, 0) _ HS4.out.r Tryd.underlying38 rfl (iRf _) ?_)
  refine (HO.out _).mono ?_
  rintro e w5 ⟨rfl, hb⟩
  have HS5 := Lib.hid (HS4.out.low hb)
  clear hb
  go_wp2_with (refine wpList_load_row rfl RfT _ rfl w.heap.size rfl RfT _ (0, 0) _ HS5.out.r Tryd.underlying38 rfl (iRf _) ?_)
  refine ((rword_c s ⟨#[109, 105, 110, 115, 116, 114, 101, 116]⟩ 26 (by decide) nc_minstret _)).mono ?_
  rintro e w6 ⟨rfl, hb⟩
  have HS6 := Lib.hid (HS5.out.low hb)
  clear hb
  go_wp2_with (refine wpList_load_row rfl RfT _ rfl w.heap.size rfl RfT _ (0, 0) _ HS6.out.r Tryd.underlying38 rfl (iRf _) ?_)
  go_ret
  exact ⟨rfl, HS6.out.bel⟩
set_option maxHeartbeats 4000000 in
theorem rg_13 (s : S) (ok : Ok s) (n l a m : Int) (nm : ByteArray) (hl : W64 l) (hOf : rAgg (ofN n) = .agg #[.int .i64 a, .string nm, .int .u64 m]) (e0 : (nm.toList == []) = false) (e1 : (nm.toList == [116, 105, 109, 101]) = false) (e2 : (nm.toList == [115, 104, 111, 111, 116]) = false) (e3 : (nm.toList == [109, 118, 101, 110, 100, 111, 114, 105, 100]) = false) (e4 : (nm.toList == [109, 97, 114, 99, 104, 105, 100]) = false) (e5 : (nm.toList == [109, 105, 109, 112, 105, 100]) = false) (e6 : (nm.toList == [115, 115, 116, 97, 116, 117, 115]) = false) (e7 : (nm.toList == [115, 105, 101]) = false) (e8 : (nm.toList == [115, 105, 112]) = false) (e9 : (nm.toList == [109, 105, 112]) = false) (e10 : (nm.toList == [109, 105, 115, 97]) = false) (e11 : (nm.toList == [99, 121, 99, 108, 101]) = false) (e12 : (nm.toList == [105, 110, 115, 116, 114, 101, 116]) = false) (e13 : (nm.toList == [109, 104, 97, 114, 116, 105, 100]) = true) (w : World) :
    Calls Tryd.prog 41 #[.agg (refV s), .int .i64 n, .int .u64 l] w fun e w' => e = .returned (.int .u64 (IntKind.u64.wrap s.h)) ∧ Below w.heap.size w w' := by
  have HS1 := Lib.hid (show RgS w (w.alloc (.cells (refV s) RfT)) s from ⟨CsAt.new w RfT _, (Below.refl _ _).alloc (Nat.le_refl _) _⟩)
  have HO := Lib.hid (fun W => rof_c n W)
  rw [hOf] at HO
  have f1 := fld_rr1 a nm m
  go_enter Tryd.func41, Tryd.ntmps41
  go_upto_region 1 with fail
  generalize w.alloc (.cells (refV s) RfT) = w1 at *
  go_wp2_with (refine wpList_load_row rfl RfT _ rfl w.heap.size rfl RfT _ (0, 0) _ HS1.out.r Tryd.underlying38 rfl (iRf _) ?_)
  refine ((rword_c s ⟨#[109, 105, 112]⟩ 21 (by decide) nc_mip _)).mono ?_
  rintro e w2 ⟨rfl, hb⟩
  have HS2 := Lib.hid (HS1.out.low hb)
  clear hb
  go_wp2_with (refine wpList_load_row rfl RfT _ rfl w.heap.size rfl RfT _ (0, 0) _ HS2.out.r Tryd.underlying38 rfl (iRf _) ?_)
  refine (rand_c l 2696 hl ⟨by omega, by omega⟩ _).mono ?_
  rintro e w3 ⟨rfl, hb⟩
  have HS3 := Lib.hid (HS2.out.low hb)
  clear hb
  go_wp2_with (refine wpList_load_row rfl RfT _ rfl w.heap.size rfl RfT _ (0, 0) _ HS3.out.r Tryd.underlying38 rfl (iRf _) ?_)
  refine (ror_c (s.f 836) (bits .and .u64 l 2696) (ok.w _) (and_64 hl ⟨by omega, by omega⟩) _).mono ?_
  rintro e w4 ⟨rfl, hb⟩
  have HS4 := Lib.hid (HS3.out.low hb)
  clear hb
  rw [show bits .or .u64 (s.f 836) (bits .and .u64 l 2696) = pendS s l from rfl]
  go_wp2_with (refine wpList_load_row rfl RfT _ rfl w.heap.size rfl RfT _ (0, 0) _ HS4.out.r Tryd.underlying38 rfl (iRf _) ?_)
  refine (HO.out _).mono ?_
  rintro e w5 ⟨rfl, hb⟩
  have HS5 := Lib.hid (HS4.out.low hb)
  clear hb
  have c0 : w5.cell? ⟨w.heap.size, 0, none⟩ = some (.int .i64 s.h) := by rw [HS5.out.r.cell, refV_0]
  go_wp2_with (refine wpList_load_row rfl RfT _ rfl w.heap.size rfl RfT _ (0, 0) _ HS5.out.r Tryd.underlying38 rfl (iRf _) ?_)
  go_ret
  exact ⟨rfl, HS5.out.bel⟩
set_option maxHeartbeats 4000000 in
theorem rg_x (s : S) (ok : Ok s) (n l a m : Int) (nm : ByteArray) (hl : W64 l) (hOf : rAgg (ofN n) = .agg #[.int .i64 a, .string nm, .int .u64 m]) (e0 : (nm.toList == []) = false) (e1 : (nm.toList == [116, 105, 109, 101]) = false) (e2 : (nm.toList == [115, 104, 111, 111, 116]) = false) (e3 : (nm.toList == [109, 118, 101, 110, 100, 111, 114, 105, 100]) = false) (e4 : (nm.toList == [109, 97, 114, 99, 104, 105, 100]) = false) (e5 : (nm.toList == [109, 105, 109, 112, 105, 100]) = false) (e6 : (nm.toList == [115, 115, 116, 97, 116, 117, 115]) = false) (e7 : (nm.toList == [115, 105, 101]) = false) (e8 : (nm.toList == [115, 105, 112]) = false) (e9 : (nm.toList == [109, 105, 112]) = false) (e10 : (nm.toList == [109, 105, 115, 97]) = false) (e11 : (nm.toList == [99, 121, 99, 108, 101]) = false) (e12 : (nm.toList == [105, 110, 115, 116, 114, 101, 116]) = false) (e13 : (nm.toList == [109, 104, 97, 114, 116, 105, 100]) = false) (k : Nat) (hk : k < 34) (hn : n = ((rowC k).1 : Nat)) (w : World) :
    Calls Tryd.prog 41 #[.agg (refV s), .int .i64 n, .int .u64 l] w fun e w' => e = .returned (.int .u64 (s.f n)) ∧ Below w.heap.size w w' := by
  have HS1 := Lib.hid (show RgS w (w.alloc (.cells (refV s) RfT)) s from ⟨CsAt.new w RfT _, (Below.refl _ _).alloc (Nat.le_refl _) _⟩)
  have HO := Lib.hid (fun W => rof_c n W)
  rw [hOf] at HO
  have f1 := fld_rr1 a nm m
  have HRC := Lib.hid (fun (W : World) (h : CsAt W w.heap.size RfT (refV s)) => show W.cell? ⟨w.heap.size, 1 + k, none⟩ = some (.int .u64 (s.f n)) by rw [hn]; exact ref_cell h hk)
  have HAT := Lib.hid (fun W => rat_c n k hk hn W)
  clear hn
  go_enter Tryd.func41, Tryd.ntmps41
  go_upto_region 1 with fail
  generalize w.alloc (.cells (refV s) RfT) = w1 at *
  go_wp2_with (refine wpList_load_row rfl RfT _ rfl w.heap.size rfl RfT _ (0, 0) _ HS1.out.r Tryd.underlying38 rfl (iRf _) ?_)
  refine ((rword_c s ⟨#[109, 105, 112]⟩ 21 (by decide) nc_mip _)).mono ?_
  rintro e w2 ⟨rfl, hb⟩
  have HS2 := Lib.hid (HS1.out.low hb)
  clear hb
  go_wp2_with (refine wpList_load_row rfl RfT _ rfl w.heap.size rfl RfT _ (0, 0) _ HS2.out.r Tryd.underlying38 rfl (iRf _) ?_)
  refine (rand_c l 2696 hl ⟨by omega, by omega⟩ _).mono ?_
  rintro e w3 ⟨rfl, hb⟩
  have HS3 := Lib.hid (HS2.out.low hb)
  clear hb
  go_wp2_with (refine wpList_load_row rfl RfT _ rfl w.heap.size rfl RfT _ (0, 0) _ HS3.out.r Tryd.underlying38 rfl (iRf _) ?_)
  refine (ror_c (s.f 836) (bits .and .u64 l 2696) (ok.w _) (and_64 hl ⟨by omega, by omega⟩) _).mono ?_
  rintro e w4 ⟨rfl, hb⟩
  have HS4 := Lib.hid (HS3.out.low hb)
  clear hb
  rw [show bits .or .u64 (s.f 836) (bits .and .u64 l 2696) = pendS s l from rfl]
  go_wp2_with (refine wpList_load_row rfl RfT _ rfl w.heap.size rfl RfT _ (0, 0) _ HS4.out.r Tryd.underlying38 rfl (iRf _) ?_)
  refine (HO.out _).mono ?_
  rintro e w5 ⟨rfl, hb⟩
  have HS5 := Lib.hid (HS4.out.low hb)
  clear hb
  go_wp2_with (refine wpList_load_row rfl RfT _ rfl w.heap.size rfl RfT _ (0, 0) _ HS5.out.r Tryd.underlying38 rfl (iRf _) ?_)
  refine (HAT.out _).mono ?_
  rintro e w6 ⟨rfl, hb⟩
  have HS6 := Lib.hid (HS5.out.low hb)
  clear hb
  have c0 : w6.cell? ⟨w.heap.size, 1 + k, none⟩ = some (.int .u64 (s.f n)) := HRC.out w6 HS6.out.r
  have hk2 : (k : Int) < 34 := by omega
  clear hOf f1 HO HRC HAT
  go_wp2_with (refine wpList_load_row rfl RfT _ rfl w.heap.size rfl RfT _ (0, 0) _ HS6.out.r Tryd.underlying38 rfl (iRf _) ?_)
  go_ret
  exact ⟨rfl, HS6.out.bel⟩
theorem unk_idx {n : Int} (h : known n = false) : idxK n = none := by
  cases hi : idxK n with
  | none => rfl
  | some i =>
    obtain ⟨h22, hn⟩ := idx_some hi
    have := (by decide +kernel : ∀ i : Fin 22, known ((keptN i.val : Nat) : Int) = true) ⟨i, h22⟩
    simp only at this
    rw [← hn, h] at this
    cases this
theorem unk_get {s : S} (ok : Ok s) {n : Int} (h : known n = false) (l : Int) : getS s n l = 0 := by
  have hne : ∀ m : Int, known m = true → n ≠ m := fun m hm e => by rw [e, hm] at h; cases h
  unfold getS
  rw [if_neg (hne 256 (by decide +kernel)), if_neg (hne 260 (by decide +kernel)), if_neg (hne 324 (by decide +kernel)), if_neg (hne 836 (by decide +kernel)), if_neg (hne 769 (by decide +kernel)), if_neg (hne 3072 (by decide +kernel)), if_neg (hne 3074 (by decide +kernel)), if_neg (hne 3860 (by decide +kernel))]
  exact ok.z n (unk_idx h)
set_option maxHeartbeats 4000000 in
theorem rget22_c (s : S) (ok : Ok s) (n l : Int) (hl : W64 l) (w : World) : Calls Tryd.prog 41 #[.agg (refV s), .int .i64 n, .int .u64 l] w fun e w' => e = .returned (.int .u64 (getS s n l)) ∧ Below w.heap.size w w' := by
  cases hkn : known n
  · rw [unk_get ok hkn]
    refine rg_0 s ok n l 0 0 ⟨#[]⟩ hl ?_ (by decide +kernel) w
    rw [of_unknown hkn]; rfl
  · obtain ⟨k, hk, hn, ho⟩ := of_known hkn
    have hOf : rAgg (ofN n) = rAgg (rowC k) := by rw [ho]
    clear ho hkn
    match k, hk with
    | 0, _ =>
      have hn : n = 256 := hn
      subst hn
      exact rg_6 s ok 256 l _ _ _ hl hOf (by decide +kernel) (by decide +kernel) (by decide +kernel) (by decide +kernel) (by decide +kernel) (by decide +kernel) (by decide +kernel) w
    | 1, _ =>
      have hn : n = 260 := hn
      subst hn
      exact rg_7 s ok 260 l _ _ _ hl hOf (by decide +kernel) (by decide +kernel) (by decide +kernel) (by decide +kernel) (by decide +kernel) (by decide +kernel) (by decide +kernel) (by decide +kernel) w
    | 2, _ =>
      have hn : n = 261 := hn
      subst hn
      exact rg_x s ok 261 l _ _ _ hl hOf (by decide +kernel) (by decide +kernel) (by decide +kernel) (by decide +kernel) (by decide +kernel) (by decide +kernel) (by decide +kernel) (by decide +kernel) (by decide +kernel) (by decide +kernel) (by decide +kernel) (by decide +kernel) (by decide +kernel) (by decide +kernel) 2 (by decide) rfl w
    | 3, _ =>
      have hn : n = 262 := hn
      subst hn
      exact rg_x s ok 262 l _ _ _ hl hOf (by decide +kernel) (by decide +kernel) (by decide +kernel) (by decide +kernel) (by decide +kernel) (by decide +kernel) (by decide +kernel) (by decide +kernel) (by decide +kernel) (by decide +kernel) (by decide +kernel) (by decide +kernel) (by decide +kernel) (by decide +kernel) 3 (by decide) rfl w
    | 4, _ =>
      have hn : n = 320 := hn
      subst hn
      exact rg_x s ok 320 l _ _ _ hl hOf (by decide +kernel) (by decide +kernel) (by decide +kernel) (by decide +kernel) (by decide +kernel) (by decide +kernel) (by decide +kernel) (by decide +kernel) (by decide +kernel) (by decide +kernel) (by decide +kernel) (by decide +kernel) (by decide +kernel) (by decide +kernel) 4 (by decide) rfl w
    | 5, _ =>
      have hn : n = 321 := hn
      subst hn
      exact rg_x s ok 321 l _ _ _ hl hOf (by decide +kernel) (by decide +kernel) (by decide +kernel) (by decide +kernel) (by decide +kernel) (by decide +kernel) (by decide +kernel) (by decide +kernel) (by decide +kernel) (by decide +kernel) (by decide +kernel) (by decide +kernel) (by decide +kernel) (by decide +kernel) 5 (by decide) rfl w
    | 6, _ =>
      have hn : n = 322 := hn
      subst hn
      exact rg_x s ok 322 l _ _ _ hl hOf (by decide +kernel) (by decide +kernel) (by decide +kernel) (by decide +kernel) (by decide +kernel) (by decide +kernel) (by decide +kernel) (by decide +kernel) (by decide +kernel) (by decide +kernel) (by decide +kernel) (by decide +kernel) (by decide +kernel) (by decide +kernel) 6 (by decide) rfl w
    | 7, _ =>
      have hn : n = 323 := hn
      subst hn
      exact rg_x s ok 323 l _ _ _ hl hOf (by decide +kernel) (by decide +kernel) (by decide +kernel) (by decide +kernel) (by decide +kernel) (by decide +kernel) (by decide +kernel) (by decide +kernel) (by decide +kernel) (by decide +kernel) (by decide +kernel) (by decide +kernel) (by decide +kernel) (by decide +kernel) 7 (by decide) rfl w
    | 8, _ =>
      have hn : n = 324 := hn
      subst hn
      exact rg_8 s ok 324 l _ _ _ hl hOf (by decide +kernel) (by decide +kernel) (by decide +kernel) (by decide +kernel) (by decide +kernel) (by decide +kernel) (by decide +kernel) (by decide +kernel) (by decide +kernel) w
    | 9, _ =>
      have hn : n = 384 := hn
      subst hn
      exact rg_x s ok 384 l _ _ _ hl hOf (by decide +kernel) (by decide +kernel) (by decide +kernel) (by decide +kernel) (by decide +kernel) (by decide +kernel) (by decide +kernel) (by decide +kernel) (by decide +kernel) (by decide +kernel) (by decide +kernel) (by decide +kernel) (by decide +kernel) (by decide +kernel) 9 (by decide) rfl w
    | 10, _ =>
      have hn : n = 768 := hn
      subst hn
      exact rg_x s ok 768 l _ _ _ hl hOf (by decide +kernel) (by decide +kernel) (by decide +kernel) (by decide +kernel) (by decide +kernel) (by decide +kernel) (by decide +kernel) (by decide +kernel) (by decide +kernel) (by decide +kernel) (by decide +kernel) (by decide +kernel) (by decide +kernel) (by decide +kernel) 10 (by decide) rfl w
    | 11, _ =>
      have hn : n = 769 := hn
      subst hn
      exact rg_10 s ok 769 l _ _ _ hl hOf (by decide +kernel) (by decide +kernel) (by decide +kernel) (by decide +kernel) (by decide +kernel) (by decide +kernel) (by decide +kernel) (by decide +kernel) (by decide +kernel) (by decide +kernel) (by decide +kernel) w
    | 12, _ =>
      have hn : n = 770 := hn
      subst hn
      exact rg_x s ok 770 l _ _ _ hl hOf (by decide +kernel) (by decide +kernel) (by decide +kernel) (by decide +kernel) (by decide +kernel) (by decide +kernel) (by decide +kernel) (by decide +kernel) (by decide +kernel) (by decide +kernel) (by decide +kernel) (by decide +kernel) (by decide +kernel) (by decide +kernel) 12 (by decide) rfl w
    | 13, _ =>
      have hn : n = 771 := hn
      subst hn
      exact rg_x s ok 771 l _ _ _ hl hOf (by decide +kernel) (by decide +kernel) (by decide +kernel) (by decide +kernel) (by decide +kernel) (by decide +kernel) (by decide +kernel) (by decide +kernel) (by decide +kernel) (by decide +kernel) (by decide +kernel) (by decide +kernel) (by decide +kernel) (by decide +kernel) 13 (by decide) rfl w
    | 14, _ =>
      have hn : n = 772 := hn
      subst hn
      exact rg_x s ok 772 l _ _ _ hl hOf (by decide +kernel) (by decide +kernel) (by decide +kernel) (by decide +kernel) (by decide +kernel) (by decide +kernel) (by decide +kernel) (by decide +kernel) (by decide +kernel) (by decide +kernel) (by decide +kernel) (by decide +kernel) (by decide +kernel) (by decide +kernel) 14 (by decide) rfl w
    | 15, _ =>
      have hn : n = 773 := hn
      subst hn
      exact rg_x s ok 773 l _ _ _ hl hOf (by decide +kernel) (by decide +kernel) (by decide +kernel) (by decide +kernel) (by decide +kernel) (by decide +kernel) (by decide +kernel) (by decide +kernel) (by decide +kernel) (by decide +kernel) (by decide +kernel) (by decide +kernel) (by decide +kernel) (by decide +kernel) 15 (by decide) rfl w
    | 16, _ =>
      have hn : n = 774 := hn
      subst hn
      exact rg_x s ok 774 l _ _ _ hl hOf (by decide +kernel) (by decide +kernel) (by decide +kernel) (by decide +kernel) (by decide +kernel) (by decide +kernel) (by decide +kernel) (by decide +kernel) (by decide +kernel) (by decide +kernel) (by decide +kernel) (by decide +kernel) (by decide +kernel) (by decide +kernel) 16 (by decide) rfl w
    | 17, _ =>
      have hn : n = 832 := hn
      subst hn
      exact rg_x s ok 832 l _ _ _ hl hOf (by decide +kernel) (by decide +kernel) (by decide +kernel) (by decide +kernel) (by decide +kernel) (by decide +kernel) (by decide +kernel) (by decide +kernel) (by decide +kernel) (by decide +kernel) (by decide +kernel) (by decide +kernel) (by decide +kernel) (by decide +kernel) 17 (by decide) rfl w
    | 18, _ =>
      have hn : n = 833 := hn
      subst hn
      exact rg_x s ok 833 l _ _ _ hl hOf (by decide +kernel) (by decide +kernel) (by decide +kernel) (by decide +kernel) (by decide +kernel) (by decide +kernel) (by decide +kernel) (by decide +kernel) (by decide +kernel) (by decide +kernel) (by decide +kernel) (by decide +kernel) (by decide +kernel) (by decide +kernel) 18 (by decide) rfl w
    | 19, _ =>
      have hn : n = 834 := hn
      subst hn
      exact rg_x s ok 834 l _ _ _ hl hOf (by decide +kernel) (by decide +kernel) (by decide +kernel) (by decide +kernel) (by decide +kernel) (by decide +kernel) (by decide +kernel) (by decide +kernel) (by decide +kernel) (by decide +kernel) (by decide +kernel) (by decide +kernel) (by decide +kernel) (by decide +kernel) 19 (by decide) rfl w
    | 20, _ =>
      have hn : n = 835 := hn
      subst hn
      exact rg_x s ok 835 l _ _ _ hl hOf (by decide +kernel) (by decide +kernel) (by decide +kernel) (by decide +kernel) (by decide +kernel) (by decide +kernel) (by decide +kernel) (by decide +kernel) (by decide +kernel) (by decide +kernel) (by decide +kernel) (by decide +kernel) (by decide +kernel) (by decide +kernel) 20 (by decide) rfl w
    | 21, _ =>
      have hn : n = 836 := hn
      subst hn
      exact rg_9 s ok 836 l _ _ _ hl hOf (by decide +kernel) (by decide +kernel) (by decide +kernel) (by decide +kernel) (by decide +kernel) (by decide +kernel) (by decide +kernel) (by decide +kernel) (by decide +kernel) (by decide +kernel) w
    | 22, _ =>
      have hn : n = 1472 := hn
      subst hn
      exact rg_x s ok 1472 l _ _ _ hl hOf (by decide +kernel) (by decide +kernel) (by decide +kernel) (by decide +kernel) (by decide +kernel) (by decide +kernel) (by decide +kernel) (by decide +kernel) (by decide +kernel) (by decide +kernel) (by decide +kernel) (by decide +kernel) (by decide +kernel) (by decide +kernel) 22 (by decide) rfl w
    | 23, _ =>
      have hn : n = 1473 := hn
      subst hn
      exact rg_x s ok 1473 l _ _ _ hl hOf (by decide +kernel) (by decide +kernel) (by decide +kernel) (by decide +kernel) (by decide +kernel) (by decide +kernel) (by decide +kernel) (by decide +kernel) (by decide +kernel) (by decide +kernel) (by decide +kernel) (by decide +kernel) (by decide +kernel) (by decide +kernel) 23 (by decide) rfl w
    | 24, _ =>
      have hn : n = 1474 := hn
      subst hn
      have hz : getS s 1474 l = 0 := ok.z _ (by decide)
      rw [hz]
      exact rg_2 s ok 1474 l _ _ _ hl hOf (by decide +kernel) (by decide +kernel) (by decide +kernel) w
    | 25, _ =>
      have hn : n = 2816 := hn
      subst hn
      exact rg_x s ok 2816 l _ _ _ hl hOf (by decide +kernel) (by decide +kernel) (by decide +kernel) (by decide +kernel) (by decide +kernel) (by decide +kernel) (by decide +kernel) (by decide +kernel) (by decide +kernel) (by decide +kernel) (by decide +kernel) (by decide +kernel) (by decide +kernel) (by decide +kernel) 25 (by decide) rfl w
    | 26, _ =>
      have hn : n = 2818 := hn
      subst hn
      exact rg_x s ok 2818 l _ _ _ hl hOf (by decide +kernel) (by decide +kernel) (by decide +kernel) (by decide +kernel) (by decide +kernel) (by decide +kernel) (by decide +kernel) (by decide +kernel) (by decide +kernel) (by decide +kernel) (by decide +kernel) (by decide +kernel) (by decide +kernel) (by decide +kernel) 26 (by decide) rfl w
    | 27, _ =>
      have hn : n = 3072 := hn
      subst hn
      exact rg_11 s ok 3072 l _ _ _ hl hOf (by decide +kernel) (by decide +kernel) (by decide +kernel) (by decide +kernel) (by decide +kernel) (by decide +kernel) (by decide +kernel) (by decide +kernel) (by decide +kernel) (by decide +kernel) (by decide +kernel) (by decide +kernel) w
    | 28, _ =>
      have hn : n = 3073 := hn
      subst hn
      have hz : getS s 3073 l = 0 := ok.z _ (by decide)
      rw [hz]
      exact rg_1 s ok 3073 l _ _ _ hl hOf (by decide +kernel) (by decide +kernel) w
    | 29, _ =>
      have hn : n = 3074 := hn
      subst hn
      exact rg_12 s ok 3074 l _ _ _ hl hOf (by decide +kernel) (by decide +kernel) (by decide +kernel) (by decide +kernel) (by decide +kernel) (by decide +kernel) (by decide +kernel) (by decide +kernel) (by decide +kernel) (by decide +kernel) (by decide +kernel) (by decide +kernel) (by decide +kernel) w
    | 30, _ =>
      have hn : n = 3857 := hn
      subst hn
      have hz : getS s 3857 l = 0 := ok.z _ (by decide)
      rw [hz]
      exact rg_3 s ok 3857 l _ _ _ hl hOf (by decide +kernel) (by decide +kernel) (by decide +kernel) (by decide +kernel) w
    | 31, _ =>
      have hn : n = 3858 := hn
      subst hn
      have hz : getS s 3858 l = 0 := ok.z _ (by decide)
      rw [hz]
      exact rg_4 s ok 3858 l _ _ _ hl hOf (by decide +kernel) (by decide +kernel) (by decide +kernel) (by decide +kernel) (by decide +kernel) w
    | 32, _ =>
      have hn : n = 3859 := hn
      subst hn
      have hz : getS s 3859 l = 0 := ok.z _ (by decide)
      rw [hz]
      exact rg_5 s ok 3859 l _ _ _ hl hOf (by decide +kernel) (by decide +kernel) (by decide +kernel) (by decide +kernel) (by decide +kernel) (by decide +kernel) w
    | 33, _ =>
      have hn : n = 3860 := hn
      subst hn
      exact rg_13 s ok 3860 l _ _ _ hl hOf (by decide +kernel) (by decide +kernel) (by decide +kernel) (by decide +kernel) (by decide +kernel) (by decide +kernel) (by decide +kernel) (by decide +kernel) (by decide +kernel) (by decide +kernel) (by decide +kernel) (by decide +kernel) (by decide +kernel) (by decide +kernel) w
    | k + 34, h => exact absurd h (by omega)
end Go.Proofs.YtkbgmppbkllnmaaDoor
