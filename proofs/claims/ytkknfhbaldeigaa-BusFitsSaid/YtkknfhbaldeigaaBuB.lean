/-
  Where an address of a bus leads: contracts of right, target.fits, find, Fits.
-/
import Derived.Test.YtkknfhbaldeigaaBpG
import Derived.Test.YtkknfhbaldeigaaBmF
import Derived.Test.YtkknfhbaldeigaaUtH
import Derived.Test.YtkknfhbaldeigaaEqf
set_option maxRecDepth 20000
namespace Go.Proofs.Ytkknfhbaldeigaa
open Go.ChangeShapes Go.WideShapes Go.ChangeAt Go.RowKit

abbrev TgT : TypeId := 78
abbrev BsT : TypeId := 125
namespace Bs
def base (d : Nat) : Int := if d = 0 then 33554432 else if d = 1 then 201326592 else 268435456
def offD (a : Int) (d : Nat) : Int := (a - base d) % 18446744073709551616
def fitT (h : Int) (d : Nat) (off size : Int) : Bool := if d = 0 then Ct.is (Ct.cnt h) off size else if d = 1 then Pc.is h off size else decide (off < 8 ∧ size = 1)
def fitD (h : Int) (a size : Int) (d : Nat) : Bool := fitT h d (offD a d) size
def okH (h : Int) : Bool := decide (1 ≤ h ∧ h ≤ 8)
/-- The device that an address leads to; 3: none. -/
def dev (h a size : Int) : Nat := if okH h = true then (if fitD h a size 0 = true then 0 else if fitD h a size 1 = true then 1 else if fitD h a size 2 = true then 2 else 3) else 3
def tg (d : Nat) (a size : Int) : Array Value := if d < 3 then #[.int .i64 d, .int .u64 (offD a d), .int .i64 size] else #[.int .i64 0, .int .u64 0, .int .i64 0]
theorem offD_rng (a : Int) (d : Nat) : 0 ≤ offD a d ∧ offD a d ≤ 18446744073709551615 := by unfold offD; omega
theorem dev_no {h a size : Int} (hh : okH h = false) : dev h a size = 3 := by unfold dev; rw [hh]; rfl
theorem dev_hit {h a size : Int} (hh : okH h = true) {k : Nat} (hk : k < 3) (hno : ∀ j, j < k → fitD h a size j = false) (hy : fitD h a size k = true) : dev h a size = k := by
  unfold dev
  rw [if_pos hh]
  obtain rfl | rfl | rfl : k = 0 ∨ k = 1 ∨ k = 2 := by omega
  · rw [if_pos hy]
  · rw [hno 0 (by omega), if_neg (by simp), if_pos hy]
  · rw [hno 0 (by omega), if_neg (by simp), hno 1 (by omega), if_neg (by simp), if_pos hy]
theorem dev_miss {h a size : Int} (hno : ∀ j, j < 3 → fitD h a size j = false) : dev h a size = 3 := by
  unfold dev
  rw [hno 0 (by omega), hno 1 (by omega), hno 2 (by omega)]
  split <;> rfl
theorem more {h a size : Int} {k : Nat} (hno : ∀ j, j < k → fitD h a size j = false) (hk : fitD h a size k = false) : ∀ j, j < k + 1 → fitD h a size j = false := fun j hj => by
  by_cases e : j = k
  · subst e; exact hk
  · exact hno j (by omega)
theorem fit_size {h : Int} {d : Nat} {off size : Int} (hf : fitT h d off size = true) : size ≠ 0 := by
  unfold fitT at hf
  rintro rfl
  split at hf
  · unfold Ct.is at hf; rw [decide_eq_true_eq] at hf; exact hf (by rw [Ct.at_size (n := Ct.cnt h) (off := off) (size := 0) (by omega) (by omega)])
  · split at hf
    · unfold Pc.is at hf; rw [decide_eq_true_eq] at hf; exact hf (by rw [Pc.at_bad (by omega)])
    · simp at hf
theorem dev_size {h a size : Int} (hd : dev h a size < 3) : size ≠ 0 := by
  unfold dev at hd
  split at hd
  · split at hd
    · exact fit_size (by assumption : fitT h 0 _ size = true)
    · split at hd
      · exact fit_size (by assumption : fitT h 1 _ size = true)
      · split at hd
        · exact fit_size (by assumption : fitT h 2 _ size = true)
        · omega
  · omega
theorem dev_le (h a size : Int) : dev h a size ≤ 3 := by
  unfold dev
  repeat' split
  all_goals omega
end Bs
theorem right_c (h : Int) (w : World) : Calls Try.prog 41 #[.int .i64 h] w fun e w' => e = .returned (.bool (Bs.okH h)) ∧ w' = w := by
  by_cases h1 : 1 ≤ h
  · have g0 : decide (h ≥ 1) = true := by simpa using h1
    have HE := Lib.hid (show Bs.okH h = decide (h ≤ 8) by unfold Bs.okH; rw [decide_eq_decide]; omega)
    rw [HE.out]
    go_enter Try.func41, Try.ntmps41
    go_wp2_with fail
    go_ret
    exact ⟨rfl, rfl⟩
  · have g0 : decide (h ≥ 1) = false := by simpa using h1
    have HE := Lib.hid (show Bs.okH h = false by unfold Bs.okH; simp [h1])
    rw [HE.out]
    go_enter Try.func41, Try.ntmps41
    go_wp2_with fail
    go_ret
    exact ⟨rfl, rfl⟩
theorem tfits_c (h : Int) (d : Nat) (hd : d < 3) (off size : Int) (o0 : 0 ≤ off) (o1 : off ≤ 18446744073709551615) (w : World) :
    Calls Try.prog 61 #[.agg #[.int .i64 d, .int .u64 off, .int .i64 size], .int .i64 h] w fun e w' => e = .returned (.bool (Bs.fitT h d off size)) ∧ Below w.heap.size w w' := by
  have HB := Lib.hid ((Below.refl w.heap.size w).alloc (Nat.le_refl _) (Obj.cells #[.int .i64 d, .int .u64 off, .int .i64 size] TgT))
  have hR := CsAt.new w TgT #[.int .i64 d, .int .u64 off, .int .i64 size]
  obtain ⟨r0, hr0⟩ : ∃ r, Bs.fitT h d off size = r := ⟨_, rfl⟩
  rw [hr0]
  go_enter Try.func61, Try.ntmps61
  go_upto_region 1 with fail
  generalize w.alloc (.cells #[.int .i64 d, .int .u64 off, .int .i64 size] TgT) = w1 at *
  have q0 := hR.cell 0
  have q1 := hR.cell 1
  have q2 := hR.cell 2
  simp only [List.getElem?_toArray, List.getElem?_cons_zero, List.getElem?_cons_succ] at q0 q1 q2
  clear hR
  obtain rfl | rfl | rfl : d = 0 ∨ d = 1 ∨ d = 2 := by omega
  · have HF := Lib.hid (fits_c h off o0 o1 size w1)
    rw [show Bs.fitT h 0 off size = Ct.is (Ct.cnt h) off size from rfl] at hr0
    rw [hr0] at HF
    clear hr0
    go_wp2_with fail
    refine HF.out.mono ?_
    rintro e w2 ⟨rfl, hb2⟩
    have HB2 := Lib.hid (HB.out.trans (hb2.mono HB.out.size))
    clear hb2 HF HB
    go_wp2_with fail
    go_ret
    exact ⟨rfl, HB2.out⟩
  · have HF := Lib.hid (pfits_c h off size o0 o1 w1)
    rw [show Bs.fitT h 1 off size = Pc.is h off size from rfl] at hr0
    rw [hr0] at HF
    clear hr0
    go_wp2_with fail
    refine HF.out.mono ?_
    rintro e w2 ⟨rfl, hb2⟩
    have HB2 := Lib.hid (HB.out.trans (hb2.mono HB.out.size))
    clear hb2 HF HB
    go_wp2_with fail
    go_ret
    exact ⟨rfl, HB2.out⟩
  · have HF := Lib.hid (ufits_c off size o0 o1 w1)
    rw [show Bs.fitT h 2 off size = decide (off < 8 ∧ size = 1) from rfl] at hr0
    rw [hr0] at HF
    clear hr0
    go_wp2_with fail
    refine HF.out.mono ?_
    rintro e w2 ⟨rfl, rfl⟩
    have HB2 := HB
    clear HF HB
    go_wp2_with fail
    go_ret
    exact ⟨rfl, HB2.out⟩
theorem info_Tg : (Try.prog.info? TgT).map (·.size) = some 3 := by kernel_rfl
def tg0 : Array Value := #[.int .i64 0, .int .u64 0, .int .i64 0]
def bs3 : Array Value := #[.int .u64 33554432, .int .u64 201326592, .int .u64 268435456]
theorem ix_0 (W : World) : (Instr.index BsT (.agg bs3) (.int .i64 0)).run Try.prog W = .ok (.int .u64 33554432) W := by kernel_rfl
theorem ix_1 (W : World) : (Instr.index BsT (.agg bs3) (.int .i64 1)).run Try.prog W = .ok (.int .u64 201326592) W := by kernel_rfl
theorem ix_2 (W : World) : (Instr.index BsT (.agg bs3) (.int .i64 2)).run Try.prog W = .ok (.int .u64 268435456) W := by kernel_rfl
set_option maxHeartbeats 8000000 in
theorem find_c (h a size : Int) (w : World) :
    Calls Try.prog 26 #[.int .i64 h, .int .u64 a, .int .i64 size] w fun e w' => e = .returned (.agg (Bs.tg (Bs.dev h a size) a size)) ∧ Below w.heap.size w w' := by
  have HB0 := Lib.hid ((Below.refl w.heap.size w).alloc (Nat.le_refl _) (Obj.cells tg0 TgT))
  have HR0 := Lib.hid (CsAt.new w TgT tg0)
  cases hh : Bs.okH h with
  | false =>
    have HE := Lib.hid (Bs.dev_no (a := a) (size := size) hh)
    rw [HE.out, show Bs.tg 3 a size = tg0 from rfl]
    go_enter Try.func26, Try.ntmps26
    go_upto_region 1 with fail
    rw [show (#[Value.int IntKind.i64 0, Value.int IntKind.u64 0, Value.int IntKind.i64 0] : Array Value) = tg0 from rfl]
    generalize w.alloc (Obj.cells tg0 TgT) = w1 at *
    go_wp2_with fail
    refine (right_c h w1).mono ?_
    rintro e w2 ⟨rfl, rfl⟩
    rw [hh]
    go_wp2_with (refine wpList_store_row rfl TgT _ _ rfl w.heap.size tg0 rfl rfl TgT tg0 HR0.out (by kernel_rfl) rfl (by kernel_rfl) ?_)
    exact bodyPost_ret (results_cell_row Try.results26 _ _ _ _ _ _ _ rfl (HR0.out.row tg0) Try.underlying78 rfl info_Tg) rfl ⟨rfl, below_setRow HB0.out (Nat.le_refl _) _⟩
  | true =>
    go_enter Try.func26, Try.ntmps26
    go_upto_region 1 with fail
    rw [show (#[Value.int IntKind.i64 0, Value.int IntKind.u64 0, Value.int IntKind.i64 0] : Array Value) = tg0 from rfl]
    generalize w.alloc (Obj.cells tg0 TgT) = w1 at *
    go_wp2_with fail
    refine (right_c h w1).mono ?_
    rintro e w2 ⟨rfl, rfl⟩
    rw [hh]
    go_upto_region 4 with fail
    rw [show (#[Value.int IntKind.u64 33554432, Value.int IntKind.u64 201326592, Value.int IntKind.u64 268435456] : Array Value) = bs3 from rfl]
    have HBS := Lib.hid (CsAt.new w2 BsT bs3)
    have HR1 := Lib.hid (HR0.out.alloc (Obj.cells bs3 BsT))
    have HB1 := Lib.hid (HB0.out.alloc HB0.out.size (Obj.cells bs3 BsT))
    clear HR0 HB0
    generalize w2.alloc (Obj.cells bs3 BsT) = w3 at *
    have hlt := HR1.out.lt
    go_wp2_with (refine wpList_load_row rfl BsT _ rfl w2.heap.size rfl BsT _ (0, 0) _ HBS.out Try.underlying125 rfl (by kernel_rfl) ?_)
    go_loopw [17] (fun i wr => ∃ k : Nat, k ≤ 3 ∧ i = .int .i64 k ∧ (∀ j, j < k → Bs.fitD h a size j = false) ∧ CsAt wr w.heap.size TgT tg0 ∧ Below w.heap.size w wr) (fun i _ => 3 - (intOf i).toNat)
    case atStart => exact ⟨0, by omega, rfl, fun j hj => by omega, HR1.out, HB1.out⟩
    case round =>
      obtain ⟨k, hk, rfl, hno, hr, hb⟩ := hrel
      have HNO := Lib.hid hno
      have HR := Lib.hid hr
      have HB := Lib.hid hb
      have hlr := hr.lt
      clear hno hr hb HR1 HB1 HBS
      have hk6 : k = 0 ∨ k = 1 ∨ k = 2 ∨ k = 3 := by omega
      rcases hk6 with rfl | rfl | rfl | rfl
      · have ix := ix_0
        go_upto_region 8 with (refine wpList_storeNew (w0 := wr) rfl TgT _ _ rfl tg0 #[.int .i64 0, .int .u64 (IntKind.u64.wrap (a - 33554432)), .int .i64 size] TgT rfl rfl info_Tg rfl rfl ?_)
        rw [show IntKind.u64.wrap (a - 33554432) = Bs.offD a 0 by rw [IntKind.wrap_u64]; rfl]
        have HT := Lib.hid (CsAt.new wr TgT #[.int .i64 0, .int .u64 (Bs.offD a 0), .int .i64 size])
        have HR2 := Lib.hid (HR.out.alloc (Obj.cells #[.int .i64 0, .int .u64 (Bs.offD a 0), .int .i64 size] TgT))
        have HB2 := Lib.hid (HB.out.alloc HB.out.size (Obj.cells #[.int .i64 0, .int .u64 (Bs.offD a 0), .int .i64 size] TgT))
        clear HR HB
        generalize wr.alloc (Obj.cells #[.int .i64 0, .int .u64 (Bs.offD a 0), .int .i64 size] TgT) = w4 at *
        generalize wr.heap.size = tb at *
        have HF := Lib.hid (tfits_c h 0 (by omega) (Bs.offD a 0) size (Bs.offD_rng a 0).1 (Bs.offD_rng a 0).2 w4)
        obtain ⟨f, hf⟩ : ∃ f, Bs.fitT h 0 (Bs.offD a 0) size = f := ⟨_, rfl⟩
        rw [hf] at HF
        have HD := Lib.hid (show Bs.fitD h a size 0 = f from hf)
        have HOF := Lib.hid (show Bs.tg 0 a size = #[.int .i64 0, .int .u64 (Bs.offD a 0), .int .i64 size] by unfold Bs.tg; rw [if_pos (by omega)]; rfl)
        clear hf ix
        generalize Bs.offD a 0 = of at *
        go_wp2_with (refine wpList_load_row rfl TgT _ rfl tb rfl TgT _ (0, 0) _ HT.out Try.underlying78 rfl info_Tg ?_)
        refine HF.out.mono ?_
        rintro e w5 ⟨rfl, hb5⟩
        have HB5 := Lib.hid (HB2.out.trans (hb5.mono HB2.out.size))
        have HR5 := Lib.hid (HR2.out.low hb5)
        have HT5 := Lib.hid (HT.out.low hb5)
        clear hb5 HB2 HR2 HT HF
        cases f with
        | false =>
          have HM := Lib.hid (Bs.more HNO.out HD.out)
          go_wp2_with fail
          go_roundw
          case rel => exact ⟨1, by omega, rfl, HM.out, HR5.out, HB5.out⟩
          case measure => simp [intOf]
        | true =>
          have HE := Lib.hid (Bs.dev_hit hh (by omega) HNO.out HD.out)
          go_wp2_with (first | (refine wpList_load_row rfl TgT _ rfl tb rfl TgT _ (0, 0) _ HT5.out Try.underlying78 rfl info_Tg ?_) | (refine wpList_store_row rfl TgT _ _ rfl w.heap.size #[.int .i64 0, .int .u64 of, .int .i64 size] rfl rfl TgT tg0 HR5.out info_Tg rfl (by kernel_rfl) ?_))
          exact bodyPost_ret (results_cell_row Try.results26 _ _ _ _ _ _ _ rfl (HR5.out.row #[.int .i64 0, .int .u64 of, .int .i64 size]) Try.underlying78 rfl info_Tg) rfl ⟨by rw [HE.out, HOF.out], below_setRow HB5.out (Nat.le_refl _) _⟩
      · have ix := ix_1
        go_upto_region 8 with (refine wpList_storeNew (w0 := wr) rfl TgT _ _ rfl tg0 #[.int .i64 1, .int .u64 (IntKind.u64.wrap (a - 201326592)), .int .i64 size] TgT rfl rfl info_Tg rfl rfl ?_)
        rw [show IntKind.u64.wrap (a - 201326592) = Bs.offD a 1 by rw [IntKind.wrap_u64]; rfl]
        have HT := Lib.hid (CsAt.new wr TgT #[.int .i64 1, .int .u64 (Bs.offD a 1), .int .i64 size])
        have HR2 := Lib.hid (HR.out.alloc (Obj.cells #[.int .i64 1, .int .u64 (Bs.offD a 1), .int .i64 size] TgT))
        have HB2 := Lib.hid (HB.out.alloc HB.out.size (Obj.cells #[.int .i64 1, .int .u64 (Bs.offD a 1), .int .i64 size] TgT))
        clear HR HB
        generalize wr.alloc (Obj.cells #[.int .i64 1, .int .u64 (Bs.offD a 1), .int .i64 size] TgT) = w4 at *
        generalize wr.heap.size = tb at *
        have HF := Lib.hid (tfits_c h 1 (by omega) (Bs.offD a 1) size (Bs.offD_rng a 1).1 (Bs.offD_rng a 1).2 w4)
        obtain ⟨f, hf⟩ : ∃ f, Bs.fitT h 1 (Bs.offD a 1) size = f := ⟨_, rfl⟩
        rw [hf] at HF
        have HD := Lib.hid (show Bs.fitD h a size 1 = f from hf)
        have HOF := Lib.hid (show Bs.tg 1 a size = #[.int .i64 1, .int .u64 (Bs.offD a 1), .int .i64 size] by unfold Bs.tg; rw [if_pos (by omega)]; rfl)
        clear hf ix
        generalize Bs.offD a 1 = of at *
        go_wp2_with (refine wpList_load_row rfl TgT _ rfl tb rfl TgT _ (0, 0) _ HT.out Try.underlying78 rfl info_Tg ?_)
        refine HF.out.mono ?_
        rintro e w5 ⟨rfl, hb5⟩
        have HB5 := Lib.hid (HB2.out.trans (hb5.mono HB2.out.size))
        have HR5 := Lib.hid (HR2.out.low hb5)
        have HT5 := Lib.hid (HT.out.low hb5)
        clear hb5 HB2 HR2 HT HF
        cases f with
        | false =>
          have HM := Lib.hid (Bs.more HNO.out HD.out)
          go_wp2_with fail
          go_roundw
          case rel => exact ⟨2, by omega, rfl, HM.out, HR5.out, HB5.out⟩
          case measure => simp [intOf]
        | true =>
          have HE := Lib.hid (Bs.dev_hit hh (by omega) HNO.out HD.out)
          go_wp2_with (first | (refine wpList_load_row rfl TgT _ rfl tb rfl TgT _ (0, 0) _ HT5.out Try.underlying78 rfl info_Tg ?_) | (refine wpList_store_row rfl TgT _ _ rfl w.heap.size #[.int .i64 1, .int .u64 of, .int .i64 size] rfl rfl TgT tg0 HR5.out info_Tg rfl (by kernel_rfl) ?_))
          exact bodyPost_ret (results_cell_row Try.results26 _ _ _ _ _ _ _ rfl (HR5.out.row #[.int .i64 1, .int .u64 of, .int .i64 size]) Try.underlying78 rfl info_Tg) rfl ⟨by rw [HE.out, HOF.out], below_setRow HB5.out (Nat.le_refl _) _⟩
      · have ix := ix_2
        go_upto_region 8 with (refine wpList_storeNew (w0 := wr) rfl TgT _ _ rfl tg0 #[.int .i64 2, .int .u64 (IntKind.u64.wrap (a - 268435456)), .int .i64 size] TgT rfl rfl info_Tg rfl rfl ?_)
        rw [show IntKind.u64.wrap (a - 268435456) = Bs.offD a 2 by rw [IntKind.wrap_u64]; rfl]
        have HT := Lib.hid (CsAt.new wr TgT #[.int .i64 2, .int .u64 (Bs.offD a 2), .int .i64 size])
        have HR2 := Lib.hid (HR.out.alloc (Obj.cells #[.int .i64 2, .int .u64 (Bs.offD a 2), .int .i64 size] TgT))
        have HB2 := Lib.hid (HB.out.alloc HB.out.size (Obj.cells #[.int .i64 2, .int .u64 (Bs.offD a 2), .int .i64 size] TgT))
        clear HR HB
        generalize wr.alloc (Obj.cells #[.int .i64 2, .int .u64 (Bs.offD a 2), .int .i64 size] TgT) = w4 at *
        generalize wr.heap.size = tb at *
        have HF := Lib.hid (tfits_c h 2 (by omega) (Bs.offD a 2) size (Bs.offD_rng a 2).1 (Bs.offD_rng a 2).2 w4)
        obtain ⟨f, hf⟩ : ∃ f, Bs.fitT h 2 (Bs.offD a 2) size = f := ⟨_, rfl⟩
        rw [hf] at HF
        have HD := Lib.hid (show Bs.fitD h a size 2 = f from hf)
        have HOF := Lib.hid (show Bs.tg 2 a size = #[.int .i64 2, .int .u64 (Bs.offD a 2), .int .i64 size] by unfold Bs.tg; rw [if_pos (by omega)]; rfl)
        clear hf ix
        generalize Bs.offD a 2 = of at *
        go_wp2_with (refine wpList_load_row rfl TgT _ rfl tb rfl TgT _ (0, 0) _ HT.out Try.underlying78 rfl info_Tg ?_)
        refine HF.out.mono ?_
        rintro e w5 ⟨rfl, hb5⟩
        have HB5 := Lib.hid (HB2.out.trans (hb5.mono HB2.out.size))
        have HR5 := Lib.hid (HR2.out.low hb5)
        have HT5 := Lib.hid (HT.out.low hb5)
        clear hb5 HB2 HR2 HT HF
        cases f with
        | false =>
          have HM := Lib.hid (Bs.more HNO.out HD.out)
          go_wp2_with fail
          go_roundw
          case rel => exact ⟨3, by omega, rfl, HM.out, HR5.out, HB5.out⟩
          case measure => simp [intOf]
        | true =>
          have HE := Lib.hid (Bs.dev_hit hh (by omega) HNO.out HD.out)
          go_wp2_with (first | (refine wpList_load_row rfl TgT _ rfl tb rfl TgT _ (0, 0) _ HT5.out Try.underlying78 rfl info_Tg ?_) | (refine wpList_store_row rfl TgT _ _ rfl w.heap.size #[.int .i64 2, .int .u64 of, .int .i64 size] rfl rfl TgT tg0 HR5.out info_Tg rfl (by kernel_rfl) ?_))
          exact bodyPost_ret (results_cell_row Try.results26 _ _ _ _ _ _ _ rfl (HR5.out.row #[.int .i64 2, .int .u64 of, .int .i64 size]) Try.underlying78 rfl info_Tg) rfl ⟨by rw [HE.out, HOF.out], below_setRow HB5.out (Nat.le_refl _) _⟩
      · have HE := Lib.hid (Bs.dev_miss HNO.out)
        go_wp2_with (refine wpList_store_row rfl TgT _ _ rfl w.heap.size tg0 rfl rfl TgT tg0 HR.out (by kernel_rfl) rfl (by kernel_rfl) ?_)
        exact bodyPost_ret (results_cell_row Try.results26 _ _ _ _ _ _ _ rfl (HR.out.row tg0) Try.underlying78 rfl info_Tg) rfl ⟨by rw [HE.out]; rfl, below_setRow HB.out (Nat.le_refl _) _⟩
end Go.Proofs.Ytkknfhbaldeigaa
