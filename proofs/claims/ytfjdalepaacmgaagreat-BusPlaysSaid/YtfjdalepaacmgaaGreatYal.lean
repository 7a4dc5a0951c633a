/-
  Where an address of a bus leads: contracts of right, target.fits, find, Fits. What came in, opened: configurations, asks. A bus in memory with its port; contracts of Fits, has, May, Time, New.
-/
import Derived.Test.YtfjdalepaacmgaaGreatYag
import Derived.Test.YtfjdalepaacmgaaGreatYah
import Derived.Test.YtfjdalepaacmgaaGreatYak
import Derived.Test.YtfjdalepaacmgaaGreatYab
import Derived.Deep.Slices
import Derived.OpenShut
set_option maxRecDepth 20000
namespace Go.Proofs.YtfjdalepaacmgaaGreat
open Go.ChangeShapes Go.WideShapes Go.ChangeAt Go.RowKit

abbrev TgT : TypeId := 87
abbrev BsT : TypeId := 127
namespace Bs
def base (d : Nat) : Int := if d = 0 then 33554432 else if d = 1 then 201326592 else 268435456
def offD (a : Int) (d : Nat) : Int := (a - base d) % 18446744073709551616
def fitT (h : Int) (d : Nat) (off size : Int) : Bool := if d = 0 then Ct.is (Ct.cnt h) off size else if d = 1 then Pc.is h off size else decide (off < 8 ∧ size = 1)
def fitD (h : Int) (a size : Int) (d : Nat) : Bool := fitT h d (offD a d) size
def okH (h : Int) : Bool := decide (1 ≤ h ∧ h ≤ 8)
/-- The device that an address leads to; 3: none. -/
def dev (h a size : Int) : Nat := if okH h = true then (if fitD h a size 0 = true then 0 else if fitD h a size 1 = true then 1 else if fitD h a size 2 = true then 2 else 3) else 3
def tg (d : Nat) (a size : Int) : Array Value := if d < 3 then #[.int .i64 d, .int .u64 (offD a d), .int .i64 size] else #[.int .i64 0, .int .u64 0, .int .i64 0]
theorem offD_rng (a : Int) (d : Nat) : 0 ≤ offD a d ∧ offD a d ≤ 18446744073709551615 := by unfold offD; omega
theorem dev_no {h a size : Int} (hh : okH h = false) : dev h a size = 3 := by unfold dev; rw [hh]; rfl
theorem dev_hit {h a size : Int} (hh : okH h = true) {k : Nat} (hk : k < 3) (hno : ∀ j, j < k → fitD h a size j = false) (hy : fitD h a size k = true) : dev h a size = k := by
  unfold dev
  rw [if_pos hh]
  obtain rfl | rfl | rfl : k = 0 ∨ k = 1 ∨ k = 2 := by omega
  · rw [if_pos hy]
  · rw [hno 0 (by omega), if_neg (by simp), if_pos hy]
  · rw [hno 0 (by omega), if_neg (by simp), hno 1 (by omega), if_neg (by simp), if_pos hy]
theorem dev_miss {h a size : Int} (hno : ∀ j, j < 3 → fitD h a size j = false) : dev h a size = 3 := by
  unfold dev
  rw [hno 0 (by omega), hno 1 (by omega), hno 2 (by omega)]
  split <;> rfl
theorem more {h a size : Int} {k : Nat} (hno : ∀ j, j < k → fitD h a size j = false) (hk : fitD h a size k = false) : ∀ j, j < k + 1 → fitD h a size j = false := fun j hj => by
  by_cases e : j = k
  · subst e; exact hk
  · exact hno j (by omega)
theorem fit_size {h : Int} {d : Nat} {off size : Int} (hf : fitT h d off size = true) : size ≠ 0 := by
  unfold fitT at hf
  rintro rfl
  split at hf
  · unfold Ct.is at hf; rw [decide_eq_true_eq] at hf; exact hf (by rw [Ct.at_size (n := Ct.cnt h) (off := off) (size := 0) (by omega) (by omega)])
  · split at hf
    · unfold Pc.is at hf; rw [decide_eq_true_eq] at hf; exact hf (by rw [Pc.at_bad (by omega)])
    · simp at hf
theorem dev_size {h a size : Int} (hd : dev h a size < 3) : size ≠ 0 := by
  unfold dev at hd
  split at hd
  · split at hd
    · exact fit_size (by assumption : fitT h 0 _ size = true)
    · split at hd
      · exact fit_size (by assumption : fitT h 1 _ size = true)
      · split at hd
        · exact fit_size (by assumption : fitT h 2 _ size = true)
        · omega
  · omega
theorem dev_le (h a size : Int) : dev h a size ≤ 3 := by
  unfold dev
  repeat' split
  all_goals omega
end Bs
theorem right_c (h : Int) (w : World) : Calls Tryz.prog 13 #[.int .i64 h] w fun e w' => e = .returned (.bool (Bs.okH h)) ∧ w' = w := by
  by_cases h1 : 1 ≤ h
  · have g0 : decide (h ≥ 1) = true := by simpa using h1
    have HE := Lib.hid (show Bs.okH h = decide (h ≤ 8) by unfold Bs.okH; rw [decide_eq_decide]; omega)
    rw [HE.out]
    go_enter Tryz.func13, Tryz.ntmps13
    go_wp2_with fail
    go_ret
    exact ⟨rfl, rfl⟩
  · have g0 : decide (h ≥ 1) = false := by simpa using h1
    have HE := Lib.hid (show Bs.okH h = false by unfold Bs.okH; simp [h1])
    rw [HE.out]
    go_enter Tryz.func13, Tryz.ntmps13
    go_wp2_with fail
    go_ret
    exact ⟨rfl, rfl⟩
theorem tfits_c (h : Int) (d : Nat) (hd : d < 3) (off size : Int) (o0 : 0 ≤ off) (o1 : off ≤ 18446744073709551615) (w : World) :
    Calls Tryz.prog 56 #[.agg #[.int .i64 d, .int .u64 off, .int .i64 size], .int .i64 h] w fun e w' => e = .returned (.bool (Bs.fitT h d off size)) ∧ Below w.heap.size w w' := by
  have HB := Lib.hid ((Below.refl w.heap.size w).alloc (Nat.le_refl _) (Obj.cells #[.int .i64 d, .int .u64 off, .int .i64 size] TgT))
  have hR := CsAt.new w TgT #[.int .i64 d, .int .u64 off, .int .i64 size]
  obtain ⟨r0, hr0⟩ : ∃ r, Bs.fitT h d off size = r := ⟨_, rfl⟩
  rw [hr0]
  go_enter Tryz.func56, Tryz.ntmps56
  go_upto_region 1 with fail
  generalize w.alloc (.cells #[.int .i64 d, .int .u64 off, .int .i64 size] TgT) = w1 at *
  have q0 := hR.cell 0
  have q1 := hR.cell 1
  have q2 := hR.cell 2
  simp only [List.getElem?_toArray, List.getElem?_cons_zero, List.getElem?_cons_succ] at q0 q1 q2
  clear hR
  obtain rfl | rfl | rfl : d = 0 ∨ d = 1 ∨ d = 2 := by omega
  · have HF := Lib.hid (fits_c h off o0 o1 size w1)
    rw [show Bs.fitT h 0 off size = Ct.is (Ct.cnt h) off size from rfl] at hr0
    rw [hr0] at HF
    clear hr0
    go_wp2_with fail
    refine HF.out.mono ?_
    rintro e w2 ⟨rfl, hb2⟩
    have HB2 := Lib.hid (HB.out.trans (hb2.mono HB.out.size))
    clear hb2 HF HB
    go_wp2_with fail
    go_ret
    exact ⟨rfl, HB2.out⟩
  · have HF := Lib.hid (pfits_c h off size o0 o1 w1)
    rw [show Bs.fitT h 1 off size = Pc.is h off size from rfl] at hr0
    rw [hr0] at HF
    clear hr0
    go_wp2_with fail
    refine HF.out.mono ?_
    rintro e w2 ⟨rfl, hb2⟩
    have HB2 := Lib.hid (HB.out.trans (hb2.mono HB.out.size))
    clear hb2 HF HB
    go_wp2_with fail
    go_ret
    exact ⟨rfl, HB2.out⟩
  · have HF := Lib.hid (ufits_c off size o0 o1 w1)
    rw [show Bs.fitT h 2 off size = decide (off < 8 ∧ size = 1) from rfl] at hr0
    rw [hr0] at HF
    clear hr0
    go_wp2_with fail
    refine HF.out.mono ?_
    rintro e w2 ⟨rfl, rfl⟩
    have HB2 := HB
    clear HF HB
    go_wp2_with fail
    go_ret
    exact ⟨rfl, HB2.out⟩
theorem info_Tg : (Tryz.prog.info? TgT).map (·.size) = some 3 := by kernel_rfl
def tg0 : Array Value := #[.int .i64 0, .int .u64 0, .int .i64 0]
def bs3 : Array Value := #[.int .u64 33554432, .int .u64 201326592, .int .u64 268435456]
theorem ix_0 (W : World) : (Instr.index BsT (.agg bs3) (.int .i64 0)).run Tryz.prog W = .ok (.int .u64 33554432) W := by kernel_rfl
theorem ix_1 (W : World) : (Instr.index BsT (.agg bs3) (.int .i64 1)).run Tryz.prog W = .ok (.int .u64 201326592) W := by kernel_rfl
theorem ix_2 (W : World) : (Instr.index BsT (.agg bs3) (.int .i64 2)).run Tryz.prog W = .ok (.int .u64 268435456) W := by kernel_rfl
set_option maxHeartbeats 8000000 in
theorem find_c (h a size : Int) (w : World) :
    Calls Tryz.prog 24 #[.int .i64 h, .int .u64 a, .int .i64 size] w fun e w' => e = .returned (.agg (Bs.tg (Bs.dev h a size) a size)) ∧ Below w.heap.size w w' := by
  have HB0 := Lib.hid ((Below.refl w.heap.size w).alloc (Nat.le_refl _) (Obj.cells tg0 TgT))
  have HR0 := Lib.hid (CsAt.new w TgT tg0)
  cases hh : Bs.okH h with
  | false =>
    have HE := Lib.hid (Bs.dev_no (a := a) (size := size) hh)
    rw [HE.out, show Bs.tg 3 a size = tg0 from rfl]
    go_enter Tryz.func24, Tryz.ntmps24
    go_upto_region 1 with fail
    rw [show (#[Value.int IntKind.i64 0, Value.int IntKind.u64 0, Value.int IntKind.i64 0] : Array Value) = tg0 from rfl]
    generalize w.alloc (Obj.cells tg0 TgT) = w1 at *
    go_wp2_with fail
    refine (right_c h w1).mono ?_
    rintro e w2 ⟨rfl, rfl⟩
    rw [hh]
    go_wp2_with (refine wpList_store_row rfl TgT _ _ rfl w.heap.size tg0 rfl rfl TgT tg0 HR0.out (by kernel_rfl) rfl (by kernel_rfl) ?_)
    exact bodyPost_ret (results_cell_row Tryz.results24 _ _ _ _ _ _ _ rfl (HR0.out.row tg0) Tryz.underlying87 rfl info_Tg) rfl ⟨rfl, below_setRow HB0.out (Nat.le_refl _) _⟩
  | true =>
    go_enter Tryz.func24, Tryz.ntmps24
    go_upto_region 1 with fail
    rw [show (#[Value.int IntKind.i64 0, Value.int IntKind.u64 0, Value.int IntKind.i64 0] : Array Value) = tg0 from rfl]
    generalize w.alloc (Obj.cells tg0 TgT) = w1 at *
    go_wp2_with fail
    refine (right_c h w1).mono ?_
    rintro e w2 ⟨rfl, rfl⟩
    rw [hh]
    go_upto_region 4 with fail
    rw [show (#[Value.int IntKind.u64 33554432, Value.int IntKind.u64 201326592, Value.int IntKind.u64 268435456] : Array Value) = bs3 from rfl]
    have HBS := Lib.hid (CsAt.new w2 BsT bs3)
    have HR1 := Lib.hid (HR0.out.alloc (Obj.cells bs3 BsT))
    have HB1 := Lib.hid (HB0.out.alloc HB0.out.size (Obj.cells bs3 BsT))
    clear HR0 HB0
    generalize w2.alloc (Obj.cells bs3 BsT) = w3 at *
    have hlt := HR1.out.lt
    go_wp2_with (refine wpList_load_row rfl BsT _ rfl w2.heap.size rfl BsT _ (0, 0) _ HBS.out Tryz.underlying127 rfl (by kernel_rfl) ?_)
    go_loopw [17] (fun i wr => ∃ k : Nat, k ≤ 3 ∧ i = .int .i64 k ∧ (∀ j, j < k → Bs.fitD h a size j = false) ∧ CsAt wr w.heap.size TgT tg0 ∧ Below w.heap.size w wr) (fun i _ => 3 - (intOf i).toNat)
    case atStart => exact ⟨0, by omega, rfl, fun j hj => by omega, HR1.out, HB1.out⟩
    case round =>
      obtain ⟨k, hk, rfl, hno, hr, hb⟩ := hrel
      have HNO := Lib.hid hno
      have HR := Lib.hid hr
      have HB := Lib.hid hb
      have hlr := hr.lt
      clear hno hr hb HR1 HB1 HBS
      have hk6 : k = 0 ∨ k = 1 ∨ k = 2 ∨ k = 3 := by omega
      rcases hk6 with rfl | rfl | rfl | rfl
      · have ix := ix_0
        go_upto_region 8 with (refine wpList_storeNew (w0 := wr) rfl TgT _ _ rfl tg0 #[.int .i64 0, .int .u64 (IntKind.u64.wrap (a - 33554432)), .int .i64 size] TgT rfl rfl info_Tg rfl rfl ?_)
        rw [show IntKind.u64.wrap (a - 33554432) = Bs.offD a 0 by rw [IntKind.wrap_u64]; rfl]
        have HT := Lib.hid (CsAt.new wr TgT #[.int .i64 0, .int .u64 (Bs.offD a 0), .int .i64 size])
        have HR2 := Lib.hid (HR.out.alloc (Obj.cells #[.int .i64 0, .int .u64 (Bs.offD a 0), .int .i64 size] TgT))
        have HB2 := Lib.hid (HB.out.alloc HB.out.size (Obj.cells #[.int .i64 0, .int .u64 (Bs.offD a 0), .int .i64 size] TgT))
        clear HR HB
        generalize wr.alloc (Obj.cells #[.int .i64 0, .int .u64 (Bs.offD a 0), .int .i64 size] TgT) = w4 at *
        generalize wr.heap.size = tb at *
        have HF := Lib.hid (tfits_c h 0 (by omega) (Bs.offD a 0) size (Bs.offD_rng a 0).1 (Bs.offD_rng a 0).2 w4)
        obtain ⟨f, hf⟩ : ∃ f, Bs.fitT h 0 (Bs.offD a 0) size = f := ⟨_, rfl⟩
        rw [hf] at HF
        have HD := Lib.hid (show Bs.fitD h a size 0 = f from hf)
        have HOF := Lib.hid (show Bs.tg 0 a size = #[.int .i64 0, .int .u64 (Bs.offD a 0), .int .i64 size] by unfold Bs.tg; rw [if_pos (by omega)]; rfl)
        clear hf ix
        generalize Bs.offD a 0 = of at *
        go_wp2_with (refine wpList_load_row rfl TgT _ rfl tb rfl TgT _ (0, 0) _ HT.out Tryz.underlying87 rfl info_Tg ?_)
        refine HF.out.mono ?_
        rintro e w5 ⟨rfl, hb5⟩
        have HB5 := Lib.hid (HB2.out.trans (hb5.mono HB2.out.size))
        have HR5 := Lib.hid (HR2.out.low hb5)
        have HT5 := Lib.hid (HT.out.low hb5)
        clear hb5 HB2 HR2 HT HF
        cases f with
        | false =>
          have HM := Lib.hid (Bs.more HNO.out HD.out)
          go_wp2_with fail
          go_roundw
          case rel => exact ⟨1, by omega, rfl, HM.out, HR5.out, HB5.out⟩
          case measure => simp [intOf]
        | true =>
          have HE := Lib.hid (Bs.dev_hit hh (by omega) HNO.out HD.out)
          go_wp2_with (first | (refine wpList_load_row rfl TgT _ rfl tb rfl TgT _ (0, 0) _ HT5.out Tryz.underlying87 rfl info_Tg ?_) | (refine wpList_store_row rfl TgT _ _ rfl w.heap.size #[.int .i64 0, .int .u64 of, .int .i64 size] rfl rfl TgT tg0 HR5.out info_Tg rfl (by kernel_rfl) ?_))
          exact bodyPost_ret (results_cell_row Tryz.results24 _ _ _ _ _ _ _ rfl (HR5.out.row #[.int .i64 0, .int .u64 of, .int .i64 size]) Tryz.underlying87 rfl info_Tg) rfl ⟨by rw [HE.out, HOF.out], below_setRow HB5.out (Nat.le_refl _) _⟩
      · have ix := ix_1
        go_upto_region 8 with (refine wpList_storeNew (w0 := wr) rfl TgT _ _ rfl tg0 #[.int .i64 1, .int .u64 (IntKind.u64.wrap (a - 201326592)), .int .i64 size] TgT rfl rfl info_Tg rfl rfl ?_)
        rw [show IntKind.u64.wrap (a - 201326592) = Bs.offD a 1 by rw [IntKind.wrap_u64]; rfl]
        have HT := Lib.hid (CsAt.new wr TgT #[.int .i64 1, .int .u64 (Bs.offD a 1), .int .i64 size])
        have HR2 := Lib.hid (HR.out.alloc (Obj.cells #[.int .i64 1, .int .u64 (Bs.offD a 1), .int .i64 size] TgT))
        have HB2 := Lib.hid (HB.out.alloc HB.out.size (Obj.cells #[.int .i64 1, .int .u64 (Bs.offD a 1), .int .i64 size] TgT))
        clear HR HB
        generalize wr.alloc (Obj.cells #[.int .i64 1, .int .u64 (Bs.offD a 1), .int .i64 size] TgT) = w4 at *
        generalize wr.heap.size = tb at *
        have HF := Lib.hid (tfits_c h 1 (by omega) (Bs.offD a 1) size (Bs.offD_rng a 1).1 (Bs.offD_rng a 1).2 w4)
        obtain ⟨f, hf⟩ : ∃ f, Bs.fitT h 1 (Bs.offD a 1) size = f := ⟨_, rfl⟩
        rw [hf] at HF
        have HD := Lib.hid (show Bs.fitD h a size 1 = f from hf)
        have HOF := Lib.hid (show Bs.tg 1 a size = #[.int .i64 1, .int .u64 (Bs.offD a 1), .int .i64 size] by unfold Bs.tg; rw [if_pos (by omega)]; rfl)
        clear hf ix
        generalize Bs.offD a 1 = of at *
        go_wp2_with (refine wpList_load_row rfl TgT _ rfl tb rfl TgT _ (0, 0) _ HT.out Tryz.underlying87 rfl info_Tg ?_)
        refine HF.out.mono ?_
        rintro e w5 ⟨rfl, hb5⟩
        have HB5 := Lib.hid (HB2.out.trans (hb5.mono HB2.out.size))
        have HR5 := Lib.hid (HR2.out.low hb5)
        have HT5 := Lib.hid (HT.out.low hb5)
        clear hb5 HB2 HR2 HT HF
        cases f with
        | false =>
          have HM := Lib.hid (Bs.more HNO.out HD.out)
          go_wp2_with fail
          go_roundw
          case rel => exact ⟨2, by omega, rfl, HM.out, HR5.out, HB5.out⟩
          case measure => simp [intOf]
        | true =>
          have HE := Lib.hid (Bs.dev_hit hh (by omega) HNO.out HD.out)
          go_wp2_with (first | (refine wpList_load_row rfl TgT _ rfl tb rfl TgT _ (0, 0) _ HT5.out Tryz.underlying87 rfl info_Tg ?_) | (refine wpList_store_row rfl TgT _ _ rfl w.heap.size #[.int .i64 1, .int .u64 of, .int .i64 size] rfl rfl TgT tg0 HR5.out info_Tg rfl (by kernel_rfl) ?_))
          exact bodyPost_ret (results_cell_row Tryz.results24 _ _ _ _ _ _ _ rfl (HR5.out.row #[.int .i64 1, .int .u64 of, .int .i64 size]) Tryz.underlying87 rfl info_Tg) rfl ⟨by rw [HE.out, HOF.out], below_setRow HB5.out (Nat.le_refl _) _⟩
      · have ix := ix_2
        go_upto_region 8 with (refine wpList_storeNew (w0 := wr) rfl TgT _ _ rfl tg0 #[.int .i64 2, .int .u64 (IntKind.u64.wrap (a - 268435456)), .int .i64 size] TgT rfl rfl info_Tg rfl rfl ?_)
        rw [show IntKind.u64.wrap (a - 268435456) = Bs.offD a 2 by rw [IntKind.wrap_u64]; rfl]
        have HT := Lib.hid (CsAt.new wr TgT #[.int .i64 2, .int .u64 (Bs.offD a 2), .int .i64 size])
        have HR2 := Lib.hid (HR.out.alloc (Obj.cells #[.int .i64 2, .int .u64 (Bs.offD a 2), .int .i64 size] TgT))
        have HB2 := Lib.hid (HB.out.alloc HB.out.size (Obj.cells #[.int .i64 2, .int .u64 (Bs.offD a 2), .int .i64 size] TgT))
        clear HR HB
        generalize wr.alloc (Obj.cells #[.int .i64 2, .int .u64 (Bs.offD a 2), .int .i64 size] TgT) = w4 at *
        generalize wr.heap.size = tb at *
        have HF := Lib.hid (tfits_c h 2 (by omega) (Bs.offD a 2) size (Bs.offD_rng a 2).1 (Bs.offD_rng a 2).2 w4)
        obtain ⟨f, hf⟩ : ∃ f, Bs.fitT h 2 (Bs.offD a 2) size = f := ⟨_, rfl⟩
        rw [hf] at HF
        have HD := Lib.hid (show Bs.fitD h a size 2 = f from hf)
        have HOF := Lib.hid (show Bs.tg 2 a size = #[.int .i64 2, .int .u64 (Bs.offD a 2), .int .i64 size] by unfold Bs.tg; rw [if_pos (by omega)]; rfl)
        clear hf ix
        generalize Bs.offD a 2 = of at *
        go_wp2_with (refine wpList_load_row rfl TgT _ rfl tb rfl TgT _ (0, 0) _ HT.out Tryz.underlying87 rfl info_Tg ?_)
        refine HF.out.mono ?_
        rintro e w5 ⟨rfl, hb5⟩
        have HB5 := Lib.hid (HB2.out.trans (hb5.mono HB2.out.size))
        have HR5 := Lib.hid (HR2.out.low hb5)
        have HT5 := Lib.hid (HT.out.low hb5)
        clear hb5 HB2 HR2 HT HF
        cases f with
        | false =>
          have HM := Lib.hid (Bs.more HNO.out HD.out)
          go_wp2_with fail
          go_roundw
          case rel => exact ⟨3, by omega, rfl, HM.out, HR5.out, HB5.out⟩
          case measure => simp [intOf]
        | true =>
          have HE := Lib.hid (Bs.dev_hit hh (by omega) HNO.out HD.out)
          go_wp2_with (first | (refine wpList_load_row rfl TgT _ rfl tb rfl TgT _ (0, 0) _ HT5.out Tryz.underlying87 rfl info_Tg ?_) | (refine wpList_store_row rfl TgT _ _ rfl w.heap.size #[.int .i64 2, .int .u64 of, .int .i64 size] rfl rfl TgT tg0 HR5.out info_Tg rfl (by kernel_rfl) ?_))
          exact bodyPost_ret (results_cell_row Tryz.results24 _ _ _ _ _ _ _ rfl (HR5.out.row #[.int .i64 2, .int .u64 of, .int .i64 size]) Tryz.underlying87 rfl info_Tg) rfl ⟨by rw [HE.out, HOF.out], below_setRow HB5.out (Nat.le_refl _) _⟩
      · have HE := Lib.hid (Bs.dev_miss HNO.out)
        go_wp2_with (refine wpList_store_row rfl TgT _ _ rfl w.heap.size tg0 rfl rfl TgT tg0 HR.out (by kernel_rfl) rfl (by kernel_rfl) ?_)
        exact bodyPost_ret (results_cell_row Tryz.results24 _ _ _ _ _ _ _ rfl (HR.out.row tg0) Tryz.underlying87 rfl info_Tg) rfl ⟨by rw [HE.out]; rfl, below_setRow HB.out (Nat.le_refl _) _⟩
end Go.Proofs.YtfjdalepaacmgaaGreat
set_option maxRecDepth 20000
namespace Go.Proofs.YtfjdalepaacmgaaGreat
open Go.ChangeShapes Go.WideShapes Go.ChangeAt Go.RowKit

/-- api.Conf. -/
structure Cf where
  harts : Int
  stripes : Int
  lines : Int
  tlb : Int
abbrev Cf.cells (d : Cf) : Array Value := #[.int .i64 d.harts, .int .i64 d.stripes, .int .i64 d.lines, .int .i64 d.tlb]
def Cf.zero : Cf := ⟨0, 0, 0, 0⟩
structure Cf.In (d : Cf) : Prop where
  harts : -9223372036854775808 ≤ d.harts ∧ d.harts ≤ 9223372036854775807
  stripes : -9223372036854775808 ≤ d.stripes ∧ d.stripes ≤ 9223372036854775807
  lines : -9223372036854775808 ≤ d.lines ∧ d.lines ≤ 9223372036854775807
  tlb : -9223372036854775808 ≤ d.tlb ∧ d.tlb ≤ 9223372036854775807
/-- api.Req. -/
structure Rq where
  set : Bool
  byVa : Bool
  byAsid : Bool
  va : Int
  asid : Int
abbrev Rq.cells (d : Rq) : Array Value := #[.bool d.set, .bool d.byVa, .bool d.byAsid, .int .u64 d.va, .int .i64 d.asid]
def Rq.zero : Rq := ⟨false, false, false, 0, 0⟩
structure Rq.In (d : Rq) : Prop where
  va : 0 ≤ d.va ∧ d.va ≤ 18446744073709551615
  asid : -9223372036854775808 ≤ d.asid ∧ d.asid ≤ 9223372036854775807
/-- api.Entry. -/
structure En where
  asid : Int
  page : Int
  level : Int
  pte : Int
abbrev En.cells (d : En) : Array Value := #[.int .i64 d.asid, .int .u64 d.page, .int .i64 d.level, .int .u64 d.pte]
def En.zero : En := ⟨0, 0, 0, 0⟩
structure En.In (d : En) : Prop where
  asid : -9223372036854775808 ≤ d.asid ∧ d.asid ≤ 9223372036854775807
  page : 0 ≤ d.page ∧ d.page ≤ 18446744073709551615
  level : -9223372036854775808 ≤ d.level ∧ d.level ≤ 9223372036854775807
  pte : 0 ≤ d.pte ∧ d.pte ≤ 18446744073709551615
/-- api.Ask. -/
structure Ak where
  kind : Int
  addr : Int
  next : Int
  cut : Int
  size : Int
  op : Int
  data : Int
  old : Int
  live : Bool
  hart : Int
  req : Rq
  entry : En
abbrev Ak.cells (d : Ak) : Array Value := #[.int .i64 d.kind, .int .u64 d.addr, .int .u64 d.next, .int .i64 d.cut, .int .i64 d.size, .int .i64 d.op, .int .u64 d.data, .int .u64 d.old, .bool d.live, .int .i64 d.hart, .bool d.req.set, .bool d.req.byVa, .bool d.req.byAsid, .int .u64 d.req.va, .int .i64 d.req.asid, .int .i64 d.entry.asid, .int .u64 d.entry.page, .int .i64 d.entry.level, .int .u64 d.entry.pte]
def Ak.zero : Ak := ⟨0, 0, 0, 0, 0, 0, 0, 0, false, 0, ⟨false, false, false, 0, 0⟩, ⟨0, 0, 0, 0⟩⟩
structure Ak.In (d : Ak) : Prop where
  kind : -9223372036854775808 ≤ d.kind ∧ d.kind ≤ 9223372036854775807
  addr : 0 ≤ d.addr ∧ d.addr ≤ 18446744073709551615
  next : 0 ≤ d.next ∧ d.next ≤ 18446744073709551615
  cut : -9223372036854775808 ≤ d.cut ∧ d.cut ≤ 9223372036854775807
  size : -9223372036854775808 ≤ d.size ∧ d.size ≤ 9223372036854775807
  op : -9223372036854775808 ≤ d.op ∧ d.op ≤ 9223372036854775807
  data : 0 ≤ d.data ∧ d.data ≤ 18446744073709551615
  old : 0 ≤ d.old ∧ d.old ≤ 18446744073709551615
  hart : -9223372036854775808 ≤ d.hart ∧ d.hart ≤ 9223372036854775807
  req : d.req.In
  entry : d.entry.In
section
variable {H : Type} {enc : TypeId × Value → H} {w : World} {base : Nat} {spare : Nat → Bool} {held : Bool}
theorem sh_kc_int : Tryz.prog.cellsOf 3 = 1 := by kernel_rfl
theorem sh_kc_bool : Tryz.prog.cellsOf 4 = 1 := by kernel_rfl
theorem sh_kc_uint64 : Tryz.prog.cellsOf 24 = 1 := by kernel_rfl
theorem sh_kc_api_Req : Tryz.prog.cellsOf 27 = 5 := by kernel_rfl
theorem open_Rq_C {cs : List Value} {fuel : Nat} {x : DataW H × List MemPlace} (hlen : cs.length = 5) (hf : DataW.trod enc Tryz.prog w base spare held fuel 27 cs = some x) :
    ∃ d : Rq, cs = d.cells.toList ∧ d.In := by
  obtain ⟨xs, nn, _, hx, _, hxl, hg⟩ := DataW.trod_struct Tryz.underlying27 hf
  have h0 := hg 0 _ rfl
  have h1 := hg 1 _ rfl
  have h2 := hg 2 _ rfl
  have h3 := hg 3 _ rfl
  have h4 := hg 4 _ rfl
  obtain ⟨x0, e0⟩ : ∃ x, xs[0]? = some x := ⟨xs[0]'(by rw [hxl]; decide), List.getElem?_eq_getElem _⟩
  obtain ⟨x1, e1⟩ : ∃ x, xs[1]? = some x := ⟨xs[1]'(by rw [hxl]; decide), List.getElem?_eq_getElem _⟩
  obtain ⟨x2, e2⟩ : ∃ x, xs[2]? = some x := ⟨xs[2]'(by rw [hxl]; decide), List.getElem?_eq_getElem _⟩
  obtain ⟨x3, e3⟩ : ∃ x, xs[3]? = some x := ⟨xs[3]'(by rw [hxl]; decide), List.getElem?_eq_getElem _⟩
  obtain ⟨x4, e4⟩ : ∃ x, xs[4]? = some x := ⟨xs[4]'(by rw [hxl]; decide), List.getElem?_eq_getElem _⟩
  change DataW.trod enc Tryz.prog w base spare held nn 4 (List.take (Tryz.prog.cellsOf 4) (List.drop 0 _)) = _ at h0
  rw [sh_kc_bool, e0] at h0
  change DataW.trod enc Tryz.prog w base spare held nn 4 (List.take (Tryz.prog.cellsOf 4) (List.drop 1 _)) = _ at h1
  rw [sh_kc_bool, e1] at h1
  change DataW.trod enc Tryz.prog w base spare held nn 4 (List.take (Tryz.prog.cellsOf 4) (List.drop 2 _)) = _ at h2
  rw [sh_kc_bool, e2] at h2
  change DataW.trod enc Tryz.prog w base spare held nn 24 (List.take (Tryz.prog.cellsOf 24) (List.drop 3 _)) = _ at h3
  rw [sh_kc_uint64, e3] at h3
  change DataW.trod enc Tryz.prog w base spare held nn 3 (List.take (Tryz.prog.cellsOf 3) (List.drop 4 _)) = _ at h4
  rw [sh_kc_int, e4] at h4
  match cs, hlen with
  | [v0, v1, v2, v3, v4], _ =>
    simp only [List.drop_zero, List.drop_succ_cons, List.take_succ_cons, List.take_zero] at h0 h1 h2 h3 h4
    obtain ⟨a0, p0, -⟩ := DataW.trod_bool Tryz.underlying4 h0
    simp only [List.cons.injEq, and_true] at p0
    subst p0
    obtain ⟨a1, p1, -⟩ := DataW.trod_bool Tryz.underlying4 h1
    simp only [List.cons.injEq, and_true] at p1
    subst p1
    obtain ⟨a2, p2, -⟩ := DataW.trod_bool Tryz.underlying4 h2
    simp only [List.cons.injEq, and_true] at p2
    subst p2
    obtain ⟨a3, p3, -, q3⟩ := DataW.trod_int Tryz.underlying24 h3
    simp only [List.cons.injEq, and_true] at p3
    subst p3
    obtain ⟨a4, p4, -, q4⟩ := DataW.trod_int Tryz.underlying3 h4
    simp only [List.cons.injEq, and_true] at p4
    subst p4
    exact ⟨⟨a0, a1, a2, a3, a4⟩, rfl, bounds_u64 q3, bounds_i64 q4⟩
theorem open_Rq {r : Reach} {b0 : Nat} {v : Value} {d : DataW H} {ps : List MemPlace} (hval : Value.okWide Tryz.prog w r b0 27 v) (hd : DataW.Trod enc Tryz.prog w base spare held 27 v d ps) :
    ∃ q : Rq, v = .agg q.cells ∧ q.In := by
  simp only [Value.okWide, Tryz.underlying27] at hval
  obtain ⟨cs, rfl, hsz, _⟩ := hval
  obtain ⟨fuel, hf⟩ := hd
  rw [sh_kc_api_Req] at hsz
  obtain ⟨q, hq, hin⟩ := open_Rq_C (cs := cs.toList) (by simpa using hsz) hf
  refine ⟨q, ?_, hin⟩
  congr 1
  exact Array.ext' hq
theorem sh_kc_api_Entry : Tryz.prog.cellsOf 29 = 4 := by kernel_rfl
theorem open_En_C {cs : List Value} {fuel : Nat} {x : DataW H × List MemPlace} (hlen : cs.length = 4) (hf : DataW.trod enc Tryz.prog w base spare held fuel 29 cs = some x) :
    ∃ d : En, cs = d.cells.toList ∧ d.In := by
  obtain ⟨xs, nn, _, hx, _, hxl, hg⟩ := DataW.trod_struct Tryz.underlying29 hf
  have h0 := hg 0 _ rfl
  have h1 := hg 1 _ rfl
  have h2 := hg 2 _ rfl
  have h3 := hg 3 _ rfl
  obtain ⟨x0, e0⟩ : ∃ x, xs[0]? = some x := ⟨xs[0]'(by rw [hxl]; decide), List.getElem?_eq_getElem _⟩
  obtain ⟨x1, e1⟩ : ∃ x, xs[1]? = some x := ⟨xs[1]'(by rw [hxl]; decide), List.getElem?_eq_getElem _⟩
  obtain ⟨x2, e2⟩ : ∃ x, xs[2]? = some x := ⟨xs[2]'(by rw [hxl]; decide), List.getElem?_eq_getElem _⟩
  obtain ⟨x3, e3⟩ : ∃ x, xs[3]? = some x := ⟨xs[3]'(by rw [hxl]; decide), List.getElem?_eq_getElem _⟩
  change DataW.trod enc Tryz.prog w base spare held nn 3 (List.take (Tryz.prog.cellsOf 3) (List.drop 0 _)) = _ at h0
  rw [sh_kc_int, e0] at h0
  change DataW.trod enc Tryz.prog w base spare held nn 24 (List.take (Tryz.prog.cellsOf 24) (List.drop 1 _)) = _ at h1
  rw [sh_kc_uint64, e1] at h1
  change DataW.trod enc Tryz.prog w base spare held nn 3 (List.take (Tryz.prog.cellsOf 3) (List.drop 2 _)) = _ at h2
  rw [sh_kc_int, e2] at h2
  change DataW.trod enc Tryz.prog w base spare held nn 24 (List.take (Tryz.prog.cellsOf 24) (List.drop 3 _)) = _ at h3
  rw [sh_kc_uint64, e3] at h3
  match cs, hlen with
  | [v0, v1, v2, v3], _ =>
    simp only [List.drop_zero, List.drop_succ_cons, List.take_succ_cons, List.take_zero] at h0 h1 h2 h3
    obtain ⟨a0, p0, -, q0⟩ := DataW.trod_int Tryz.underlying3 h0
    simp only [List.cons.injEq, and_true] at p0
    subst p0
    obtain ⟨a1, p1, -, q1⟩ := DataW.trod_int Tryz.underlying24 h1
    simp only [List.cons.injEq, and_true] at p1
    subst p1
    obtain ⟨a2, p2, -, q2⟩ := DataW.trod_int Tryz.underlying3 h2
    simp only [List.cons.injEq, and_true] at p2
    subst p2
    obtain ⟨a3, p3, -, q3⟩ := DataW.trod_int Tryz.underlying24 h3
    simp only [List.cons.injEq, and_true] at p3
    subst p3
    exact ⟨⟨a0, a1, a2, a3⟩, rfl, bounds_i64 q0, bounds_u64 q1, bounds_i64 q2, bounds_u64 q3⟩
theorem open_En {r : Reach} {b0 : Nat} {v : Value} {d : DataW H} {ps : List MemPlace} (hval : Value.okWide Tryz.prog w r b0 29 v) (hd : DataW.Trod enc Tryz.prog w base spare held 29 v d ps) :
    ∃ q : En, v = .agg q.cells ∧ q.In := by
  simp only [Value.okWide, Tryz.underlying29] at hval
  obtain ⟨cs, rfl, hsz, _⟩ := hval
  obtain ⟨fuel, hf⟩ := hd
  rw [sh_kc_api_Entry] at hsz
  obtain ⟨q, hq, hin⟩ := open_En_C (cs := cs.toList) (by simpa using hsz) hf
  refine ⟨q, ?_, hin⟩
  congr 1
  exact Array.ext' hq
theorem sh_kc_api_Kind : Tryz.prog.cellsOf 23 = 1 := by kernel_rfl
theorem sh_kc_api_Op : Tryz.prog.cellsOf 25 = 1 := by kernel_rfl
theorem sh_kc_api_Ask : Tryz.prog.cellsOf 31 = 19 := by kernel_rfl
theorem open_Ak_C {cs : List Value} {fuel : Nat} {x : DataW H × List MemPlace} (hlen : cs.length = 19) (hf : DataW.trod enc Tryz.prog w base spare held fuel 31 cs = some x) :
    ∃ d : Ak, cs = d.cells.toList ∧ d.In := by
  obtain ⟨xs, nn, _, hx, _, hxl, hg⟩ := DataW.trod_struct Tryz.underlying31 hf
  have h0 := hg 0 _ rfl
  have h1 := hg 1 _ rfl
  have h2 := hg 2 _ rfl
  have h3 := hg 3 _ rfl
  have h4 := hg 4 _ rfl
  have h5 := hg 5 _ rfl
  have h6 := hg 6 _ rfl
  have h7 := hg 7 _ rfl
  have h8 := hg 8 _ rfl
  have h9 := hg 9 _ rfl
  have h10 := hg 10 _ rfl
  have h11 := hg 11 _ rfl
  obtain ⟨x0, e0⟩ : ∃ x, xs[0]? = some x := ⟨xs[0]'(by rw [hxl]; decide), List.getElem?_eq_getElem _⟩
  obtain ⟨x1, e1⟩ : ∃ x, xs[1]? = some x := ⟨xs[1]'(by rw [hxl]; decide), List.getElem?_eq_getElem _⟩
  obtain ⟨x2, e2⟩ : ∃ x, xs[2]? = some x := ⟨xs[2]'(by rw [hxl]; decide), List.getElem?_eq_getElem _⟩
  obtain ⟨x3, e3⟩ : ∃ x, xs[3]? = some x := ⟨xs[3]'(by rw [hxl]; decide), List.getElem?_eq_getElem _⟩
  obtain ⟨x4, e4⟩ : ∃ x, xs[4]? = some x := ⟨xs[4]'(by rw [hxl]; decide), List.getElem?_eq_getElem _⟩
  obtain ⟨x5, e5⟩ : ∃ x, xs[5]? = some x := ⟨xs[5]'(by rw [hxl]; decide), List.getElem?_eq_getElem _⟩
  obtain ⟨x6, e6⟩ : ∃ x, xs[6]? = some x := ⟨xs[6]'(by rw [hxl]; decide), List.getElem?_eq_getElem _⟩
  obtain ⟨x7, e7⟩ : ∃ x, xs[7]? = some x := ⟨xs[7]'(by rw [hxl]; decide), List.getElem?_eq_getElem _⟩
  obtain ⟨x8, e8⟩ : ∃ x, xs[8]? = some x := ⟨xs[8]'(by rw [hxl]; decide), List.getElem?_eq_getElem _⟩
  obtain ⟨x9, e9⟩ : ∃ x, xs[9]? = some x := ⟨xs[9]'(by rw [hxl]; decide), List.getElem?_eq_getElem _⟩
  obtain ⟨x10, e10⟩ : ∃ x, xs[10]? = some x := ⟨xs[10]'(by rw [hxl]; decide), List.getElem?_eq_getElem _⟩
  obtain ⟨x11, e11⟩ : ∃ x, xs[11]? = some x := ⟨xs[11]'(by rw [hxl]; decide), List.getElem?_eq_getElem _⟩
  change DataW.trod enc Tryz.prog w base spare held nn 23 (List.take (Tryz.prog.cellsOf 23) (List.drop 0 _)) = _ at h0
  rw [sh_kc_api_Kind, e0] at h0
  change DataW.trod enc Tryz.prog w base spare held nn 24 (List.take (Tryz.prog.cellsOf 24) (List.drop 1 _)) = _ at h1
  rw [sh_kc_uint64, e1] at h1
  change DataW.trod enc Tryz.prog w base spare held nn 24 (List.take (Tryz.prog.cellsOf 24) (List.drop 2 _)) = _ at h2
  rw [sh_kc_uint64, e2] at h2
  change DataW.trod enc Tryz.prog w base spare held nn 3 (List.take (Tryz.prog.cellsOf 3) (List.drop 3 _)) = _ at h3
  rw [sh_kc_int, e3] at h3
  change DataW.trod enc Tryz.prog w base spare held nn 3 (List.take (Tryz.prog.cellsOf 3) (List.drop 4 _)) = _ at h4
  rw [sh_kc_int, e4] at h4
  change DataW.trod enc Tryz.prog w base spare held nn 25 (List.take (Tryz.prog.cellsOf 25) (List.drop 5 _)) = _ at h5
  rw [sh_kc_api_Op, e5] at h5
  change DataW.trod enc Tryz.prog w base spare held nn 24 (List.take (Tryz.prog.cellsOf 24) (List.drop 6 _)) = _ at h6
  rw [sh_kc_uint64, e6] at h6
  change DataW.trod enc Tryz.prog w base spare held nn 24 (List.take (Tryz.prog.cellsOf 24) (List.drop 7 _)) = _ at h7
  rw [sh_kc_uint64, e7] at h7
  change DataW.trod enc Tryz.prog w base spare held nn 4 (List.take (Tryz.prog.cellsOf 4) (List.drop 8 _)) = _ at h8
  rw [sh_kc_bool, e8] at h8
  change DataW.trod enc Tryz.prog w base spare held nn 3 (List.take (Tryz.prog.cellsOf 3) (List.drop 9 _)) = _ at h9
  rw [sh_kc_int, e9] at h9
  change DataW.trod enc Tryz.prog w base spare held nn 27 (List.take (Tryz.prog.cellsOf 27) (List.drop 10 _)) = _ at h10
  rw [sh_kc_api_Req, e10] at h10
  change DataW.trod enc Tryz.prog w base spare held nn 29 (List.take (Tryz.prog.cellsOf 29) (List.drop 15 _)) = _ at h11
  rw [sh_kc_api_Entry, e11] at h11
  match cs, hlen with
  | [v0, v1, v2, v3, v4, v5, v6, v7, v8, v9, v10, v11, v12, v13, v14, v15, v16, v17, v18], _ =>
    simp only [List.drop_zero, List.drop_succ_cons, List.take_succ_cons, List.take_zero] at h0 h1 h2 h3 h4 h5 h6 h7 h8 h9 h10 h11
    obtain ⟨a0, p0, -, q0⟩ := DataW.trod_int Tryz.underlying23 h0
    simp only [List.cons.injEq, and_true] at p0
    subst p0
    obtain ⟨a1, p1, -, q1⟩ := DataW.trod_int Tryz.underlying24 h1
    simp only [List.cons.injEq, and_true] at p1
    subst p1
    obtain ⟨a2, p2, -, q2⟩ := DataW.trod_int Tryz.underlying24 h2
    simp only [List.cons.injEq, and_true] at p2
    subst p2
    obtain ⟨a3, p3, -, q3⟩ := DataW.trod_int Tryz.underlying3 h3
    simp only [List.cons.injEq, and_true] at p3
    subst p3
    obtain ⟨a4, p4, -, q4⟩ := DataW.trod_int Tryz.underlying3 h4
    simp only [List.cons.injEq, and_true] at p4
    subst p4
    obtain ⟨a5, p5, -, q5⟩ := DataW.trod_int Tryz.underlying25 h5
    simp only [List.cons.injEq, and_true] at p5
    subst p5
    obtain ⟨a6, p6, -, q6⟩ := DataW.trod_int Tryz.underlying24 h6
    simp only [List.cons.injEq, and_true] at p6
    subst p6
    obtain ⟨a7, p7, -, q7⟩ := DataW.trod_int Tryz.underlying24 h7
    simp only [List.cons.injEq, and_true] at p7
    subst p7
    obtain ⟨a8, p8, -⟩ := DataW.trod_bool Tryz.underlying4 h8
    simp only [List.cons.injEq, and_true] at p8
    subst p8
    obtain ⟨a9, p9, -, q9⟩ := DataW.trod_int Tryz.underlying3 h9
    simp only [List.cons.injEq, and_true] at p9
    subst p9
    obtain ⟨a10, p10, i10⟩ := open_Rq_C rfl h10
    simp at p10
    obtain ⟨rfl, rfl, rfl, rfl, rfl⟩ := p10
    obtain ⟨a11, p11, i11⟩ := open_En_C rfl h11
    simp at p11
    obtain ⟨rfl, rfl, rfl, rfl⟩ := p11
    exact ⟨⟨a0, a1, a2, a3, a4, a5, a6, a7, a8, a9, a10, a11⟩, rfl, bounds_i64 q0, bounds_u64 q1, bounds_u64 q2, bounds_i64 q3, bounds_i64 q4, bounds_i64 q5, bounds_u64 q6, bounds_u64 q7, bounds_i64 q9, i10, i11⟩
theorem open_Ak {r : Reach} {b0 : Nat} {v : Value} {d : DataW H} {ps : List MemPlace} (hval : Value.okWide Tryz.prog w r b0 31 v) (hd : DataW.Trod enc Tryz.prog w base spare held 31 v d ps) :
    ∃ q : Ak, v = .agg q.cells ∧ q.In := by
  simp only [Value.okWide, Tryz.underlying31] at hval
  obtain ⟨cs, rfl, hsz, _⟩ := hval
  obtain ⟨fuel, hf⟩ := hd
  rw [sh_kc_api_Ask] at hsz
  obtain ⟨q, hq, hin⟩ := open_Ak_C (cs := cs.toList) (by simpa using hsz) hf
  refine ⟨q, ?_, hin⟩
  congr 1
  exact Array.ext' hq
end
end Go.Proofs.YtfjdalepaacmgaaGreat
set_option maxRecDepth 20000
namespace Go.Proofs.YtfjdalepaacmgaaGreat
open Go.ChangeShapes Go.WideShapes Go.ChangeAt Go.RowKit

abbrev AKT : TypeId := 31
abbrev ANT : TypeId := 57
theorem info_AK : (Tryz.prog.info? AKT).map (·.size) = some 19 := by kernel_rfl
/-- An ask in its box. -/
structure AkAt (W : World) (b : Nat) (a : Ak) : Prop where
  cs : CsAt W b AKT a.cells
theorem AkAt.low {W W' : World} {b : Nat} {a : Ak} (h : AkAt W b a) (hb : Below W.heap.size W W') : AkAt W' b a := ⟨h.cs.low hb⟩
theorem AkAt.kind {W : World} {b : Nat} {a : Ak} (h : AkAt W b a) : W.cell? ⟨b, 0, none⟩ = some (.int .i64 a.kind) := h.cs.cell 0
theorem AkAt.addr {W : World} {b : Nat} {a : Ak} (h : AkAt W b a) : W.cell? ⟨b, 1, none⟩ = some (.int .u64 a.addr) := h.cs.cell 1
theorem AkAt.size {W : World} {b : Nat} {a : Ak} (h : AkAt W b a) : W.cell? ⟨b, 4, none⟩ = some (.int .i64 a.size) := h.cs.cell 4
theorem AkAt.data {W : World} {b : Nat} {a : Ak} (h : AkAt W b a) : W.cell? ⟨b, 6, none⟩ = some (.int .u64 a.data) := h.cs.cell 6
theorem AkAt.live {W : World} {b : Nat} {a : Ak} (h : AkAt W b a) : W.cell? ⟨b, 8, none⟩ = some (.bool a.live) := h.cs.cell 8
namespace Bs
/-- A bus: harts, the clint's words, the controller's, the port. -/
structure B where
  n : Nat
  c : List Int
  p : List Int
  u : Ut.S
def isK (k : Int) : Bool := k == 9 || k == 10
def otherK (k : Int) : Bool := k == 11 || k == 18 || k == 19 || k == 20
def mayB (n : Nat) (a : Ak) : Bool := if isK a.kind = true then decide (dev n a.addr a.size < 3) else otherK a.kind
def hasB (n : Nat) (h : Int) : Bool := decide (0 ≤ h ∧ h < n)
theorem tg_ne {h a size : Int} : Eqf.eqL (tg (dev h a size) a size).toList tg0.toList = !decide (dev h a size < 3) := by
  by_cases hd : dev h a size < 3
  · have hs := dev_size hd
    have e : (size == 0) = false := by simpa using hs
    unfold tg
    rw [if_pos hd]
    simp [tg0, Eqf.eqL, Eqf.eqv, hs, hd]
  · unfold tg
    rw [if_neg hd]
    simp [tg0, Eqf.eqL, Eqf.eqv, hd]
end Bs
theorem guard_tg : Tryz.prog.eqGuardType Tryz.prog.depth TgT = false := by kernel_rfl
theorem okL_tg {d : Nat} {a size : Int} (hs : -9223372036854775808 ≤ size ∧ size ≤ 9223372036854775807) : Eqf.okL [some .i64, some .u64, some .i64] (Bs.tg d a size).toList = true := by
  have ho := Bs.offD_rng a d
  unfold Bs.tg
  split
  · have hd : (Lit.int .i64 (d : Int)).wf = true := WalkArith.wf_i64 ⟨by omega, by omega⟩
    have h1 : (Lit.int .u64 (Bs.offD a d)).wf = true := WalkArith.wf_u64 ⟨by omega, by omega⟩
    have h2 : (Lit.int .i64 size).wf = true := WalkArith.wf_i64 ⟨by omega, by omega⟩
    simp only [Eqf.okL, Eqf.okV, hd, h1, h2]
    rfl
  · rfl
theorem neq_tg {h a size : Int} (hs : -9223372036854775808 ≤ size ∧ size ≤ 9223372036854775807) (w : World) : (binOp .neq TgT (.agg (Bs.tg (Bs.dev h a size) a size)) (.agg tg0)).run Tryz.prog w = .ok (.bool (decide (Bs.dev h a size < 3))) w := by
  have hf : Value.formed Tryz.prog TgT (.agg (Bs.tg (Bs.dev h a size) a size)) = true := by
    unfold Bs.tg
    split
    · kernel_rfl
    · kernel_rfl
  have := Eqf.bneq w 4 (by omega) TgT [some .i64, some .u64, some .i64] (by kernel_rfl) (by kernel_rfl) (Bs.tg (Bs.dev h a size) a size) tg0 hf (by kernel_rfl) (okL_tg hs) (by rfl)
  rw [Bs.tg_ne, Bool.not_not] at this
  exact this
theorem bfits_c (h a size : Int) (hs : -9223372036854775808 ≤ size ∧ size ≤ 9223372036854775807) (w : World) :
    Calls Tryz.prog 52 #[.int .i64 h, .int .u64 a, .int .i64 size] w fun e w' => e = .returned (.bool (decide (Bs.dev h a size < 3))) ∧ Below w.heap.size w w' := by
  have HF := Lib.hid (find_c h a size w)
  have HN := Lib.hid (fun W => neq_tg (h := h) (a := a) hs W)
  generalize Bs.tg (Bs.dev h a size) a size = tv at *
  generalize decide (Bs.dev h a size < 3) = r at *
  go_enter Tryz.func52, Tryz.ntmps52
  go_wp2_with fail
  refine HF.out.mono ?_
  rintro e w1 ⟨rfl, hb1⟩
  have HB := Lib.hid hb1
  clear hb1 HF
  go_wp2_with (refine wpList_cmpW (by rfl) .neq TgT _ _ _ rfl tv tg0 rfl rfl guard_tg (.bool r) (HN.out _) ?_)
  go_ret
  exact ⟨rfl, HB.out⟩
theorem has_c (n b : Nat) (h : Int) (w : World) (hc : w.cell? ⟨b, 1, none⟩ = some (.int .i64 n)) :
    Calls Tryz.prog 22 #[.pointer (some ⟨b, 0, none⟩), .int .i64 h] w fun e w' => e = .returned (.bool (Bs.hasB n h)) ∧ w' = w := by
  by_cases h0 : 0 ≤ h
  · have g0 : decide (h ≥ 0) = true := by simpa using h0
    have HE := Lib.hid (show Bs.hasB n h = decide (h < n) by unfold Bs.hasB; rw [decide_eq_decide]; omega)
    rw [HE.out]
    go_enter Tryz.func22, Tryz.ntmps22
    go_wp2_with fail
    go_ret
    exact ⟨rfl, rfl⟩
  · have g0 : decide (h ≥ 0) = false := by simpa using h0
    have HE := Lib.hid (show Bs.hasB n h = false by unfold Bs.hasB; simp; omega)
    rw [HE.out]
    go_enter Tryz.func22, Tryz.ntmps22
    go_wp2_with fail
    go_ret
    exact ⟨rfl, rfl⟩
theorem kind_cases (k : Int) : k = 9 ∨ k = 10 ∨ k = 11 ∨ k = 18 ∨ k = 19 ∨ k = 20 ∨ (k ≠ 9 ∧ k ≠ 10 ∧ k ≠ 11 ∧ k ≠ 18 ∧ k ≠ 19 ∧ k ≠ 20) := by omega
set_option maxHeartbeats 8000000 in
theorem may_c (n b : Nat) (a : Ak) (hs : -9223372036854775808 ≤ a.size ∧ a.size ≤ 9223372036854775807) (w : World) (hc : w.cell? ⟨b, 1, none⟩ = some (.int .i64 n)) :
    Calls Tryz.prog 21 #[.pointer (some ⟨b, 0, none⟩), .agg a.cells] w fun e w' => e = .returned (.bool (Bs.mayB n a)) ∧ Below w.heap.size w w' := by
  have hbl := World.block_lt_of_cell? _ _ hc
  have hb0 : Below w.heap.size w (w.alloc (.cells a.cells AKT)) := (Below.refl _ _).alloc (Nat.le_refl _) _
  have hA : AkAt (w.alloc (.cells a.cells AKT)) w.heap.size a := ⟨CsAt.new w AKT a.cells⟩
  have HC := Lib.hid ((hb0.cell (p := ⟨b, 1, none⟩) hbl).trans hc)
  have HB := Lib.hid hb0
  have HA := Lib.hid hA
  clear hb0 hA hc
  obtain ⟨r, hr⟩ : ∃ r, Bs.mayB n a = r := ⟨_, rfl⟩
  rw [hr]
  go_enter Tryz.func21, Tryz.ntmps21
  go_upto_region 1 with fail
  generalize w.alloc (.cells a.cells AKT) = w1 at *
  have q0 := HA.out.kind
  rcases kind_cases a.kind with hk | hk | hk | hk | hk | hk | hk
  · have hr2 : r = decide (Bs.dev n a.addr a.size < 3) := by rw [← hr]; unfold Bs.mayB Bs.isK; rw [hk]; rfl
    rw [hk] at q0
    clear hr hk
    have HF := Lib.hid (fun W => bfits_c n a.addr a.size hs W)
    rw [← hr2] at HF
    have gr : (r == r) = true := by simp
    clear hr2
    have HQ := Lib.hid (fun (W : World) (hb : Below w1.heap.size w1 W) => And.intro (show W.cell? ⟨b, 1, none⟩ = some (.int .i64 n) from (hb.cell (p := ⟨b, 1, none⟩) (World.block_lt_of_cell? _ _ HC.out)).trans HC.out) (HA.out.low hb))
    go_upto_region 6 with fail
    clear q0 HC HA
    refine wp_region_steady (fun W => Below w1.heap.size w1 W) (by kernel_rfl) (by kernel_rfl) (below_dU (Below.refl _ _) 1) ?_
    iterate 3
      refine steady_val ?_ ?_ (by kernel_rfl) (fun W hS => ?_) ?_ ?_
      rotate_left 2
      · go_simp
        exact rfl
      · go_simp
        exact rfl
    refine steady_val ?_ ?_ (by kernel_rfl) (fun W hS => ?_) ?_ ?_
    rotate_left 2
    · (have q1 := (HQ.out _ hS).1); go_simp
      exact rfl
    · go_simp
      exact rfl
    refine steady_val ?_ ?_ (by kernel_rfl) (fun W hS => ?_) ?_ ?_
    rotate_left 2
    · go_simp
      exact rfl
    · go_simp
      exact rfl
    refine steady_val ?_ ?_ (by kernel_rfl) (fun W hS => ?_) ?_ ?_
    rotate_left 2
    · (have q1 := (HQ.out _ hS).2.addr); go_simp
      exact rfl
    · go_simp
      exact rfl
    refine steady_val ?_ ?_ (by kernel_rfl) (fun W hS => ?_) ?_ ?_
    rotate_left 2
    · go_simp
      exact rfl
    · go_simp
      exact rfl
    refine steady_val ?_ ?_ (by kernel_rfl) (fun W hS => ?_) ?_ ?_
    rotate_left 2
    · (have q1 := (HQ.out _ hS).2.size); go_simp
      exact rfl
    · go_simp
      exact rfl
    refine steady_enter (.bool r) 52 #[.int .i64 n, .int .u64 a.addr, .int .i64 a.size] ?_ (by kernel_rfl) (fun W hS => ?_) (fun W hS => (HF.out W).mono (by rintro e w' ⟨rfl, hb⟩; exact ⟨rfl, hS.trans (hb.mono hS.size)⟩)) ?_ ?_
    rotate_left 1
    · go_simp
    · go_simp
      exact rfl
    refine steady_val ?_ ?_ (by kernel_rfl) (fun W hS => ?_) ?_ ?_
    rotate_left 2
    · go_simp
      exact rfl
    · go_simp
      exact rfl
    refine steady_nil ?_
    intro W hS
    have HF2 := Lib.hid (HB.out.trans (hS.mono HB.out.size))
    clear hS HB HQ HF
    go_wp2_with fail
    go_ret
    exact ⟨rfl, HF2.out⟩
  · have hr2 : r = decide (Bs.dev n a.addr a.size < 3) := by rw [← hr]; unfold Bs.mayB Bs.isK; rw [hk]; rfl
    rw [hk] at q0
    clear hr hk
    have HF := Lib.hid (fun W => bfits_c n a.addr a.size hs W)
    rw [← hr2] at HF
    have gr : (r == r) = true := by simp
    clear hr2
    have HQ := Lib.hid (fun (W : World) (hb : Below w1.heap.size w1 W) => And.intro (show W.cell? ⟨b, 1, none⟩ = some (.int .i64 n) from (hb.cell (p := ⟨b, 1, none⟩) (World.block_lt_of_cell? _ _ HC.out)).trans HC.out) (HA.out.low hb))
    go_upto_region 6 with fail
    clear q0 HC HA
    refine wp_region_steady (fun W => Below w1.heap.size w1 W) (by kernel_rfl) (by kernel_rfl) (below_dU (Below.refl _ _) 1) ?_
    iterate 3
      refine steady_val ?_ ?_ (by kernel_rfl) (fun W hS => ?_) ?_ ?_
      rotate_left 2
      · go_simp
        exact rfl
      · go_simp
        exact rfl
    refine steady_val ?_ ?_ (by kernel_rfl) (fun W hS => ?_) ?_ ?_
    rotate_left 2
    · (have q1 := (HQ.out _ hS).1); go_simp
      exact rfl
    · go_simp
      exact rfl
    refine steady_val ?_ ?_ (by kernel_rfl) (fun W hS => ?_) ?_ ?_
    rotate_left 2
    · go_simp
      exact rfl
    · go_simp
      exact rfl
    refine steady_val ?_ ?_ (by kernel_rfl) (fun W hS => ?_) ?_ ?_
    rotate_left 2
    · (have q1 := (HQ.out _ hS).2.addr); go_simp
      exact rfl
    · go_simp
      exact rfl
    refine steady_val ?_ ?_ (by kernel_rfl) (fun W hS => ?_) ?_ ?_
    rotate_left 2
    · go_simp
      exact rfl
    · go_simp
      exact rfl
    refine steady_val ?_ ?_ (by kernel_rfl) (fun W hS => ?_) ?_ ?_
    rotate_left 2
    · (have q1 := (HQ.out _ hS).2.size); go_simp
      exact rfl
    · go_simp
      exact rfl
    refine steady_enter (.bool r) 52 #[.int .i64 n, .int .u64 a.addr, .int .i64 a.size] ?_ (by kernel_rfl) (fun W hS => ?_) (fun W hS => (HF.out W).mono (by rintro e w' ⟨rfl, hb⟩; exact ⟨rfl, hS.trans (hb.mono hS.size)⟩)) ?_ ?_
    rotate_left 1
    · go_simp
    · go_simp
      exact rfl
    refine steady_val ?_ ?_ (by kernel_rfl) (fun W hS => ?_) ?_ ?_
    rotate_left 2
    · go_simp
      exact rfl
    · go_simp
      exact rfl
    refine steady_nil ?_
    intro W hS
    have HF2 := Lib.hid (HB.out.trans (hS.mono HB.out.size))
    clear hS HB HQ HF
    go_wp2_with fail
    go_ret
    exact ⟨rfl, HF2.out⟩
  · have hr2 : r = true := by rw [← hr]; unfold Bs.mayB Bs.isK Bs.otherK; rw [hk]; rfl
    subst hr2
    rw [hk] at q0
    clear hr hk
    go_wp2_with fail
    go_ret
    exact ⟨rfl, HB.out⟩
  · have hr2 : r = true := by rw [← hr]; unfold Bs.mayB Bs.isK Bs.otherK; rw [hk]; rfl
    subst hr2
    rw [hk] at q0
    clear hr hk
    go_wp2_with fail
    go_ret
    exact ⟨rfl, HB.out⟩
  · have hr2 : r = true := by rw [← hr]; unfold Bs.mayB Bs.isK Bs.otherK; rw [hk]; rfl
    subst hr2
    rw [hk] at q0
    clear hr hk
    go_wp2_with fail
    go_ret
    exact ⟨rfl, HB.out⟩
  · have hr2 : r = true := by rw [← hr]; unfold Bs.mayB Bs.isK Bs.otherK; rw [hk]; rfl
    subst hr2
    rw [hk] at q0
    clear hr hk
    go_wp2_with fail
    go_ret
    exact ⟨rfl, HB.out⟩
  · obtain ⟨k1, k2, k3, k4, k5, k6⟩ := hk
    have g1 : (a.kind == 9) = false := by simpa using k1
    have g2 : (a.kind == 10) = false := by simpa using k2
    have g3 : (a.kind == 11) = false := by simpa using k3
    have g4 : (a.kind == 18) = false := by simpa using k4
    have g5 : (a.kind == 19) = false := by simpa using k5
    have g6 : (a.kind == 20) = false := by simpa using k6
    have hr2 : r = false := by rw [← hr]; unfold Bs.mayB Bs.isK Bs.otherK; rw [g1, g2, g3, g4, g5, g6]; rfl
    subst hr2
    clear hr k1 k2 k3 k4 k5 k6
    go_wp2_with fail
    go_ret
    exact ⟨rfl, HB.out⟩
end Go.Proofs.YtfjdalepaacmgaaGreat
