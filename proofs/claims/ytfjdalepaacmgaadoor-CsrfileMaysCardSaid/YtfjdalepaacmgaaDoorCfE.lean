/-
  Contracts of csrfile.New.
-/
import Derived.Test.YtfjdalepaacmgaaDoorCfD
import Derived.Great.Walk
set_option maxRecDepth 20000
namespace Go.Proofs.YtfjdalepaacmgaaDoor
open Go.ChangeShapes Go.WideShapes Go.ChangeAt Go.RowKit Wd Csr Sta Cf

theorem zero_fl (W : World) : (zeroValue FlT).run Tryd.prog W = .ok (.agg (fileV (zero 0))) W := by kernel_rfl
theorem built_fl (h : Int) : Tryd.prog.built FlT [(0, Value.int .i64 h)] = some (fileV (zero h)) := by kernel_rfl
theorem wpList_allocY {P : Program} {ops : Array Oper} {rest : List Oper} {o : Oper} {a : Act} {w : World} {Q : Exit → Act → World → Prop} (hg : o.guard = none) (dst : Option Tmp) (hdst : o.dst = dst) (ty : TypeId) (ho : o.op = .alloc ty) (cs : Array Value) (hz : (zeroValue ty).run P w = .ok (.agg cs) w)
    (h : wpList P ops Q rest (a.put dst (.pointer (some ⟨w.heap.size, 0, none⟩))) (w.alloc (.cells cs ty))) : wpList P ops Q (o :: rest) a w :=
  Go.Great.wpList_allocTo hg dst hdst _ _ (exec_alloc ty ho (.agg cs) hz) h
theorem info_fl : (Tryd.prog.info? FlT).map (·.size) = some 25 := by kernel_rfl
theorem iFl (s : S) : (Tryd.prog.info? FlT).map (·.size) = some (fileV s).size := by rw [fileV_size]; exact info_fl
theorem flV_one (s : S) : (fileV s).all (·.oneCell') = true := one_all s keptL
set_option maxHeartbeats 2000000 in
theorem fnew1_c (g i : Nat) (hi : idxK 768 = some i) (s : S) (w : World) (h : FlAt w g s) :
    Calls Tryd.prog 56 #[.pointer (some ⟨g, 1 + i, none⟩)] w fun e w' => e = .returned (.tuple #[]) ∧ FQ g (s.put 768 42949672960) w w' := by
  have c0 := h.w hi
  have y0 := h.fz (1 + i)
  have HS := Lib.hid (h.store (w := w) (Below.refl _ _) hi (v := 42949672960) ⟨by omega, by omega⟩)
  clear h hi
  generalize s.f 768 = x at *
  go_enter Tryd.func56, Tryd.ntmps56
  go_wp2_with fail
  exact bodyPost_end (v := .tuple #[]) (by simp [results, Tryd.results56, go_sem]) rfl ⟨rfl, HS.out⟩
theorem zero_ok {h : Int} (hh : -9223372036854775808 ≤ h ∧ h ≤ 9223372036854775807) : Ok (zero h) := ⟨hh, fun _ => ⟨Int.le_refl _, by show (0 : Int) < _; omega⟩, fun _ _ => rfl⟩
set_option maxHeartbeats 2000000 in
theorem fnew_c (h : Int) (hh : -9223372036854775808 ≤ h ∧ h ≤ 9223372036854775807) (w : World) (hK : KeptIn w) :
    Calls Tryd.prog 30 #[.int .i64 h] w fun e w' => e = .returned (.agg (fileV (new h))) ∧ Below w.heap.size w w' := by
  have hB : Below w.heap.size w ((w.alloc (.cells (fileV (zero 0)) FlT)).alloc (.cells (fileV (zero h)) FlT)) := ((Below.refl _ _).alloc (Nat.le_refl _) _).alloc (by simp) _
  have h1 : CsAt ((w.alloc (.cells (fileV (zero 0)) FlT)).alloc (.cells (fileV (zero h)) FlT)) w.heap.size FlT (fileV (zero 0)) := (CsAt.new w FlT _).alloc _
  have h2 : CsAt ((w.alloc (.cells (fileV (zero 0)) FlT)).alloc (.cells (fileV (zero h)) FlT)) (w.heap.size + 1) FlT (fileV (zero h)) := by
    have := CsAt.new (w.alloc (.cells (fileV (zero 0)) FlT)) FlT (fileV (zero h))
    simpa using this
  have HB := Lib.hid hB
  have H1 := Lib.hid h1
  have HR := Lib.hid (reach_yes 56 #[] (w.heap.size + 1) 768 7 (by decide) _ (hK.low hB) _ (fnew1_c (w.heap.size + 1) 7 (by decide) (zero h) _ ⟨h2, zero_ok hh⟩) (Go.Proofs.enters_of Tryd.func56 (by kernel_rfl) rfl))
  clear hK hB h1 h2 hh
  go_enter Tryd.func30, Tryd.ntmps30
  go_upto_region 2 with (first
    | (refine wpList_allocY rfl _ rfl FlT rfl (fileV (zero 0)) (zero_fl _) ?_)
    | (refine wpList_buildTo rfl FlT _ rfl _ rfl (fileV (zero h)) ((congrArg (Tryd.prog.built FlT) (show _ = [(0, Value.int .i64 h)] by kernel_rfl)).trans (built_fl h)) ?_)
    | (refine wpList_storeNew (w0 := w.alloc (.cells (fileV (zero 0)) FlT)) rfl FlT _ _ rfl (fileV (zero 0)) (fileV (zero h)) FlT rfl rfl (iFl _) (by rw [fileV_size, fileV_size]) (flV_one _) ?_))
  generalize ((w.alloc (.cells (fileV (zero 0)) FlT)).alloc (.cells (fileV (zero h)) FlT)) = w1 at *
  go_wp2_with fail
  refine HR.out.mono ?_
  rintro e w2 ⟨rfl, hq⟩
  rw [new_put] at hq
  have HF := Lib.hid hq.fl.r
  have HZ := Lib.hid (hq.chg.cs H1.out (fun (e : w.heap.size = w.heap.size + 1) => by omega))
  have HB2 := Lib.hid (HB.out.trans (hq.chg.below HB.out.size (fun k hk => by rw [show k = w.heap.size + 1 from hk]; omega)))
  clear hq
  go_wp2_with (first
    | (refine wpList_load_row rfl FlT _ rfl (w.heap.size + 1) rfl FlT _ (0, 0) _ HF.out Tryd.underlying54 rfl (iFl _) ?_)
    | (refine wpList_store_row rfl FlT _ _ rfl w.heap.size (fileV (new h)) rfl rfl FlT _ HZ.out (iFl _) (by rw [fileV_size, fileV_size]) (flV_one _) ?_))
  exact bodyPost_ret (results_cell_row Tryd.results30 _ _ _ _ _ _ _ rfl (HZ.out.row _) Tryd.underlying54 rfl (iFl _)) rfl ⟨rfl, below_setRow HB2.out (Nat.le_refl _) _⟩
end Go.Proofs.YtfjdalepaacmgaaDoor
