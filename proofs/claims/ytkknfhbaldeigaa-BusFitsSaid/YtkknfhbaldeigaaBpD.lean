/-
  Contracts of plic.New, rows, locate, Fits.
-/
import Derived.Test.YtkknfhbaldeigaaBpC
set_option maxRecDepth 20000
namespace Go.Proofs.Ytkknfhbaldeigaa
open Go.ChangeShapes Go.WideShapes Go.ChangeAt Go.RowKit

abbrev RwA : TypeId := 160
abbrev RgP : TypeId := 151
def rwV (a b c d e f g h i j k l m n o p q r s t : Int) : Array Value := #[.int .u64 a, .int .u64 b, .int .u64 c, .int .u64 d, .int .u64 e, .int .u64 f, .int .u64 g, .int .u64 h, .int .u64 i, .int .u64 j, .int .u64 k, .int .u64 l, .int .u64 m, .int .u64 n, .int .u64 o, .int .u64 p, .int .u64 q, .int .u64 r, .int .u64 s, .int .u64 t]
def rw0 : Array Value := rwV 0 0 0 0 0 0 0 0 0 0 0 0 0 0 0 0 0 0 0 0
def rwN (e : Int) : Array Value := rwV 0 4 1 32 4096 4 0 1 8192 128 0 e 2097152 4096 0 e 2097156 4096 0 e
theorem zero_rw : (#[Value.int IntKind.u64 0, Value.int IntKind.u64 0, Value.int IntKind.u64 0, Value.int IntKind.u64 0, Value.int IntKind.u64 0, Value.int IntKind.u64 0, Value.int IntKind.u64 0, Value.int IntKind.u64 0, Value.int IntKind.u64 0, Value.int IntKind.u64 0, Value.int IntKind.u64 0, Value.int IntKind.u64 0, Value.int IntKind.u64 0, Value.int IntKind.u64 0, Value.int IntKind.u64 0, Value.int IntKind.u64 0, Value.int IntKind.u64 0, Value.int IntKind.u64 0, Value.int IntKind.u64 0, Value.int IntKind.u64 0] : Array Value) = rw0 := rfl
theorem info_RwA : (Try.prog.info? RwA).map (·.size) = some 20 := by kernel_rfl
set_option maxRecDepth 100000 in
set_option maxHeartbeats 4000000 in
theorem rows_c (n : Nat) (hn : n ≤ 8) (w : World) : Calls Try.prog 94 #[.int .i64 n] w fun e w' => e = .returned (.agg (rwN (2 * (n : Int)))) ∧ Below w.heap.size w w' := by
  have HB0 := Lib.hid ((Below.refl w.heap.size w).alloc (Nat.le_refl _) (Obj.cells rw0 RwA))
  have HR0 := Lib.hid (CsAt.new w RwA rw0)
  have e0 : wrap64 (2 * (n : Int)) = 2 * (n : Int) := by unfold wrap64; omega
  go_enter Try.func94, Try.ntmps94
  go_upto_region 1 with fail
  rw [zero_rw]
  generalize w.alloc (Obj.cells rw0 RwA) = w1 at *
  go_wp2_with (refine wpList_store_row rfl RwA _ _ rfl w.heap.size (rwN (2 * (n : Int))) rfl rfl RwA rw0 HR0.out info_RwA rfl (by kernel_rfl) ?_)
  exact bodyPost_ret (results_cell_row Try.results94 _ _ _ RwA (rwN (2 * (n : Int))) _ _ rfl (HR0.out.row _) Try.underlying160 rfl info_RwA) rfl ⟨rfl, below_setRow HB0.out (Nat.le_refl _) _⟩
/-- A register as the code has it. -/
def prV (t : Nat × Nat) : Array Value := #[.int .i64 (if t.1 = 0 then 0 else (t.1 : Int) - 1), .int .u64 t.2]
def pr0 : Array Value := #[.int .i64 0, .int .u64 0]
theorem prV0 : prV (0, 0) = pr0 := rfl
theorem wrap_sub {a b : Int} (h0 : b ≤ a) (ha : a ≤ 18446744073709551615) (hb : 0 ≤ b) : IntKind.u64.wrap (a - b) = a - b := by rw [IntKind.wrap_u64]; omega
namespace Pc
/-- A register of a kind stands there. -/
def hit (n off : Int) (k : Nat) : Prop :=
  if k = 0 then off % 4 = 0 ∧ 4 ≤ off ∧ off ≤ 124 else if k = 1 then off = 4096 else if k = 2 then 8192 ≤ off ∧ (off - 8192) % 128 = 0 ∧ (off - 8192) / 128 < 2 * n
  else if k = 3 then 2097152 ≤ off ∧ (off - 2097152) % 4096 = 0 ∧ (off - 2097152) / 4096 < 2 * n else 2097156 ≤ off ∧ (off - 2097156) % 4096 = 0 ∧ (off - 2097156) / 4096 < 2 * n
def of (off : Int) (k : Nat) : Nat := if k = 0 then (off / 4).toNat else if k = 1 then 0 else if k = 2 then ((off - 8192) / 128).toNat else if k = 3 then ((off - 2097152) / 4096).toNat else ((off - 2097156) / 4096).toNat
theorem at_hit {n off : Int} {k : Nat} (hn : 1 ≤ n ∧ n ≤ 8) (hk : k < 5) (hb : ∀ j, j < k → ¬ hit n off j) (hh : hit n off k) : at_ n off 4 = (k + 1, of off k) := by
  have : k = 0 ∨ k = 1 ∨ k = 2 ∨ k = 3 ∨ k = 4 := by omega
  have h0 := hb 0
  have h1 := hb 1
  have h2 := hb 2
  have h3 := hb 3
  unfold at_
  rw [if_pos ⟨rfl, hn⟩]
  rcases this with rfl | rfl | rfl | rfl | rfl
  all_goals simp [hit] at hh h0 h1 h2 h3
  · rw [if_pos (by omega)]; rfl
  · rw [if_neg (by omega), if_pos (by omega)]; rfl
  · rw [if_neg (by omega), if_neg (by omega), if_pos (by omega)]; rfl
  · rw [if_neg (by omega), if_neg (by omega), if_neg (by omega), if_pos (by omega)]; rfl
  · rw [if_neg (by omega), if_neg (by omega), if_neg (by omega), if_neg (by omega), if_pos (by omega)]; rfl
theorem at_miss {n off : Int} (hb : ∀ j, j < 5 → ¬ hit n off j) : at_ n off 4 = (0, 0) := by
  have h0 := hb 0
  have h1 := hb 1
  have h2 := hb 2
  have h3 := hb 3
  have h4 := hb 4
  simp [hit] at h0 h1 h2 h3 h4
  unfold at_
  split
  · repeat (first | rw [if_neg (by omega)])
  · rfl
theorem at_bad {n off size : Int} (h : n < 1 ∨ 8 < n ∨ size ≠ 4) : at_ n off size = (0, 0) := by
  unfold at_
  rw [if_neg (by omega)]
theorem more {n off : Int} {k : Nat} (hb : ∀ j, j < k → ¬ hit n off j) (hk : ¬ hit n off k) : ∀ j, j < k + 1 → ¬ hit n off j := fun j hj => by
  by_cases e : j = k
  · rw [e]; exact hk
  · exact hb j (by omega)
end Pc
set_option maxRecDepth 100000 in
set_option maxHeartbeats 16000000 in
theorem plocate_c (h off size : Int) (o0 : 0 ≤ off) (o1 : off ≤ 18446744073709551615) (w : World) :
    Calls Try.prog 80 #[.int .i64 h, .int .u64 off, .int .i64 size] w fun e w' => e = .returned (.tuple #[.agg (prV (Pc.at_ h off size)), .bool (Pc.is h off size)]) ∧ Below w.heap.size w w' := by
  by_cases hbad : h < 1 ∨ 8 < h ∨ size ≠ 4
  · have HE := Lib.hid (Pc.at_bad (off := off) hbad)
    have HI := Lib.hid (show Pc.is h off size = false by unfold Pc.is; rw [HE.out]; rfl)
    by_cases b1 : h < 1
    · have g1 : decide (h < 1) = true := by simpa using b1
      clear hbad b1
      go_enter Try.func80, Try.ntmps80
      go_wp2_with fail
      exact bodyPost_ret (results_cb RgP Try.results80 _ _ w.heap.size _ _ rfl rfl (run_loadVar_row _ _ RgP RgP _ (0, 0) _ (CsAt.new _ RgP _) Try.underlying151 rfl (by kernel_rfl))) rfl ⟨by rw [HE.out, HI.out]; rfl, (Below.refl _ _).alloc (Nat.le_refl _) _⟩
    · have g1 : decide (h < 1) = false := by simpa using b1
      by_cases b2 : 8 < h
      · have g2 : decide (h > 8) = true := by simpa using b2
        clear hbad b1 b2
        go_enter Try.func80, Try.ntmps80
        go_wp2_with fail
        exact bodyPost_ret (results_cb RgP Try.results80 _ _ w.heap.size _ _ rfl rfl (run_loadVar_row _ _ RgP RgP _ (0, 0) _ (CsAt.new _ RgP _) Try.underlying151 rfl (by kernel_rfl))) rfl ⟨by rw [HE.out, HI.out]; rfl, (Below.refl _ _).alloc (Nat.le_refl _) _⟩
      · have g2 : decide (h > 8) = false := by simpa using b2
        have g3 : (size != 4) = true := by simp; omega
        clear hbad b1 b2
        go_enter Try.func80, Try.ntmps80
        go_wp2_with fail
        exact bodyPost_ret (results_cb RgP Try.results80 _ _ w.heap.size _ _ rfl rfl (run_loadVar_row _ _ RgP RgP _ (0, 0) _ (CsAt.new _ RgP _) Try.underlying151 rfl (by kernel_rfl))) rfl ⟨by rw [HE.out, HI.out]; rfl, (Below.refl _ _).alloc (Nat.le_refl _) _⟩
  · obtain ⟨n, rfl⟩ := Int.eq_ofNat_of_zero_le (by omega : 0 ≤ h)
    have hn : 1 ≤ (n : Int) ∧ (n : Int) ≤ 8 := by omega
    obtain rfl : size = 4 := by omega
    have g1 : decide ((n : Int) < 1) = false := by simp; omega
    have g2 : decide ((n : Int) > 8) = false := by simp; omega
    clear hbad
    have HB0 := Lib.hid ((Below.refl w.heap.size w).alloc (Nat.le_refl _) (Obj.cells pr0 RgP))
    have HR0 := Lib.hid (CsAt.new w RgP pr0)
    go_enter Try.func80, Try.ntmps80
    go_upto_region 1 with fail
    rw [show (#[Value.int IntKind.i64 0, Value.int IntKind.u64 0] : Array Value) = pr0 from rfl]
    generalize w.alloc (Obj.cells pr0 RgP) = w1 at *
    go_wp2_with fail
    refine (rows_c n (by omega) w1).mono ?_
    rintro e w2 ⟨rfl, hb2⟩
    have HB2 := Lib.hid (HB0.out.trans (hb2.mono HB0.out.size))
    have HR2 := Lib.hid (HR0.out.low hb2)
    clear hb2 HB0 HR0
    have hlt := HR2.out.lt
    go_wp2_with fail
    go_loopw [24] (fun i wr => ∃ k : Nat, k ≤ 5 ∧ i = .int .i64 k ∧ (∀ j, j < k → ¬ Pc.hit n off j) ∧ CsAt wr w.heap.size RgP pr0 ∧ Below w.heap.size w wr) (fun i _ => 5 - (intOf i).toNat)
    case atStart => exact ⟨0, by omega, rfl, fun j hj => by omega, HR2.out, HB2.out⟩
    case round =>
      obtain ⟨k, hk, rfl, hno, hr, hb⟩ := hrel
      have HNO := Lib.hid hno
      have HR := Lib.hid hr
      have HB := Lib.hid hb
      clear hno hr hb HR2 HB2
      have hk6 : k = 0 ∨ k = 1 ∨ k = 2 ∨ k = 3 ∨ k = 4 ∨ k = 5 := by omega
      have ix0 : ∀ W : World, (Instr.index RwA (.agg (rwN (2 * (n : Int)))) (.int .i64 0)).run Try.prog W = .ok (.agg #[.int .u64 0, .int .u64 4, .int .u64 1, .int .u64 32]) W := fun W => by kernel_rfl
      have ix1 : ∀ W : World, (Instr.index RwA (.agg (rwN (2 * (n : Int)))) (.int .i64 1)).run Try.prog W = .ok (.agg #[.int .u64 4096, .int .u64 4, .int .u64 0, .int .u64 1]) W := fun W => by kernel_rfl
      have ix2 : ∀ W : World, (Instr.index RwA (.agg (rwN (2 * (n : Int)))) (.int .i64 2)).run Try.prog W = .ok (.agg #[.int .u64 8192, .int .u64 128, .int .u64 0, .int .u64 (2 * (n : Int))]) W := fun W => by kernel_rfl
      have ix3 : ∀ W : World, (Instr.index RwA (.agg (rwN (2 * (n : Int)))) (.int .i64 3)).run Try.prog W = .ok (.agg #[.int .u64 2097152, .int .u64 4096, .int .u64 0, .int .u64 (2 * (n : Int))]) W := fun W => by kernel_rfl
      have ix4 : ∀ W : World, (Instr.index RwA (.agg (rwN (2 * (n : Int)))) (.int .i64 4)).run Try.prog W = .ok (.agg #[.int .u64 2097156, .int .u64 4096, .int .u64 0, .int .u64 (2 * (n : Int))]) W := fun W => by kernel_rfl
      rcases hk6 with rfl | rfl | rfl | rfl | rfl | rfl
      · by_cases c2 : off % 4 = 0
        · have g4 : (off % 4 == 0) = true := by simpa using c2
          by_cases c3 : off / 4 < 1
          · have hm := Pc.more HNO.out (show ¬ Pc.hit (n : Int) off 0 by simp [Pc.hit]; omega)
            have g5 : decide (off / 4 ≥ 1) = false := by simp; omega
            have HM := Lib.hid hm
            clear hm HNO c2 c3
            go_wp2_with fail
            go_roundw
            case rel => exact ⟨1, by omega, rfl, HM.out, HR.out.alloc _, HB.out.alloc HB.out.size _⟩
            case measure => simp [intOf]
          have g5 : decide (off / 4 ≥ 1) = true := by simp; omega
          by_cases c4 : off / 4 < 32
          · have g6 : decide (off / 4 < 32) = true := by simpa using c4
            have HE := Lib.hid (Pc.at_hit hn (by omega) HNO.out (show Pc.hit (n : Int) off 0 by simp [Pc.hit]; omega))
            have HI := Lib.hid (show Pc.is (n : Int) off 4 = true by unfold Pc.is; rw [HE.out]; rfl)
            have HV := Lib.hid (show off / 4 = ((Pc.of off 0 : Nat) : Int) by simp [Pc.of]; omega)
            clear HNO c4 c2
            have HR2 := Lib.hid (HR.out.alloc (Obj.cells #[.int .u64 0, .int .u64 4, .int .u64 1, .int .u64 (32)] 159))
            have HB2 := Lib.hid (HB.out.alloc HB.out.size (Obj.cells #[.int .u64 0, .int .u64 4, .int .u64 1, .int .u64 (32)] 159))
            go_wp2_with (refine wpList_store_row rfl RgP _ _ rfl w.heap.size #[.int .i64 0, .int .u64 (off / 4)] rfl rfl RgP pr0 HR2.out (by kernel_rfl) rfl (by kernel_rfl) ?_)
            exact bodyPost_ret (results_cb RgP Try.results80 _ _ w.heap.size _ _ rfl rfl (run_loadVar_row _ _ RgP RgP _ (0, 0) _ (HR2.out.row _) Try.underlying151 rfl (by kernel_rfl))) rfl ⟨by rw [HE.out, HI.out]; rw [HV.out]; rfl, below_setRow HB2.out (Nat.le_refl _) _⟩
          · have hm := Pc.more HNO.out (show ¬ Pc.hit (n : Int) off 0 by simp [Pc.hit]; omega)
            have g6 : decide (off / 4 < 32) = false := by simpa using c4
            have HM := Lib.hid hm
            clear hm HNO c2 c4
            go_wp2_with fail
            go_roundw
            case rel => exact ⟨1, by omega, rfl, HM.out, HR.out.alloc _, HB.out.alloc HB.out.size _⟩
            case measure => simp [intOf]
        · have g4 : (off % 4 == 0) = false := by simpa using c2
          have hm := Pc.more HNO.out (show ¬ Pc.hit (n : Int) off 0 by simp [Pc.hit]; omega)
          have HM := Lib.hid hm
          clear hm HNO c2
          go_wp2_with fail
          go_roundw
          case rel => exact ⟨1, by omega, rfl, HM.out, HR.out.alloc _, HB.out.alloc HB.out.size _⟩
          case measure => simp [intOf]
      · by_cases c1 : off < 4096
        · have hm := Pc.more HNO.out (show ¬ Pc.hit (n : Int) off 1 by simp [Pc.hit]; omega)
          have g3 : decide (off ≥ 4096) = false := by simp; omega
          have HM := Lib.hid hm
          clear hm HNO c1
          go_wp2_with fail
          go_roundw
          case rel => exact ⟨2, by omega, rfl, HM.out, HR.out.alloc _, HB.out.alloc HB.out.size _⟩
          case measure => simp [intOf]
        have g3 : decide (off ≥ 4096) = true := by simp; omega
        have hw : IntKind.u64.wrap (off - 4096) = off - 4096 := wrap_sub (by omega) o1 (by omega)
        by_cases c2 : (off - 4096) % 4 = 0
        · have g4 : ((off - 4096) % 4 == 0) = true := by simpa using c2
          have g5 : decide ((off - 4096) / 4 ≥ 0) = true := by simp; omega
          by_cases c4 : (off - 4096) / 4 < 1
          · have g6 : decide ((off - 4096) / 4 < 1) = true := by simpa using c4
            have HE := Lib.hid (Pc.at_hit hn (by omega) HNO.out (show Pc.hit (n : Int) off 1 by simp [Pc.hit]; omega))
            have HI := Lib.hid (show Pc.is (n : Int) off 4 = true by unfold Pc.is; rw [HE.out]; rfl)
            have HV := Lib.hid (show (off - 4096) / 4 = ((Pc.of off 1 : Nat) : Int) by simp [Pc.of]; omega)
            clear HNO c4 c2
            have HR2 := Lib.hid (HR.out.alloc (Obj.cells #[.int .u64 4096, .int .u64 4, .int .u64 0, .int .u64 (1)] 159))
            have HB2 := Lib.hid (HB.out.alloc HB.out.size (Obj.cells #[.int .u64 4096, .int .u64 4, .int .u64 0, .int .u64 (1)] 159))
            go_wp2_with (refine wpList_store_row rfl RgP _ _ rfl w.heap.size #[.int .i64 1, .int .u64 ((off - 4096) / 4)] rfl rfl RgP pr0 HR2.out (by kernel_rfl) rfl (by kernel_rfl) ?_)
            exact bodyPost_ret (results_cb RgP Try.results80 _ _ w.heap.size _ _ rfl rfl (run_loadVar_row _ _ RgP RgP _ (0, 0) _ (HR2.out.row _) Try.underlying151 rfl (by kernel_rfl))) rfl ⟨by rw [HE.out, HI.out]; rw [HV.out]; rfl, below_setRow HB2.out (Nat.le_refl _) _⟩
          · have hm := Pc.more HNO.out (show ¬ Pc.hit (n : Int) off 1 by simp [Pc.hit]; omega)
            have g6 : decide ((off - 4096) / 4 < 1) = false := by simpa using c4
            have HM := Lib.hid hm
            clear hm HNO c2 c4
            go_wp2_with fail
            go_roundw
            case rel => exact ⟨2, by omega, rfl, HM.out, HR.out.alloc _, HB.out.alloc HB.out.size _⟩
            case measure => simp [intOf]
        · have g4 : ((off - 4096) % 4 == 0) = false := by simpa using c2
          have hm := Pc.more HNO.out (show ¬ Pc.hit (n : Int) off 1 by simp [Pc.hit]; omega)
          have HM := Lib.hid hm
          clear hm HNO c2
          go_wp2_with fail
          go_roundw
          case rel => exact ⟨2, by omega, rfl, HM.out, HR.out.alloc _, HB.out.alloc HB.out.size _⟩
          case measure => simp [intOf]
      · by_cases c1 : off < 8192
        · have hm := Pc.more HNO.out (show ¬ Pc.hit (n : Int) off 2 by simp [Pc.hit]; omega)
          have g3 : decide (off ≥ 8192) = false := by simp; omega
          have HM := Lib.hid hm
          clear hm HNO c1
          go_wp2_with fail
          go_roundw
          case rel => exact ⟨3, by omega, rfl, HM.out, HR.out.alloc _, HB.out.alloc HB.out.size _⟩
          case measure => simp [intOf]
        have g3 : decide (off ≥ 8192) = true := by simp; omega
        have hw : IntKind.u64.wrap (off - 8192) = off - 8192 := wrap_sub (by omega) o1 (by omega)
        by_cases c2 : (off - 8192) % 128 = 0
        · have g4 : ((off - 8192) % 128 == 0) = true := by simpa using c2
          have g5 : decide ((off - 8192) / 128 ≥ 0) = true := by simp; omega
          by_cases c4 : (off - 8192) / 128 < 2 * (n : Int)
          · have g6 : decide ((off - 8192) / 128 < 2 * (n : Int)) = true := by simpa using c4
            have HE := Lib.hid (Pc.at_hit hn (by omega) HNO.out (show Pc.hit (n : Int) off 2 by simp [Pc.hit]; omega))
            have HI := Lib.hid (show Pc.is (n : Int) off 4 = true by unfold Pc.is; rw [HE.out]; rfl)
            have HV := Lib.hid (show (off - 8192) / 128 = ((Pc.of off 2 : Nat) : Int) by simp [Pc.of]; omega)
            clear HNO c4 c2
            have HR2 := Lib.hid (HR.out.alloc (Obj.cells #[.int .u64 8192, .int .u64 128, .int .u64 0, .int .u64 (2 * (n : Int))] 159))
            have HB2 := Lib.hid (HB.out.alloc HB.out.size (Obj.cells #[.int .u64 8192, .int .u64 128, .int .u64 0, .int .u64 (2 * (n : Int))] 159))
            go_wp2_with (refine wpList_store_row rfl RgP _ _ rfl w.heap.size #[.int .i64 2, .int .u64 ((off - 8192) / 128)] rfl rfl RgP pr0 HR2.out (by kernel_rfl) rfl (by kernel_rfl) ?_)
            exact bodyPost_ret (results_cb RgP Try.results80 _ _ w.heap.size _ _ rfl rfl (run_loadVar_row _ _ RgP RgP _ (0, 0) _ (HR2.out.row _) Try.underlying151 rfl (by kernel_rfl))) rfl ⟨by rw [HE.out, HI.out]; rw [HV.out]; rfl, below_setRow HB2.out (Nat.le_refl _) _⟩
          · have hm := Pc.more HNO.out (show ¬ Pc.hit (n : Int) off 2 by simp [Pc.hit]; omega)
            have g6 : decide ((off - 8192) / 128 < 2 * (n : Int)) = false := by simpa using c4
            have HM := Lib.hid hm
            clear hm HNO c2 c4
            go_wp2_with fail
            go_roundw
            case rel => exact ⟨3, by omega, rfl, HM.out, HR.out.alloc _, HB.out.alloc HB.out.size _⟩
            case measure => simp [intOf]
        · have g4 : ((off - 8192) % 128 == 0) = false := by simpa using c2
          have hm := Pc.more HNO.out (show ¬ Pc.hit (n : Int) off 2 by simp [Pc.hit]; omega)
          have HM := Lib.hid hm
          clear hm HNO c2
          go_wp2_with fail
          go_roundw
          case rel => exact ⟨3, by omega, rfl, HM.out, HR.out.alloc _, HB.out.alloc HB.out.size _⟩
          case measure => simp [intOf]
      · by_cases c1 : off < 2097152
        · have hm := Pc.more HNO.out (show ¬ Pc.hit (n : Int) off 3 by simp [Pc.hit]; omega)
          have g3 : decide (off ≥ 2097152) = false := by simp; omega
          have HM := Lib.hid hm
          clear hm HNO c1
          go_wp2_with fail
          go_roundw
          case rel => exact ⟨4, by omega, rfl, HM.out, HR.out.alloc _, HB.out.alloc HB.out.size _⟩
          case measure => simp [intOf]
        have g3 : decide (off ≥ 2097152) = true := by simp; omega
        have hw : IntKind.u64.wrap (off - 2097152) = off - 2097152 := wrap_sub (by omega) o1 (by omega)
        by_cases c2 : (off - 2097152) % 4096 = 0
        · have g4 : ((off - 2097152) % 4096 == 0) = true := by simpa using c2
          have g5 : decide ((off - 2097152) / 4096 ≥ 0) = true := by simp; omega
          by_cases c4 : (off - 2097152) / 4096 < 2 * (n : Int)
          · have g6 : decide ((off - 2097152) / 4096 < 2 * (n : Int)) = true := by simpa using c4
            have HE := Lib.hid (Pc.at_hit hn (by omega) HNO.out (show Pc.hit (n : Int) off 3 by simp [Pc.hit]; omega))
            have HI := Lib.hid (show Pc.is (n : Int) off 4 = true by unfold Pc.is; rw [HE.out]; rfl)
            have HV := Lib.hid (show (off - 2097152) / 4096 = ((Pc.of off 3 : Nat) : Int) by simp [Pc.of]; omega)
            clear HNO c4 c2
            have HR2 := Lib.hid (HR.out.alloc (Obj.cells #[.int .u64 2097152, .int .u64 4096, .int .u64 0, .int .u64 (2 * (n : Int))] 159))
            have HB2 := Lib.hid (HB.out.alloc HB.out.size (Obj.cells #[.int .u64 2097152, .int .u64 4096, .int .u64 0, .int .u64 (2 * (n : Int))] 159))
            go_wp2_with (refine wpList_store_row rfl RgP _ _ rfl w.heap.size #[.int .i64 3, .int .u64 ((off - 2097152) / 4096)] rfl rfl RgP pr0 HR2.out (by kernel_rfl) rfl (by kernel_rfl) ?_)
            exact bodyPost_ret (results_cb RgP Try.results80 _ _ w.heap.size _ _ rfl rfl (run_loadVar_row _ _ RgP RgP _ (0, 0) _ (HR2.out.row _) Try.underlying151 rfl (by kernel_rfl))) rfl ⟨by rw [HE.out, HI.out]; rw [HV.out]; rfl, below_setRow HB2.out (Nat.le_refl _) _⟩
          · have hm := Pc.more HNO.out (show ¬ Pc.hit (n : Int) off 3 by simp [Pc.hit]; omega)
            have g6 : decide ((off - 2097152) / 4096 < 2 * (n : Int)) = false := by simpa using c4
            have HM := Lib.hid hm
            clear hm HNO c2 c4
            go_wp2_with fail
            go_roundw
            case rel => exact ⟨4, by omega, rfl, HM.out, HR.out.alloc _, HB.out.alloc HB.out.size _⟩
            case measure => simp [intOf]
        · have g4 : ((off - 2097152) % 4096 == 0) = false := by simpa using c2
          have hm := Pc.more HNO.out (show ¬ Pc.hit (n : Int) off 3 by simp [Pc.hit]; omega)
          have HM := Lib.hid hm
          clear hm HNO c2
          go_wp2_with fail
          go_roundw
          case rel => exact ⟨4, by omega, rfl, HM.out, HR.out.alloc _, HB.out.alloc HB.out.size _⟩
          case measure => simp [intOf]
      · by_cases c1 : off < 2097156
        · have hm := Pc.more HNO.out (show ¬ Pc.hit (n : Int) off 4 by simp [Pc.hit]; omega)
          have g3 : decide (off ≥ 2097156) = false := by simp; omega
          have HM := Lib.hid hm
          clear hm HNO c1
          go_wp2_with fail
          go_roundw
          case rel => exact ⟨5, by omega, rfl, HM.out, HR.out.alloc _, HB.out.alloc HB.out.size _⟩
          case measure => simp [intOf]
        have g3 : decide (off ≥ 2097156) = true := by simp; omega
        have hw : IntKind.u64.wrap (off - 2097156) = off - 2097156 := wrap_sub (by omega) o1 (by omega)
        by_cases c2 : (off - 2097156) % 4096 = 0
        · have g4 : ((off - 2097156) % 4096 == 0) = true := by simpa using c2
          have g5 : decide ((off - 2097156) / 4096 ≥ 0) = true := by simp; omega
          by_cases c4 : (off - 2097156) / 4096 < 2 * (n : Int)
          · have g6 : decide ((off - 2097156) / 4096 < 2 * (n : Int)) = true := by simpa using c4
            have HE := Lib.hid (Pc.at_hit hn (by omega) HNO.out (show Pc.hit (n : Int) off 4 by simp [Pc.hit]; omega))
            have HI := Lib.hid (show Pc.is (n : Int) off 4 = true by unfold Pc.is; rw [HE.out]; rfl)
            have HV := Lib.hid (show (off - 2097156) / 4096 = ((Pc.of off 4 : Nat) : Int) by simp [Pc.of]; omega)
            clear HNO c4 c2
            have HR2 := Lib.hid (HR.out.alloc (Obj.cells #[.int .u64 2097156, .int .u64 4096, .int .u64 0, .int .u64 (2 * (n : Int))] 159))
            have HB2 := Lib.hid (HB.out.alloc HB.out.size (Obj.cells #[.int .u64 2097156, .int .u64 4096, .int .u64 0, .int .u64 (2 * (n : Int))] 159))
            go_wp2_with (refine wpList_store_row rfl RgP _ _ rfl w.heap.size #[.int .i64 4, .int .u64 ((off - 2097156) / 4096)] rfl rfl RgP pr0 HR2.out (by kernel_rfl) rfl (by kernel_rfl) ?_)
            exact bodyPost_ret (results_cb RgP Try.results80 _ _ w.heap.size _ _ rfl rfl (run_loadVar_row _ _ RgP RgP _ (0, 0) _ (HR2.out.row _) Try.underlying151 rfl (by kernel_rfl))) rfl ⟨by rw [HE.out, HI.out]; rw [HV.out]; rfl, below_setRow HB2.out (Nat.le_refl _) _⟩
          · have hm := Pc.more HNO.out (show ¬ Pc.hit (n : Int) off 4 by simp [Pc.hit]; omega)
            have g6 : decide ((off - 2097156) / 4096 < 2 * (n : Int)) = false := by simpa using c4
            have HM := Lib.hid hm
            clear hm HNO c2 c4
            go_wp2_with fail
            go_roundw
            case rel => exact ⟨5, by omega, rfl, HM.out, HR.out.alloc _, HB.out.alloc HB.out.size _⟩
            case measure => simp [intOf]
        · have g4 : ((off - 2097156) % 4096 == 0) = false := by simpa using c2
          have hm := Pc.more HNO.out (show ¬ Pc.hit (n : Int) off 4 by simp [Pc.hit]; omega)
          have HM := Lib.hid hm
          clear hm HNO c2
          go_wp2_with fail
          go_roundw
          case rel => exact ⟨5, by omega, rfl, HM.out, HR.out.alloc _, HB.out.alloc HB.out.size _⟩
          case measure => simp [intOf]
      · have HE := Lib.hid (Pc.at_miss HNO.out)
        have HI := Lib.hid (show Pc.is (n : Int) off 4 = false by unfold Pc.is; rw [HE.out]; rfl)
        clear HNO
        go_wp2_with (refine wpList_store_row rfl RgP _ _ rfl w.heap.size pr0 rfl rfl RgP pr0 HR.out (by kernel_rfl) rfl (by kernel_rfl) ?_)
        exact bodyPost_ret (results_cb RgP Try.results80 _ _ w.heap.size _ _ rfl rfl (run_loadVar_row _ _ RgP RgP _ (0, 0) _ (HR.out.row _) Try.underlying151 rfl (by kernel_rfl))) rfl ⟨by rw [HE.out, HI.out]; rfl, below_setRow HB.out (Nat.le_refl _) _⟩
set_option maxHeartbeats 4000000 in
theorem pfits_c (h off size : Int) (o0 : 0 ≤ off) (o1 : off ≤ 18446744073709551615) (w : World) :
    Calls Try.prog 88 #[.int .i64 h, .int .u64 off, .int .i64 size] w fun e w' => e = .returned (.bool (Pc.is h off size)) ∧ Below w.heap.size w w' := by
  have HL := Lib.hid (plocate_c h off size o0 o1 w)
  obtain ⟨q, hq⟩ : ∃ q, q = Pc.is h off size := ⟨_, rfl⟩
  obtain ⟨a, b, hab⟩ : ∃ a b, prV (Pc.at_ h off size) = #[.int .i64 a, .int .u64 b] := ⟨_, _, rfl⟩
  rw [← hq, hab] at HL
  rw [← hq]
  clear hq hab
  go_enter Try.func88, Try.ntmps88
  go_wp2_with fail
  refine HL.out.mono ?_
  rintro e w1 ⟨rfl, hb1⟩
  have HB := Lib.hid (hb1.alloc hb1.size (Obj.cells #[.int .i64 a, .int .u64 b] RgP))
  go_wp2_with fail
  go_ret
  exact ⟨rfl, HB.out⟩
theorem zero_pt (W : World) : (zeroValue PT).run Try.prog W = .ok (.agg (ctV 0 Pc.zeros)) W := by kernel_rfl
theorem iPTz {n : Nat} : (Try.prog.info? PT).map (·.size) = some (ctV n Pc.zeros).size := iPT rfl
set_option maxRecDepth 100000 in
set_option maxHeartbeats 4000000 in
theorem pnew_c (harts : Int) (w : World) : Calls Try.prog 44 #[.int .i64 harts] w fun e w' => e = .returned (.agg (ctV (Ct.cnt harts) Pc.zeros)) ∧ Below w.heap.size w w' := by
  have HB0 := Lib.hid ((Below.refl w.heap.size w).alloc (Nat.le_refl _) (Obj.cells (ctV 0 Pc.zeros) PT))
  have HR0 := Lib.hid (CsAt.new w PT (ctV 0 Pc.zeros))
  have hz := zero_pt
  by_cases hlo : harts < 1
  · have HE := Lib.hid (show Ct.cnt harts = 0 by unfold Ct.cnt; rw [if_neg (by omega)])
    rw [HE.out]
    have g0 : decide (harts < 1) = true := by simpa using hlo
    clear hlo
    go_enter Try.func44, Try.ntmps44
    go_upto_region 1 with fail
    go_wp2_with (refine wpList_storeNew (w0 := w) rfl PT _ _ rfl _ (ctV 0 Pc.zeros) _ rfl rfl iPTz rfl ctV_one ?_)
    exact bodyPost_ret (results_cell_row Try.results44 _ _ _ _ _ _ _ rfl HR0.out Try.underlying86 rfl iPTz) rfl ⟨rfl, HB0.out⟩
  · have g0 : decide (harts < 1) = false := by simpa using hlo
    by_cases hhi : 8 < harts
    · have HE := Lib.hid (show Ct.cnt harts = 0 by unfold Ct.cnt; rw [if_neg (by omega)])
      rw [HE.out]
      have g1 : decide (harts > 8) = true := by simpa using hhi
      clear hlo hhi
      go_enter Try.func44, Try.ntmps44
      go_upto_region 1 with fail
      go_wp2_with (refine wpList_storeNew (w0 := w) rfl PT _ _ rfl _ (ctV 0 Pc.zeros) _ rfl rfl iPTz rfl ctV_one ?_)
      exact bodyPost_ret (results_cell_row Try.results44 _ _ _ _ _ _ _ rfl HR0.out Try.underlying86 rfl iPTz) rfl ⟨rfl, HB0.out⟩
    · obtain ⟨n, hn⟩ : ∃ n : Nat, harts = n := ⟨harts.toNat, by omega⟩
      subst hn
      have HE := Lib.hid (show Ct.cnt (n : Int) = n by unfold Ct.cnt; rw [if_pos (by omega)]; omega)
      rw [HE.out]
      have g1 : decide ((n : Int) > 8) = false := by simpa using hhi
      have HB1 := Lib.hid ((Below.refl w.heap.size w).alloc (Nat.le_refl _) (Obj.cells (ctV n Pc.zeros) PT))
      have HR1 := Lib.hid (CsAt.new w PT (ctV n Pc.zeros))
      clear hlo hhi HE
      go_enter Try.func44, Try.ntmps44
      go_upto_region 1 with fail
      go_wp2_with (refine wpList_storeNew (w0 := w) rfl PT _ _ rfl _ (ctV n Pc.zeros) _ rfl rfl iPTz rfl ctV_one ?_)
      exact bodyPost_ret (results_cell_row Try.results44 _ _ _ _ _ _ _ rfl HR1.out Try.underlying86 rfl iPTz) rfl ⟨rfl, HB1.out⟩
end Go.Proofs.Ytkknfhbaldeigaa
