/-
  A controller within a bus: where it lies; contracts of count, one. Contracts of plic.New, rows, locate, Fits. A controller within a bus: contract of best.
-/
import Derived.Test.YtfjdalepaacmgaaGreatYae
import Derived.BigQuiet
import Derived.BigRegion
set_option maxRecDepth 20000
namespace Go.Proofs.YtfjdalepaacmgaaGreat
open Go.ChangeShapes Go.WideShapes Go.ChangeAt Go.RowKit
theorem pone_c (s : Int) (s0 : 0 ≤ s) (s1 : s ≤ 18446744073709551615) (w : World) : Calls Tryz.prog 63 #[.int .u64 s] w fun e w' => e = .returned (.int .u64 (Pc.one s)) ∧ w' = w := by
  by_cases hlo : s < 1
  · have HE := Lib.hid (show Pc.one s = 0 by unfold Pc.one; rw [if_neg (by omega)])
    rw [HE.out]
    have g0 : decide (s < 1) = true := by simpa using hlo
    go_enter Tryz.func63, Tryz.ntmps63
    go_wp2_with fail
    go_ret
    exact ⟨rfl, rfl⟩
  · have g0 : decide (s < 1) = false := by simpa using hlo
    by_cases hhi : 32 ≤ s
    · have HE := Lib.hid (show Pc.one s = 0 by unfold Pc.one; rw [if_neg (by omega)])
      rw [HE.out]
      have g1 : decide (s ≥ 32) = true := by simpa using hhi
      go_enter Tryz.func63, Tryz.ntmps63
      go_wp2_with fail
      go_ret
      exact ⟨rfl, rfl⟩
    · have HE := Lib.hid (show Pc.one s = Wd.onesS s 1 by unfold Pc.one; rw [if_pos (by omega)])
      rw [HE.out]
      have g1 : decide (s ≥ 32) = false := by simpa using hhi
      have HO := Lib.hid (ones_c s 1 w (by omega) (by omega) (by omega) (by omega))
      go_enter Tryz.func63, Tryz.ntmps63
      go_wp2_with fail
      refine HO.out.mono ?_
      rintro e w1 ⟨rfl, rfl⟩
      go_wp2_with fail
      go_ret
      exact ⟨rfl, rfl⟩
namespace Bp
section
variable {S : SurP}
variable {w w' : World} {b n : Nat} {ws : List Int} {p : Option Addr}
/-- What count looks at: none, or a clint of n harts. -/
def Cw (w : World) (p : Option Addr) (n : Nat) : Prop := (p = none ∧ n = 0) ∨ ∃ b, p = some ⟨b, 20, none⟩ ∧ w.cell? ⟨b, 20, none⟩ = some (.int .i64 n)
theorem Cw.low {w w' : World} {p : Option Addr} {n : Nat} (h : Cw w p n) (hb : Below w.heap.size w w') : Cw w' p n := by
  rcases h with h | ⟨b, rfl, hc⟩
  · exact .inl h
  · exact .inr ⟨b, rfl, (hb.cell (p := ⟨b, 20, none⟩) (World.block_lt_of_cell? _ _ hc)).trans hc⟩
theorem Cw.pos {w : World} {p : Option Addr} {n : Nat} (h : Cw w p n) (hn : 0 < n) : ∃ b, p = some ⟨b, 20, none⟩ := by
  rcases h with h | ⟨b, rfl, -⟩
  · omega
  · exact ⟨b, rfl⟩
/-- A controller at a pointer, or none. -/
def PcP (S : SurP) (w : World) (p : Option Addr) (n : Nat) (ws : List Int) : Prop := (p = none ∧ n = 0) ∨ ∃ b, p = some ⟨b, 20, none⟩ ∧ BpAt S w b n ws
theorem BpAt.at_ (h : BpAt S w b n ws) : PcP S w (some ⟨b, 20, none⟩) n ws := .inr ⟨b, rfl, h⟩
theorem PcP.of (h : PcP S w (some ⟨b, 20, none⟩) n ws) : BpAt S w b n ws := by
  rcases h with h | ⟨c, hc, h⟩
  · cases h.1
  · cases hc; exact h
theorem PcP.low (h : PcP S w p n ws) (hb : Below w.heap.size w w') : PcP S w' p n ws := by
  rcases h with h | ⟨b, rfl, h⟩
  · exact .inl h
  · exact .inr ⟨b, rfl, h.low hb⟩
theorem PcP.cw (h : PcP S w p n ws) : Cw w p n := by
  rcases h with h | ⟨b, rfl, h⟩
  · exact .inl h
  · exact .inr ⟨b, rfl, h.n0⟩
theorem PcP.n8 (h : PcP S w p n ws) : n ≤ 8 := by
  rcases h with h | ⟨b, rfl, h⟩
  · omega
  · exact h.ok.n8
theorem PcP.pos (h : PcP S w p n ws) (hn : 0 < n) : ∃ b, p = some ⟨b, 20, none⟩ ∧ BpAt S w b n ws := by
  rcases h with h | h
  · omega
  · exact h
theorem row_set {t : TypeId} (h : CsAt w b t (rowP S n ws)) (i : Nat) (v : Int) : CsAt (w.setCell ⟨b, i + 21, none⟩ (.int .u64 v)) b t (rowP S n (ws.set i v)) := bu_setP h i v
theorem pcount_c (p : Option Addr) (n : Nat) (w : World) (h : Cw w p n) : Calls Tryz.prog 64 #[.pointer p] w fun e w' => e = .returned (.int .i64 n) ∧ w' = w := by
  rcases h with ⟨rfl, rfl⟩ | ⟨b, rfl, hc⟩
  · go_enter Tryz.func64, Tryz.ntmps64
    go_wp2_with fail
    go_ret
    exact ⟨rfl, rfl⟩
  · go_enter Tryz.func64, Tryz.ntmps64
    go_wp2_with fail
    go_ret
    exact ⟨rfl, rfl⟩
end
end Bp
end Go.Proofs.YtfjdalepaacmgaaGreat
set_option maxRecDepth 20000
namespace Go.Proofs.YtfjdalepaacmgaaGreat
open Go.ChangeShapes Go.WideShapes Go.ChangeAt Go.RowKit

abbrev RwA : TypeId := 164
abbrev RgP : TypeId := 154
def rwV (a b c d e f g h i j k l m n o p q r s t : Int) : Array Value := #[.int .u64 a, .int .u64 b, .int .u64 c, .int .u64 d, .int .u64 e, .int .u64 f, .int .u64 g, .int .u64 h, .int .u64 i, .int .u64 j, .int .u64 k, .int .u64 l, .int .u64 m, .int .u64 n, .int .u64 o, .int .u64 p, .int .u64 q, .int .u64 r, .int .u64 s, .int .u64 t]
def rw0 : Array Value := rwV 0 0 0 0 0 0 0 0 0 0 0 0 0 0 0 0 0 0 0 0
def rwN (e : Int) : Array Value := rwV 0 4 1 32 4096 4 0 1 8192 128 0 e 2097152 4096 0 e 2097156 4096 0 e
theorem zero_rw : (#[Value.int IntKind.u64 0, Value.int IntKind.u64 0, Value.int IntKind.u64 0, Value.int IntKind.u64 0, Value.int IntKind.u64 0, Value.int IntKind.u64 0, Value.int IntKind.u64 0, Value.int IntKind.u64 0, Value.int IntKind.u64 0, Value.int IntKind.u64 0, Value.int IntKind.u64 0, Value.int IntKind.u64 0, Value.int IntKind.u64 0, Value.int IntKind.u64 0, Value.int IntKind.u64 0, Value.int IntKind.u64 0, Value.int IntKind.u64 0, Value.int IntKind.u64 0, Value.int IntKind.u64 0, Value.int IntKind.u64 0] : Array Value) = rw0 := rfl
theorem info_RwA : (Tryz.prog.info? RwA).map (·.size) = some 20 := by kernel_rfl
set_option maxRecDepth 100000 in
set_option maxHeartbeats 4000000 in
theorem rows_c (n : Nat) (hn : n ≤ 8) (w : World) : Calls Tryz.prog 97 #[.int .i64 n] w fun e w' => e = .returned (.agg (rwN (2 * (n : Int)))) ∧ Below w.heap.size w w' := by
  have HB0 := Lib.hid ((Below.refl w.heap.size w).alloc (Nat.le_refl _) (Obj.cells rw0 RwA))
  have HR0 := Lib.hid (CsAt.new w RwA rw0)
  have e0 : wrap64 (2 * (n : Int)) = 2 * (n : Int) := by unfold wrap64; omega
  go_enter Tryz.func97, Tryz.ntmps97
  go_upto_region 1 with fail
  rw [zero_rw]
  generalize w.alloc (Obj.cells rw0 RwA) = w1 at *
  go_wp2_with (refine wpList_store_row rfl RwA _ _ rfl w.heap.size (rwN (2 * (n : Int))) rfl rfl RwA rw0 HR0.out info_RwA rfl (by kernel_rfl) ?_)
  exact bodyPost_ret (results_cell_row Tryz.results97 _ _ _ RwA (rwN (2 * (n : Int))) _ _ rfl (HR0.out.row _) Tryz.underlying164 rfl info_RwA) rfl ⟨rfl, below_setRow HB0.out (Nat.le_refl _) _⟩
/-- A register as the code has it. -/
def prV (t : Nat × Nat) : Array Value := #[.int .i64 (if t.1 = 0 then 0 else (t.1 : Int) - 1), .int .u64 t.2]
def pr0 : Array Value := #[.int .i64 0, .int .u64 0]
theorem prV0 : prV (0, 0) = pr0 := rfl
theorem wrap_sub {a b : Int} (h0 : b ≤ a) (ha : a ≤ 18446744073709551615) (hb : 0 ≤ b) : IntKind.u64.wrap (a - b) = a - b := by rw [IntKind.wrap_u64]; omega
namespace Pc
/-- A register of a kind stands there. -/
def hit (n off : Int) (k : Nat) : Prop :=
  if k = 0 then off % 4 = 0 ∧ 4 ≤ off ∧ off ≤ 124 else if k = 1 then off = 4096 else if k = 2 then 8192 ≤ off ∧ (off - 8192) % 128 = 0 ∧ (off - 8192) / 128 < 2 * n
  else if k = 3 then 2097152 ≤ off ∧ (off - 2097152) % 4096 = 0 ∧ (off - 2097152) / 4096 < 2 * n else 2097156 ≤ off ∧ (off - 2097156) % 4096 = 0 ∧ (off - 2097156) / 4096 < 2 * n
def of (off : Int) (k : Nat) : Nat := if k = 0 then (off / 4).toNat else if k = 1 then 0 else if k = 2 then ((off - 8192) / 128).toNat else if k = 3 then ((off - 2097152) / 4096).toNat else ((off - 2097156) / 4096).toNat
theorem at_hit {n off : Int} {k : Nat} (hn : 1 ≤ n ∧ n ≤ 8) (hk : k < 5) (hb : ∀ j, j < k → ¬ hit n off j) (hh : hit n off k) : at_ n off 4 = (k + 1, of off k) := by
  have : k = 0 ∨ k = 1 ∨ k = 2 ∨ k = 3 ∨ k = 4 := by omega
  have h0 := hb 0
  have h1 := hb 1
  have h2 := hb 2
  have h3 := hb 3
  unfold at_
  rw [if_pos ⟨rfl, hn⟩]
  rcases this with rfl | rfl | rfl | rfl | rfl
  all_goals simp [hit] at hh h0 h1 h2 h3
  · rw [if_pos (by omega)]; rfl
  · rw [if_neg (by omega), if_pos (by omega)]; rfl
  · rw [if_neg (by omega), if_neg (by omega), if_pos (by omega)]; rfl
  · rw [if_neg (by omega), if_neg (by omega), if_neg (by omega), if_pos (by omega)]; rfl
  · rw [if_neg (by omega), if_neg (by omega), if_neg (by omega), if_neg (by omega), if_pos (by omega)]; rfl
theorem at_miss {n off : Int} (hb : ∀ j, j < 5 → ¬ hit n off j) : at_ n off 4 = (0, 0) := by
  have h0 := hb 0
  have h1 := hb 1
  have h2 := hb 2
  have h3 := hb 3
  have h4 := hb 4
  simp [hit] at h0 h1 h2 h3 h4
  unfold at_
  split
  · repeat (first | rw [if_neg (by omega)])
  · rfl
theorem at_bad {n off size : Int} (h : n < 1 ∨ 8 < n ∨ size ≠ 4) : at_ n off size = (0, 0) := by
  unfold at_
  rw [if_neg (by omega)]
theorem more {n off : Int} {k : Nat} (hb : ∀ j, j < k → ¬ hit n off j) (hk : ¬ hit n off k) : ∀ j, j < k + 1 → ¬ hit n off j := fun j hj => by
  by_cases e : j = k
  · rw [e]; exact hk
  · exact hb j (by omega)
end Pc
set_option maxRecDepth 100000 in
set_option maxHeartbeats 16000000 in
theorem plocate_c (h off size : Int) (o0 : 0 ≤ off) (o1 : off ≤ 18446744073709551615) (w : World) :
    Calls Tryz.prog 82 #[.int .i64 h, .int .u64 off, .int .i64 size] w fun e w' => e = .returned (.tuple #[.agg (prV (Pc.at_ h off size)), .bool (Pc.is h off size)]) ∧ Below w.heap.size w w' := by
  by_cases hbad : h < 1 ∨ 8 < h ∨ size ≠ 4
  · have HE := Lib.hid (Pc.at_bad (off := off) hbad)
    have HI := Lib.hid (show Pc.is h off size = false by unfold Pc.is; rw [HE.out]; rfl)
    by_cases b1 : h < 1
    · have g1 : decide (h < 1) = true := by simpa using b1
      clear hbad b1
      go_enter Tryz.func82, Tryz.ntmps82
      go_wp2_with fail
      exact bodyPost_ret (results_cb RgP Tryz.results82 _ _ w.heap.size _ _ rfl rfl (run_loadVar_row _ _ RgP RgP _ (0, 0) _ (CsAt.new _ RgP _) Tryz.underlying154 rfl (by kernel_rfl))) rfl ⟨by rw [HE.out, HI.out]; rfl, (Below.refl _ _).alloc (Nat.le_refl _) _⟩
    · have g1 : decide (h < 1) = false := by simpa using b1
      by_cases b2 : 8 < h
      · have g2 : decide (h > 8) = true := by simpa using b2
        clear hbad b1 b2
        go_enter Tryz.func82, Tryz.ntmps82
        go_wp2_with fail
        exact bodyPost_ret (results_cb RgP Tryz.results82 _ _ w.heap.size _ _ rfl rfl (run_loadVar_row _ _ RgP RgP _ (0, 0) _ (CsAt.new _ RgP _) Tryz.underlying154 rfl (by kernel_rfl))) rfl ⟨by rw [HE.out, HI.out]; rfl, (Below.refl _ _).alloc (Nat.le_refl _) _⟩
      · have g2 : decide (h > 8) = false := by simpa using b2
        have g3 : (size != 4) = true := by simp; omega
        clear hbad b1 b2
        go_enter Tryz.func82, Tryz.ntmps82
        go_wp2_with fail
        exact bodyPost_ret (results_cb RgP Tryz.results82 _ _ w.heap.size _ _ rfl rfl (run_loadVar_row _ _ RgP RgP _ (0, 0) _ (CsAt.new _ RgP _) Tryz.underlying154 rfl (by kernel_rfl))) rfl ⟨by rw [HE.out, HI.out]; rfl, (Below.refl _ _).alloc (Nat.le_refl _) _⟩
  · obtain ⟨n, rfl⟩ := Int.eq_ofNat_of_zero_le (by omega : 0 ≤ h)
    have hn : 1 ≤ (n : Int) ∧ (n : Int) ≤ 8 := by omega
    obtain rfl : size = 4 := by omega
    have g1 : decide ((n : Int) < 1) = false := by simp; omega
    have g2 : decide ((n : Int) > 8) = false := by simp; omega
    clear hbad
    have HB0 := Lib.hid ((Below.refl w.heap.size w).alloc (Nat.le_refl _) (Obj.cells pr0 RgP))
    have HR0 := Lib.hid (CsAt.new w RgP pr0)
    go_enter Tryz.func82, Tryz.ntmps82
    go_upto_region 1 with fail
    rw [show (#[Value.int IntKind.i64 0, Value.int IntKind.u64 0] : Array Value) = pr0 from rfl]
    generalize w.alloc (Obj.cells pr0 RgP) = w1 at *
    go_wp2_with fail
    refine (rows_c n (by omega) w1).mono ?_
    rintro e w2 ⟨rfl, hb2⟩
    have HB2 := Lib.hid (HB0.out.trans (hb2.mono HB0.out.size))
    have HR2 := Lib.hid (HR0.out.low hb2)
    clear hb2 HB0 HR0
    have hlt := HR2.out.lt
    go_wp2_with fail
    go_loopw [24] (fun i wr => ∃ k : Nat, k ≤ 5 ∧ i = .int .i64 k ∧ (∀ j, j < k → ¬ Pc.hit n off j) ∧ CsAt wr w.heap.size RgP pr0 ∧ Below w.heap.size w wr) (fun i _ => 5 - (intOf i).toNat)
    case atStart => exact ⟨0, by omega, rfl, fun j hj => by omega, HR2.out, HB2.out⟩
    case round =>
      obtain ⟨k, hk, rfl, hno, hr, hb⟩ := hrel
      have HNO := Lib.hid hno
      have HR := Lib.hid hr
      have HB := Lib.hid hb
      clear hno hr hb HR2 HB2
      have hk6 : k = 0 ∨ k = 1 ∨ k = 2 ∨ k = 3 ∨ k = 4 ∨ k = 5 := by omega
      have ix0 : ∀ W : World, (Instr.index RwA (.agg (rwN (2 * (n : Int)))) (.int .i64 0)).run Tryz.prog W = .ok (.agg #[.int .u64 0, .int .u64 4, .int .u64 1, .int .u64 32]) W := fun W => by kernel_rfl
      have ix1 : ∀ W : World, (Instr.index RwA (.agg (rwN (2 * (n : Int)))) (.int .i64 1)).run Tryz.prog W = .ok (.agg #[.int .u64 4096, .int .u64 4, .int .u64 0, .int .u64 1]) W := fun W => by kernel_rfl
      have ix2 : ∀ W : World, (Instr.index RwA (.agg (rwN (2 * (n : Int)))) (.int .i64 2)).run Tryz.prog W = .ok (.agg #[.int .u64 8192, .int .u64 128, .int .u64 0, .int .u64 (2 * (n : Int))]) W := fun W => by kernel_rfl
      have ix3 : ∀ W : World, (Instr.index RwA (.agg (rwN (2 * (n : Int)))) (.int .i64 3)).run Tryz.prog W = .ok (.agg #[.int .u64 2097152, .int .u64 4096, .int .u64 0, .int .u64 (2 * (n : Int))]) W := fun W => by kernel_rfl
      have ix4 : ∀ W : World, (Instr.index RwA (.agg (rwN (2 * (n : Int)))) (.int .i64 4)).run Tryz.prog W = .ok (.agg #[.int .u64 2097156, .int .u64 4096, .int .u64 0, .int .u64 (2 * (n : Int))]) W := fun W => by kernel_rfl
      rcases hk6 with rfl | rfl | rfl | rfl | rfl | rfl
      · by_cases c2 : off % 4 = 0
        · have g4 : (off % 4 == 0) = true := by simpa using c2
          by_cases c3 : off / 4 < 1
          · have hm := Pc.more HNO.out (show ¬ Pc.hit (n : Int) off 0 by simp [Pc.hit]; omega)
            have g5 : decide (off / 4 ≥ 1) = false := by simp; omega
            have HM := Lib.hid hm
            clear hm HNO c2 c3
            go_wp2_with fail
            go_roundw
            case rel => exact ⟨1, by omega, rfl, HM.out, HR.out.alloc _, HB.out.alloc HB.out.size _⟩
            case measure => simp [intOf]
          have g5 : decide (off / 4 ≥ 1) = true := by simp; omega
          by_cases c4 : off / 4 < 32
          · have g6 : decide (off / 4 < 32) = true := by simpa using c4
            have HE := Lib.hid (Pc.at_hit hn (by omega) HNO.out (show Pc.hit (n : Int) off 0 by simp [Pc.hit]; omega))
            have HI := Lib.hid (show Pc.is (n : Int) off 4 = true by unfold Pc.is; rw [HE.out]; rfl)
            have HV := Lib.hid (show off / 4 = ((Pc.of off 0 : Nat) : Int) by simp [Pc.of]; omega)
            clear HNO c4 c2
            have HR2 := Lib.hid (HR.out.alloc (Obj.cells #[.int .u64 0, .int .u64 4, .int .u64 1, .int .u64 (32)] 163))
            have HB2 := Lib.hid (HB.out.alloc HB.out.size (Obj.cells #[.int .u64 0, .int .u64 4, .int .u64 1, .int .u64 (32)] 163))
            go_wp2_with (refine wpList_store_row rfl RgP _ _ rfl w.heap.size #[.int .i64 0, .int .u64 (off / 4)] rfl rfl RgP pr0 HR2.out (by kernel_rfl) rfl (by kernel_rfl) ?_)
            exact bodyPost_ret (results_cb RgP Tryz.results82 _ _ w.heap.size _ _ rfl rfl (run_loadVar_row _ _ RgP RgP _ (0, 0) _ (HR2.out.row _) Tryz.underlying154 rfl (by kernel_rfl))) rfl ⟨by rw [HE.out, HI.out]; rw [HV.out]; rfl, below_setRow HB2.out (Nat.le_refl _) _⟩
          · have hm := Pc.more HNO.out (show ¬ Pc.hit (n : Int) off 0 by simp [Pc.hit]; omega)
            have g6 : decide (off / 4 < 32) = false := by simpa using c4
            have HM := Lib.hid hm
            clear hm HNO c2 c4
            go_wp2_with fail
            go_roundw
            case rel => exact ⟨1, by omega, rfl, HM.out, HR.out.alloc _, HB.out.alloc HB.out.size _⟩
            case measure => simp [intOf]
        · have g4 : (off % 4 == 0) = false := by simpa using c2
          have hm := Pc.more HNO.out (show ¬ Pc.hit (n : Int) off 0 by simp [Pc.hit]; omega)
          have HM := Lib.hid hm
          clear hm HNO c2
          go_wp2_with fail
          go_roundw
          case rel => exact ⟨1, by omega, rfl, HM.out, HR.out.alloc _, HB.out.alloc HB.out.size _⟩
          case measure => simp [intOf]
      · by_cases c1 : off < 4096
        · have hm := Pc.more HNO.out (show ¬ Pc.hit (n : Int) off 1 by simp [Pc.hit]; omega)
          have g3 : decide (off ≥ 4096) = false := by simp; omega
          have HM := Lib.hid hm
          clear hm HNO c1
          go_wp2_with fail
          go_roundw
          case rel => exact ⟨2, by omega, rfl, HM.out, HR.out.alloc _, HB.out.alloc HB.out.size _⟩
          case measure => simp [intOf]
        have g3 : decide (off ≥ 4096) = true := by simp; omega
        have hw : IntKind.u64.wrap (off - 4096) = off - 4096 := wrap_sub (by omega) o1 (by omega)
        by_cases c2 : (off - 4096) % 4 = 0
        · have g4 : ((off - 4096) % 4 == 0) = true := by simpa using c2
          have g5 : decide ((off - 4096) / 4 ≥ 0) = true := by simp; omega
          by_cases c4 : (off - 4096) / 4 < 1
          · have g6 : decide ((off - 4096) / 4 < 1) = true := by simpa using c4
            have HE := Lib.hid (Pc.at_hit hn (by omega) HNO.out (show Pc.hit (n : Int) off 1 by simp [Pc.hit]; omega))
            have HI := Lib.hid (show Pc.is (n : Int) off 4 = true by unfold Pc.is; rw [HE.out]; rfl)
            have HV := Lib.hid (show (off - 4096) / 4 = ((Pc.of off 1 : Nat) : Int) by simp [Pc.of]; omega)
            clear HNO c4 c2
            have HR2 := Lib.hid (HR.out.alloc (Obj.cells #[.int .u64 4096, .int .u64 4, .int .u64 0, .int .u64 (1)] 163))
            have HB2 := Lib.hid (HB.out.alloc HB.out.size (Obj.cells #[.int .u64 4096, .int .u64 4, .int .u64 0, .int .u64 (1)] 163))
            go_wp2_with (refine wpList_store_row rfl RgP _ _ rfl w.heap.size #[.int .i64 1, .int .u64 ((off - 4096) / 4)] rfl rfl RgP pr0 HR2.out (by kernel_rfl) rfl (by kernel_rfl) ?_)
            exact bodyPost_ret (results_cb RgP Tryz.results82 _ _ w.heap.size _ _ rfl rfl (run_loadVar_row _ _ RgP RgP _ (0, 0) _ (HR2.out.row _) Tryz.underlying154 rfl (by kernel_rfl))) rfl ⟨by rw [HE.out, HI.out]; rw [HV.out]; rfl, below_setRow HB2.out (Nat.le_refl _) _⟩
          · have hm := Pc.more HNO.out (show ¬ Pc.hit (n : Int) off 1 by simp [Pc.hit]; omega)
            have g6 : decide ((off - 4096) / 4 < 1) = false := by simpa using c4
            have HM := Lib.hid hm
            clear hm HNO c2 c4
            go_wp2_with fail
            go_roundw
            case rel => exact ⟨2, by omega, rfl, HM.out, HR.out.alloc _, HB.out.alloc HB.out.size _⟩
            case measure => simp [intOf]
        · have g4 : ((off - 4096) % 4 == 0) = false := by simpa using c2
          have hm := Pc.more HNO.out (show ¬ Pc.hit (n : Int) off 1 by simp [Pc.hit]; omega)
          have HM := Lib.hid hm
          clear hm HNO c2
          go_wp2_with fail
          go_roundw
          case rel => exact ⟨2, by omega, rfl, HM.out, HR.out.alloc _, HB.out.alloc HB.out.size _⟩
          case measure => simp [intOf]
      · by_cases c1 : off < 8192
        · have hm := Pc.more HNO.out (show ¬ Pc.hit (n : Int) off 2 by simp [Pc.hit]; omega)
          have g3 : decide (off ≥ 8192) = false := by simp; omega
          have HM := Lib.hid hm
          clear hm HNO c1
          go_wp2_with fail
          go_roundw
          case rel => exact ⟨3, by omega, rfl, HM.out, HR.out.alloc _, HB.out.alloc HB.out.size _⟩
          case measure => simp [intOf]
        have g3 : decide (off ≥ 8192) = true := by simp; omega
        have hw : IntKind.u64.wrap (off - 8192) = off - 8192 := wrap_sub (by omega) o1 (by omega)
        by_cases c2 : (off - 8192) % 128 = 0
        · have g4 : ((off - 8192) % 128 == 0) = true := by simpa using c2
          have g5 : decide ((off - 8192) / 128 ≥ 0) = true := by simp; omega
          by_cases c4 : (off - 8192) / 128 < 2 * (n : Int)
          · have g6 : decide ((off - 8192) / 128 < 2 * (n : Int)) = true := by simpa using c4
            have HE := Lib.hid (Pc.at_hit hn (by omega) HNO.out (show Pc.hit (n : Int) off 2 by simp [Pc.hit]; omega))
            have HI := Lib.hid (show Pc.is (n : Int) off 4 = true by unfold Pc.is; rw [HE.out]; rfl)
            have HV := Lib.hid (show (off - 8192) / 128 = ((Pc.of off 2 : Nat) : Int) by simp [Pc.of]; omega)
            clear HNO c4 c2
            have HR2 := Lib.hid (HR.out.alloc (Obj.cells #[.int .u64 8192, .int .u64 128, .int .u64 0, .int .u64 (2 * (n : Int))] 163))
            have HB2 := Lib.hid (HB.out.alloc HB.out.size (Obj.cells #[.int .u64 8192, .int .u64 128, .int .u64 0, .int .u64 (2 * (n : Int))] 163))
            go_wp2_with (refine wpList_store_row rfl RgP _ _ rfl w.heap.size #[.int .i64 2, .int .u64 ((off - 8192) / 128)] rfl rfl RgP pr0 HR2.out (by kernel_rfl) rfl (by kernel_rfl) ?_)
            exact bodyPost_ret (results_cb RgP Tryz.results82 _ _ w.heap.size _ _ rfl rfl (run_loadVar_row _ _ RgP RgP _ (0, 0) _ (HR2.out.row _) Tryz.underlying154 rfl (by kernel_rfl))) rfl ⟨by rw [HE.out, HI.out]; rw [HV.out]; rfl, below_setRow HB2.out (Nat.le_refl _) _⟩
          · have hm := Pc.more HNO.out (show ¬ Pc.hit (n : Int) off 2 by simp [Pc.hit]; omega)
            have g6 : decide ((off - 8192) / 128 < 2 * (n : Int)) = false := by simpa using c4
            have HM := Lib.hid hm
            clear hm HNO c2 c4
            go_wp2_with fail
            go_roundw
            case rel => exact ⟨3, by omega, rfl, HM.out, HR.out.alloc _, HB.out.alloc HB.out.size _⟩
            case measure => simp [intOf]
        · have g4 : ((off - 8192) % 128 == 0) = false := by simpa using c2
          have hm := Pc.more HNO.out (show ¬ Pc.hit (n : Int) off 2 by simp [Pc.hit]; omega)
          have HM := Lib.hid hm
          clear hm HNO c2
          go_wp2_with fail
          go_roundw
          case rel => exact ⟨3, by omega, rfl, HM.out, HR.out.alloc _, HB.out.alloc HB.out.size _⟩
          case measure => simp [intOf]
      · by_cases c1 : off < 2097152
        · have hm := Pc.more HNO.out (show ¬ Pc.hit (n : Int) off 3 by simp [Pc.hit]; omega)
          have g3 : decide (off ≥ 2097152) = false := by simp; omega
          have HM := Lib.hid hm
          clear hm HNO c1
          go_wp2_with fail
          go_roundw
          case rel => exact ⟨4, by omega, rfl, HM.out, HR.out.alloc _, HB.out.alloc HB.out.size _⟩
          case measure => simp [intOf]
        have g3 : decide (off ≥ 2097152) = true := by simp; omega
        have hw : IntKind.u64.wrap (off - 2097152) = off - 2097152 := wrap_sub (by omega) o1 (by omega)
        by_cases c2 : (off - 2097152) % 4096 = 0
        · have g4 : ((off - 2097152) % 4096 == 0) = true := by simpa using c2
          have g5 : decide ((off - 2097152) / 4096 ≥ 0) = true := by simp; omega
          by_cases c4 : (off - 2097152) / 4096 < 2 * (n : Int)
          · have g6 : decide ((off - 2097152) / 4096 < 2 * (n : Int)) = true := by simpa using c4
            have HE := Lib.hid (Pc.at_hit hn (by omega) HNO.out (show Pc.hit (n : Int) off 3 by simp [Pc.hit]; omega))
            have HI := Lib.hid (show Pc.is (n : Int) off 4 = true by unfold Pc.is; rw [HE.out]; rfl)
            have HV := Lib.hid (show (off - 2097152) / 4096 = ((Pc.of off 3 : Nat) : Int) by simp [Pc.of]; omega)
            clear HNO c4 c2
            have HR2 := Lib.hid (HR.out.alloc (Obj.cells #[.int .u64 2097152, .int .u64 4096, .int .u64 0, .int .u64 (2 * (n : Int))] 163))
            have HB2 := Lib.hid (HB.out.alloc HB.out.size (Obj.cells #[.int .u64 2097152, .int .u64 4096, .int .u64 0, .int .u64 (2 * (n : Int))] 163))
            go_wp2_with (refine wpList_store_row rfl RgP _ _ rfl w.heap.size #[.int .i64 3, .int .u64 ((off - 2097152) / 4096)] rfl rfl RgP pr0 HR2.out (by kernel_rfl) rfl (by kernel_rfl) ?_)
            exact bodyPost_ret (results_cb RgP Tryz.results82 _ _ w.heap.size _ _ rfl rfl (run_loadVar_row _ _ RgP RgP _ (0, 0) _ (HR2.out.row _) Tryz.underlying154 rfl (by kernel_rfl))) rfl ⟨by rw [HE.out, HI.out]; rw [HV.out]; rfl, below_setRow HB2.out (Nat.le_refl _) _⟩
          · have hm := Pc.more HNO.out (show ¬ Pc.hit (n : Int) off 3 by simp [Pc.hit]; omega)
            have g6 : decide ((off - 2097152) / 4096 < 2 * (n : Int)) = false := by simpa using c4
            have HM := Lib.hid hm
            clear hm HNO c2 c4
            go_wp2_with fail
            go_roundw
            case rel => exact ⟨4, by omega, rfl, HM.out, HR.out.alloc _, HB.out.alloc HB.out.size _⟩
            case measure => simp [intOf]
        · have g4 : ((off - 2097152) % 4096 == 0) = false := by simpa using c2
          have hm := Pc.more HNO.out (show ¬ Pc.hit (n : Int) off 3 by simp [Pc.hit]; omega)
          have HM := Lib.hid hm
          clear hm HNO c2
          go_wp2_with fail
          go_roundw
          case rel => exact ⟨4, by omega, rfl, HM.out, HR.out.alloc _, HB.out.alloc HB.out.size _⟩
          case measure => simp [intOf]
      · by_cases c1 : off < 2097156
        · have hm := Pc.more HNO.out (show ¬ Pc.hit (n : Int) off 4 by simp [Pc.hit]; omega)
          have g3 : decide (off ≥ 2097156) = false := by simp; omega
          have HM := Lib.hid hm
          clear hm HNO c1
          go_wp2_with fail
          go_roundw
          case rel => exact ⟨5, by omega, rfl, HM.out, HR.out.alloc _, HB.out.alloc HB.out.size _⟩
          case measure => simp [intOf]
        have g3 : decide (off ≥ 2097156) = true := by simp; omega
        have hw : IntKind.u64.wrap (off - 2097156) = off - 2097156 := wrap_sub (by omega) o1 (by omega)
        by_cases c2 : (off - 2097156) % 4096 = 0
        · have g4 : ((off - 2097156) % 4096 == 0) = true := by simpa using c2
          have g5 : decide ((off - 2097156) / 4096 ≥ 0) = true := by simp; omega
          by_cases c4 : (off - 2097156) / 4096 < 2 * (n : Int)
          · have g6 : decide ((off - 2097156) / 4096 < 2 * (n : Int)) = true := by simpa using c4
            have HE := Lib.hid (Pc.at_hit hn (by omega) HNO.out (show Pc.hit (n : Int) off 4 by simp [Pc.hit]; omega))
            have HI := Lib.hid (show Pc.is (n : Int) off 4 = true by unfold Pc.is; rw [HE.out]; rfl)
            have HV := Lib.hid (show (off - 2097156) / 4096 = ((Pc.of off 4 : Nat) : Int) by simp [Pc.of]; omega)
            clear HNO c4 c2
            have HR2 := Lib.hid (HR.out.alloc (Obj.cells #[.int .u64 2097156, .int .u64 4096, .int .u64 0, .int .u64 (2 * (n : Int))] 163))
            have HB2 := Lib.hid (HB.out.alloc HB.out.size (Obj.cells #[.int .u64 2097156, .int .u64 4096, .int .u64 0, .int .u64 (2 * (n : Int))] 163))
            go_wp2_with (refine wpList_store_row rfl RgP _ _ rfl w.heap.size #[.int .i64 4, .int .u64 ((off - 2097156) / 4096)] rfl rfl RgP pr0 HR2.out (by kernel_rfl) rfl (by kernel_rfl) ?_)
            exact bodyPost_ret (results_cb RgP Tryz.results82 _ _ w.heap.size _ _ rfl rfl (run_loadVar_row _ _ RgP RgP _ (0, 0) _ (HR2.out.row _) Tryz.underlying154 rfl (by kernel_rfl))) rfl ⟨by rw [HE.out, HI.out]; rw [HV.out]; rfl, below_setRow HB2.out (Nat.le_refl _) _⟩
          · have hm := Pc.more HNO.out (show ¬ Pc.hit (n : Int) off 4 by simp [Pc.hit]; omega)
            have g6 : decide ((off - 2097156) / 4096 < 2 * (n : Int)) = false := by simpa using c4
            have HM := Lib.hid hm
            clear hm HNO c2 c4
            go_wp2_with fail
            go_roundw
            case rel => exact ⟨5, by omega, rfl, HM.out, HR.out.alloc _, HB.out.alloc HB.out.size _⟩
            case measure => simp [intOf]
        · have g4 : ((off - 2097156) % 4096 == 0) = false := by simpa using c2
          have hm := Pc.more HNO.out (show ¬ Pc.hit (n : Int) off 4 by simp [Pc.hit]; omega)
          have HM := Lib.hid hm
          clear hm HNO c2
          go_wp2_with fail
          go_roundw
          case rel => exact ⟨5, by omega, rfl, HM.out, HR.out.alloc _, HB.out.alloc HB.out.size _⟩
          case measure => simp [intOf]
      · have HE := Lib.hid (Pc.at_miss HNO.out)
        have HI := Lib.hid (show Pc.is (n : Int) off 4 = false by unfold Pc.is; rw [HE.out]; rfl)
        clear HNO
        go_wp2_with (refine wpList_store_row rfl RgP _ _ rfl w.heap.size pr0 rfl rfl RgP pr0 HR.out (by kernel_rfl) rfl (by kernel_rfl) ?_)
        exact bodyPost_ret (results_cb RgP Tryz.results82 _ _ w.heap.size _ _ rfl rfl (run_loadVar_row _ _ RgP RgP _ (0, 0) _ (HR.out.row _) Tryz.underlying154 rfl (by kernel_rfl))) rfl ⟨by rw [HE.out, HI.out]; rfl, below_setRow HB.out (Nat.le_refl _) _⟩
set_option maxHeartbeats 4000000 in
theorem pfits_c (h off size : Int) (o0 : 0 ≤ off) (o1 : off ≤ 18446744073709551615) (w : World) :
    Calls Tryz.prog 90 #[.int .i64 h, .int .u64 off, .int .i64 size] w fun e w' => e = .returned (.bool (Pc.is h off size)) ∧ Below w.heap.size w w' := by
  have HL := Lib.hid (plocate_c h off size o0 o1 w)
  obtain ⟨q, hq⟩ : ∃ q, q = Pc.is h off size := ⟨_, rfl⟩
  obtain ⟨a, b, hab⟩ : ∃ a b, prV (Pc.at_ h off size) = #[.int .i64 a, .int .u64 b] := ⟨_, _, rfl⟩
  rw [← hq, hab] at HL
  rw [← hq]
  clear hq hab
  go_enter Tryz.func90, Tryz.ntmps90
  go_wp2_with fail
  refine HL.out.mono ?_
  rintro e w1 ⟨rfl, hb1⟩
  have HB := Lib.hid (hb1.alloc hb1.size (Obj.cells #[.int .i64 a, .int .u64 b] RgP))
  go_wp2_with fail
  go_ret
  exact ⟨rfl, HB.out⟩
theorem zero_pt (W : World) : (zeroValue PT).run Tryz.prog W = .ok (.agg (ctV 0 Pc.zeros)) W := by kernel_rfl
theorem iPTz {n : Nat} : (Tryz.prog.info? PT).map (·.size) = some (ctV n Pc.zeros).size := iPT rfl
set_option maxRecDepth 100000 in
set_option maxHeartbeats 4000000 in
theorem pnew_c (harts : Int) (w : World) : Calls Tryz.prog 16 #[.int .i64 harts] w fun e w' => e = .returned (.agg (ctV (Ct.cnt harts) Pc.zeros)) ∧ Below w.heap.size w w' := by
  have HB0 := Lib.hid ((Below.refl w.heap.size w).alloc (Nat.le_refl _) (Obj.cells (ctV 0 Pc.zeros) PT))
  have HR0 := Lib.hid (CsAt.new w PT (ctV 0 Pc.zeros))
  have hz := zero_pt
  by_cases hlo : harts < 1
  · have HE := Lib.hid (show Ct.cnt harts = 0 by unfold Ct.cnt; rw [if_neg (by omega)])
    rw [HE.out]
    have g0 : decide (harts < 1) = true := by simpa using hlo
    clear hlo
    go_enter Tryz.func16, Tryz.ntmps16
    go_upto_region 1 with fail
    go_wp2_with (refine wpList_storeNew (w0 := w) rfl PT _ _ rfl _ (ctV 0 Pc.zeros) _ rfl rfl iPTz rfl ctV_one ?_)
    exact bodyPost_ret (results_cell_row Tryz.results16 _ _ _ _ _ _ _ rfl HR0.out Tryz.underlying76 rfl iPTz) rfl ⟨rfl, HB0.out⟩
  · have g0 : decide (harts < 1) = false := by simpa using hlo
    by_cases hhi : 8 < harts
    · have HE := Lib.hid (show Ct.cnt harts = 0 by unfold Ct.cnt; rw [if_neg (by omega)])
      rw [HE.out]
      have g1 : decide (harts > 8) = true := by simpa using hhi
      clear hlo hhi
      go_enter Tryz.func16, Tryz.ntmps16
      go_upto_region 1 with fail
      go_wp2_with (refine wpList_storeNew (w0 := w) rfl PT _ _ rfl _ (ctV 0 Pc.zeros) _ rfl rfl iPTz rfl ctV_one ?_)
      exact bodyPost_ret (results_cell_row Tryz.results16 _ _ _ _ _ _ _ rfl HR0.out Tryz.underlying76 rfl iPTz) rfl ⟨rfl, HB0.out⟩
    · obtain ⟨n, hn⟩ : ∃ n : Nat, harts = n := ⟨harts.toNat, by omega⟩
      subst hn
      have HE := Lib.hid (show Ct.cnt (n : Int) = n by unfold Ct.cnt; rw [if_pos (by omega)]; omega)
      rw [HE.out]
      have g1 : decide ((n : Int) > 8) = false := by simpa using hhi
      have HB1 := Lib.hid ((Below.refl w.heap.size w).alloc (Nat.le_refl _) (Obj.cells (ctV n Pc.zeros) PT))
      have HR1 := Lib.hid (CsAt.new w PT (ctV n Pc.zeros))
      clear hlo hhi HE
      go_enter Tryz.func16, Tryz.ntmps16
      go_upto_region 1 with fail
      go_wp2_with (refine wpList_storeNew (w0 := w) rfl PT _ _ rfl _ (ctV n Pc.zeros) _ rfl rfl iPTz rfl ctV_one ?_)
      exact bodyPost_ret (results_cell_row Tryz.results16 _ _ _ _ _ _ _ rfl HR1.out Tryz.underlying76 rfl iPTz) rfl ⟨rfl, HB1.out⟩
end Go.Proofs.YtfjdalepaacmgaaGreat
set_option maxRecDepth 20000
namespace Go.Proofs.YtfjdalepaacmgaaGreat
open Go.ChangeShapes Go.WideShapes Go.ChangeAt Go.RowKit
namespace Pc
open Wd
theorem div_zero {S : Int} (h0 : 0 ≤ S) {k : Nat} (h : S / 2 ^ k = 0) : ∀ j, k ≤ j → tb S j = false := fun j hj => by
  have := tb_div h0 k (j - k)
  rw [h, tb_zero, show j - k + k = j by omega] at this
  exact this.symm
theorem div_lt {S : Int} (h : St S) {k : Nat} (hk : ¬ S / 2 ^ k = 0) : k < 32 := by
  apply Nat.lt_of_not_le
  intro hc
  apply hk
  refine Int.ediv_eq_zero_of_lt h.lo (Int.lt_of_lt_of_le h.lt32 ?_)
  have h2 : 2 ^ 32 ≤ 2 ^ k := Nat.pow_le_pow_right (by omega) hc
  have h3 : ((2 ^ 32 : Nat) : Int) ≤ ((2 ^ k : Nat) : Int) := by exact_mod_cast h2
  simpa using h3
theorem div_tb {S : Int} (h0 : 0 ≤ S) (h1 : S < 18446744073709551616) (k : Nat) : (Go.bits .and .u64 (S / 2 ^ k) 1 == 1) = tb S k := by
  have hr := div_range h0 h1 k
  rw [Ct.and_one hr.1 hr.2]
  have := tb_div h0 k 0
  rw [Nat.zero_add] at this
  rw [← this, tb, Nat.testBit_zero]
  have h2 : ((S / 2 ^ k).toNat : Int) = S / 2 ^ k := Int.toNat_of_nonneg hr.1
  apply Bool.eq_iff_iff.2
  simp only [beq_iff_eq, decide_eq_true_eq]
  omega
theorem div_next {S : Int} (k : Nat) : S / 2 ^ k / 2 = S / 2 ^ (k + 1) := by
  rw [Int.pow_succ, ← Int.ediv_ediv_of_nonneg (Int.pow_nonneg (by omega))]
theorem up_rng {S : Int} {pr : Nat → Int} {lv : Int} (hp : ∀ i, i < 32 → 0 ≤ pr i ∧ pr i < 8) (hl : 0 ≤ lv ∧ lv ≤ 18446744073709551615) : ∀ k, k ≤ 32 → 0 ≤ (up S pr lv k).2 ∧ (up S pr lv k).2 ≤ 18446744073709551615
  | 0, _ => hl
  | k + 1, hk => by
    have := up_rng (S := S) hp hl k (by omega)
    have := hp k (by omega)
    unfold up
    split
    · simp only; omega
    · omega
end Pc
namespace Bp
section
variable {S : SurP}
set_option maxHeartbeats 8000000 in
theorem pbest_c (b n : Nat) (ws : List Int) (c : Nat) (hc : c < 16) (lv : Int) (l0 : 0 ≤ lv) (l1 : lv ≤ 18446744073709551615) (w : World) (h : BpAt S w b n ws) :
    Calls Tryz.prog 80 #[.pointer (some ⟨b, 20, none⟩), .int .u64 c, .int .u64 lv] w fun e w' => e = .returned (.int .u64 (Pc.bst ws c lv)) ∧ Below w.heap.size w w' := by
  have hc1 := h.cell (show 1 < 67 by omega)
  have hc2 := h.cell (show 35 + c < 67 by omega)
  rw [show 35 + c + 21 = 56 + c by omega] at hc2
  have gc : (c : Int) < 16 := by omega
  have hS : Pc.St (bits .and .u64 (ws.getD 1 0) (ws.getD (35 + c) 0)) := h.ok.wait.and (h.ok.en c hc).lo (h.ok.en c hc).hi
  have HG := Lib.hid (show Pc.bst ws c lv = Pc.best (bits .and .u64 (ws.getD 1 0) (ws.getD (35 + c) 0)) (fun i => ws.getD (3 + i) 0) lv from rfl)
  rw [HG.out]
  have HP := Lib.hid h.ok.pri
  have HA := Lib.hid h
  clear h HG
  obtain ⟨pr, hpr⟩ : ∃ pr : Nat → Int, pr = fun i => ws.getD (3 + i) 0 := ⟨_, rfl⟩
  have HPK := Lib.hid (fun i => show ws.getD (3 + i) 0 = pr i by rw [hpr])
  rw [← hpr]
  clear hpr
  generalize ws.getD 1 0 = wa at *
  generalize ws.getD (35 + c) 0 = we at *
  obtain ⟨S, hSe⟩ : ∃ S, bits .and .u64 wa we = S := ⟨_, rfl⟩
  rw [hSe] at hS ⊢
  have HS := Lib.hid hS
  clear hS
  go_enter Tryz.func80, Tryz.ntmps80
  go_wp2_with fail
  go_quiet (fail)
  have HB := Lib.hid (below_dnC (Below.refl w.heap.size w) nq)
  clear hc1 hc2 hSe
  go_wp2_with fail
  go_loopw [2, 7, 8, 9] (fun lvv fv sv kv wr => ∃ k : Nat, k ≤ 32 ∧ kv = .int .u64 k ∧ sv = .int .u64 (S / 2 ^ k) ∧ fv = .int .u64 ((Pc.up S pr lv k).1 : Nat) ∧ lvv = .int .u64 (Pc.up S pr lv k).2 ∧ Below w.heap.size w wr) (fun _ _ _ kv _ => 32 - (intOf kv).toNat)
  case atStart => exact ⟨0, by omega, rfl, by simp, rfl, rfl, HB.out⟩
  case round =>
    obtain ⟨k, hk, rfl, rfl, rfl, rfl, hb⟩ := hrel
    have HBR := Lib.hid hb
    have hup := Pc.up_rng (S := S) (pr := pr) (lv := lv) (fun i hi => by rw [← HPK.out]; exact HP.out i hi) ⟨l0, l1⟩ k hk
    clear hb HB
    by_cases hz : S / 2 ^ k = 0
    · have HF := Lib.hid (show Pc.best S pr lv = (Pc.up S pr lv k).1 by rw [Pc.best, Pc.up_stop (Pc.div_zero HS.out.lo hz) 32 hk])
      rw [hz]
      clear hz
      generalize Pc.up S pr lv k = u at *
      obtain ⟨u1, u2⟩ := u
      simp only at *
      go_wp2_with fail
      go_ret
      exact ⟨by rw [HF.out]; rfl, HBR.out⟩
    · have hk32 := Pc.div_lt HS.out hz
      have gb := Pc.div_tb HS.out.lo HS.out.hi k
      have HN := Lib.hid (Pc.div_next (S := S) k)
      have e0 : (S / 2 ^ k != 0) = true := by simpa using hz
      have hx := Wd.div_range HS.out.lo HS.out.hi k
      have HUP := Lib.hid (show Pc.up S pr lv (k + 1) = if Wd.tb S k = true ∧ pr k > (Pc.up S pr lv k).2 then (k, pr k) else Pc.up S pr lv k from rfl)
      have gk : (k : Int) < 32 := by omega
      clear hz
      generalize S / 2 ^ k = x at *
      generalize Pc.up S pr lv k = u at *
      obtain ⟨u1, u2⟩ := u
      simp only at *
      cases ht : Wd.tb S k with
      | true =>
        rw [ht] at gb HUP
        have hcp := (HA.out.low HBR.out).cell (show 3 + k < 67 by omega)
        rw [show 3 + k + 21 = 24 + k by omega, HPK.out] at hcp
        have hpk := HP.out k hk32
        rw [HPK.out] at hpk
        by_cases hg : u2 < pr k
        · have e1 : decide (pr k > u2) = true := by simpa using hg
          rw [if_pos ⟨rfl, hg⟩] at HUP
          clear hg ht
          generalize pr k = p at *
          go_wp2_with fail
          go_quiet (fail)
          have HB3 := Lib.hid (below_dnC HBR.out nq)
          go_wp2_with fail
          go_roundw
          case rel => exact ⟨k + 1, by omega, by go_num, by rw [← HN.out], by rw [HUP.out], by rw [HUP.out], HB3.out⟩
          case measure => simp [intOf]; omega
        · have e1 : decide (pr k > u2) = false := by simpa using hg
          rw [if_neg (by omega)] at HUP
          clear hg ht
          generalize pr k = p at *
          go_wp2_with fail
          go_roundw
          case rel => exact ⟨k + 1, by omega, by go_num, by rw [← HN.out], by rw [HUP.out], by rw [HUP.out], HBR.out⟩
          case measure => simp [intOf]; omega
      | false =>
        rw [ht] at gb HUP
        rw [if_neg (by simp)] at HUP
        clear ht
        go_wp2_with fail
        go_roundw
        case rel => exact ⟨k + 1, by omega, by go_num, by rw [← HN.out], by rw [HUP.out], by rw [HUP.out], HBR.out⟩
        case measure => simp [intOf]; omega
end
end Bp
end Go.Proofs.YtfjdalepaacmgaaGreat
