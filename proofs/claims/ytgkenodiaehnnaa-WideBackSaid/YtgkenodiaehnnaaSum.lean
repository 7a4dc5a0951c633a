/-
  Contracts of wide's Plus, Neg and Over (layer 2).
-/
import Derived.Test.YtgkenodiaehnnaaDiv64
import Derived.Laws.Externs
import Derived.RegionTactic
namespace Go.Proofs.Ytgkenodiaehnnaa
open Go.ChangeShapes Go.WideShapes Go.ChangeAt Go.RowKit Wd
set_option linter.unusedVariables false

theorem add64_run (x y c : Int) (hx : 0 ≤ x) (hy : 0 ≤ y) (hc0 : 0 ≤ c) (hc : c ≤ 1) (w : World) : (callFunc 66 #[.int .u64 x, .int .u64 y, .int .u64 c]).run Try.prog w =
    .ok (.value (.tuple #[.int .u64 ((x + y + c) % 18446744073709551616), .int .u64 ((x + y + c) / 18446744073709551616)])) w := by
  rw [run_callFunc_extern Try.func66 (by kernel_rfl) (by kernel_rfl) (by kernel_rfl) (e := add64Entry) (by kernel_rfl), run_add64 x y c hx hy hc0 hc]
  simp only [Result.andThen]
theorem add64_run0 (x y : Int) (hx : 0 ≤ x) (hy : 0 ≤ y) (w : World) : (callFunc 66 #[.int .u64 x, .int .u64 y, .int .u64 0]).run Try.prog w =
    .ok (.value (.tuple #[.int .u64 ((x + y) % 18446744073709551616), .int .u64 ((x + y) / 18446744073709551616)])) w := by
  simpa using add64_run x y 0 hx hy (Int.le_refl 0) (by decide) w

set_option maxHeartbeats 1000000 in
theorem plus_c (ah al bh bl : Int) (w : World) (a0 : 0 ≤ ah) (a1 : 0 ≤ al) (a2 : al < 18446744073709551616) (b0 : 0 ≤ bh) (b1 : 0 ≤ bl) (b2 : bl < 18446744073709551616) :
    Calls Try.prog 43 #[.agg #[.int .u64 ah, .int .u64 al], .agg #[.int .u64 bh, .int .u64 bl]] w fun e w' =>
      e = .returned (.agg #[.int .u64 ((ah + bh + (al + bl) / 18446744073709551616) % 18446744073709551616), .int .u64 ((al + bl) % 18446744073709551616)]) ∧ Below w.heap.size w w' := by
  have k0 : 0 ≤ (al + bl) / 18446744073709551616 := by omega
  have k1 : (al + bl) / 18446744073709551616 ≤ 1 := by omega
  go_enter Try.func43, Try.ntmps43
  go_wp2_with (first | simp only [add64_run0 al bl a1 b1] | simp only [add64_run ah bh _ a0 b0 k0 k1])
  refine bodyPost_ret (v := .agg #[.int .u64 ((ah + bh + (al + bl) / 18446744073709551616) % 18446744073709551616), .int .u64 ((al + bl) % 18446744073709551616)]) (by simp [results, Try.results43, go_sem]) rfl ⟨rfl, ?_⟩
  exact (((Below.refl _ _).alloc (Nat.le_refl _) _).alloc (by simp) _).alloc (by simp; omega) _
theorem not64 {x : Int} (h0 : 0 ≤ x) (h : x < 18446744073709551616) : bits .xor .u64 18446744073709551615 x = 18446744073709551615 - x := by
  rw [u64_xor 18446744073709551615 x (by omega) (by omega) h0 h]
  obtain ⟨X, rfl⟩ := Int.eq_ofNat_of_zero_le h0
  have e : (18446744073709551615 : Int).toNat = 2 ^ 64 - 1 := by decide
  have : (2 ^ 64 - 1) ^^^ X = 2 ^ 64 - (X + 1) := by
    apply Nat.eq_of_testBit_eq
    intro i
    rw [Nat.testBit_xor, Nat.testBit_two_pow_sub_one, Nat.testBit_two_pow_sub_succ (by omega)]
    by_cases hi : i < 64
    · simp [hi]
    · have : X.testBit i = false := by
        apply Nat.testBit_lt_two_pow
        have h2 : 2 ^ 64 ≤ 2 ^ i := Nat.pow_le_pow_right (by decide) (by omega)
        omega
      simp [hi, this]
  rw [e, Int.toNat_natCast, this]
  omega
theorem notMax {x : Int} (h0 : 0 ≤ x) (h : x < 18446744073709551616) : bits .xor .u64 IntKind.u64.max x = 18446744073709551615 - x := by
  have e : IntKind.u64.max = 18446744073709551615 := by decide
  rw [e]
  exact not64 h0 h
def negH (ah al : Int) : Int := (18446744073709551615 - ah + (18446744073709551615 - al + 1) / 18446744073709551616) % 18446744073709551616
def negL (al : Int) : Int := (18446744073709551615 - al + 1) % 18446744073709551616
set_option maxHeartbeats 1000000 in
theorem neg_c (ah al : Int) (w : World) (a0 : 0 ≤ ah) (a1 : ah < 18446744073709551616) (b0 : 0 ≤ al) (b1 : al < 18446744073709551616) :
    Calls Try.prog 44 #[.agg #[.int .u64 ah, .int .u64 al]] w fun e w' => e = .returned (.agg #[.int .u64 (negH ah al), .int .u64 (negL al)]) ∧ Below w.heap.size w w' := by
  have e1 := notMax a0 a1
  have e2 := notMax b0 b1
  have hs : IntKind.u64.signed = false := rfl
  go_enter Try.func44, Try.ntmps44
  go_wp2_with fail
  refine (plus_c _ _ _ _ _ (by omega) (by omega) (by omega) (by omega) (by omega) (by omega)).mono ?_
  rintro e w1 ⟨rfl, hB⟩
  have hc0 := hB.cell (p := ⟨w.heap.size + 1, 0, none⟩) (by simp)
  have hc1 := hB.cell (p := ⟨w.heap.size + 1, 1, none⟩) (by simp)
  have hf := hB.frozen (p := ⟨w.heap.size + 1, 0, none⟩) (by simp)
  have hf1 := hB.frozen (p := ⟨w.heap.size + 1, 1, none⟩) (by simp)
  have hz : w.heap.size + 2 ≤ w1.heap.size := by have := hB.size; simp at this; omega
  have HB := Lib.hid hB
  clear hB e1 e2
  simp at hc0 hc1 hf hf1
  go_wp2_with fail
  refine bodyPost_ret (v := .agg #[.int .u64 (negH ah al), .int .u64 (negL al)]) (by simp [results, Try.results44, go_sem, hc0, hc1, negH, negL]) rfl ⟨rfl, ?_⟩
  have hB := HB.out
  exact (((((Below.refl _ _).alloc (Nat.le_refl _) _).alloc (by simp) _).trans (hB.mono (by simp; omega))).setCell (by simp) _).setCell (by simp) _

def overQ (l x b : Int) : Int := (l * 18446744073709551616 + x) / b
def overR (l x b : Int) : Int := (l * 18446744073709551616 + x) % b
set_option maxHeartbeats 1000000 in
theorem next_c (x l b : Int) (pl pb : Addr) (w : World) (x0 : 0 ≤ x) (x1 : x < 18446744073709551616) (l0 : 0 ≤ l) (l1 : l < b) (b1 : b < 18446744073709551616)
    (cl : w.cell? pl = some (.int .u64 l)) (cb : w.cell? pb = some (.int .u64 b)) (fl : w.frozen? pl = false) :
    Calls Try.prog 67 #[.int .u64 x, .pointer (some pl), .pointer (some pb)] w fun e w' => e = .returned (.int .u64 (overQ l x b)) ∧ ∃ n, w' = (w.drewN n).setCell pl (.int .u64 (overR l x b)) := by
  go_enter Try.func67, Try.ntmps67
  go_wp2_with fail
  refine (div64_c _ _ _ _ x0 x1 l0 l1 b1).mono ?_
  rintro e w1 ⟨rfl, n, rfl⟩
  go_wp2_with fail
  go_ret
  exact ⟨rfl, n, rfl⟩
set_option maxHeartbeats 1000000 in
theorem overW_0 (h l : Int) (w : World) :
    Calls Try.prog 45 #[.agg #[.int .u64 h, .int .u64 l], .int .u64 0] w fun e w' => e = .returned (.tuple #[.agg #[.int .u64 0, .int .u64 0], .int .u64 0, .bool false]) ∧ Below w.heap.size w w' := by
  go_enter Try.func45, Try.ntmps45
  go_wp2
  refine bodyPost_ret (v := .tuple #[.agg #[.int .u64 0, .int .u64 0], .int .u64 0, .bool false]) (by simp [results, Try.results45, go_sem]) rfl ⟨rfl, ?_⟩
  exact (((Below.refl _ _).alloc (Nat.le_refl _) _).alloc (by simp) _).alloc (by simp; omega) _
/-- What Over's own memory holds: the number, the divisor, the result's place, and what is left. -/
def OvMem (w0 w : World) (h l b r : Int) : Prop :=
  Below w0.heap.size w0 w ∧ w.cell? ⟨w0.heap.size, 0, none⟩ = some (.int .u64 h) ∧ w.cell? ⟨w0.heap.size, 1, none⟩ = some (.int .u64 l) ∧ w.cell? ⟨w0.heap.size + 1, 0, none⟩ = some (.int .u64 b) ∧
  w.cell? ⟨w0.heap.size + 1 + 1, 0, none⟩ = some (.int .u64 0) ∧ w.cell? ⟨w0.heap.size + 1 + 1, 1, none⟩ = some (.int .u64 0) ∧ w.frozen? ⟨w0.heap.size + 1 + 1, 0, none⟩ = false ∧ w.frozen? ⟨w0.heap.size + 1 + 1, 1, none⟩ = false ∧
  w.cell? ⟨w0.heap.size + 1 + 1 + 1, 0, none⟩ = some (.int .u64 r) ∧ w.frozen? ⟨w0.heap.size + 1 + 1 + 1, 0, none⟩ = false
theorem ovMem_start (w : World) (h l b : Int) : OvMem w ((((w.alloc (.cells #[.int .u64 h, .int .u64 l] 42)).alloc (.cells #[.int .u64 b] 22)).alloc (.cells #[.int .u64 0, .int .u64 0] 42)).alloc (.cells #[.int .u64 0] 22)) h l b 0 := by
  refine ⟨((((Below.refl _ _).alloc (Nat.le_refl _) _).alloc (by simp) _).alloc (by simp; omega) _).alloc (by simp; omega) _, ?_, ?_, ?_, ?_, ?_, ?_, ?_, ?_, ?_⟩ <;> simp [go_sem, World.cell?_alloc_past, World.frozen?_alloc_past]
theorem OvMem.set {w0 w : World} {h l b r : Int} (m : OvMem w0 w h l b r) (n : Nat) (r' : Int) : OvMem w0 ((w.drewN n).setCell ⟨w0.heap.size + 1 + 1 + 1, 0, none⟩ (.int .u64 r')) h l b r' := by
  obtain ⟨hB, c1, c2, c3, c4, c5, f4, f5, c6, f6⟩ := m
  have hB' : Below w0.heap.size w0 (w.drewN n) := hB.trans ⟨rfl, rfl, rfl, Nat.le_refl _, fun _ _ => rfl⟩
  refine ⟨hB'.setCell (by simp; omega) _, ?_, ?_, ?_, ?_, ?_, ?_, ?_, ?_, ?_⟩
  · rw [World.cell?_setCell_other _ _ _ _ (by simp)]; exact c1
  · rw [World.cell?_setCell_other _ _ _ _ (by simp)]; exact c2
  · rw [World.cell?_setCell_other _ _ _ _ (by simp)]; exact c3
  · rw [World.cell?_setCell_other _ _ _ _ (by simp)]; exact c4
  · rw [World.cell?_setCell_other _ _ _ _ (by simp)]; exact c5
  · rw [World.frozen?_setCell]; exact f4
  · rw [World.frozen?_setCell]; exact f5
  · exact World.cell?_setCell_same _ _ _ (by exact c6)
  · rw [World.frozen?_setCell]; exact f6
set_option maxHeartbeats 1000000 in
theorem overW_c (h l b : Int) (w : World) (h0 : 0 ≤ h) (h1 : h < 18446744073709551616) (l0 : 0 ≤ l) (l1 : l < 18446744073709551616) (b0 : 0 < b) (b1 : b < 18446744073709551616) :
    Calls Try.prog 45 #[.agg #[.int .u64 h, .int .u64 l], .int .u64 b] w fun e w' => e = .returned (.tuple #[.agg #[.int .u64 (h / b), .int .u64 (overQ (h % b) l b)], .int .u64 (overR (h % b) l b), .bool true]) ∧ Below w.heap.size w w' := by
  have g1 : (b == 0) = false := by simp; omega
  have q1 : overQ 0 h b = h / b := by unfold overQ; rw [Int.zero_mul, Int.zero_add]
  have q2 : overR 0 h b = h % b := by unfold overR; rw [Int.zero_mul, Int.zero_add]
  have r0 : 0 ≤ h % b := Int.emod_nonneg _ (by omega)
  have r1 : h % b < b := Int.emod_lt_of_pos _ b0
  have HQ := Lib.hid (And.intro q1 q2)
  clear q1 q2
  go_enter Try.func45, Try.ntmps45
  go_wp2_with fail
  have hm := ovMem_start w h l b
  generalize ((((w.alloc (.cells #[.int .u64 h, .int .u64 l] 42)).alloc (.cells #[.int .u64 b] 22)).alloc (.cells #[.int .u64 0, .int .u64 0] 42)).alloc (.cells #[.int .u64 0] 22)) = W4 at *
  refine (next_c h 0 b _ _ _ h0 h1 (by omega) b0 b1 hm.2.2.2.2.2.2.2.2.1 hm.2.2.2.1 hm.2.2.2.2.2.2.2.2.2).mono ?_
  rintro e w5 ⟨rfl, n5, rfl⟩
  rw [HQ.out.1, HQ.out.2]
  have hm5 := hm.set n5 (h % b)
  generalize ((W4.drewN n5).setCell ⟨w.heap.size + 1 + 1 + 1, 0, none⟩ (.int .u64 (h % b))) = W5 at *
  clear hm
  have HM := Lib.hid hm5
  obtain ⟨hB, c1, c2, c3, c4, c5, f4, f5, c6, f6⟩ := hm5
  clear hB c1 c3 c4 c5 f4 f5 c6 f6
  go_wp2_with fail
  have hm5 := HM.out
  refine (next_c l (h % b) b _ _ _ l0 l1 r0 r1 b1 hm5.2.2.2.2.2.2.2.2.1 hm5.2.2.2.1 hm5.2.2.2.2.2.2.2.2.2).mono ?_
  rintro e w6 ⟨rfl, n6, rfl⟩
  have hm6 := hm5.set n6 (overR (h % b) l b)
  generalize ((W5.drewN n6).setCell ⟨w.heap.size + 1 + 1 + 1, 0, none⟩ (.int .u64 (overR (h % b) l b))) = W6 at *
  clear hm5 HM c2
  obtain ⟨hB, c1, c2, c3, c4, c5, f4, f5, c6, f6⟩ := hm6
  have HB := Lib.hid hB
  clear hB c1 c2 c3 f6
  go_wp2
  go_region
  all_goals go_wp2
  all_goals refine bodyPost_ret (v := .tuple #[.agg #[.int .u64 (h / b), .int .u64 (overQ (h % b) l b)], .int .u64 (overR (h % b) l b), .bool true]) (by simp [results, Try.results45, go_sem, c4, c5]) rfl ⟨rfl, ?_⟩
  all_goals exact ((HB.out.setCell (by simp; omega) _).setCell (by simp; omega) _).drew
end Go.Proofs.Ytgkenodiaehnnaa
