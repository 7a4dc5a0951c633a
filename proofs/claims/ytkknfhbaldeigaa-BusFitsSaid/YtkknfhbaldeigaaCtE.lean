/-
  Contracts of clint.Read, Time, Lines.
-/
import Derived.Test.YtkknfhbaldeigaaCtD
set_option maxRecDepth 20000
namespace Go.Proofs.Ytkknfhbaldeigaa
open Go.ChangeShapes Go.WideShapes Go.ChangeAt Go.RowKit

namespace Ct
theorem loc_cases {n : Nat} {off size : Int} {i : Nat} {a m : Int} (h0 : 0 ≤ off) (h : loc (at_ n off size) = some (i, a, m)) :
    (at_ n off size).1 ≠ 0 ∧ (((at_ n off size).1 = 1 ∧ i = 9 + (at_ n off size).2.1 ∧ (at_ n off size).2.1 < n ∧ a = 0 ∧ m = 1) ∨
      ((at_ n off size).1 ≠ 1 ∧ i = idx (at_ n off size).1 (at_ n off size).2.1 ∧ i ≤ n ∧ 0 < n ∧
        (((at_ n off size).2.2 = 0 ∧ a = 0 ∧ m = 18446744073709551615) ∨ ((at_ n off size).2.2 = 1 ∧ a = 0 ∧ m = 4294967295) ∨ ((at_ n off size).2.2 = 2 ∧ a = 32 ∧ m = 4294967295)))) := by
  have hl := at_lt (n := n) (off := off) (size := size) h0
  generalize at_ n off size = t at *
  obtain ⟨t1, t2, t3⟩ := t
  simp only [loc] at *
  by_cases h1 : t1 = 0
  · rw [if_pos h1] at h; cases h
  · refine ⟨h1, ?_⟩
    rw [if_neg h1] at h
    by_cases h2 : t1 = 1
    · rw [if_pos h2] at h
      simp only [Option.some.injEq, Prod.mk.injEq] at h
      exact .inl ⟨h2, h.1.symm, by omega, h.2.1.symm, h.2.2.symm⟩
    · rw [if_neg h2] at h
      simp only [Option.some.injEq, Prod.mk.injEq] at h
      refine .inr ⟨h2, h.1.symm, ?_, by omega, ?_⟩
      · rw [← h.1]; unfold idx; rw [if_neg h2]; split <;> omega
      · have h3 : t3 = 0 ∨ t3 = 1 ∨ t3 = 2 := by omega
        rcases h3 with rfl | rfl | rfl
        · exact .inl ⟨rfl, h.2.1.symm, h.2.2.symm⟩
        · exact .inr (.inl ⟨rfl, h.2.1.symm, h.2.2.symm⟩)
        · exact .inr (.inr ⟨rfl, h.2.1.symm, h.2.2.symm⟩)
theorem at_bit {n : Nat} {off size : Int} (h : (at_ n off size).1 = 1) : (at_ n off size).2.2 = 0 := by
  revert h
  unfold at_
  repeat' split
  all_goals (dsimp only; omega)
theorem is_loc {n : Nat} {off size : Int} : (loc (at_ n off size)).isSome = is n off size := by
  unfold is
  cases h : loc (at_ n off size) with
  | none => rw [loc_none] at h; simp [h]
  | some t => have := mt (loc_none (t := at_ n off size)).2 (by rw [h]; simp); simp [this]
end Ct
/-- A clint at a pointer, or none. -/
def CtP (w : World) (p : Option Addr) (n : Nat) (ws : List Int) : Prop := (p = none ∧ n = 0) ∨ ∃ b, p = some ⟨b, 0, none⟩ ∧ CtAt w b n ws
section
variable {w w' : World} {p : Option Addr} {n : Nat} {ws : List Int}
theorem CtP.cw (h : CtP w p n ws) : Cw w p n := by
  rcases h with h | ⟨b, rfl, h⟩
  · exact .inl h
  · exact .inr ⟨b, rfl, h.n0⟩
theorem CtP.n8 (h : CtP w p n ws) : n ≤ 8 := by
  rcases h with h | ⟨b, rfl, h⟩
  · omega
  · exact h.ok.n8
theorem CtP.pos (h : CtP w p n ws) (hn : 0 < n) : ∃ b, p = some ⟨b, 0, none⟩ ∧ CtAt w b n ws := by
  rcases h with h | h
  · omega
  · exact h
end
theorem below_dnC {B : Nat} {a w : World} (h : Below B a w) (n : Nat) : Below B a (w.drewN n) := h.trans ⟨rfl, rfl, rfl, Nat.le_refl _, fun _ _ => rfl⟩
theorem r_none {n : Nat} {ws : List Int} {off size : Int} (h : Ct.loc (Ct.at_ n off size) = none) : Ct.readC n ws off size = 0 := by
  unfold Ct.readC; rw [if_pos (Ct.loc_none.1 h)]
set_option maxHeartbeats 4000000 in
theorem read_c (p : Option Addr) (n : Nat) (ws : List Int) (off : Int) (h0 : 0 ≤ off) (h1 : off ≤ 18446744073709551615) (size : Int) (w : World) (h : CtP w p n ws) :
    Calls Try.prog 58 #[.pointer p, .int .u64 off, .int .i64 size] w fun e w' => e = .returned (.tuple #[.int .u64 (Ct.readC n ws off size), .bool (Ct.is n off size)]) ∧ Below w.heap.size w w' := by
  have HC := Lib.hid (locate_c p n h.n8 off h0 h1 size w h.cw)
  rw [← Ct.is_loc]
  cases hl : Ct.loc (Ct.at_ n off size) with
  | none =>
    rw [hl, rgV] at HC
    rw [r_none hl]
    clear hl h
    go_enter Try.func58, Try.ntmps58
    go_wp2_with fail
    refine HC.out.mono ?_
    rintro e w1 ⟨rfl, hb1⟩
    simp only [Option.isSome_none]
    have HB := Lib.hid (hb1.alloc hb1.size (Obj.cells #[Value.pointer none, Value.int IntKind.u64 0, Value.int IntKind.u64 0] RgT))
    go_wp2_with fail
    go_ret2
    exact ⟨rfl, HB.out⟩
  | some t =>
    obtain ⟨i, a, m⟩ := t
    obtain ⟨hne, hcs⟩ := Ct.loc_cases h0 hl
    obtain ⟨b, rfl, hA⟩ := h.pos (by rcases hcs with h | h <;> omega)
    have hi : i < 17 := by have := hA.ok.n8; rcases hcs with h | h <;> omega
    have hw := hA.ok.rng i
    have hwl : ws.getD i 0 < 18446744073709551616 := by omega
    rw [hl, rgV] at HC
    have HE := Lib.hid (show Ct.readC n ws off size = bits .and .u64 (ws.getD i 0 / 2 ^ a.toNat) m by
      unfold Ct.readC
      rw [if_neg hne]
      rcases hcs with ⟨c1, c2, -, rfl, rfl⟩ | ⟨c1, c2, -, -, ⟨c3, rfl, rfl⟩ | ⟨c3, rfl, rfl⟩ | ⟨c3, rfl, rfl⟩⟩
      · rw [Ct.idx, if_pos c1, ← c2]
        have hb := hA.ok.bit (Ct.at_ n off size).2.1
        rw [← c2] at hb
        have h3 := Ct.at_bit c1
        rw [show ((0 : Int).toNat) = 0 from rfl, Int.pow_zero, Int.ediv_one, Ct.and_one hw.1 hwl, Ct.part, if_neg (by omega), if_neg (by omega)]
        omega
      · rw [← c2, c3, show ((0 : Int).toNat) = 0 from rfl, Int.pow_zero, Int.ediv_one, Ct.and_all hw.1 hwl]; rfl
      · rw [← c2, c3, show ((0 : Int).toNat) = 0 from rfl, Int.pow_zero, Int.ediv_one, Ct.and_low hw.1 hwl]; rfl
      · rw [← c2, c3, show ((32 : Int).toNat) = 32 from rfl, show ((2 : Int) ^ 32) = 4294967296 by decide, Ct.and_low (by omega) (by omega), Ct.part, if_neg (by omega), if_pos rfl]; omega)
    have HA := Lib.hid hA
    have ha : a = 0 ∨ a = 32 := by rcases hcs with ⟨c1, c2, -, rfl, rfl⟩ | ⟨c1, c2, -, -, ⟨c3, rfl, rfl⟩ | ⟨c3, rfl, rfl⟩ | ⟨c3, rfl, rfl⟩⟩ <;> omega
    rw [HE.out]
    clear hl h hcs hA HE hw hwl
    generalize hv : ws.getD i 0 = v at *
    have hb := HA.out.lt
    go_enter Try.func58, Try.ntmps58
    go_wp2_with fail
    refine HC.out.mono ?_
    rintro e w1 ⟨rfl, hb1⟩
    simp only [Option.isSome_some, Option.map_some]
    go_upto_region 4 with fail
    have hb2 := hb1.alloc hb1.size (Obj.cells #[Value.pointer (some ⟨b, i + 1, none⟩), Value.int .u64 a, Value.int .u64 m] RgT)
    have hR := CsAt.new w1 RgT #[Value.pointer (some ⟨b, i + 1, none⟩), Value.int .u64 a, Value.int .u64 m]
    generalize w1.alloc (Obj.cells #[Value.pointer (some ⟨b, i + 1, none⟩), Value.int .u64 a, Value.int .u64 m] RgT) = w2 at *
    have hc := (HA.out.low hb2).cell hi
    rw [hv] at hc
    have r0 := hR.cell 0
    have r1 := hR.cell 1
    have r2 := hR.cell 2
    simp only [List.getElem?_toArray, List.getElem?_cons_zero, List.getElem?_cons_succ] at r0 r1 r2
    have HB := Lib.hid hb2
    clear hb2 hb1 hR HA HC
    rcases ha with rfl | rfl
    all_goals
      go_quiet (fail)
      have HB3 := Lib.hid (below_dnC HB.out nq)
      go_wp2_with fail
      go_ret2
      first
        | exact ⟨rfl, HB3.out⟩
        | exact ⟨by rw [show v / 2 ^ (0 : Int).toNat = v by simp]; rfl, HB3.out⟩
theorem time_c (p : Option Addr) (n : Nat) (ws : List Int) (w : World) (h : CtP w p n ws) (hz : n = 0 → ws.getD 0 0 = 0) :
    Calls Try.prog 34 #[.pointer p] w fun e w' => e = .returned (.int .u64 (ws.getD 0 0)) ∧ w' = w := by
  rcases h with ⟨rfl, rfl⟩ | ⟨b, rfl, h⟩
  · have HZ := Lib.hid (hz rfl)
    rw [HZ.out]
    clear hz
    go_enter Try.func34, Try.ntmps34
    go_wp2_with fail
    go_ret
    exact ⟨rfl, rfl⟩
  · have hc := h.cell (show 0 < 17 by omega)
    generalize ws.getD 0 0 = v at *
    clear h hz
    go_enter Try.func34, Try.ntmps34
    go_wp2_with fail
    go_ret
    exact ⟨rfl, rfl⟩
theorem or_8 (x : Int) (h : x = 0 ∨ x = 8) : bits .or .u64 x 128 = x + 128 := by
  rcases h with rfl | rfl
  · decide
  · decide
set_option maxHeartbeats 4000000 in
theorem lines_c (p : Option Addr) (n : Nat) (ws : List Int) (hart : Int) (g0 : -9223372036854775808 ≤ hart) (g1 : hart ≤ 9223372036854775807) (w : World) (h : CtP w p n ws) :
    Calls Try.prog 32 #[.pointer p, .int .i64 hart] w fun e w' => e = .returned (.int .u64 (Ct.lineC n ws hart)) ∧ Below w.heap.size w w' := by
  have HC := Lib.hid (count_c p n h.n8 w h.cw)
  have hn8 := h.n8
  by_cases hneg : hart < 0
  · have HE := Lib.hid (show Ct.lineC n ws hart = 0 by unfold Ct.lineC; rw [if_neg (by omega)])
    rw [HE.out]
    have e0 : decide (hart < 0) = true := by simpa using hneg
    clear h
    go_enter Try.func32, Try.ntmps32
    go_wp2_with fail
    go_ret
    exact ⟨rfl, Below.refl _ _⟩
  · have e0 : decide (hart < 0) = false := by simpa using hneg
    obtain ⟨k, rfl⟩ := Int.eq_ofNat_of_zero_le (by omega : 0 ≤ hart)
    by_cases hk : k < n
    · obtain ⟨b, rfl, hA⟩ := h.pos (by omega)
      have hk8 : k < 8 := by omega
      have hs := hA.cell (show 9 + k < 17 by omega)
      have hcm := hA.cell (show 1 + k < 17 by omega)
      have ht := hA.cell (show 0 < 17 by omega)
      have hbit := hA.ok.bit k
      rw [show 9 + k + 1 = 10 + k by omega] at hs
      rw [show 1 + k + 1 = 2 + k by omega] at hcm
      have HE := Lib.hid (show Ct.lineC n ws (k : Int) = (if ws.getD (9 + k) 0 = 1 then 8 else 0) + (if ws.getD (1 + k) 0 ≤ ws.getD 0 0 then 128 else 0) by unfold Ct.lineC; rw [if_pos (by omega), Int.toNat_natCast])
      rw [HE.out]
      have e1 : decide (k ≥ n) = false := by simpa using hk
      have gk : (k : Int) < 8 := by omega
      clear h hA HE
      generalize ws.getD (9 + k) 0 = s at *
      generalize ws.getD (1 + k) 0 = c at *
      generalize ws.getD 0 0 = t at *
      by_cases hct : c ≤ t
      · have e2 : decide (t ≥ c) = true := by simpa using hct
        rw [if_pos hct]
        clear hct
        rcases hbit with rfl | rfl
        all_goals
          go_enter Try.func32, Try.ntmps32
          go_wp2_with fail
          refine HC.out.mono ?_
          rintro e w1 ⟨rfl, rfl⟩
          go_wp2_with fail
          go_quiet (fail)
          have HB := Lib.hid (below_dnC (Below.refl w1.heap.size w1) nq)
          go_wp2_with fail
          go_ret
          exact ⟨rfl, HB.out⟩
      · have e2 : decide (t ≥ c) = false := by simpa using hct
        rw [if_neg hct]
        clear hct
        rcases hbit with rfl | rfl
        all_goals
          go_enter Try.func32, Try.ntmps32
          go_wp2_with fail
          refine HC.out.mono ?_
          rintro e w1 ⟨rfl, rfl⟩
          go_wp2_with fail
          go_quiet (fail)
          have HB := Lib.hid (below_dnC (Below.refl w1.heap.size w1) nq)
          go_wp2_with fail
          go_ret
          exact ⟨rfl, HB.out⟩
    · have HE := Lib.hid (show Ct.lineC n ws (k : Int) = 0 by unfold Ct.lineC; rw [if_neg (by omega)])
      rw [HE.out]
      have e1 : decide (k ≥ n) = true := by simpa using hk
      clear h
      go_enter Try.func32, Try.ntmps32
      go_wp2_with fail
      refine HC.out.mono ?_
      rintro e w1 ⟨rfl, rfl⟩
      go_wp2_with fail
      go_ret
      exact ⟨rfl, Below.refl _ _⟩
end Go.Proofs.Ytkknfhbaldeigaa
