/-
  Plain numbers for the laws over wide sums and quotients, and what a block's cells are behind a call that makes memory alone.
-/
import Derived.Test.YtgkenodiaehnnaaSum
import Derived.Test.YtgkenodiaehnnaaQuot
namespace Go.Proofs.Ytgkenodiaehnnaa
open Go.ChangeShapes Go.WideShapes Go.ChangeAt Go.RowKit Wd
set_option linter.unusedVariables false

theorem cell_lt {w : World} {p : Addr} {v : Value} (h : w.cell? p = some v) : p.block < w.heap.size := by
  unfold World.cell? at h
  cases hh : w.heap[p.block]? with
  | none => rw [hh] at h; simp at h
  | some o => exact (Array.getElem?_eq_some_iff.1 hh).1
theorem cell_keep {w w' : World} {p : Addr} {v : Value} (hb : Below w.heap.size w w') (h : w.cell? p = some v) : w'.cell? p = some v := (hb.cell (cell_lt h)).trans h
theorem below_on {w0 w w' : World} (h : Below w0.heap.size w0 w) (hb : Below w.heap.size w w') : Below w0.heap.size w0 w' := h.trans (hb.mono h.size)

/-- The two wide numbers' cells, and the two copies that the law makes of them. -/
def SM (w0 : World) (ga gb : Nat) (xh xl yh yl : Int) (w : World) : Prop :=
  Below w0.heap.size w0 w ∧ w.cell? ⟨w0.heap.size, 0, none⟩ = some (.int .u64 xh) ∧ w.cell? ⟨w0.heap.size, 1, none⟩ = some (.int .u64 xl) ∧ w.cell? ⟨w0.heap.size + 1, 0, none⟩ = some (.int .u64 yh) ∧ w.cell? ⟨w0.heap.size + 1, 1, none⟩ = some (.int .u64 yl) ∧
  w.cell? ⟨ga, 0, none⟩ = some (.int .u64 xh) ∧ w.cell? ⟨ga, 1, none⟩ = some (.int .u64 xl) ∧ w.cell? ⟨gb, 0, none⟩ = some (.int .u64 yh) ∧ w.cell? ⟨gb, 1, none⟩ = some (.int .u64 yl)
theorem SM.on {w0 w w' : World} {ga gb : Nat} {xh xl yh yl : Int} (h : SM w0 ga gb xh xl yh yl w) (hb : Below w.heap.size w w') : SM w0 ga gb xh xl yh yl w' := by
  obtain ⟨h0, h1, h2, h3, h4, h5, h6, h7, h8⟩ := h
  exact ⟨below_on h0 hb, cell_keep hb h1, cell_keep hb h2, cell_keep hb h3, cell_keep hb h4, cell_keep hb h5, cell_keep hb h6, cell_keep hb h7, cell_keep hb h8⟩

theorem sm_one (w : World) (xh xl yh yl : Int) : SM w (w.heap.size + 1 + 1) (w.heap.size + 1 + 1 + 1) xh xl yh yl ((((w.alloc (.cells #[.int .u64 xh, .int .u64 xl] 45)).alloc (.cells #[.int .u64 yh, .int .u64 yl] 45)).alloc (.cells #[.int .u64 xh, .int .u64 xl] 42)).alloc (.cells #[.int .u64 yh, .int .u64 yl] 42)).drew := by
  refine ⟨(((((Below.refl _ _).alloc (Nat.le_refl _) _).alloc (by simp) _).alloc (by simp; omega) _).alloc (by simp; omega) _).drew, ?_, ?_, ?_, ?_, ?_, ?_, ?_, ?_⟩ <;> simp [go_sem, World.cell?_alloc_past]
theorem sm_two (w : World) (xh xl yh yl : Int) : SM w (w.heap.size + 1 + 1 + 1) (w.heap.size + 1 + 1) xh xl yh yl ((((w.alloc (.cells #[.int .u64 xh, .int .u64 xl] 45)).alloc (.cells #[.int .u64 yh, .int .u64 yl] 45)).alloc (.cells #[.int .u64 yh, .int .u64 yl] 42)).alloc (.cells #[.int .u64 xh, .int .u64 xl] 42)).drew := by
  refine ⟨(((((Below.refl _ _).alloc (Nat.le_refl _) _).alloc (by simp) _).alloc (by simp; omega) _).alloc (by simp; omega) _).drew, ?_, ?_, ?_, ?_, ?_, ?_, ?_, ?_⟩ <;> simp [go_sem, World.cell?_alloc_past]

/-! ### numbers -/
theorem sum_carry {xh xl yh yl : Int} (a0 : 0 ≤ xl) (a1 : xl < 18446744073709551616) (b0 : 0 ≤ yl) (b1 : yl < 18446744073709551616) :
    IntKind.u64.wrap (xl + yl) = (xl + yl) % 18446744073709551616 ∧
    ((xl + yl) % 18446744073709551616 < xl → IntKind.u64.wrap (IntKind.u64.wrap (xh + yh) + 1) = (xh + yh + (xl + yl) / 18446744073709551616) % 18446744073709551616) ∧
    (¬ (xl + yl) % 18446744073709551616 < xl → IntKind.u64.wrap (xh + yh) = (xh + yh + (xl + yl) / 18446744073709551616) % 18446744073709551616) := by
  rw [IntKind.wrap_u64, IntKind.wrap_u64, IntKind.wrap_u64]
  omega
theorem neg_range {ah al : Int} : 0 ≤ negH ah al ∧ negH ah al < 18446744073709551616 ∧ 0 ≤ negL al ∧ negL al < 18446744073709551616 := by
  unfold negH negL
  omega
theorem neg_sum {ah al : Int} (a0 : 0 ≤ ah) (a1 : ah < 18446744073709551616) (b0 : 0 ≤ al) (b1 : al < 18446744073709551616) :
    (ah + negH ah al + (al + negL al) / 18446744073709551616) % 18446744073709551616 = 0 ∧ (al + negL al) % 18446744073709551616 = 0 := by
  unfold negH negL
  omega
theorem neg_neg' {ah al : Int} (a0 : 0 ≤ ah) (a1 : ah < 18446744073709551616) (b0 : 0 ≤ al) (b1 : al < 18446744073709551616) :
    negH (negH ah al) (negL al) = ah ∧ negL (negL al) = al := by
  unfold negH negL
  omega
/-- The long quotient is made of two short ones. -/
theorem over_two {h l b : Int} (h0 : 0 ≤ h) (l0 : 0 ≤ l) (l1 : l < 18446744073709551616) (b0 : 0 < b) :
    (h * 18446744073709551616 + l) / b = h / b * 18446744073709551616 + overQ (h % b) l b ∧ (h * 18446744073709551616 + l) % b = overR (h % b) l b ∧ 0 ≤ overQ (h % b) l b ∧ overQ (h % b) l b < 18446744073709551616 := by
  have r0 := Int.emod_nonneg h (show b ≠ 0 by omega)
  have r1 := Int.emod_lt_of_pos h b0
  have e := Int.mul_ediv_add_emod h b
  have key : h * 18446744073709551616 + l = (h % b * 18446744073709551616 + l) + b * (h / b * 18446744073709551616) := by
    rw [← Int.mul_assoc]
    generalize b * (h / b) = q at *
    omega
  unfold overQ overR
  rw [key, Int.add_mul_ediv_left _ _ (show b ≠ 0 by omega), Int.add_mul_emod_self_left]
  refine ⟨by omega, rfl, Int.ediv_nonneg (by omega) (by omega), ?_⟩
  apply Int.ediv_lt_of_lt_mul b0
  generalize h % b = r at *
  omega
theorem over_ref {h l b : Int} (h0 : 0 ≤ h) (h1 : h < 18446744073709551616) (l0 : 0 ≤ l) (l1 : l < 18446744073709551616) (b0 : 0 < b) :
    (((h.toNat * 18446744073709551616 + l.toNat) / b.toNat / 2 ^ 64 : Nat) : Int) = h / b ∧ (((h.toNat * 18446744073709551616 + l.toNat) / b.toNat % 18446744073709551616 : Nat) : Int) = overQ (h % b) l b ∧ (((h.toNat * 18446744073709551616 + l.toNat) % b.toNat : Nat) : Int) = overR (h % b) l b := by
  obtain ⟨t1, t2, t3, t4⟩ := over_two h0 l0 l1 b0
  obtain ⟨H, rfl⟩ := Int.eq_ofNat_of_zero_le h0
  obtain ⟨L, rfl⟩ := Int.eq_ofNat_of_zero_le l0
  obtain ⟨B, rfl⟩ := Int.eq_ofNat_of_zero_le (Int.le_of_lt b0)
  rw [Int.toNat_natCast, Int.toNat_natCast, Int.toNat_natCast]
  have e1 : (((H * 18446744073709551616 + L) / B : Nat) : Int) = (H : Int) / B * 18446744073709551616 + overQ ((H : Int) % B) L B := by
    rw [← t1, Int.natCast_ediv]
    rfl
  have e2 : (((H * 18446744073709551616 + L) % B : Nat) : Int) = overR ((H : Int) % B) L B := by
    rw [← t2, Int.natCast_emod]
    rfl
  refine ⟨?_, ?_, e2⟩
  · generalize overQ ((H : Int) % B) L B = q at *
    generalize (H : Int) / B = z at *
    omega
  · generalize overQ ((H : Int) % B) L B = q at *
    generalize (H : Int) / B = z at *
    omega
end Go.Proofs.Ytgkenodiaehnnaa
