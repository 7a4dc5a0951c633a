/-
  What is got of what was set (plain lists); files compared.
-/
import Derived.Test.YtbhmnkamfkadiaaDoorReg2
namespace Go.Proofs.YtbhmnkamfkadiaaDoor
open Go.ChangeShapes Go.WideShapes Go.ChangeAt Go.RowKit

theorem getR_self (ws : List Int) (a x : Int) (hl : ws.length = 32) (h : 0 < a ∧ a < 32) : getR (setR ws a x) a = x := by
  unfold getR setR
  rw [if_pos h, if_pos (by omega)]
  rw [List.getD, List.getElem?_set, if_pos rfl, if_pos (by rw [hl]; omega)]
  rfl
theorem getR_zero (ws : List Int) (a x : Int) (hl : ws.length = 32) : getR (setR (ofR ws) a x) 0 = 0 := by
  unfold getR setR ofR
  rw [if_pos (by omega)]
  split
  · rename_i h
    simp only [Int.toNat_zero]
    rw [List.getD, List.getElem?_set, if_neg (by omega), List.getElem?_set, if_pos rfl, if_pos (by rw [hl]; decide)]
    rfl
  · simp only [Int.toNat_zero]
    rw [List.getD, List.getElem?_set, if_pos rfl, if_pos (by rw [hl]; decide)]
    rfl
theorem getR_other (ws : List Int) (a b x : Int) (h : b ≠ a) : getR (setR ws a x) b = getR ws b := by
  unfold getR setR
  split
  · rename_i hb
    split
    · rename_i ha
      rw [List.getD, List.getElem?_set, if_neg (by omega)]
      rfl
    · rfl
  · rfl
theorem set_back (ws : List Int) (a x : Int) : setR (setR ws a x) a (getR ws a) = ws := by
  unfold setR getR
  by_cases h : 0 < a ∧ a < 32
  · rw [if_pos h, if_pos h, if_pos (by omega), List.set_set]
    apply List.ext_getElem?
    intro i
    rw [List.getElem?_set]
    split
    · rename_i e
      subst e
      split
      · rename_i hlt
        rw [List.getD, List.getElem?_eq_getElem hlt]; rfl
      · rename_i hlt
        rw [List.getElem?_eq_none (by omega)]
    · rfl
  · rw [if_neg h, if_neg h]
theorem sz_u64 (w : World) : (sizeOf 30).run Tryd.prog w = .ok 1 w := by kernel_rfl
theorem sz_arr (w : World) : (sizeOf 31).run Tryd.prog w = .ok 32 w := by kernel_rfl
theorem eq_file (w : World) (xs ys : List Int) (hx : xs.length = 32) (hy : ys.length = 32) : (binOp .eql 34 (.agg (aV .u64 xs)) (.agg (aV .u64 ys))).run Tryd.prog w = .ok (.bool (xs == ys)) w :=
  run_eql_one w 34 31 30 32 .u64 { name := "words", type := 31, offset := 0, embedded := false, tag := "", pkgPath := "roebuck/regs", byteOffset := 0 } (by kernel_rfl) (by kernel_rfl) (by kernel_rfl) (by decide) rfl rfl
    Tryd.underlying31 Tryd.underlying30 sz_u64 sz_arr xs ys hx hy
theorem eq_arr (w : World) (xs ys : List Int) (hx : xs.length = 32) (hy : ys.length = 32) : (binOp .eql 31 (.agg (aV .u64 xs)) (.agg (aV .u64 ys))).run Tryd.prog w = .ok (.bool (xs == ys)) w :=
  run_eql_ints w 31 30 32 .u64 Tryd.underlying31 Tryd.underlying30 sz_u64 xs ys hx hy
theorem ne_arr (w : World) (xs ys : List Int) (hx : xs.length = 32) (hy : ys.length = 32) : (binOp .neq 31 (.agg (aV .u64 xs)) (.agg (aV .u64 ys))).run Tryd.prog w = .ok (.bool (!(xs == ys))) w :=
  run_neq_ints w 31 30 32 .u64 Tryd.underlying31 Tryd.underlying30 sz_u64 xs ys hx hy
theorem guard_file : Tryd.prog.eqGuardType Tryd.prog.depth 34 = false := by kernel_rfl
theorem guard_arr : Tryd.prog.eqGuardType Tryd.prog.depth 31 = false := by kernel_rfl
end Go.Proofs.YtbhmnkamfkadiaaDoor
