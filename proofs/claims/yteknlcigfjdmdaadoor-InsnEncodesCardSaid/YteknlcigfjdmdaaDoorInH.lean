/-
  The program's tables insn.values and insn.fields in memory; the contract of insn.Fixed.
-/
import Derived.Test.YteknlcigfjdmdaaDoorInG
namespace Go.Proofs.YteknlcigfjdmdaaDoor
open Go.ChangeShapes Go.WideShapes Go.ChangeAt Go.RowKit Wd

def valN (k : Nat) : Nat := (findRow (k : Nat)).2.2.2
def fldL : List Nat := [0, 7, 3, 6, 6, 1, 1, 3, 3, 11, 11, 23, 19, 0, 6]
structure VarsAt (w : World) : Prop where
  vals : ∀ k, k < 99 → w.cell? ⟨0, k, none⟩ = some (.int .u32 (valN k : Nat))
  flds : ∀ k, k < 15 → w.cell? ⟨1, k, none⟩ = some (.int .u8 (fldL.getD k 0 : Nat))
  size : 2 ≤ w.heap.size
theorem VarsAt.on {w w' : World} {B : Nat} (h : VarsAt w) (hb : Below B w w') (hB : 2 ≤ B) : VarsAt w' :=
  ⟨fun k hk => (hb.cell (p := ⟨0, k, none⟩) (by show 0 < B; omega)).trans (h.vals k hk), fun k hk => (hb.cell (p := ⟨1, k, none⟩) (by show 1 < B; omega)).trans (h.flds k hk), Nat.le_trans h.size hb.size⟩
theorem VarsAt.low {w w' : World} (h : VarsAt w) (hb : Below w.heap.size w w') : VarsAt w' := h.on hb h.size
def fixM (op : Int) : Int := ((findRow op).2.2.1 : Nat)
def fixV (op : Int) : Int := ((findRow op).2.2.2 : Nat)
theorem fmt_zero (op : Int) : fmtN op = 0 ↔ ¬ (1 ≤ op ∧ op ≤ 98) := by
  constructor
  · intro h hop
    have l : ∀ k : Fin 98, (rowAt k.val).2.1 ≠ 0 := by decide +kernel
    apply l ⟨op.toNat - 1, by omega⟩
    unfold fmtN findRow at h
    rw [if_pos hop] at h
    exact h
  · intro h
    unfold fmtN findRow
    rw [if_neg h]
theorem mask_fmt : ∀ k : Fin 98, maskF ((rowAt k.val).2.1 : Nat) = ((rowAt k.val).2.2.1 : Nat) := by decide +kernel
theorem fix_mask (op : Int) (h : 1 ≤ op ∧ op ≤ 98) : maskF (fmtN op : Nat) = fixM op := by
  unfold fmtN fixM findRow
  rw [if_pos h]
  exact mask_fmt ⟨op.toNat - 1, by omega⟩
set_option maxHeartbeats 2000000 in
theorem fixed_c (op : Int) (w : World) (hv : VarsAt w) : Calls Tryd.prog 13 #[.int .i64 op] w fun e w' => e = .returned (.tuple #[.int .u32 (fixM op), .int .u32 (fixV op)]) ∧ Below w.heap.size w w' := by
  have HV := Lib.hid hv
  have hsz := hv.size
  clear hv
  by_cases h : 1 ≤ op ∧ op ≤ 98
  · have HF := Lib.hid (fix_mask op h)
    have hn : fmtN op ≠ 0 := fun e => (fmt_zero op).1 e h
    have hn2 : (((fmtN op : Nat) : Int) == 0) = false := by simpa using hn
    obtain ⟨k, rfl⟩ : ∃ k : Nat, op = (k : Int) := ⟨op.toNat, by omega⟩
    have hk : k < 99 := by omega
    have hk2 : (k : Int) < 99 := by omega
    have HVV := Lib.hid (show fixV (k : Int) = (valN k : Nat) from rfl)
    clear hn
    go_enter Tryd.func13, Tryd.ntmps13
    go_wp2_with fail
    refine (formatOf_c _ _).mono ?_
    rintro e w1 ⟨rfl, hb⟩
    have HB := Lib.hid hb
    have hc := (HV.out.low hb).vals k hk
    clear hb
    generalize ((fmtN (k : Int) : Nat) : Int) = f at *
    go_wp2_with fail
    refine wp_region_still_lit (by kernel_rfl) (by kernel_rfl) ?_
    simp only [drew_eq]
    have hc2 : w1.drew.cell? ⟨0, k, none⟩ = some (.int .u32 (valN k : Nat)) := hc
    have HB2 := Lib.hid (HB.out.drew)
    have HCU := Lib.hid (fun w' => Calls.turn (imask_c f w'))
    clear hc
    generalize w1.drew = w2 at *
    generalize hvv : ((valN k : Nat) : Int) = v at *
    have HX := Lib.hid hvv
    clear hvv
    iterate 1 still_step
    still_call (HCU.out _)
    iterate 5 still_step
    refine wpStill_nil ?_
    go_wp2_with fail
    go_ret2
    exact ⟨by rw [HF.out, HVV.out]; rfl, HB2.out⟩
  · have hn2 : (((fmtN op : Nat) : Int) == 0) = true := by rw [(fmt_zero op).2 h]; rfl
    have HM := Lib.hid (show fixM op = 0 ∧ fixV op = 0 by unfold fixM fixV findRow; rw [if_neg h]; exact ⟨rfl, rfl⟩)
    clear h
    go_enter Tryd.func13, Tryd.ntmps13
    go_wp2_with fail
    refine (formatOf_c _ _).mono ?_
    rintro e w1 ⟨rfl, hb⟩
    have HB := Lib.hid hb
    clear hb
    generalize ((fmtN op : Nat) : Int) = f at *
    go_wp2_with fail
    go_ret2
    exact ⟨by rw [HM.out.1, HM.out.2]; rfl, HB.out⟩
end Go.Proofs.YteknlcigfjdmdaaDoor
