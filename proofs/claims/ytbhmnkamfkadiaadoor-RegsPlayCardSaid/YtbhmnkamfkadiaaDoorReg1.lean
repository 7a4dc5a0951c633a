/-
  Contracts of regs.exists, Of, Get, Set, Words and of the reference's Set, over arrays as whole rows.
-/
import Derived.Test.YtbhmnkamfkadiaaDoorRow
import Derived.ProofKit
import Derived.WalkLawsBesides
import Derived.Deep.DeepCutAuto
namespace Go.Proofs.YtbhmnkamfkadiaaDoor
open Go.ChangeShapes Go.WideShapes Go.ChangeAt Go.RowKit

theorem zeros32 : (aV .u64 (List.replicate 32 0)) = #[.int .u64 0, .int .u64 0, .int .u64 0, .int .u64 0, .int .u64 0, .int .u64 0, .int .u64 0, .int .u64 0, .int .u64 0, .int .u64 0, .int .u64 0, .int .u64 0, .int .u64 0, .int .u64 0, .int .u64 0, .int .u64 0, .int .u64 0, .int .u64 0, .int .u64 0, .int .u64 0, .int .u64 0, .int .u64 0, .int .u64 0, .int .u64 0, .int .u64 0, .int .u64 0, .int .u64 0, .int .u64 0, .int .u64 0, .int .u64 0, .int .u64 0, .int .u64 0] := rfl
def inR (i : Int) : Bool := decide (0 ≤ i) && decide (i < 32)
theorem inR_iff {i : Int} : inR i = true ↔ 0 ≤ i ∧ i < 32 := by simp [inR]
theorem inR_no {i : Int} (h : ¬ (0 ≤ i ∧ i < 32)) : inR i = false := by
  cases hb : inR i
  · rfl
  · exact absurd (inR_iff.1 hb) h
set_option maxHeartbeats 400000 in
theorem exists_c (i : Int) (w : World) : Calls Tryd.prog 22 #[.int .i64 i] w fun e w' => e = .returned (.bool (inR i)) ∧ w = w' := by
  by_cases h0 : 0 ≤ i
  · have e0 : decide (0 ≤ i) = true := by simpa using h0
    by_cases h1 : i < 32
    · have e1 : decide (i < 32) = true := by simpa using h1
      rw [inR_iff.2 ⟨h0, h1⟩]
      clear h0 h1
      go_enter Tryd.func22, Tryd.ntmps22
      go_wp2_with fail
      go_ret
      exact ⟨rfl, rfl⟩
    · have e1 : decide (i < 32) = false := by simpa using h1
      rw [inR_no (by omega)]
      clear h0 h1
      go_enter Tryd.func22, Tryd.ntmps22
      go_wp2_with fail
      go_ret
      exact ⟨rfl, rfl⟩
  · have e0 : decide (0 ≤ i) = false := by simpa using h0
    rw [inR_no (by omega)]
    clear h0
    go_enter Tryd.func22, Tryd.ntmps22
    go_wp2_with fail
    go_ret
    exact ⟨rfl, rfl⟩
/-- What Get tells. -/
def getR (ws : List Int) (i : Int) : Int := if 0 ≤ i ∧ i < 32 then ws.getD i.toNat 0 else 0
/-- What Set leaves. -/
def setR (ws : List Int) (i x : Int) : List Int := if 0 < i ∧ i < 32 then ws.set i.toNat x else ws
theorem setR_len (ws : List Int) (i x : Int) : (setR ws i x).length = ws.length := by unfold setR; split <;> simp
set_option maxHeartbeats 400000 in
theorem get_nil (i : Int) (w : World) : Calls Tryd.prog 16 #[.pointer none, .int .i64 i] w fun e w' => e = .returned (.int .u64 0) ∧ w = w' := by
  go_enter Tryd.func16, Tryd.ntmps16
  go_wp2_with fail
  go_ret
  exact ⟨rfl, rfl⟩
set_option maxHeartbeats 400000 in
theorem get_c (b : Nat) (t : TypeId) (ws : List Int) (hl : ws.length = 32) (i : Int) (w : World) (h : RowAt .u64 w b t ws) : Calls Tryd.prog 16 #[.pointer (some ⟨b, 0, none⟩), .int .i64 i] w fun e w' => e = .returned (.int .u64 (getR ws i)) ∧ w = w' := by
  have HL := Lib.hid hl
  have HR := Lib.hid h
  clear hl h
  by_cases hi : 0 ≤ i ∧ i < 32
  · have HG := Lib.hid (show getR ws i = ws.getD i.toNat 0 by unfold getR; rw [if_pos hi])
    obtain ⟨k, rfl⟩ := Int.eq_ofNat_of_zero_le hi.1
    have hk : k < 32 := by omega
    have hk2 : (k : Int) < 32 := by omega
    have e := inR_iff.2 hi
    have hc := HR.out.cell k (by rw [HL.out]; exact hk)
    rw [HG.out, Int.toNat_natCast]
    generalize ws.getD k 0 = v at *
    clear hi HG
    go_enter Tryd.func16, Tryd.ntmps16
    go_wp2_with fail
    refine (exists_c _ _).mono ?_
    rintro e w1 ⟨rfl, rfl⟩
    go_wp2_with fail
    go_ret
    exact ⟨rfl, rfl⟩
  · have HG := Lib.hid (show getR ws i = 0 by unfold getR; rw [if_neg hi])
    have e := inR_no hi
    rw [HG.out]
    clear hi HG
    go_enter Tryd.func16, Tryd.ntmps16
    go_wp2_with fail
    refine (exists_c _ _).mono ?_
    rintro e w1 ⟨rfl, rfl⟩
    go_wp2_with fail
    go_ret
    exact ⟨rfl, rfl⟩
end Go.Proofs.YtbhmnkamfkadiaaDoor
