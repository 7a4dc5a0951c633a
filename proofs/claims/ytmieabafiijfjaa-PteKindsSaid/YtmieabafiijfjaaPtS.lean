/-
  The reference of layer 25: what a leaf lets, how it is marked, where it leads.
-/
import Derived.Test.YtmieabafiijfjaaPtR
set_option maxRecDepth 4000
namespace Go.Proofs.Ytmieabafiijfjaa
open Go.ChangeShapes Go.WideShapes Go.ChangeAt Go.RowKit Wd Csr Sta

theorem ecut_lt {x p s : Int} (t : Nat) (h : s ≤ t) : cutS x p s < 2 ^ t := by
  have r := cutS_range x p s
  have e : (cutS x p s).toNat % 2 ^ t = (cutS x p s).toNat := by
    apply Nat.eq_of_testBit_eq
    intro i
    rw [Nat.testBit_mod_two_pow]
    by_cases c : i < t
    · simp [c]
    · have : (cutS x p s).toNat.testBit i = false := by
        show tb (cutS x p s) i = false
        unfold cutS
        rw [tb_word]
        have : ¬ ((i : Int) < s ∧ 0 ≤ p + i) := by omega
        rw [decide_eq_false this]
        simp
      rw [this]
      simp
  have l := Nat.mod_lt (cutS x p s).toNat (Nat.two_pow_pos t)
  rw [e] at l
  rw [pow_cast]
  omega
/-- Does a leaf let an access? -/
def hasE (p acc : Int) (mxr : Bool) : Bool := if acc = 0 then tb p 3 else if acc = 1 then tb p 1 || (mxr && tb p 3) else if acc = 2 then tb p 2 else false
def letsE (p acc priv : Int) (sum mxr : Bool) : Bool := if !hasE p acc mxr then false else if priv = 0 then tb p 4 else if tb p 4 then sum && (acc != 0) else true
def markS (p acc : Int) : Int := if acc = 2 then putS (putS p 6 1 1) 7 1 1 else putS p 6 1 1
def frameS (p l va : Int) : Int := if 0 ≤ l ∧ l ≤ 2 then putS (cutS p 10 44 * 4096) 0 (12 + 9 * l) va else 0
end Go.Proofs.Ytmieabafiijfjaa
