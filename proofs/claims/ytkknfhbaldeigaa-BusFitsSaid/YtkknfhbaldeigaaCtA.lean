/-
  Plain numbers and lists, no program: what a clint has, where its registers are, and what is read, written and told (layer 15).
-/
import Derived.Test.YtkknfhbaldeigaaRow
import Derived.Test.YtkknfhbaldeigaaWord
namespace Go.Proofs.Ytkknfhbaldeigaa.Ct
open Go.RowKit (wrap64)

/-- What stands at an offset: 1 msip, 2 mtimecmp, 3 mtime (0: nothing), of which hart, and the bits: 0 all, 1 the lower ones, 2 the upper ones. -/
def at_ (n : Nat) (off size : Int) : Nat × Nat × Nat :=
  if size = 4 ∧ off % 4 = 0 ∧ off / 4 < n then (1, (off / 4).toNat, 0)
  else if size = 8 ∧ off % 8 = 0 ∧ 16384 ≤ off ∧ (off - 16384) / 8 < n then (2, ((off - 16384) / 8).toNat, 0)
  else if size = 4 ∧ off % 8 = 0 ∧ 16384 ≤ off ∧ (off - 16384) / 8 < n then (2, ((off - 16384) / 8).toNat, 1)
  else if size = 4 ∧ off % 8 = 4 ∧ 16384 ≤ off ∧ (off - 16384) / 8 < n then (2, ((off - 16384) / 8).toNat, 2)
  else if size = 8 ∧ off = 49144 ∧ 0 < n then (3, 0, 0)
  else if size = 4 ∧ off = 49144 ∧ 0 < n then (3, 0, 1)
  else if size = 4 ∧ off = 49148 ∧ 0 < n then (3, 0, 2)
  else (0, 0, 0)
/-- Which word is a register's: 0 the time, from 1 on what each hart waits for, from 9 on the flags. -/
def idx (what h : Nat) : Nat := if what = 1 then 9 + h else if what = 2 then 1 + h else 0
def part (w : Int) (bits : Nat) : Int := if bits = 1 then w % 4294967296 else if bits = 2 then w / 4294967296 else w
def with_ (w : Int) (bits : Nat) (v : Int) : Int :=
  if bits = 1 then w - w % 4294967296 + v % 4294967296 else if bits = 2 then w % 4294967296 + v % 4294967296 * 4294967296 else v
/-- The words of a clint. -/
structure Ok (n : Nat) (ws : List Int) : Prop where
  n8 : n ≤ 8
  len : ws.length = 17
  rng : ∀ i, 0 ≤ ws.getD i 0 ∧ ws.getD i 0 ≤ 18446744073709551615
  bit : ∀ h, ws.getD (9 + h) 0 = 0 ∨ ws.getD (9 + h) 0 = 1
/-- The word that has the byte of an offset, of those with 8 bytes. -/
def wide (n : Nat) (off : Int) : Option Nat :=
  if off - off % 8 = 49144 ∧ 0 < n then some 0 else if 16384 ≤ off - off % 8 ∧ (off - off % 8 - 16384) / 8 < n then some (1 + ((off - off % 8 - 16384) / 8).toNat) else none
/-- Where a register is: its word, its first bit, its mask. -/
def loc (t : Nat × Nat × Nat) : Option (Nat × Int × Int) :=
  if t.1 = 0 then none else if t.1 = 1 then some (9 + t.2.1, 0, 1) else some (idx t.1 t.2.1, if t.2.2 = 2 then 32 else 0, if t.2.2 = 0 then 18446744073709551615 else 4294967295)
def readC (n : Nat) (ws : List Int) (off size : Int) : Int := if (at_ n off size).1 = 0 then 0 else part (ws.getD (idx (at_ n off size).1 (at_ n off size).2.1) 0) (at_ n off size).2.2
def is (n : Nat) (off size : Int) : Bool := decide ((at_ n off size).1 ≠ 0)
def writeC (n : Nat) (ws : List Int) (off size v : Int) : List Int :=
  if (at_ n off size).1 = 0 then ws else if (at_ n off size).1 = 1 then ws.set (9 + (at_ n off size).2.1) (v % 2)
  else ws.set (idx (at_ n off size).1 (at_ n off size).2.1) (with_ (ws.getD (idx (at_ n off size).1 (at_ n off size).2.1) 0) (at_ n off size).2.2 v)
def tickC (n : Nat) (ws : List Int) (t : Int) : List Int := if 0 < t ∧ 0 < n then ws.set 0 ((ws.getD 0 0 + t) % 18446744073709551616) else ws
def lineC (n : Nat) (ws : List Int) (h : Int) : Int :=
  if 0 ≤ h ∧ h < n then (if ws.getD (9 + h.toNat) 0 = 1 then 8 else 0) + (if ws.getD (1 + h.toNat) 0 ≤ ws.getD 0 0 then 128 else 0) else 0

theorem at_size {n : Nat} {off size : Int} (h4 : size ≠ 4) (h8 : size ≠ 8) : at_ n off size = (0, 0, 0) := by
  unfold at_
  simp [h4, h8]
theorem at_odd8 {n : Nat} {off : Int} (h : off % 8 ≠ 0) : at_ n off 8 = (0, 0, 0) := by
  unfold at_
  repeat (first | rw [if_neg (by omega)])
theorem at_odd4 {n : Nat} {off : Int} (h : off % 4 ≠ 0) : at_ n off 4 = (0, 0, 0) := by
  unfold at_
  repeat (first | rw [if_neg (by omega)])
theorem at_soft {n : Nat} {off : Int} (h : off % 4 = 0) (hn : off / 4 < n) : at_ n off 4 = (1, (off / 4).toNat, 0) := by
  unfold at_
  rw [if_pos ⟨rfl, h, hn⟩]
theorem at_no8 {n : Nat} {off : Int} (hn : n ≤ 8) (h : off % 8 = 0) (hw : wide n off = none) : at_ n off 8 = (0, 0, 0) := by
  unfold wide at hw
  unfold at_
  split at hw
  · cases hw
  · split at hw
    · cases hw
    · repeat (first | rw [if_neg (by omega)])
theorem at_yes8 {n : Nat} {off : Int} {i : Nat} (hn : n ≤ 8) (h : off % 8 = 0) (hw : wide n off = some i) : loc (at_ n off 8) = some (i, 0, 18446744073709551615) := by
  unfold wide at hw
  unfold at_
  split at hw
  · cases hw
    rw [if_neg (by omega), if_neg (by omega), if_neg (by omega), if_neg (by omega), if_pos (by omega)]
    rfl
  · split at hw
    · cases hw
      rw [if_neg (by omega), if_pos (by omega), show (off - off % 8 - 16384) = off - 16384 by omega]
      rfl
    · cases hw
theorem at_no4 {n : Nat} {off : Int} (hn : n ≤ 8) (h : off % 4 = 0) (hs : ¬ off / 4 < n) (hw : wide n off = none) : at_ n off 4 = (0, 0, 0) := by
  unfold wide at hw
  unfold at_
  split at hw
  · cases hw
  · split at hw
    · cases hw
    · repeat (first | rw [if_neg (by omega)])
theorem at_yes4 {n : Nat} {off : Int} {i : Nat} (hn : n ≤ 8) (h : off % 4 = 0) (hs : ¬ off / 4 < n) (hw : wide n off = some i) : loc (at_ n off 4) = some (i, off % 8 * 8, 4294967295) := by
  unfold wide at hw
  unfold at_
  have h4 : off % 8 = 0 ∨ off % 8 = 4 := by omega
  split at hw
  · cases hw
    rcases h4 with h4 | h4
    · rw [if_neg (by omega), if_neg (by omega), if_neg (by omega), if_neg (by omega), if_neg (by omega), if_pos (by omega), h4]
      rfl
    · rw [if_neg (by omega), if_neg (by omega), if_neg (by omega), if_neg (by omega), if_neg (by omega), if_neg (by omega), if_pos (by omega), h4]
      rfl
  · split at hw
    · cases hw
      rcases h4 with h4 | h4
      · rw [if_neg (by omega), if_neg (by omega), if_pos (by omega), h4, show (off - 0 - 16384) = off - 16384 by omega]
        rfl
      · rw [if_neg (by omega), if_neg (by omega), if_neg (by omega), if_pos (by omega), h4, show (off - 4 - 16384) / 8 = (off - 16384) / 8 by omega]
        rfl
    · cases hw
theorem wide_lt {n : Nat} {off : Int} {i : Nat} (hn : n ≤ 8) (hw : wide n off = some i) : i < 9 ∧ 0 < n := by
  unfold wide at hw
  split at hw
  · cases hw; omega
  · split at hw
    · cases hw; omega
    · cases hw
theorem at_lt {n : Nat} {off size : Int} (h0 : 0 ≤ off) : (at_ n off size).1 = 0 ∨ ((at_ n off size).2.1 < n ∧ (at_ n off size).1 < 4 ∧ (at_ n off size).2.2 < 3 ∧ ((at_ n off size).1 = 3 → (at_ n off size).2.1 = 0)) := by
  unfold at_
  repeat' split
  all_goals (dsimp only; omega)
theorem loc_none {t : Nat × Nat × Nat} : loc t = none ↔ t.1 = 0 := by
  unfold loc
  split
  · simp_all
  · split <;> simp_all
end Go.Proofs.Ytkknfhbaldeigaa.Ct
