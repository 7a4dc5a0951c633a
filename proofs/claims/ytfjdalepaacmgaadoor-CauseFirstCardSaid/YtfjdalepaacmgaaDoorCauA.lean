/-
  Plain numbers, no program: the table of the causes of traps, their words, who takes them, and which interrupt comes first.
-/
import Derived.Test.YtfjdalepaacmgaaDoorSpec
namespace Go.Proofs.YtfjdalepaacmgaaDoor.Cau
open Go.RowKit Wd

/-- The first of a list that a test accepts, by places. -/
theorem gfst_hit {α : Type} (d : α) {p : α → Bool} : ∀ (L : List α) {k : Nat}, k < L.length → (∀ j, j < k → p (L.getD j d) = false) → p (L.getD k d) = true → L.find? p = some (L.getD k d)
  | [], k, hk, _, _ => absurd hk (by simp)
  | x :: xs, 0, _, _, h => by
    have h' : p x = true := h
    simp [h']
  | x :: xs, k + 1, hk, hb, h => by
    have h0 : p x = false := hb 0 (by omega)
    rw [List.find?_cons_of_neg (by simp [h0])]
    exact gfst_hit d xs (by simpa using hk) (fun j hj => hb (j + 1) (by omega)) h
theorem gfst_none {α : Type} (d : α) {p : α → Bool} (L : List α) (hb : ∀ j, j < L.length → p (L.getD j d) = false) : L.find? p = none := by
  rw [List.find?_eq_none]
  intro x hx
  obtain ⟨j, hj, rfl⟩ := List.mem_iff_getElem.1 hx
  have := hb j hj
  rw [List.getD_eq_getElem?_getD, List.getElem?_eq_getElem hj] at this
  simpa using this
theorem gfst_cases {α : Type} (d : α) (p : α → Bool) (L : List α) : L.find? p = none ∨ ∃ k, k < L.length ∧ L.find? p = some (L.getD k d) ∧ p (L.getD k d) = true := by
  cases h : L.find? p with
  | none => exact .inl rfl
  | some r =>
    have hm := List.mem_of_find?_eq_some h
    obtain ⟨j, hj, rfl⟩ := List.mem_iff_getElem.1 hm
    refine .inr ⟨j, hj, ?_, ?_⟩
    · rw [List.getD_eq_getElem?_getD, List.getElem?_eq_getElem hj]; rfl
    · rw [List.getD_eq_getElem?_getD, List.getElem?_eq_getElem hj]; exact List.find?_some h
abbrev RowK := Bool × Nat × List UInt8
/-- (interrupt, code, name) -/
def rowsK : List RowK := [(false, 0, [105, 110, 115, 110, 45, 97, 108, 105, 103, 110]), (false, 1, [105, 110, 115, 110, 45, 102, 97, 117, 108, 116]), (false, 2, [105, 108, 108, 101, 103, 97, 108]), (false, 3, [98, 114, 101, 97, 107]), (false, 4, [108, 111, 97, 100, 45, 97, 108, 105, 103, 110]), (false, 5, [108, 111, 97, 100, 45, 102, 97, 117, 108, 116]), (false, 6, [115, 116, 111, 114, 101, 45, 97, 108, 105, 103, 110]), (false, 7, [115, 116, 111, 114, 101, 45, 102, 97, 117, 108, 116]), (false, 8, [99, 97, 108, 108, 45, 117, 115, 101, 114]), (false, 9, [99, 97, 108, 108, 45, 115, 117, 112, 101, 114]), (false, 11, [99, 97, 108, 108, 45, 109, 97, 99, 104, 105, 110, 101]), (false, 12, [105, 110, 115, 110, 45, 112, 97, 103, 101]), (false, 13, [108, 111, 97, 100, 45, 112, 97, 103, 101]), (false, 15, [115, 116, 111, 114, 101, 45, 112, 97, 103, 101]), (true, 1, [115, 117, 112, 101, 114, 45, 115, 111, 102, 116]), (true, 3, [109, 97, 99, 104, 105, 110, 101, 45, 115, 111, 102, 116]), (true, 5, [115, 117, 112, 101, 114, 45, 116, 105, 109, 101]), (true, 7, [109, 97, 99, 104, 105, 110, 101, 45, 116, 105, 109, 101]), (true, 9, [115, 117, 112, 101, 114, 45, 111, 117, 116, 101, 114]), (true, 11, [109, 97, 99, 104, 105, 110, 101, 45, 111, 117, 116, 101, 114])]
def noK : RowK := (false, 0, [])
def rowK (k : Nat) : RowK := rowsK.getD k noK
def fstK (p : RowK → Bool) : Option RowK := rowsK.find? p
theorem kfst_hit {p : RowK → Bool} {k : Nat} (hk : k < 20) (hb : ∀ j, j < k → p (rowK j) = false) (h : p (rowK k) = true) : fstK p = some (rowK k) := gfst_hit noK rowsK hk hb h
theorem kfst_none {p : RowK → Bool} (hb : ∀ j, j < 20 → p (rowK j) = false) : fstK p = none := gfst_none noK rowsK hb
theorem kfst_cases (p : RowK → Bool) : fstK p = none ∨ ∃ k, k < 20 ∧ fstK p = some (rowK k) ∧ p (rowK k) = true := gfst_cases noK p rowsK
theorem rowK_get {k : Nat} (h : k < 20) : rowsK[k]? = some (rowK k) := by
  unfold rowK
  rw [List.getD_eq_getElem?_getD, List.getElem?_eq_getElem (show k < rowsK.length from h)]; rfl
def isC (b : Bool) (n : Int) (r : RowK) : Bool := (r.1 == b) && (((r.2.1 : Nat) : Int) == n)
def isNamK (s : ByteArray) (r : RowK) : Bool := r.2.2 == s.toList
def wordK (b : Bool) (n : Int) : Int := (if 0 ≤ n ∧ n ≤ 63 then n else 0) + (if b then 9223372036854775808 else 0)
def isWrd (w : Int) (r : RowK) : Bool := wordK r.1 (r.2.1 : Nat) == w
theorem wordK_range (b : Bool) (n : Int) : 0 ≤ wordK b n ∧ wordK b n < 18446744073709551616 := by
  unfold wordK
  split <;> split <;> omega
theorem nam_pos : ∀ k : Fin 20, (rowK k.val).2.2 ≠ [] := by decide +kernel
theorem known_named (p : RowK → Bool) : (fstK p).isSome = !(((fstK p).getD noK).2.2 == []) := by
  rcases kfst_cases p with e | ⟨k, hk, e, -⟩
  · rw [e]; rfl
  · rw [e]
    have := nam_pos ⟨k, hk⟩
    simp only at this
    simp [this]
/-! ### which interrupt comes first -/
def ordK : List Nat := [11, 3, 7, 9, 1, 5]
def fstI (w : Int) : Option Nat := ordK.find? fun k => tb w k
theorem ifst_hit {w : Int} {k : Nat} (hk : k < 6) (hb : ∀ j, j < k → tb w (ordK.getD j 0) = false) (h : tb w (ordK.getD k 0) = true) : fstI w = some (ordK.getD k 0) := gfst_hit 0 ordK hk hb h
theorem ifst_none {w : Int} (hb : ∀ j, j < 6 → tb w (ordK.getD j 0) = false) : fstI w = none := gfst_none 0 ordK hb
theorem ifst_cases (w : Int) : fstI w = none ∨ ∃ k, k < 6 ∧ fstI w = some (ordK.getD k 0) ∧ tb w (ordK.getD k 0) = true := gfst_cases 0 (fun k => tb w k) ordK
theorem ifst_bits (w : Int) : fstI w = if tb w 11 then some 11 else if tb w 3 then some 3 else if tb w 7 then some 7 else if tb w 9 then some 9 else if tb w 1 then some 1 else if tb w 5 then some 5 else none := by
  unfold fstI ordK
  simp only [List.find?]
  cases tb w 11 <;> cases tb w 3 <;> cases tb w 7 <;> cases tb w 9 <;> cases tb w 1 <;> cases tb w 5 <;> rfl
end Go.Proofs.YtfjdalepaacmgaaDoor.Cau
