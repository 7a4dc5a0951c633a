/-
  Contracts of slices.Index, Contains, IndexFunc, ContainsFunc, Clone at []int.
-/
import Derived.Test.YtabackklpemhpaaSrtD
import Derived.Shelf.Abstract
namespace Go.Proofs.Ytabackklpemhpaa
open Go.ChangeShapes Go.WideShapes Go.ChangeAt Go.RowKit

namespace Lk
/-- Where the first one lies of which p is so, if it is looked for from place k on; -1: nowhere. -/
def idxF (p : Int → Bool) : Nat → List Int → Int
  | _, [] => -1
  | k, y :: ys => if p y then (k : Int) else idxF p (k + 1) ys
def idx (p : Int → Bool) (xs : List Int) : Int := idxF p 0 xs
theorem idxF_at (p : Int → Bool) : ∀ (xs : List Int) (o k : Nat), k < xs.length → (∀ i, i < k → p (xs.getD i 0) = false) → p (xs.getD k 0) = true → idxF p o xs = ((o + k : Nat) : Int)
  | [], _, _, h, _, _ => by simp at h
  | y :: ys, o, 0, _, _, h => by
    have h' : p y = true := h
    simp [idxF, h']
  | y :: ys, o, k + 1, h, hn, hp => by
    have h0 : p y = false := hn 0 (by omega)
    have := idxF_at p ys (o + 1) k (by simpa using h) (fun i hi => hn (i + 1) (by omega)) hp
    simp only [idxF, h0, Bool.false_eq_true, if_false, this]
    omega
theorem idxF_no (p : Int → Bool) : ∀ (xs : List Int) (o : Nat), (∀ i, i < xs.length → p (xs.getD i 0) = false) → idxF p o xs = -1
  | [], _, _ => rfl
  | y :: ys, o, h => by
    have h0 : p y = false := h 0 (by simp)
    simp only [idxF, h0, Bool.false_eq_true, if_false]
    exact idxF_no p ys (o + 1) fun i hi => h (i + 1) (by simpa using hi)
theorem idx_at {p : Int → Bool} {xs : List Int} {k : Nat} (h : k < xs.length) (hn : ∀ i, i < k → p (xs.getD i 0) = false) (hp : p (xs.getD k 0) = true) : idx p xs = (k : Int) := by
  have := idxF_at p xs 0 k h hn hp
  simpa [idx] using this
theorem idx_no {p : Int → Bool} {xs : List Int} (h : ∀ i, i < xs.length → p (xs.getD i 0) = false) : idx p xs = -1 := idxF_no p xs 0 h
theorem idxF_any (p : Int → Bool) : ∀ (xs : List Int) (o : Nat), decide (idxF p o xs ≥ 0) = xs.any p
  | [], _ => rfl
  | y :: ys, o => by
    have ih := idxF_any p ys (o + 1)
    by_cases h : p y = true
    · have : (0 : Int) ≤ (o : Int) := by omega
      simp [idxF, h]
    · simp only [idxF, h, List.any_cons, Bool.false_or]
      exact ih
theorem idx_any (p : Int → Bool) (xs : List Int) : decide (idx p xs ≥ 0) = xs.any p := idxF_any p xs 0
theorem idxF_range (p : Int → Bool) : ∀ (xs : List Int) (o : Nat), idxF p o xs = -1 ∨ ((o : Int) ≤ idxF p o xs ∧ idxF p o xs < o + xs.length)
  | [], _ => .inl rfl
  | y :: ys, o => by
    have ih := idxF_range p ys (o + 1)
    by_cases h : p y = true
    · simp only [idxF, h, if_true, List.length_cons]
      omega
    · simp only [idxF, h, if_false, List.length_cons, Bool.false_eq_true]
      omega
theorem idx_range (p : Int → Bool) (xs : List Int) : idx p xs = -1 ∨ (0 ≤ idx p xs ∧ idx p xs < xs.length) := by
  have := idxF_range p xs 0
  simpa [idx] using this
end Lk

theorem iV_len (xs : List Int) : (iV xs).length = xs.length := List.length_map _
theorem Vw.cells {w : World} {p : Option Addr} {xs : List Int} (h : Vw w p (iV xs)) (hp : 0 < xs.length) : ∃ b off, p = some ⟨b, off, none⟩ ∧ b < w.heap.size ∧ ∀ j, j < xs.length → w.cell? ⟨b, off + j, none⟩ = some (.int .i64 (xs.getD j 0)) := by
  rcases h with h | ⟨b, off, rfl, hb, hc⟩
  · have : xs.length = 0 := by rw [← iV_len xs, h]; rfl
    omega
  · exact ⟨b, off, rfl, hb, fun j hj => hc j _ (iV_at xs j hj)⟩
theorem len_zero {xs : List Int} (h : ¬ 0 < xs.length) : xs = [] := List.length_eq_zero_iff.1 (by omega)

def InI (i : Int) : Prop := -9223372036854775808 ≤ i ∧ i ≤ 9223372036854775807
/-- A function value that tells p of numbers, in any world that S lets. -/
structure Tells (base : Nat) (S : World → Prop) (F : FuncId) (cap : Array Value) (p : Int → Bool) : Prop where
  run : ∀ x W, InI x → S W → base ≤ W.heap.size → Calls Try.prog F (#[.int .i64 x] ++ cap) W fun e W' => e = .returned (.bool (p x)) ∧ Below W.heap.size W W'
  low : ∀ W W', S W → Below base W W' → S W'
  enters : Go.Proofs.Enters Try.prog F
theorem info_intL : (Try.prog.info? 3).map (fun i => (i.zero, i.size, i.bytes)) = some (some (.int .i64 0), 1, 8) := by kernel_rfl
theorem sl_not_nil (a : Addr) (n c : Nat) (w : World) : (binOp .eql 28 (.slice (some a) n c) (.slice none 0 0)).run Try.prog w = .ok (.bool false) w := by kernel_rfl
theorem sl_is_nil (w : World) : (binOp .eql 28 (.slice none 0 0) (.slice none 0 0)).run Try.prog w = .ok (.bool true) w := by kernel_rfl
end Go.Proofs.Ytabackklpemhpaa
