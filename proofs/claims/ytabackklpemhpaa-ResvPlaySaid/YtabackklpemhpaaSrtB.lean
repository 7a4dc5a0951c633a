/-
  Contracts of slices.Sort at []int, of at most 12 numbers that the call owns: its sort by insertion is walked.
-/
import Derived.Test.YtabackklpemhpaaSrtA
import Derived.Test.YtabackklpemhpaaOwn
import Derived.Test.YtabackklpemhpaaSteady
import Derived.Lib.BitFns
import Derived.Lib.Strings
import Derived.Lib.Small
namespace Go.Proofs.Ytabackklpemhpaa
open Go.ChangeShapes Go.WideShapes Go.ChangeAt Go.RowKit

abbrev iV (xs : List Int) : List Value := xs.map (Value.int .i64)
theorem iV_at (xs : List Int) (j : Nat) (hj : j < xs.length) : (iV xs)[j]? = some (.int .i64 (xs.getD j 0)) := by
  rw [List.getElem?_map, List.getD, List.getElem?_eq_getElem hj]
  rfl
/-- Numbers that the call owns. -/
structure Ints (w : World) (base g cap : Nat) (xs : List Int) : Prop where
  own : w.ownsRow base 3 1 (.slice (some ⟨g, 0, none⟩) xs.length cap) xs.length (iV xs)
theorem Ints.cell {w : World} {base g cap : Nat} {xs : List Int} (h : Ints w base g cap xs) (j : Nat) (hj : j < xs.length) : w.cell? ⟨g, j, none⟩ = some (.int .i64 (xs.getD j 0)) := by
  rw [h.own.cellAt j (by omega), iV_at xs j hj]
theorem Ints.frozen {w : World} {base g cap : Nat} {xs : List Int} (h : Ints w base g cap xs) (j : Nat) : w.frozen? ⟨g, j, none⟩ = false := h.own.frozenAt j
theorem Ints.base {w : World} {base g cap : Nat} {xs : List Int} (h : Ints w base g cap xs) : base ≤ g ∧ g < w.heap.size := h.own.lt g rfl
theorem Ints.set {w : World} {base g cap : Nat} {xs : List Int} (h : Ints w base g cap xs) (j : Nat) (x : Int) : Ints (w.setCell ⟨g, j, none⟩ (.int .i64 x)) base g cap (xs.set j x) := by
  have := (h.own.stored j (.int .i64 x)).1
  constructor
  rw [List.length_set, iV, List.map_set]
  exact this
theorem Ints.low {w w' : World} {base g cap : Nat} {xs : List Int} (h : Ints w base g cap xs) (hb : Below w.heap.size w w') : Ints w' base g cap xs := ⟨own_low h.own hb⟩
theorem Ints.drewN {w : World} {base g cap : Nat} {xs : List Int} (h : Ints w base g cap xs) (n : Nat) : Ints (w.drewN n) base g cap xs := h.low ⟨rfl, rfl, rfl, Nat.le_refl _, fun _ _ => rfl⟩
theorem Ints.drew {w : World} {base g cap : Nat} {xs : List Int} (h : Ints w base g cap xs) : Ints w.drew base g cap xs := h.drewN 1
theorem below_dnS {B : Nat} {a w : World} (h : Below B a w) (n : Nat) : Below B a (w.drewN n) := h.trans ⟨rfl, rfl, rfl, Nat.le_refl _, fun _ _ => rfl⟩

set_option maxRecDepth 100000 in
theorem slen64_c (x : Int) (w : World) (h0 : 0 ≤ x) (h1 : x ≤ 12) : Calls Try.prog 89 #[.int .u64 x] w fun e w' => (∃ k, e = .returned (.int .i64 k)) ∧ w' = w := by
  have hu := Try.underlying9
  have l1 := Lib.bitLen_le8' x h0 (by omega)
  have l2 := Lib.len8_of x h0 (by omega)
  have l3 : 0 ≤ Lib.len8 x := by rw [l2]; omega
  have l4 : Lib.len8 x ≤ 8 := by rw [l2]; omega
  clear l1 l2
  go_enter Try.func89, Try.ntmps89
  go_wp2_with fail
  go_ret
  exact ⟨⟨_, rfl⟩, rfl⟩
theorem slen_c (x : Int) (w : World) (h0 : 0 ≤ x) (h1 : x ≤ 12) : Calls Try.prog 51 #[.int .u64 x] w fun e w' => (∃ k, e = .returned (.int .i64 k)) ∧ w' = w := by
  go_enter Try.func51, Try.ntmps51
  go_wp2_with fail
  refine (slen64_c _ _ h0 h1).mono ?_
  rintro e w' ⟨⟨k, rfl⟩, rfl⟩
  go_wp2_with fail
  go_ret
  exact ⟨⟨_, rfl⟩, rfl⟩
end Go.Proofs.Ytabackklpemhpaa
