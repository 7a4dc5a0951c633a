/-
  Contracts of slices.Sort at []int, of at most 12 numbers that the call owns: its sort by insertion is walked. Contract of slices.Compact at []int, of numbers that the call owns. Contract of split.Stripes (layer 11).
-/
import Derived.Test.YtabackklpemhpaaKaw
import Derived.Lib.SliceRun
import Derived.Test.YtabackklpemhpaaKae
set_option maxRecDepth 20000
namespace Go.Proofs.Ytabackklpemhpaa
open Go.ChangeShapes Go.WideShapes Go.ChangeAt Go.RowKit

/-- Between two rounds of the outer loop. -/
structure SoAt (w W : World) (base g cap : Nat) (xs ys : List Int) : Prop where
  bel : Below base w W
  row : Ints W base g cap ys
  len : ys.length = xs.length
theorem SoAt.drewN {w W : World} {base g cap : Nat} {xs ys : List Int} (h : SoAt w W base g cap xs ys) (n : Nat) : SoAt w (W.drewN n) base g cap xs ys := ⟨below_dnS h.bel n, h.row.drewN n, h.len⟩
end Go.Proofs.Ytabackklpemhpaa
set_option maxRecDepth 20000
namespace Go.Proofs.Ytabackklpemhpaa
open Go.ChangeShapes Go.WideShapes Go.ChangeAt Go.RowKit

theorem own_trim {w : World} {base : Nat} {e : TypeId} {g n cap : Nat} {xs : List Value} (h : w.ownsRow base e 1 (.slice (some ⟨g, 0, none⟩) n cap) n xs) (k : Nat) (hk : k ≤ n) : w.ownsRow base e 1 (.slice (some ⟨g, 0, none⟩) k cap) k (xs.take k) := by
  have hl := h.1
  refine ⟨by rw [List.length_take]; omega, .inr ?_⟩
  rcases h.2 with ⟨h', _⟩ | ⟨g', cap', cur, h', hb, hg, hc, hm, hs, ht⟩
  · simp at h'
  · simp only [Value.slice.injEq, Option.some.injEq, Addr.mk.injEq, and_true, true_and] at h'
    obtain ⟨rfl, rfl⟩ := h'
    refine ⟨g, cap, cur, rfl, hb, hg, by omega, hm, hs, ?_⟩
    rw [← ht, List.take_take, Nat.mul_one, Nat.mul_one, Nat.min_eq_left hk]
theorem own_setCells {base : Nat} {e : TypeId} {g n cap : Nat} : ∀ (vs : List Value) (o : Nat) (w : World) (xs : List Value), w.ownsRow base e 1 (.slice (some ⟨g, 0, none⟩) n cap) n xs →
    ∃ ys, (w.setCells g o vs).ownsRow base e 1 (.slice (some ⟨g, 0, none⟩) n cap) n ys ∧ ys.take o = xs.take o
  | [], o, w, xs, h => ⟨xs, h, rfl⟩
  | v :: vs, o, w, xs, h => by
    obtain ⟨ys, h1, h2⟩ := own_setCells vs (o + 1) (w.setCell ⟨g, o, none⟩ v) (xs.set o v) (h.stored o v).1
    refine ⟨ys, h1, ?_⟩
    have := congrArg (List.take o) h2
    rw [List.take_take, List.take_take, Nat.min_eq_left (Nat.le_succ o), List.take_set, List.set_eq_of_length_le (by rw [List.length_take]; omega)] at this
    exact this
theorem below_setCells {B : Nat} {g : Nat} (hg : B ≤ g) : ∀ (vs : List Value) (o : Nat) (a w : World), Below B a w → Below B a (w.setCells g o vs)
  | [], _, _, _, h => h
  | v :: vs, o, a, _, h => below_setCells hg vs (o + 1) a _ (h.setCell (p := ⟨g, o, none⟩) hg v)
/-- While the repetitions are taken out: k numbers stand, of the first p ones; from the one ahead of p on all is as it was. -/
structure CoAt (w W : World) (base g cap : Nat) (xs : List Int) (k p : Nat) (ys : List Int) : Prop where
  bel : Below base w W
  row : Ints W base g cap ys
  len : ys.length = xs.length
  low : ys.take k = Srt.comp xs p
  high : ∀ i, p ≤ i + 1 → ys.getD i 0 = xs.getD i 0
  cnt : (Srt.comp xs p).length = k
  lt : k < p
theorem CoAt.drewN {w W : World} {base g cap : Nat} {xs ys : List Int} {k p : Nat} (h : CoAt w W base g cap xs k p ys) (n : Nat) : CoAt w (W.drewN n) base g cap xs k p ys := ⟨below_dnS h.bel n, h.row.drewN n, h.len, h.low, h.high, h.cnt, h.lt⟩
theorem CoAt.skip {w W : World} {base g cap : Nat} {xs ys : List Int} {k p : Nat} (h : CoAt w W base g cap xs k p ys) (hp : 0 < p) (he : xs.getD p 0 = xs.getD (p - 1) 0) : CoAt w W base g cap xs k (p + 1) ys := by
  have e : Srt.comp xs (p + 1) = Srt.comp xs p := by
    show (if p = 0 ∨ xs.getD p 0 ≠ xs.getD (p - 1) 0 then _ else _) = _
    rw [if_neg (by simp only [not_or, Decidable.not_not]; exact ⟨by omega, he⟩)]
  exact ⟨h.bel, h.row, h.len, by rw [e]; exact h.low, fun i hi => h.high i (by omega), by rw [e]; exact h.cnt, by have := h.lt; omega⟩
theorem CoAt.keep {w W : World} {base g cap : Nat} {xs ys : List Int} {k p : Nat} (h : CoAt w W base g cap xs k p ys) (hp : p < xs.length) (he : xs.getD p 0 ≠ xs.getD (p - 1) 0) :
    CoAt w (W.setCell ⟨g, k, none⟩ (.int .i64 (xs.getD p 0))) base g cap xs (k + 1) (p + 1) (ys.set k (xs.getD p 0)) := by
  have hk := h.lt
  have e : Srt.comp xs (p + 1) = Srt.comp xs p ++ [xs.getD p 0] := by
    show (if p = 0 ∨ xs.getD p 0 ≠ xs.getD (p - 1) 0 then _ else _) = _
    rw [if_pos (.inr he)]
  have hlen := h.len
  refine ⟨h.bel.setCell (p := ⟨g, k, none⟩) h.row.base.1 _, h.row.set k _, by rw [List.length_set]; exact hlen, ?_, fun i hi => ?_, by rw [e, List.length_append, h.cnt]; rfl, by omega⟩
  · rw [e, ← h.low, List.take_succ_eq_append_getElem (by rw [List.length_set]; omega), List.take_set, List.set_eq_of_length_le (by rw [List.length_take]; omega), List.getElem_set_self]
  · rw [← h.high i (by omega), List.getD, List.getElem?_set_ne (by omega)]
    rfl
theorem zv_int (w : World) : (zeroValue 3).run Try.prog w = .ok (.int .i64 0) w := by
  have h : (Try.prog.info? 3).map (·.zero) = some (some (.int .i64 0)) := by kernel_rfl
  obtain ⟨i, hi, hz⟩ := Option.map_eq_some_iff.1 h
  simp [zeroValue, typeInfo, hi, hz]
end Go.Proofs.Ytabackklpemhpaa
set_option maxRecDepth 20000
namespace Go.Proofs.Ytabackklpemhpaa
open Go.ChangeShapes Go.WideShapes Go.ChangeAt Go.RowKit Wd

theorem info_int : (Try.prog.info? 3).map (fun i => (i.zero, i.size, i.bytes)) = some (some (.int .i64 0), 1, 8) := by kernel_rfl
/-- The stripes of pieces. -/
def stL (l : List Sp.P) (n : Int) : List Int := l.map fun p => Sp.stripe p.a n
theorem stL_len (l : List Sp.P) (n : Int) : (stL l n).length = l.length := by simp [stL]
theorem stL_take (l : List Sp.P) (n : Int) (k : Nat) (hk : k < l.length) : (stL l n).take (k + 1) = (stL l n).take k ++ [Sp.stripe (l.getD k Sp.p0).a n] := by
  rw [List.take_succ_eq_append_getElem (by rw [stL_len]; exact hk)]
  congr 2
  simp [stL, List.getD, List.getElem?_eq_getElem hk]
end Go.Proofs.Ytabackklpemhpaa
