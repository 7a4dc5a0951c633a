/-
  The contract of bits.Gather: what the parts of a slice of pairs come to; only new memory is made.
-/
import Derived.Test.YtgkenodiaehnnaaRefC
import Derived.Deep.QuietTactic
import Derived.BigQuiet
namespace Go.Proofs.Ytgkenodiaehnnaa
open Go.ChangeShapes Go.WideShapes Go.ChangeAt Go.RowKit Wd

theorem below_dn {B : Nat} {a w : World} (h : Below B a w) (n : Nat) : Below B a (w.drewN n) := h.trans ⟨rfl, rfl, rfl, Nat.le_refl _, fun _ _ => rfl⟩

def gstep (x acc : Int) (q : Int × Int) : Int := bits .or .u64 (raiseS acc (if q.2 < 0 then 0 else q.2)) (cutS x q.1 q.2)
def gatherS (x : Int) (ps : List (Int × Int)) : Int := ps.foldl (gstep x) 0
theorem gstep_range (x acc : Int) (q : Int × Int) : 0 ≤ gstep x acc q ∧ gstep x acc q < 18446744073709551616 := by
  have a := raiseS_range acc (if q.2 < 0 then 0 else q.2)
  have b := cutS_range x q.1 q.2
  exact or_range a.1 a.2 b.1 b.2
theorem gatherS_succ (x : Int) (ps : List (Int × Int)) (k : Nat) (h : k < ps.length) : gatherS x (ps.take (k + 1)) = gstep x (gatherS x (ps.take k)) (ps.getD k (0, 0)) := by
  unfold gatherS
  rw [List.take_succ_eq_append_getElem h, List.foldl_append]
  simp [List.getD, h]
theorem gatherS_range (x : Int) (ps : List (Int × Int)) (k : Nat) (hk : k ≤ ps.length) : 0 ≤ gatherS x (ps.take k) ∧ gatherS x (ps.take k) < 18446744073709551616 := by
  rcases k with _ | k
  · simp [gatherS]
  · rw [gatherS_succ x ps k (by omega)]; exact gstep_range _ _ _
theorem gstep_neg {x acc p s : Int} (h : s < 0) : bits .or .u64 (raiseS acc 0) (cutS x p s) = gstep x acc (p, s) := by
  unfold gstep
  simp [h]
theorem gstep_pos {x acc p s : Int} (h : 0 ≤ s) : bits .or .u64 (raiseS acc s) (cutS x p s) = gstep x acc (p, s) := by
  unfold gstep
  rw [if_neg (by simp; omega)]

def FitAll (ps : List (Int × Int)) : Prop := ∀ j, -9223372036854775808 ≤ (ps.getD j (0, 0)).1 ∧ (ps.getD j (0, 0)).1 < 9223372036854775808 ∧ -9223372036854775808 ≤ (ps.getD j (0, 0)).2 ∧ (ps.getD j (0, 0)).2 < 9223372036854775808
def Pairs (w : World) (b off : Nat) (ps : List (Int × Int)) : Prop :=
  ∀ j, j < ps.length → w.cell? ⟨b, off + j * 2, none⟩ = some (.int .i64 (ps.getD j (0, 0)).1) ∧ w.cell? ⟨b, off + j * 2 + 1, none⟩ = some (.int .i64 (ps.getD j (0, 0)).2)

set_option maxHeartbeats 1600000 in
theorem gather_c (x : Int) (ps : List (Int × Int)) (b off n cap : Nat) (w : World) (hx0 : 0 ≤ x) (hx : x < 18446744073709551616) (hb : b < w.heap.size) (hl : n ≤ 1000000) (hn : n = ps.length)
    (hr : FitAll ps) (hc : Pairs w b off ps) :
    Calls Try.prog 33 #[.int .u64 x, .slice (some ⟨b, off, none⟩) n cap] w fun e w' => e = .returned (.int .u64 (gatherS x ps)) ∧ Below w.heap.size w w' := by
  have HC := Lib.hid hc
  have HR := Lib.hid hr
  have HN := Lib.hid hn
  clear hc hr hn
  go_enter Try.func33, Try.ntmps33
  go_wp2
  go_loopw [5, 12] (fun v i wr => ∃ k : Nat, k ≤ n ∧ i = .int .i64 k ∧ v = .int .u64 (gatherS x (ps.take k)) ∧ Below w.heap.size w wr) (fun _ i _ => n - (intOf i).toNat)
  case atStart => exact ⟨0, Nat.zero_le _, rfl, rfl, Below.refl _ _⟩
  case round =>
    obtain ⟨k, hk, rfl, rfl, hnx⟩ := hrel
    have hsz := hnx.size
    obtain ⟨hy0, hy⟩ := gatherS_range x ps k (by rw [← HN.out]; exact hk)
    by_cases hlt : k < n
    · have HE := Lib.hid (gatherS_succ x ps k (by rw [← HN.out]; exact hlt))
      generalize hy' : gatherS x (ps.take k) = y at *
      clear hy'
      obtain ⟨h1, h2⟩ := HC.out k (by rw [← HN.out]; exact hlt)
      rw [← hnx.cell (by exact hb)] at h1 h2
      obtain ⟨r1, r2, r3, r4⟩ := HR.out k
      generalize hq : ps.getD k (0, 0) = q at *
      clear hq
      obtain ⟨p, s⟩ := q
      simp only at h1 h2 r1 r2 r3 r4
      by_cases hs : s < 0
      · go_wp2
        go_quiet (fail)
        go_wp2_with (first
          | (go_at_call 56; refine (raise_c _ _ _ hy0 hy (by omega) (by omega)).mono ?_; rintro e w' ⟨rfl, rfl⟩)
          | (go_at_call 16; refine (cut_c _ _ _ _ hx0 hx r1 r2).mono ?_; rintro e w' ⟨rfl, rfl⟩))
        go_roundw
        case rel => exact ⟨k + 1, by omega, by go_num, by rw [HE.out]; exact congrArg (Value.int .u64) (gstep_neg hs), below_dn (hnx.alloc hsz _) _⟩
        case measure => simp [intOf]; omega
      · go_wp2
        go_quiet (fail)
        go_wp2_with (first
          | (go_at_call 56; refine (raise_c _ _ _ hy0 hy (by omega) (by omega)).mono ?_; rintro e w' ⟨rfl, rfl⟩)
          | (go_at_call 16; refine (cut_c _ _ _ _ hx0 hx r1 r2).mono ?_; rintro e w' ⟨rfl, rfl⟩))
        go_roundw
        case rel => exact ⟨k + 1, by omega, by go_num, by rw [HE.out]; exact congrArg (Value.int .u64) (gstep_pos (by omega)), below_dn (hnx.alloc hsz _) _⟩
        case measure => simp [intOf]; omega
    · go_wp2
      go_ret
      exact ⟨by rw [List.take_of_length_le (by have := HN.out; omega)]; rfl, hnx⟩
end Go.Proofs.Ytgkenodiaehnnaa
