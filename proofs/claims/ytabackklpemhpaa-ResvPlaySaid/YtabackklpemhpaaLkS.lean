/-
  Contract of the law's Ints: are two lists of numbers the same?
-/
import Derived.Test.YtabackklpemhpaaLkA
namespace Go.Proofs.Ytabackklpemhpaa
open Go.ChangeShapes Go.WideShapes Go.ChangeAt Go.RowKit

theorem eq_of_at {xs ys : List Int} (h : xs.length = ys.length) (he : ∀ i, i < xs.length → (xs.getD i 0 != ys.getD i 0) = false) : xs = ys := by
  apply List.ext_getElem h
  intro i h1 h2
  have := he i h1
  rw [List.getD, List.getD, List.getElem?_eq_getElem h1, List.getElem?_eq_getElem h2] at this
  simpa using this
set_option maxHeartbeats 2000000 in
theorem ints_c (p q : Option Addr) (cp cq : Nat) (xs ys : List Int) (w : World) (hp : Vw w p (iV xs)) (hq : Vw w q (iV ys)) (hl : xs.length ≤ 1000000) :
    Calls Try.prog 27 #[.slice p xs.length cp, .slice q ys.length cq] w fun e w' => e = .returned (.bool (decide (xs = ys))) ∧ Below w.heap.size w w' := by
  by_cases hlen : xs.length = ys.length
  · by_cases h0 : 0 < xs.length
    · obtain ⟨bp, op, rfl, hbp, hcp⟩ := hp.cells h0
      obtain ⟨bq, oq, rfl, hbq, hcq⟩ := hq.cells (by omega)
      have HP := Lib.hid hcp
      have HQ := Lib.hid hcq
      rw [← hlen]
      clear hp hq hcp hcq
      go_enter Try.func27, Try.ntmps27
      go_wp2_with fail
      go_loopw [5] (fun iv wr => ∃ k : Nat, k ≤ xs.length ∧ iv = .int .i64 k ∧ (∀ i, i < k → (xs.getD i 0 != ys.getD i 0) = false) ∧ Below w.heap.size w wr) (fun iv _ => xs.length - (intOf iv).toNat)
      case atStart => exact ⟨0, Nat.zero_le _, rfl, fun i h => by omega, Below.refl _ _⟩
      case round =>
        obtain ⟨k, hk, rfl, hn, hb⟩ := hrel
        have HN := Lib.hid hn
        have HB := Lib.hid hb
        by_cases hlt : k < xs.length
        · have c1 := (hb.cell (p := ⟨bp, op + k, none⟩) hbp).trans (HP.out k hlt)
          have c2 := (hb.cell (p := ⟨bq, oq + k, none⟩) hbq).trans (HQ.out k (by omega))
          have g : (k : Int) < xs.length := by omega
          clear hn hb
          cases he : (xs.getD k 0 != ys.getD k 0)
          · have HE := Lib.hid he
            generalize xs.getD k 0 = x at c1 he
            generalize ys.getD k 0 = y at c2 he
            go_wp2_with fail
            go_quiet (fail)
            have HB2 := Lib.hid (below_dnS HB.out nq)
            go_wp2_with fail
            go_roundw
            case rel => exact ⟨k + 1, by omega, by go_num, fun i hi => if e : i = k then e ▸ HE.out else HN.out i (by omega), HB2.out⟩
            case measure => simp [intOf]; omega
          · have HE := Lib.hid (show decide (xs = ys) = false from decide_eq_false fun e => by rw [e] at he; simp at he)
            generalize xs.getD k 0 = x at c1 he
            generalize ys.getD k 0 = y at c2 he
            go_wp2_with fail
            go_quiet (fail)
            have HB2 := Lib.hid (below_dnS HB.out nq)
            go_wp2_with fail
            go_ret
            exact ⟨by rw [HE.out]; rfl, HB2.out⟩
        · obtain rfl : k = xs.length := by omega
          have HE := Lib.hid (show decide (xs = ys) = true from decide_eq_true (eq_of_at hlen HN.out))
          clear hn hb
          go_wp2_with fail
          go_ret
          exact ⟨by rw [HE.out]; rfl, HB.out⟩
    · obtain rfl := len_zero h0
      obtain rfl := len_zero (xs := ys) (by omega)
      go_enter Try.func27, Try.ntmps27
      go_wp2_with fail
      go_loop [5] (fun iv => iv = .int .i64 0) (fun _ => 0)
      case atStart => rfl
      case round =>
        subst hrel
        go_wp2_with fail
        go_ret
        exact ⟨rfl, Below.refl _ _⟩
  · have HE := Lib.hid (show decide (xs = ys) = false from decide_eq_false fun e => hlen (by rw [e]))
    have g : ((xs.length : Int) != (ys.length : Int)) = true := by
      have : (xs.length : Int) ≠ ys.length := by omega
      simpa using this
    go_enter Try.func27, Try.ntmps27
    go_wp2_with fail
    go_ret
    exact ⟨by rw [HE.out]; rfl, Below.refl _ _⟩
end Go.Proofs.Ytabackklpemhpaa
