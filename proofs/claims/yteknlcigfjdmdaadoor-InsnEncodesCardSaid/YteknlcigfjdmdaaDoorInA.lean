/-
  Contracts of insn.among, FormatOf.
-/
import Derived.Test.YteknlcigfjdmdaaDoorRef3a
import Derived.Test.YteknlcigfjdmdaaDoorRef3f
import Derived.Test.YteknlcigfjdmdaaDoorRef3g
namespace Go.Proofs.YteknlcigfjdmdaaDoor
open Go.ChangeShapes Go.WideShapes Go.ChangeAt Go.RowKit Wd

def btw (op a b : Int) : Bool := decide (a ≤ op) && decide (op ≤ b)
theorem btw_iff {op a b : Int} : btw op a b = true ↔ a ≤ op ∧ op ≤ b := by simp [btw]
theorem btw_no {op a b : Int} (h : ¬ (a ≤ op ∧ op ≤ b)) : btw op a b = false := by
  cases hb : btw op a b
  · rfl
  · exact absurd (btw_iff.1 hb) h
def anyS (op : Int) (L : List (Int × Int)) : Bool := L.any fun s => btw op s.1 s.2
theorem any_snoc (op : Int) (L : List (Int × Int)) (k : Nat) (s : Int × Int) (h : L[k]? = some s) : anyS op (L.take (k + 1)) = (anyS op (L.take k) || btw op s.1 s.2) := by
  have e : L.take (k + 1) = L.take k ++ [s] := by rw [List.take_add_one, h]; rfl
  unfold anyS
  rw [e, List.any_append]
  simp
theorem any_of_take {op : Int} {L : List (Int × Int)} {k : Nat} (h : anyS op (L.take k) = true) : anyS op L = true := by
  unfold anyS at *
  rw [List.any_eq_true] at *
  obtain ⟨x, hx, hp⟩ := h
  exact ⟨x, List.mem_of_mem_take hx, hp⟩
def SpansAt (w : World) (g : Nat) (L : List (Int × Int)) : Prop := ∀ k s, L[k]? = some s → w.cell? ⟨g, k * 2, none⟩ = some (.int .i64 s.1) ∧ w.cell? ⟨g, k * 2 + 1, none⟩ = some (.int .i64 s.2)
set_option maxHeartbeats 2000000 in
theorem among_c (op : Int) (L : List (Int × Int)) (g : Nat) (w : World) (hg : g < w.heap.size) (hlen : L.length ≤ 10) (hc : SpansAt w g L) :
    Calls Tryd.prog 38 #[.int .i64 op, .slice (some ⟨g, 0, none⟩) L.length L.length] w fun e w' => e = .returned (.bool (anyS op L)) ∧ Below w.heap.size w w' := by
  have HC := Lib.hid hc
  clear hc
  obtain ⟨n, hn⟩ : ∃ n, L.length = n := ⟨_, rfl⟩
  rw [hn] at hlen
  have HN := Lib.hid hn
  rw [hn]
  generalize hr : anyS op L = r
  have HR := Lib.hid hr
  clear hr hn
  go_enter Tryd.func38, Tryd.ntmps38
  go_wp2_with fail
  go_loopw [9] (fun i wr => ∃ k : Nat, k ≤ n ∧ i = .int .i64 k ∧ Below w.heap.size w wr ∧ anyS op (L.take k) = false) (fun i _ => n - (intOf i).toNat)
  case atStart => exact ⟨0, Nat.zero_le _, rfl, Below.refl _ _, rfl⟩
  case round =>
    obtain ⟨k, hk, rfl, hb, ha⟩ := hrel
    have HB := Lib.hid hb
    have HA := Lib.hid ha
    have hsz := hb.size
    clear hb ha
    by_cases hlt : k < n
    · obtain ⟨s, hs⟩ : ∃ s, L[k]? = some s := ⟨L[k]'(by rw [HN.out]; exact hlt), List.getElem?_eq_getElem _⟩
      have HK := Lib.hid (any_snoc op L k s hs)
      obtain ⟨c0, c1⟩ := HC.out k s hs
      have d0 := (HB.out.cell (p := ⟨g, k * 2, none⟩) hg).trans c0
      have d1 := (HB.out.cell (p := ⟨g, k * 2 + 1, none⟩) hg).trans c1
      clear c0 c1 hs
      obtain ⟨a, b⟩ := s
      simp only at d0 d1 HK
      by_cases h1 : a ≤ op
      · have e1 : decide (a ≤ op) = true := by simpa using h1
        by_cases h2 : op ≤ b
        · have e2 : decide (op ≤ b) = true := by simpa using h2
          have HT := Lib.hid (show anyS op L = true from any_of_take (k := k + 1) (by rw [HK.out, HA.out, btw_iff.2 ⟨h1, h2⟩]; rfl))
          clear h1 h2
          go_wp2_with fail
          go_ret
          exact ⟨ret_b (by rw [← HR.out, HT.out]), HB.out.alloc hsz _⟩
        · have e2 : decide (op ≤ b) = false := by simpa using h2
          have HT := Lib.hid (show anyS op (L.take (k + 1)) = false by rw [HK.out, HA.out, btw_no (by omega)]; rfl)
          clear h1 h2
          go_wp2_with fail
          go_roundw
          case rel => exact ⟨k + 1, by omega, by go_num, HB.out.alloc hsz _, HT.out⟩
          case measure => simp [intOf]; omega
      · have e1 : decide (a ≤ op) = false := by simpa using h1
        have HT := Lib.hid (show anyS op (L.take (k + 1)) = false by rw [HK.out, HA.out, btw_no (by omega)]; rfl)
        clear h1
        go_wp2_with fail
        go_roundw
        case rel => exact ⟨k + 1, by omega, by go_num, HB.out.alloc hsz _, HT.out⟩
        case measure => simp [intOf]; omega
    · obtain rfl : n = k := by omega
      go_wp2_with fail
      go_ret
      exact ⟨ret_b (by rw [← HR.out, ← HA.out, List.take_of_length_le (by rw [HN.out]; exact Nat.le_refl _)]), HB.out⟩
end Go.Proofs.YteknlcigfjdmdaaDoor
