/-
  The law of layer 10: great.
-/
import Derived.Test.YtdlollkieihjpaaRdO
namespace Go.Proofs.Ytdlollkieihjpaa
open Go.ChangeShapes Go.WideShapes Go.ChangeAt Go.RowKit Wd

/-- Is what is done more than is gone through? -/
def greatB (l : List Deed) : Bool := (List.range 70).any (fun j => decide (j < l.length) && decide (500 < (l.getD j d0).bs.length)) || decide (60 < l.length)
theorem greatB_yes {l : List Deed} {j : Nat} (h1 : j < 70) (h2 : j < l.length) (h3 : 500 < (l.getD j d0).bs.length) : greatB l = true := by
  unfold greatB
  rw [Bool.or_eq_true, List.any_eq_true]
  exact .inl ⟨j, List.mem_range.2 h1, by rw [Bool.and_eq_true]; exact ⟨decide_eq_true h2, decide_eq_true h3⟩⟩
theorem greatB_end {l : List Deed} (h : ∀ j, j < 70 → j < l.length → (l.getD j d0).bs.length ≤ 500) : greatB l = decide (60 < l.length) := by
  unfold greatB
  rw [show ((List.range 70).any fun j => decide (j < l.length) && decide (500 < (l.getD j d0).bs.length)) = false by
    rw [List.any_eq_false]
    intro j hj
    rw [Bool.and_eq_true]
    rintro ⟨h1, h2⟩
    have := h j (List.mem_range.1 hj) (of_decide_eq_true h1)
    have := of_decide_eq_true h2
    omega, Bool.false_or]
theorem greatB_no {l : List Deed} (h : greatB l = false) : l.length ≤ 60 ∧ ∀ j, j < l.length → (l.getD j d0).bs.length ≤ 500 := by
  have h60 : l.length ≤ 60 := by
    unfold greatB at h
    rw [Bool.or_eq_false_iff] at h
    have := of_decide_eq_false h.2
    omega
  refine ⟨h60, fun j hj => ?_⟩
  by_cases c : 500 < (l.getD j d0).bs.length
  · rw [greatB_yes (by omega) hj c] at h
    cases h
  · omega
set_option maxHeartbeats 1000000 in
theorem great_c {w : World} {ao : Option Addr} {n : Nat} (cap : Nat) {l : List Deed} (h : Deeds w ao n l) : Calls Try.prog 8 #[.slice ao n cap] w fun e w' => e = .returned (.bool (greatB l)) ∧ w = w' := by
  have HD := Lib.hid h
  have HLN := Lib.hid h.len
  have hmax := h.max
  clear h
  go_enter Try.func8, Try.ntmps8
  go_wp2_with fail
  go_loop [3] (fun i => ∃ k : Nat, k ≤ n ∧ k ≤ 70 ∧ i = .int .i64 (k : Int) ∧ ∀ j, j < k → (l.getD j d0).bs.length ≤ 500) (fun i => 70 - (intOf i).toNat)
  case atStart => exact ⟨0, by omega, by omega, rfl, fun j hj => by omega⟩
  case round =>
    obtain ⟨k, hk, hk7, rfl, hs⟩ := hrel
    have HS := Lib.hid hs
    clear hs
    by_cases hlt : k < n
    · have g1 : decide (k < n) = true := by simpa using hlt
      by_cases hlt7 : k < 70
      · have g2 : decide ((k : Int) < 70) = true := by simp; omega
        have hin := (HD.out.each k hlt)
        obtain ⟨b, off, rfl, hb, hc⟩ := HD.out.at_ (by omega)
        have c4 : w.cell? ⟨b, off + k * 5 + 4, none⟩ = some (.slice (l.getD k d0).p (l.getD k d0).bs.length (l.getD k d0).cp) := hc k hlt 4 (by omega)
        have hki : (k : Int) < (n : Int) := by omega
        have hmx := hin.max
        clear hin hc
        obtain ⟨m, hm⟩ : ∃ m, (l.getD k d0).bs.length = m := ⟨_, rfl⟩
        rw [hm] at c4 hmx
        have HM := Lib.hid hm
        clear hm
        generalize (l.getD k d0).p = pp at *
        generalize (l.getD k d0).cp = cc at *
        by_cases h5 : 500 < m
        · have g3 : decide (500 < m) = true := by simpa using h5
          have g3' : decide (500 < (m : Int)) = true := by simp; omega
          have HG := Lib.hid (greatB_yes hlt7 (by rw [HLN.out]; exact hlt) (by rw [HM.out]; exact h5))
          go_wp2_with fail
          go_ret
          exact ⟨lret_b HG.out.symm, rfl⟩
        · have g3 : decide (500 < m) = false := by simpa using h5
          have g3' : decide (500 < (m : Int)) = false := by simp; omega
          have HN := Lib.hid (show ∀ j, j < k + 1 → (l.getD j d0).bs.length ≤ 500 by
            intro j hj
            by_cases c : j = k
            · rw [c, HM.out]; omega
            · exact HS.out j (by omega))
          go_wp2_with fail
          go_round
          case rel => exact ⟨k + 1, by omega, by omega, by go_num, HN.out⟩
          case measure => simp [intOf]; omega
      · have g2 : decide ((k : Int) < 70) = false := by simp; omega
        have HG := Lib.hid (show greatB l = decide (60 < (n : Int)) by
          rw [greatB_end fun j h7 hj => HS.out j (by omega), HLN.out]
          exact decide_eq_decide.2 (by omega))
        go_wp2_with fail
        go_ret
        exact ⟨lret_b HG.out.symm, rfl⟩
    · have g1 : decide (k < n) = false := by simpa using hlt
      have HG := Lib.hid (show greatB l = decide (60 < (n : Int)) by
        rw [greatB_end fun j h7 hj => HS.out j (by have := HLN.out; omega), HLN.out]
        exact decide_eq_decide.2 (by omega))
      go_wp2_with fail
      go_ret
      exact ⟨lret_b HG.out.symm, rfl⟩
end Go.Proofs.Ytdlollkieihjpaa
