/-
  Contracts of the reference of layer 12: New, right, in.
-/
import Derived.Test.YtgegahnjhaldeaaRlA
namespace Go.Proofs.Ytgegahnjhaldeaa
open Go.ChangeShapes Go.WideShapes Go.ChangeAt Go.RowKit
variable {Z : Nat → Prop}

abbrev lV : Array Value := #[.int .i64 (-1), .slice none 0 0]
theorem info_L : (Try.prog.info? 67).map (fun i => (i.zero, i.size, i.bytes)) = some (some (.agg #[.int .i64 0, .slice none 0 0]), 2, 32) := by kernel_rfl
def newL : Nat → List Value
  | 0 => []
  | n + 1 => newL n ++ [.int .i64 (-1), .slice none 0 0]
theorem newL_len : ∀ n, (newL n).length = n * 2
  | 0 => rfl
  | n + 1 => by simp [newL, newL_len n]; omega
theorem newL_at : ∀ n i, i < n → (newL n)[i * 2]? = some (.int .i64 (-1)) ∧ (newL n)[i * 2 + 1]? = some (.slice none 0 0)
  | 0, i, h => by omega
  | n + 1, i, h => by
    have hl := newL_len n
    by_cases e : i = n
    · subst e
      unfold newL
      rw [List.getElem?_append_right (by omega), List.getElem?_append_right (by omega), hl, Nat.sub_self, show i * 2 + 1 - i * 2 = 1 by omega]
      exact ⟨rfl, rfl⟩
    · have := newL_at n i (by omega)
      unfold newL
      rw [List.getElem?_append_left (by omega), List.getElem?_append_left (by omega)]
      exact this
theorem own_new {w : World} {base n : Nat} {v : Value} (hn : 0 < n) (h : w.ownsRow base 67 2 v n (newL n)) : ∃ g cap, v = .slice (some ⟨g, 0, none⟩) n cap ∧ base ≤ g ∧ g < w.heap.size ∧ ∀ Z : Nat → Prop, Z g → RlAt Z w g n fun _ => [] := by
  have h' := h
  rcases h.2 with ⟨-, h0⟩ | ⟨g, cap, cur, rfl, hb, hg, hc, hm, hs, ht⟩
  · omega
  · have hC : CsAt w g 67 cur := hg
    refine ⟨g, cap, rfl, hb, hC.lt, fun Z hz => ⟨hC.lt, hz, fun i hi => ?_, fun i hi => ⟨none, 0, ?_, .inl rfl, .inl ⟨rfl, rfl⟩, Nat.le_refl _⟩, fun j => hC.frozen j⟩⟩
    · rw [h'.cellAt _ (by omega)]; exact (newL_at n i hi).1
    · rw [h'.cellAt _ (by omega)]; exact (newL_at n i hi).2
set_option maxRecDepth 100000 in
set_option maxHeartbeats 2000000 in
theorem rnew_c (n : Nat) (w : World) (h1 : n ≤ 128) :
    Calls Try.prog 9 #[.int .i64 (n : Int)] w fun e w' => ∃ v, e = .returned v ∧ w'.ownsRow w.heap.size 67 2 v n (newL n) ∧ Below w.heap.size w w' := by
  have HS := Lib.hid (show w.ownsRow w.heap.size 67 2 (.slice none 0 0) 0 (newL 0) ∧ Below w.heap.size w w from ⟨World.ownsRow_nil _ _ _ _, Below.refl _ _⟩)
  go_enter Try.func9, Try.ntmps9
  go_wp2_with fail
  go_loopw [3, 4] (fun v iv wr => ∃ k : Nat, k ≤ n ∧ iv = .int .i64 k ∧ wr.ownsRow w.heap.size 67 2 v k (newL k) ∧ Below w.heap.size w wr) (fun _ iv _ => n - (intOf iv).toNat)
  case atStart => exact ⟨0, by omega, rfl, HS.out⟩
  case round =>
    obtain ⟨k, hk, rfl, hS⟩ := hrel
    have HR := Lib.hid hS
    have hsz := hS.2.size
    clear hS HS
    by_cases hlt : k < n
    · have gk : (k : Int) < n := by omega
      have gk1 : decide (k < n) = true := by simpa using hlt
      go_wp2_with (at_builtin; refine wpList_push rfl _ _ 30 rfl w.heap.size 67 _ 2 32 Try.underlying30 info_L rfl (by omega) (by omega) _ k _ rfl HR.out.1 lV rfl (by simp [Value.oneCell']) _ rfl (by simp) (by omega) hsz ?_)
      intro v' w' hown' hb'
      have HN := Lib.hid (show w'.ownsRow w.heap.size 67 2 v' (k + 1) (newL (k + 1)) ∧ Below w.heap.size w w' from ⟨hown', HR.out.2.trans hb'⟩)
      clear hown' hb' HR hsz
      go_wp2_with fail
      go_roundw
      case rel => exact ⟨k + 1, by omega, by go_num, HN.out⟩
      case measure => simp [intOf]; omega
    · have gk : ¬ (k : Int) < n := by omega
      have gk1 : decide (k < n) = false := by simpa using hlt
      obtain rfl : k = n := by omega
      clear hsz
      go_wp2_with fail
      go_ret
      exact ⟨_, rfl, HR.out⟩
theorem right_c (p : Option Addr) (n cap : Nat) (who at_ : Int) (w : World) :
    Calls Try.prog 33 #[.slice p n cap, .int .i64 who, .int .i64 at_] w fun e w' => e = .returned (.bool (Lk.has who at_ n)) ∧ w = w' := by
  by_cases h1 : 0 ≤ who
  · by_cases h2 : who ≤ 7
    · by_cases h3 : 0 ≤ at_
      · by_cases h4 : at_ < (n : Int)
        · have HE := Lib.hid (show Lk.has who at_ n = true from Lk.has_iff.2 ⟨h1, by omega, h3, h4⟩)
          have g1 : decide (0 ≤ who) = true := by simpa using h1
          have g2 : decide (who ≤ 7) = true := by simpa using h2
          have g3 : decide (0 ≤ at_) = true := by simpa using h3
          have g4 : decide (at_ < (n : Int)) = true := by simpa using h4
          go_enter Try.func33, Try.ntmps33
          go_wp2_with fail
          go_ret
          rw [HE.out]
          exact ⟨rfl, rfl⟩
        · have HE := Lib.hid (show Lk.has who at_ n = false from Lk.has_no (by omega))
          have g1 : decide (0 ≤ who) = true := by simpa using h1
          have g2 : decide (who ≤ 7) = true := by simpa using h2
          have g3 : decide (0 ≤ at_) = true := by simpa using h3
          have g4 : decide (at_ < (n : Int)) = false := by simpa using h4
          go_enter Try.func33, Try.ntmps33
          go_wp2_with fail
          go_ret
          rw [HE.out]
          exact ⟨rfl, rfl⟩
      · have HE := Lib.hid (show Lk.has who at_ n = false from Lk.has_no (by omega))
        have g1 : decide (0 ≤ who) = true := by simpa using h1
        have g2 : decide (who ≤ 7) = true := by simpa using h2
        have g3 : decide (0 ≤ at_) = false := by simpa using h3
        go_enter Try.func33, Try.ntmps33
        go_wp2_with fail
        go_ret
        rw [HE.out]
        exact ⟨rfl, rfl⟩
    · have HE := Lib.hid (show Lk.has who at_ n = false from Lk.has_no (by omega))
      have g1 : decide (0 ≤ who) = true := by simpa using h1
      have g2 : decide (who ≤ 7) = false := by simpa using h2
      go_enter Try.func33, Try.ntmps33
      go_wp2_with fail
      go_ret
      rw [HE.out]
      exact ⟨rfl, rfl⟩
  · have HE := Lib.hid (show Lk.has who at_ n = false from Lk.has_no (by omega))
    have g1 : decide (0 ≤ who) = false := by simpa using h1
    go_enter Try.func33, Try.ntmps33
    go_wp2_with fail
    go_ret
    rw [HE.out]
    exact ⟨rfl, rfl⟩
theorem rin_c (p : Option Addr) (cap : Nat) (xs : List Int) (who : Int) (w : World) (hv : Vw w p (iV xs)) (hl : xs.length ≤ 1000000) :
    Calls Try.prog 36 #[.slice p xs.length cap, .int .i64 who] w fun e w' => e = .returned (.bool (xs.any fun y => who == y)) ∧ w = w' := by
  have HV := Lib.hid hv
  clear hv
  go_enter Try.func36, Try.ntmps36
  go_wp2_with fail
  go_loopw [5] (fun iv wr => ∃ k : Nat, k ≤ xs.length ∧ iv = .int .i64 k ∧ (∀ j, j < k → xs.getD j 0 ≠ who) ∧ wr = w) (fun iv _ => xs.length - (intOf iv).toNat)
  case atStart => exact ⟨0, by omega, rfl, fun j hj => by omega, rfl⟩
  case round =>
    obtain ⟨k, hk, rfl, hno, rfl⟩ := hrel
    have HN := Lib.hid hno
    clear hno
    by_cases hlt : k < xs.length
    · have gk : (k : Int) < xs.length := by omega
      have gk1 : decide (k < xs.length) = true := by simpa using hlt
      obtain ⟨b, off, rfl, hbl, hcl⟩ := HV.out.cells (show 0 < xs.length by omega)
      have cx := hcl k hlt
      generalize hx : xs.getD k 0 = x at *
      clear hcl
      by_cases he : x = who
      · have ge : (x == who) = true := by simpa using he
        have HE := Lib.hid (show (xs.any fun y => who == y) = true from by
          rw [Lk.any_mem, ← he, ← hx]
          rw [List.getD, List.getElem?_eq_getElem hlt]
          exact List.getElem_mem hlt)
        clear hx
        go_wp2_with fail
        go_ret
        rw [HE.out]
        exact ⟨rfl, rfl⟩
      · have ge : (x == who) = false := by simpa using he
        have HX := Lib.hid (show ∀ j, j < k + 1 → xs.getD j 0 ≠ who from fun j hj => by
          by_cases e : j = k
          · subst e; rw [hx]; exact he
          · exact HN.out j (by omega))
        clear hx
        go_wp2_with fail
        go_roundw
        case rel => exact ⟨k + 1, by omega, by go_num, HX.out, trivial⟩
        case measure => simp [intOf]; omega
    · have gk : ¬ (k : Int) < xs.length := by omega
      have gk1 : decide (k < xs.length) = false := by simpa using hlt
      obtain rfl : k = xs.length := by omega
      have HE := Lib.hid (show (xs.any fun y => who == y) = false from by
        rw [Bool.eq_false_iff]
        intro h
        obtain ⟨j, hj, e⟩ := List.getElem_of_mem ((Lk.any_mem who xs).1 h)
        exact HN.out j hj (by rw [List.getD, List.getElem?_eq_getElem hj]; exact e))
      go_wp2_with fail
      go_ret
      rw [HE.out]
      exact ⟨rfl, rfl⟩
end Go.Proofs.Ytgegahnjhaldeaa
