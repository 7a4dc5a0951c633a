/-
  A controller in memory; contracts of plic.count, New, one, Waits, Served.
-/
import Derived.Test.YtjeolfcefeglpaaPcB
import Derived.Test.YtjeolfcefeglpaaCtF
import Derived.Test.YtjeolfcefeglpaaBits
set_option maxRecDepth 20000
namespace Go.Proofs.Ytjeolfcefeglpaa
open Go.ChangeShapes Go.WideShapes Go.ChangeAt Go.RowKit

abbrev PT : TypeId := 58
theorem info_PT : (Try.prog.info? PT).map (·.size) = some 68 := by kernel_rfl
theorem iPT {n : Nat} {ws : List Int} (h : ws.length = 67) : (Try.prog.info? PT).map (·.size) = some (ctV n ws).size := by rw [ctV_size, h]; exact info_PT
/-- A controller in a block. -/
structure PcAt (w : World) (b : Nat) (n : Nat) (ws : List Int) : Prop where
  row : CsAt w b PT (ctV n ws)
  ok : Pc.Ok n ws
/-- A controller at a pointer, or none. -/
def PcP (w : World) (p : Option Addr) (n : Nat) (ws : List Int) : Prop := (p = none ∧ n = 0) ∨ ∃ b, p = some ⟨b, 0, none⟩ ∧ PcAt w b n ws
section
variable {w w' : World} {b n : Nat} {ws : List Int} {p : Option Addr}
theorem PcAt.lt (h : PcAt w b n ws) : b < w.heap.size := h.row.lt
theorem PcAt.low (h : PcAt w b n ws) (hb : Below w.heap.size w w') : PcAt w' b n ws := ⟨h.row.low hb, h.ok⟩
theorem PcAt.n0 (h : PcAt w b n ws) : w.cell? ⟨b, 0, none⟩ = some (.int .i64 n) := by rw [h.row.cell]; exact ctV_0
theorem PcAt.cell (h : PcAt w b n ws) {i : Nat} (hi : i < 67) : w.cell? ⟨b, i + 1, none⟩ = some (.int .u64 (ws.getD i 0)) := by
  rw [h.row.cell]; exact ctV_at (by rw [h.ok.len]; exact hi)
theorem PcAt.at_ (h : PcAt w b n ws) : PcP w (some ⟨b, 0, none⟩) n ws := .inr ⟨b, rfl, h⟩
theorem PcP.of (h : PcP w (some ⟨b, 0, none⟩) n ws) : PcAt w b n ws := by
  rcases h with h | ⟨c, hc, h⟩
  · cases h.1
  · cases hc; exact h
theorem PcP.low (h : PcP w p n ws) (hb : Below w.heap.size w w') : PcP w' p n ws := by
  rcases h with h | ⟨b, rfl, h⟩
  · exact .inl h
  · exact .inr ⟨b, rfl, h.low hb⟩
theorem PcP.cw (h : PcP w p n ws) : Cw w p n := by
  rcases h with h | ⟨b, rfl, h⟩
  · exact .inl h
  · exact .inr ⟨b, rfl, h.n0⟩
theorem PcP.n8 (h : PcP w p n ws) : n ≤ 8 := by
  rcases h with h | ⟨b, rfl, h⟩
  · omega
  · exact h.ok.n8
theorem PcP.pos (h : PcP w p n ws) (hn : 0 < n) : ∃ b, p = some ⟨b, 0, none⟩ ∧ PcAt w b n ws := by
  rcases h with h | h
  · omega
  · exact h
/-- A row with one word set. -/
theorem row_set {t : TypeId} (h : CsAt w b t (ctV n ws)) (i : Nat) (v : Int) : CsAt (w.setCell ⟨b, i + 1, none⟩ (.int .u64 v)) b t (ctV n (ws.set i v)) := by
  unfold CsAt
  rw [heap_setCell_same w b (i + 1) _ t _ h, ctV_set]
end
theorem pcount_c (p : Option Addr) (n : Nat) (w : World) (h : Cw w p n) : Calls Try.prog 45 #[.pointer p] w fun e w' => e = .returned (.int .i64 n) ∧ w' = w := by
  rcases h with ⟨rfl, rfl⟩ | ⟨b, rfl, hc⟩
  · go_enter Try.func45, Try.ntmps45
    go_wp2_with fail
    go_ret
    exact ⟨rfl, rfl⟩
  · go_enter Try.func45, Try.ntmps45
    go_wp2_with fail
    go_ret
    exact ⟨rfl, rfl⟩
theorem pwaits_c (p : Option Addr) (n : Nat) (ws : List Int) (w : World) (h : PcP w p n ws) (hz : p = none → ws.getD 1 0 = 0) :
    Calls Try.prog 29 #[.pointer p] w fun e w' => e = .returned (.int .u64 (ws.getD 1 0)) ∧ w' = w := by
  rcases h with ⟨rfl, rfl⟩ | ⟨b, rfl, h⟩
  · have HZ := Lib.hid (hz rfl)
    rw [HZ.out]
    clear hz
    go_enter Try.func29, Try.ntmps29
    go_wp2_with fail
    go_ret
    exact ⟨rfl, rfl⟩
  · have hc := h.cell (show 1 < 67 by omega)
    generalize ws.getD 1 0 = v at *
    clear h hz
    go_enter Try.func29, Try.ntmps29
    go_wp2_with fail
    go_ret
    exact ⟨rfl, rfl⟩
theorem pserved_c (p : Option Addr) (n : Nat) (ws : List Int) (w : World) (h : PcP w p n ws) (hz : p = none → ws.getD 2 0 = 0) :
    Calls Try.prog 31 #[.pointer p] w fun e w' => e = .returned (.int .u64 (ws.getD 2 0)) ∧ w' = w := by
  rcases h with ⟨rfl, rfl⟩ | ⟨b, rfl, h⟩
  · have HZ := Lib.hid (hz rfl)
    rw [HZ.out]
    clear hz
    go_enter Try.func31, Try.ntmps31
    go_wp2_with fail
    go_ret
    exact ⟨rfl, rfl⟩
  · have hc := h.cell (show 2 < 67 by omega)
    generalize ws.getD 2 0 = v at *
    clear h hz
    go_enter Try.func31, Try.ntmps31
    go_wp2_with fail
    go_ret
    exact ⟨rfl, rfl⟩
theorem pone_c (s : Int) (s0 : 0 ≤ s) (s1 : s ≤ 18446744073709551615) (w : World) : Calls Try.prog 52 #[.int .u64 s] w fun e w' => e = .returned (.int .u64 (Pc.one s)) ∧ w' = w := by
  by_cases hlo : s < 1
  · have HE := Lib.hid (show Pc.one s = 0 by unfold Pc.one; rw [if_neg (by omega)])
    rw [HE.out]
    have g0 : decide (s < 1) = true := by simpa using hlo
    go_enter Try.func52, Try.ntmps52
    go_wp2_with fail
    go_ret
    exact ⟨rfl, rfl⟩
  · have g0 : decide (s < 1) = false := by simpa using hlo
    by_cases hhi : 32 ≤ s
    · have HE := Lib.hid (show Pc.one s = 0 by unfold Pc.one; rw [if_neg (by omega)])
      rw [HE.out]
      have g1 : decide (s ≥ 32) = true := by simpa using hhi
      go_enter Try.func52, Try.ntmps52
      go_wp2_with fail
      go_ret
      exact ⟨rfl, rfl⟩
    · have HE := Lib.hid (show Pc.one s = Wd.onesS s 1 by unfold Pc.one; rw [if_pos (by omega)])
      rw [HE.out]
      have g1 : decide (s ≥ 32) = false := by simpa using hhi
      have HO := Lib.hid (ones_c s 1 w (by omega) (by omega) (by omega) (by omega))
      go_enter Try.func52, Try.ntmps52
      go_wp2_with fail
      refine HO.out.mono ?_
      rintro e w1 ⟨rfl, rfl⟩
      go_wp2_with fail
      go_ret
      exact ⟨rfl, rfl⟩
end Go.Proofs.Ytjeolfcefeglpaa
