/-
  A controller within a bus: where it lies; contracts of count, one.
-/
import Derived.Test.YtkknfhbaldeigaaBuA
import Derived.BigQuiet
import Derived.BigRegion
set_option maxRecDepth 20000
namespace Go.Proofs.Ytkknfhbaldeigaa
open Go.ChangeShapes Go.WideShapes Go.ChangeAt Go.RowKit
theorem pone_c (s : Int) (s0 : 0 ≤ s) (s1 : s ≤ 18446744073709551615) (w : World) : Calls Try.prog 68 #[.int .u64 s] w fun e w' => e = .returned (.int .u64 (Pc.one s)) ∧ w' = w := by
  by_cases hlo : s < 1
  · have HE := Lib.hid (show Pc.one s = 0 by unfold Pc.one; rw [if_neg (by omega)])
    rw [HE.out]
    have g0 : decide (s < 1) = true := by simpa using hlo
    go_enter Try.func68, Try.ntmps68
    go_wp2_with fail
    go_ret
    exact ⟨rfl, rfl⟩
  · have g0 : decide (s < 1) = false := by simpa using hlo
    by_cases hhi : 32 ≤ s
    · have HE := Lib.hid (show Pc.one s = 0 by unfold Pc.one; rw [if_neg (by omega)])
      rw [HE.out]
      have g1 : decide (s ≥ 32) = true := by simpa using hhi
      go_enter Try.func68, Try.ntmps68
      go_wp2_with fail
      go_ret
      exact ⟨rfl, rfl⟩
    · have HE := Lib.hid (show Pc.one s = Wd.onesS s 1 by unfold Pc.one; rw [if_pos (by omega)])
      rw [HE.out]
      have g1 : decide (s ≥ 32) = false := by simpa using hhi
      have HO := Lib.hid (ones_c s 1 w (by omega) (by omega) (by omega) (by omega))
      go_enter Try.func68, Try.ntmps68
      go_wp2_with fail
      refine HO.out.mono ?_
      rintro e w1 ⟨rfl, rfl⟩
      go_wp2_with fail
      go_ret
      exact ⟨rfl, rfl⟩
namespace Bp
section
variable {S : SurP}
variable {w w' : World} {b n : Nat} {ws : List Int} {p : Option Addr}
/-- What count looks at: none, or a clint of n harts. -/
def Cw (w : World) (p : Option Addr) (n : Nat) : Prop := (p = none ∧ n = 0) ∨ ∃ b, p = some ⟨b, 20, none⟩ ∧ w.cell? ⟨b, 20, none⟩ = some (.int .i64 n)
theorem Cw.low {w w' : World} {p : Option Addr} {n : Nat} (h : Cw w p n) (hb : Below w.heap.size w w') : Cw w' p n := by
  rcases h with h | ⟨b, rfl, hc⟩
  · exact .inl h
  · exact .inr ⟨b, rfl, (hb.cell (p := ⟨b, 20, none⟩) (World.block_lt_of_cell? _ _ hc)).trans hc⟩
theorem Cw.pos {w : World} {p : Option Addr} {n : Nat} (h : Cw w p n) (hn : 0 < n) : ∃ b, p = some ⟨b, 20, none⟩ := by
  rcases h with h | ⟨b, rfl, -⟩
  · omega
  · exact ⟨b, rfl⟩
/-- A controller at a pointer, or none. -/
def PcP (S : SurP) (w : World) (p : Option Addr) (n : Nat) (ws : List Int) : Prop := (p = none ∧ n = 0) ∨ ∃ b, p = some ⟨b, 20, none⟩ ∧ BpAt S w b n ws
theorem BpAt.at_ (h : BpAt S w b n ws) : PcP S w (some ⟨b, 20, none⟩) n ws := .inr ⟨b, rfl, h⟩
theorem PcP.of (h : PcP S w (some ⟨b, 20, none⟩) n ws) : BpAt S w b n ws := by
  rcases h with h | ⟨c, hc, h⟩
  · cases h.1
  · cases hc; exact h
theorem PcP.low (h : PcP S w p n ws) (hb : Below w.heap.size w w') : PcP S w' p n ws := by
  rcases h with h | ⟨b, rfl, h⟩
  · exact .inl h
  · exact .inr ⟨b, rfl, h.low hb⟩
theorem PcP.cw (h : PcP S w p n ws) : Cw w p n := by
  rcases h with h | ⟨b, rfl, h⟩
  · exact .inl h
  · exact .inr ⟨b, rfl, h.n0⟩
theorem PcP.n8 (h : PcP S w p n ws) : n ≤ 8 := by
  rcases h with h | ⟨b, rfl, h⟩
  · omega
  · exact h.ok.n8
theorem PcP.pos (h : PcP S w p n ws) (hn : 0 < n) : ∃ b, p = some ⟨b, 20, none⟩ ∧ BpAt S w b n ws := by
  rcases h with h | h
  · omega
  · exact h
theorem row_set {t : TypeId} (h : CsAt w b t (rowP S n ws)) (i : Nat) (v : Int) : CsAt (w.setCell ⟨b, i + 21, none⟩ (.int .u64 v)) b t (rowP S n (ws.set i v)) := bu_setP h i v
theorem pcount_c (p : Option Addr) (n : Nat) (w : World) (h : Cw w p n) : Calls Try.prog 69 #[.pointer p] w fun e w' => e = .returned (.int .i64 n) ∧ w' = w := by
  rcases h with ⟨rfl, rfl⟩ | ⟨b, rfl, hc⟩
  · go_enter Try.func69, Try.ntmps69
    go_wp2_with fail
    go_ret
    exact ⟨rfl, rfl⟩
  · go_enter Try.func69, Try.ntmps69
    go_wp2_with fail
    go_ret
    exact ⟨rfl, rfl⟩
end
end Bp
end Go.Proofs.Ytkknfhbaldeigaa
