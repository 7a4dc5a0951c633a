/-
  Contracts of clint.count, wide, locate. Contracts of clint.Read, Time, Lines. A region that draws its order, and whose operations each leave one known value in every world that meets a condition S, and leave S: it is walked once, in the order of the text; its last operations, if they wait for all others, one behind the other.
-/
import Derived.Test.YtfjdalepaacmgaaGreatYab
import Derived.BigQuiet
import Derived.BigRegion
import Derived.Test.YtfjdalepaacmgaaGreatRows
import Derived.StillTail
import Derived.WalkKit
import Derived.Laws.Rows
import Derived.Laws.Tables
import Derived.Laws.StructEq
import Derived.Deep.RegionHeld3
set_option maxRecDepth 20000
namespace Go.Proofs.YtfjdalepaacmgaaGreat
open Go.ChangeShapes Go.WideShapes Go.ChangeAt Go.RowKit

/-- What count looks at: none, or a clint of n harts. -/
def Cw (w : World) (p : Option Addr) (n : Nat) : Prop := (p = none ∧ n = 0) ∨ ∃ b, p = some ⟨b, 0, none⟩ ∧ w.cell? ⟨b, 0, none⟩ = some (.int .i64 n)
theorem wrap_n {n : Nat} (h : n ≤ 8) : IntKind.u64.wrap (n : Int) = n := by rw [IntKind.wrap_u64]; omega
theorem count_c (p : Option Addr) (n : Nat) (hn : n ≤ 8) (w : World) (h : Cw w p n) : Calls Tryz.prog 60 #[.pointer p] w fun e w' => e = .returned (.int .u64 n) ∧ w' = w := by
  rcases h with ⟨rfl, rfl⟩ | ⟨b, rfl, hc⟩
  · go_enter Tryz.func60, Tryz.ntmps60
    go_wp2_with fail
    go_ret
    exact ⟨rfl, rfl⟩
  · have e := wrap_n hn
    go_enter Tryz.func60, Tryz.ntmps60
    go_wp2_with fail
    go_ret
    exact ⟨by first | rfl | rw [e], rfl⟩
def ptr (p : Option Addr) (t : Option Nat) : Value := match t with
  | none => .pointer none
  | some i => .pointer (p.map fun a => ⟨a.block, i + 1, none⟩)
set_option maxHeartbeats 1000000 in
theorem wide_c (p : Option Addr) (n : Nat) (hn : n ≤ 8) (off : Int) (h0 : 0 ≤ off) (h1 : off ≤ 18446744073709551615) (w : World) (h : Cw w p n) :
    Calls Tryz.prog 96 #[.pointer p, .int .u64 off] w fun e w' => e = .returned (ptr p (Ct.wide n off)) ∧ w' = w := by
  have HC := Lib.hid (count_c p n hn w h)
  have h8 : 0 ≤ off % 8 ∧ off % 8 < 8 := by omega
  by_cases hf : off - off % 8 = 49144
  · by_cases hz : n = 0
    · have HE := Lib.hid (show Ct.wide n off = none by unfold Ct.wide; rw [if_neg (by omega), if_neg (by omega)])
      subst hz
      go_enter Tryz.func96, Tryz.ntmps96
      go_wp2_with fail
      refine HC.out.mono ?_
      rintro e w1 ⟨rfl, rfl⟩
      go_wp2_with fail
      refine HC.out.mono ?_
      rintro e w1 ⟨rfl, rfl⟩
      go_wp2_with fail
      go_ret
      exact ⟨by rw [HE.out]; rfl, rfl⟩
    · have HE := Lib.hid (show Ct.wide n off = some 0 by unfold Ct.wide; rw [if_pos (by omega)])
      obtain ⟨b, rfl, hc⟩ : ∃ b, p = some ⟨b, 0, none⟩ ∧ w.cell? ⟨b, 0, none⟩ = some (.int .i64 n) := by
        rcases h with h | h
        · exact absurd h.2 hz
        · exact h
      have gz : decide (0 < n) = true := by simp; omega
      clear h hz
      go_enter Tryz.func96, Tryz.ntmps96
      go_wp2_with fail
      refine HC.out.mono ?_
      rintro e w1 ⟨rfl, rfl⟩
      go_wp2_with fail
      go_ret
      exact ⟨by rw [HE.out]; rfl, rfl⟩
  · by_cases hlo : off - off % 8 < 16384
    · have HE := Lib.hid (show Ct.wide n off = none by unfold Ct.wide; rw [if_neg (by omega), if_neg (by omega)])
      have g0 : (off - off % 8 == 49144) = false := by simpa using hf
      have g1 : decide (off - off % 8 ≥ 16384) = false := by simp; omega
      clear h hf
      go_enter Tryz.func96, Tryz.ntmps96
      go_wp2_with fail
      go_ret
      exact ⟨by rw [HE.out]; rfl, rfl⟩
    · have g0 : (off - off % 8 == 49144) = false := by simpa using hf
      have g1 : decide (off - off % 8 ≥ 16384) = true := by simp; omega
      by_cases hn2 : (off - off % 8 - 16384) / 8 < n
      · have HE := Lib.hid (show Ct.wide n off = some (1 + ((off - off % 8 - 16384) / 8).toNat) by unfold Ct.wide; rw [if_neg (by omega), if_pos (by omega)])
        obtain ⟨b, rfl, hc⟩ : ∃ b, p = some ⟨b, 0, none⟩ ∧ w.cell? ⟨b, 0, none⟩ = some (.int .i64 n) := by
          rcases h with h | h
          · omega
          · exact h
        have g2 : decide ((off - off % 8 - 16384) / 8 < n) = true := by simpa using hn2
        have g3 : (off - off % 8 - 16384) / 8 < 8 := by omega
        clear h hf
        go_enter Tryz.func96, Tryz.ntmps96
        go_wp2_with fail
        refine HC.out.mono ?_
        rintro e w1 ⟨rfl, rfl⟩
        go_wp2_with fail
        go_ret
        exact ⟨by rw [HE.out, show 1 + ((off - off % 8 - 16384) / 8).toNat = ((off - off % 8 - 16384) / 8).toNat + 1 by omega]; show _ = Ending.returned (.pointer (some ⟨b, ((off - off % 8 - 16384) / 8).toNat + 1 + 1, none⟩)); rw [show ((off - off % 8 - 16384) / 8).toNat + 1 + 1 = 2 + ((off - off % 8 - 16384) / 8).toNat by omega]; rfl, rfl⟩
      · have HE := Lib.hid (show Ct.wide n off = none by unfold Ct.wide; rw [if_neg (by omega), if_neg (by omega)])
        have g2 : decide ((off - off % 8 - 16384) / 8 < n) = false := by simpa using hn2
        clear h hf
        go_enter Tryz.func96, Tryz.ntmps96
        go_wp2_with fail
        refine HC.out.mono ?_
        rintro e w1 ⟨rfl, rfl⟩
        go_wp2_with fail
        go_ret
        exact ⟨by rw [HE.out]; rfl, rfl⟩
abbrev RgT : TypeId := 150
/-- A register as the code has it. -/
def rgV (p : Option Addr) (t : Option (Nat × Int × Int)) : Array Value := match t with
  | none => #[.pointer none, .int .u64 0, .int .u64 0]
  | some (i, a, m) => #[.pointer (p.map fun q => ⟨q.block, i + 1, none⟩), .int .u64 a, .int .u64 m]
theorem loc0 {t : Nat × Nat × Nat} (h : t = (0, 0, 0)) : Ct.loc t = none := by rw [h]; rfl
theorem rgV_soft (b k : Nat) : rgV (some ⟨b, 0, none⟩) (some (9 + k, 0, 1)) = #[.pointer (some ⟨b, 10 + k, none⟩), .int .u64 0, .int .u64 1] := by
  show (#[.pointer (some ⟨b, 9 + k + 1, none⟩), .int .u64 0, .int .u64 1] : Array Value) = _
  rw [show 9 + k + 1 = 10 + k by omega]
/-- A cell's whole, and another result. -/
theorem results_cb {F : Func} {x y : Tmp} (ty : TypeId) (hF : F.results = #[.cell x ty, .tmp y]) (tmps : Array Value) (w : World) (b : Nat) (cs : Array Value) (r : Value) (h2 : tmps.getD x undef = .pointer (some ⟨b, 0, none⟩)) (h3 : tmps.getD y undef = r)
    (hl : (loadVar ty ⟨b, 0, none⟩).run Tryz.prog w = .ok (.agg cs) w) : (results F tmps).run Tryz.prog w = .ok (.tuple #[.agg cs, r]) w := by
  have h2' : tmps[x]?.getD undef = .pointer (some ⟨b, 0, none⟩) := by simpa using h2
  have h3' : tmps[y]?.getD undef = r := by simpa using h3
  simp [results, hF, h2', h3', asAddr, hl]
theorem Cw.low {w w' : World} {p : Option Addr} {n : Nat} (h : Cw w p n) (hb : Below w.heap.size w w') : Cw w' p n := by
  rcases h with h | ⟨b, rfl, hc⟩
  · exact .inl h
  · exact .inr ⟨b, rfl, (hb.cell (p := ⟨b, 0, none⟩) (World.block_lt_of_cell? _ _ hc)).trans hc⟩
theorem Cw.pos {w : World} {p : Option Addr} {n : Nat} (h : Cw w p n) (hn : 0 < n) : ∃ b, p = some ⟨b, 0, none⟩ := by
  rcases h with h | ⟨b, rfl, -⟩
  · omega
  · exact ⟨b, rfl⟩
set_option maxHeartbeats 4000000 in
theorem locate_c (p : Option Addr) (n : Nat) (hn : n ≤ 8) (off : Int) (h0 : 0 ≤ off) (h1 : off ≤ 18446744073709551615) (size : Int) (w : World) (h : Cw w p n) :
    Calls Tryz.prog 81 #[.pointer p, .int .u64 off, .int .i64 size] w fun e w' => e = .returned (.tuple #[.agg (rgV p (Ct.loc (Ct.at_ n off size))), .bool (Ct.loc (Ct.at_ n off size)).isSome]) ∧ Below w.heap.size w w' := by
  have HW := Lib.hid h
  have hlow := (Below.refl w.heap.size w).alloc (Nat.le_refl _)
  clear h
  by_cases hs8 : size = 8
  · subst hs8
    by_cases hm : off % 8 = 0
    · cases hw : Ct.wide n off with
      | none =>
        have HE := Lib.hid (loc0 (Ct.at_no8 hn hm hw))
        go_enter Tryz.func81, Tryz.ntmps81
        go_wp2_with fail
        refine (wide_c p n hn off h0 h1 _ (HW.out.low ((Below.refl _ _).alloc (Nat.le_refl _) _))).mono ?_
        rintro e w1 ⟨rfl, rfl⟩
        rw [hw, ptr]
        go_wp2_with fail
        exact bodyPost_ret (results_cb RgT Tryz.results81 _ _ w.heap.size _ _ rfl rfl (run_loadVar_row _ _ RgT RgT _ (0, 0) _ (CsAt.new _ RgT _) Tryz.underlying150 rfl (by kernel_rfl))) rfl ⟨by rw [HE.out]; rfl, (Below.refl _ _).alloc (Nat.le_refl _) _⟩
      | some i =>
        have HE := Lib.hid (Ct.at_yes8 hn hm hw)
        obtain ⟨b, rfl⟩ := HW.out.pos (Ct.wide_lt hn hw).2
        go_enter Tryz.func81, Tryz.ntmps81
        go_wp2_with fail
        refine (wide_c _ n hn off h0 h1 _ (HW.out.low ((Below.refl _ _).alloc (Nat.le_refl _) _))).mono ?_
        rintro e w1 ⟨rfl, rfl⟩
        rw [hw, ptr]
        simp only [Option.map_some]
        go_wp2_with fail
        exact bodyPost_ret (results_cb RgT Tryz.results81 _ _ w.heap.size _ _ rfl rfl (run_loadVar_row _ _ RgT RgT _ (0, 0) _ (CsAt.new _ RgT _) Tryz.underlying150 rfl (by kernel_rfl))) rfl ⟨by rw [HE.out]; rfl, (Below.refl _ _).alloc (Nat.le_refl _) _⟩
    · have HE := Lib.hid (loc0 (Ct.at_odd8 (n := n) hm))
      have g0 : (off % 8 == 0) = false := by simpa using hm
      clear hm
      go_enter Tryz.func81, Tryz.ntmps81
      go_wp2_with fail
      exact bodyPost_ret (results_cb RgT Tryz.results81 _ _ w.heap.size _ _ rfl rfl (run_loadVar_row _ _ RgT RgT _ (0, 0) _ (CsAt.new _ RgT _) Tryz.underlying150 rfl (by kernel_rfl))) rfl ⟨by rw [HE.out]; rfl, (Below.refl _ _).alloc (Nat.le_refl _) _⟩
  · by_cases hs4 : size = 4
    · subst hs4
      clear hs8
      by_cases hm : off % 4 = 0
      · by_cases hlt : off / 4 < n
        · have HE := Lib.hid (show Ct.loc (Ct.at_ n off 4) = some (9 + (off / 4).toNat, 0, 1) by rw [Ct.at_soft hm hlt]; rfl)
          obtain ⟨b, rfl⟩ := HW.out.pos (by omega)
          have g1 : decide (off / 4 < n) = true := by simpa using hlt
          have g2 : off / 4 < 8 := by omega
          have HC := Lib.hid (count_c _ n hn _ (HW.out.low (hlow (Obj.cells #[Value.pointer none, Value.int IntKind.u64 0, Value.int IntKind.u64 0] RgT))))
          go_enter Tryz.func81, Tryz.ntmps81
          go_wp2_with fail
          refine HC.out.mono ?_
          rintro e w1 ⟨rfl, rfl⟩
          go_wp2_with fail
          exact bodyPost_ret (results_cb RgT Tryz.results81 _ _ w.heap.size _ _ rfl rfl (run_loadVar_row _ _ RgT RgT _ (0, 0) _ (CsAt.new _ RgT _) Tryz.underlying150 rfl (by kernel_rfl))) rfl ⟨by rw [HE.out, rgV_soft]; rfl, (Below.refl _ _).alloc (Nat.le_refl _) _⟩
        · have g1 : decide (off / 4 < n) = false := by simpa using hlt
          have HC := Lib.hid (count_c p n hn _ (HW.out.low (hlow (Obj.cells #[Value.pointer none, Value.int IntKind.u64 0, Value.int IntKind.u64 0] RgT))))
          cases hw : Ct.wide n off with
          | none =>
            have HE := Lib.hid (loc0 (Ct.at_no4 hn hm hlt hw))
            clear hlt
            go_enter Tryz.func81, Tryz.ntmps81
            go_wp2_with fail
            refine HC.out.mono ?_
            rintro e w1 ⟨rfl, rfl⟩
            go_wp2_with fail
            refine (wide_c p n hn off h0 h1 _ (HW.out.low ((Below.refl _ _).alloc (Nat.le_refl _) _))).mono ?_
            rintro e w2 ⟨rfl, rfl⟩
            rw [hw, ptr]
            go_wp2_with fail
            exact bodyPost_ret (results_cb RgT Tryz.results81 _ _ w.heap.size _ _ rfl rfl (run_loadVar_row _ _ RgT RgT _ (0, 0) _ (CsAt.new _ RgT _) Tryz.underlying150 rfl (by kernel_rfl))) rfl ⟨by rw [HE.out]; rfl, (Below.refl _ _).alloc (Nat.le_refl _) _⟩
          | some i =>
            have HE := Lib.hid (Ct.at_yes4 hn hm hlt hw)
            clear hlt
            obtain ⟨b, rfl⟩ := HW.out.pos (Ct.wide_lt hn hw).2
            go_enter Tryz.func81, Tryz.ntmps81
            go_wp2_with fail
            refine HC.out.mono ?_
            rintro e w1 ⟨rfl, rfl⟩
            go_wp2_with fail
            refine (wide_c _ n hn off h0 h1 _ (HW.out.low ((Below.refl _ _).alloc (Nat.le_refl _) _))).mono ?_
            rintro e w2 ⟨rfl, rfl⟩
            rw [hw, ptr]
            simp only [Option.map_some]
            go_wp2_with fail
            exact bodyPost_ret (results_cb RgT Tryz.results81 _ _ w.heap.size _ _ rfl rfl (run_loadVar_row _ _ RgT RgT _ (0, 0) _ (CsAt.new _ RgT _) Tryz.underlying150 rfl (by kernel_rfl))) rfl ⟨by rw [HE.out]; rfl, (Below.refl _ _).alloc (Nat.le_refl _) _⟩
      · have HE := Lib.hid (loc0 (Ct.at_odd4 (n := n) hm))
        have g0 : (off % 4 == 0) = false := by simpa using hm
        clear hm
        go_enter Tryz.func81, Tryz.ntmps81
        go_wp2_with fail
        exact bodyPost_ret (results_cb RgT Tryz.results81 _ _ w.heap.size _ _ rfl rfl (run_loadVar_row _ _ RgT RgT _ (0, 0) _ (CsAt.new _ RgT _) Tryz.underlying150 rfl (by kernel_rfl))) rfl ⟨by rw [HE.out]; rfl, (Below.refl _ _).alloc (Nat.le_refl _) _⟩
    · have HE := Lib.hid (loc0 (Ct.at_size (n := n) (off := off) hs4 hs8))
      have g0 : (size == 4) = false := by simpa using hs4
      have g1 : (size == 8) = false := by simpa using hs8
      clear hs4 hs8
      go_enter Tryz.func81, Tryz.ntmps81
      go_wp2_with fail
      exact bodyPost_ret (results_cb RgT Tryz.results81 _ _ w.heap.size _ _ rfl rfl (run_loadVar_row _ _ RgT RgT _ (0, 0) _ (CsAt.new _ RgT _) Tryz.underlying150 rfl (by kernel_rfl))) rfl ⟨by rw [HE.out]; rfl, (Below.refl _ _).alloc (Nat.le_refl _) _⟩
end Go.Proofs.YtfjdalepaacmgaaGreat
set_option maxRecDepth 20000
namespace Go.Proofs.YtfjdalepaacmgaaGreat
open Go.ChangeShapes Go.WideShapes Go.ChangeAt Go.RowKit

namespace Ct
theorem loc_cases {n : Nat} {off size : Int} {i : Nat} {a m : Int} (h0 : 0 ≤ off) (h : loc (at_ n off size) = some (i, a, m)) :
    (at_ n off size).1 ≠ 0 ∧ (((at_ n off size).1 = 1 ∧ i = 9 + (at_ n off size).2.1 ∧ (at_ n off size).2.1 < n ∧ a = 0 ∧ m = 1) ∨
      ((at_ n off size).1 ≠ 1 ∧ i = idx (at_ n off size).1 (at_ n off size).2.1 ∧ i ≤ n ∧ 0 < n ∧
        (((at_ n off size).2.2 = 0 ∧ a = 0 ∧ m = 18446744073709551615) ∨ ((at_ n off size).2.2 = 1 ∧ a = 0 ∧ m = 4294967295) ∨ ((at_ n off size).2.2 = 2 ∧ a = 32 ∧ m = 4294967295)))) := by
  have hl := at_lt (n := n) (off := off) (size := size) h0
  generalize at_ n off size = t at *
  obtain ⟨t1, t2, t3⟩ := t
  simp only [loc] at *
  by_cases h1 : t1 = 0
  · rw [if_pos h1] at h; cases h
  · refine ⟨h1, ?_⟩
    rw [if_neg h1] at h
    by_cases h2 : t1 = 1
    · rw [if_pos h2] at h
      simp only [Option.some.injEq, Prod.mk.injEq] at h
      exact .inl ⟨h2, h.1.symm, by omega, h.2.1.symm, h.2.2.symm⟩
    · rw [if_neg h2] at h
      simp only [Option.some.injEq, Prod.mk.injEq] at h
      refine .inr ⟨h2, h.1.symm, ?_, by omega, ?_⟩
      · rw [← h.1]; unfold idx; rw [if_neg h2]; split <;> omega
      · have h3 : t3 = 0 ∨ t3 = 1 ∨ t3 = 2 := by omega
        rcases h3 with rfl | rfl | rfl
        · exact .inl ⟨rfl, h.2.1.symm, h.2.2.symm⟩
        · exact .inr (.inl ⟨rfl, h.2.1.symm, h.2.2.symm⟩)
        · exact .inr (.inr ⟨rfl, h.2.1.symm, h.2.2.symm⟩)
theorem at_bit {n : Nat} {off size : Int} (h : (at_ n off size).1 = 1) : (at_ n off size).2.2 = 0 := by
  revert h
  unfold at_
  repeat' split
  all_goals (dsimp only; omega)
theorem is_loc {n : Nat} {off size : Int} : (loc (at_ n off size)).isSome = is n off size := by
  unfold is
  cases h : loc (at_ n off size) with
  | none => rw [loc_none] at h; simp [h]
  | some t => have := mt (loc_none (t := at_ n off size)).2 (by rw [h]; simp); simp [this]
end Ct
/-- A clint at a pointer, or none. -/
def CtP (w : World) (p : Option Addr) (n : Nat) (ws : List Int) : Prop := (p = none ∧ n = 0) ∨ ∃ b, p = some ⟨b, 0, none⟩ ∧ CtAt w b n ws
section
variable {w w' : World} {p : Option Addr} {n : Nat} {ws : List Int}
theorem CtP.cw (h : CtP w p n ws) : Cw w p n := by
  rcases h with h | ⟨b, rfl, h⟩
  · exact .inl h
  · exact .inr ⟨b, rfl, h.n0⟩
theorem CtP.n8 (h : CtP w p n ws) : n ≤ 8 := by
  rcases h with h | ⟨b, rfl, h⟩
  · omega
  · exact h.ok.n8
theorem CtP.pos (h : CtP w p n ws) (hn : 0 < n) : ∃ b, p = some ⟨b, 0, none⟩ ∧ CtAt w b n ws := by
  rcases h with h | h
  · omega
  · exact h
end
theorem below_dnC {B : Nat} {a w : World} (h : Below B a w) (n : Nat) : Below B a (w.drewN n) := h.trans ⟨rfl, rfl, rfl, Nat.le_refl _, fun _ _ => rfl⟩
theorem r_none {n : Nat} {ws : List Int} {off size : Int} (h : Ct.loc (Ct.at_ n off size) = none) : Ct.readC n ws off size = 0 := by
  unfold Ct.readC; rw [if_pos (Ct.loc_none.1 h)]
set_option maxHeartbeats 4000000 in
theorem read_c (p : Option Addr) (n : Nat) (ws : List Int) (off : Int) (h0 : 0 ≤ off) (h1 : off ≤ 18446744073709551615) (size : Int) (w : World) (h : CtP w p n ws) :
    Calls Tryz.prog 53 #[.pointer p, .int .u64 off, .int .i64 size] w fun e w' => e = .returned (.tuple #[.int .u64 (Ct.readC n ws off size), .bool (Ct.is n off size)]) ∧ Below w.heap.size w w' := by
  have HC := Lib.hid (locate_c p n h.n8 off h0 h1 size w h.cw)
  rw [← Ct.is_loc]
  cases hl : Ct.loc (Ct.at_ n off size) with
  | none =>
    rw [hl, rgV] at HC
    rw [r_none hl]
    clear hl h
    go_enter Tryz.func53, Tryz.ntmps53
    go_wp2_with fail
    refine HC.out.mono ?_
    rintro e w1 ⟨rfl, hb1⟩
    simp only [Option.isSome_none]
    have HB := Lib.hid (hb1.alloc hb1.size (Obj.cells #[Value.pointer none, Value.int IntKind.u64 0, Value.int IntKind.u64 0] RgT))
    go_wp2_with fail
    go_ret2
    exact ⟨rfl, HB.out⟩
  | some t =>
    obtain ⟨i, a, m⟩ := t
    obtain ⟨hne, hcs⟩ := Ct.loc_cases h0 hl
    obtain ⟨b, rfl, hA⟩ := h.pos (by rcases hcs with h | h <;> omega)
    have hi : i < 17 := by have := hA.ok.n8; rcases hcs with h | h <;> omega
    have hw := hA.ok.rng i
    have hwl : ws.getD i 0 < 18446744073709551616 := by omega
    rw [hl, rgV] at HC
    have HE := Lib.hid (show Ct.readC n ws off size = bits .and .u64 (ws.getD i 0 / 2 ^ a.toNat) m by
      unfold Ct.readC
      rw [if_neg hne]
      rcases hcs with ⟨c1, c2, -, rfl, rfl⟩ | ⟨c1, c2, -, -, ⟨c3, rfl, rfl⟩ | ⟨c3, rfl, rfl⟩ | ⟨c3, rfl, rfl⟩⟩
      · rw [Ct.idx, if_pos c1, ← c2]
        have hb := hA.ok.bit (Ct.at_ n off size).2.1
        rw [← c2] at hb
        have h3 := Ct.at_bit c1
        rw [show ((0 : Int).toNat) = 0 from rfl, Int.pow_zero, Int.ediv_one, Ct.and_one hw.1 hwl, Ct.part, if_neg (by omega), if_neg (by omega)]
        omega
      · rw [← c2, c3, show ((0 : Int).toNat) = 0 from rfl, Int.pow_zero, Int.ediv_one, Ct.and_all hw.1 hwl]; rfl
      · rw [← c2, c3, show ((0 : Int).toNat) = 0 from rfl, Int.pow_zero, Int.ediv_one, Ct.and_low hw.1 hwl]; rfl
      · rw [← c2, c3, show ((32 : Int).toNat) = 32 from rfl, show ((2 : Int) ^ 32) = 4294967296 by decide, Ct.and_low (by omega) (by omega), Ct.part, if_neg (by omega), if_pos rfl]; omega)
    have HA := Lib.hid hA
    have ha : a = 0 ∨ a = 32 := by rcases hcs with ⟨c1, c2, -, rfl, rfl⟩ | ⟨c1, c2, -, -, ⟨c3, rfl, rfl⟩ | ⟨c3, rfl, rfl⟩ | ⟨c3, rfl, rfl⟩⟩ <;> omega
    rw [HE.out]
    clear hl h hcs hA HE hw hwl
    generalize hv : ws.getD i 0 = v at *
    have hb := HA.out.lt
    go_enter Tryz.func53, Tryz.ntmps53
    go_wp2_with fail
    refine HC.out.mono ?_
    rintro e w1 ⟨rfl, hb1⟩
    simp only [Option.isSome_some, Option.map_some]
    go_upto_region 4 with fail
    have hb2 := hb1.alloc hb1.size (Obj.cells #[Value.pointer (some ⟨b, i + 1, none⟩), Value.int .u64 a, Value.int .u64 m] RgT)
    have hR := CsAt.new w1 RgT #[Value.pointer (some ⟨b, i + 1, none⟩), Value.int .u64 a, Value.int .u64 m]
    generalize w1.alloc (Obj.cells #[Value.pointer (some ⟨b, i + 1, none⟩), Value.int .u64 a, Value.int .u64 m] RgT) = w2 at *
    have hc := (HA.out.low hb2).cell hi
    rw [hv] at hc
    have r0 := hR.cell 0
    have r1 := hR.cell 1
    have r2 := hR.cell 2
    simp only [List.getElem?_toArray, List.getElem?_cons_zero, List.getElem?_cons_succ] at r0 r1 r2
    have HB := Lib.hid hb2
    clear hb2 hb1 hR HA HC
    rcases ha with rfl | rfl
    all_goals
      go_quiet (fail)
      have HB3 := Lib.hid (below_dnC HB.out nq)
      go_wp2_with fail
      go_ret2
      first
        | exact ⟨rfl, HB3.out⟩
        | exact ⟨by rw [show v / 2 ^ (0 : Int).toNat = v by simp]; rfl, HB3.out⟩
theorem time_c (p : Option Addr) (n : Nat) (ws : List Int) (w : World) (h : CtP w p n ws) (hz : n = 0 → ws.getD 0 0 = 0) :
    Calls Tryz.prog 76 #[.pointer p] w fun e w' => e = .returned (.int .u64 (ws.getD 0 0)) ∧ w' = w := by
  rcases h with ⟨rfl, rfl⟩ | ⟨b, rfl, h⟩
  · have HZ := Lib.hid (hz rfl)
    rw [HZ.out]
    clear hz
    go_enter Tryz.func76, Tryz.ntmps76
    go_wp2_with fail
    go_ret
    exact ⟨rfl, rfl⟩
  · have hc := h.cell (show 0 < 17 by omega)
    generalize ws.getD 0 0 = v at *
    clear h hz
    go_enter Tryz.func76, Tryz.ntmps76
    go_wp2_with fail
    go_ret
    exact ⟨rfl, rfl⟩
theorem or_8 (x : Int) (h : x = 0 ∨ x = 8) : bits .or .u64 x 128 = x + 128 := by
  rcases h with rfl | rfl
  · decide
  · decide
set_option maxHeartbeats 4000000 in
theorem lines_c (p : Option Addr) (n : Nat) (ws : List Int) (hart : Int) (g0 : -9223372036854775808 ≤ hart) (g1 : hart ≤ 9223372036854775807) (w : World) (h : CtP w p n ws) :
    Calls Tryz.prog 50 #[.pointer p, .int .i64 hart] w fun e w' => e = .returned (.int .u64 (Ct.lineC n ws hart)) ∧ Below w.heap.size w w' := by
  have HC := Lib.hid (count_c p n h.n8 w h.cw)
  have hn8 := h.n8
  by_cases hneg : hart < 0
  · have HE := Lib.hid (show Ct.lineC n ws hart = 0 by unfold Ct.lineC; rw [if_neg (by omega)])
    rw [HE.out]
    have e0 : decide (hart < 0) = true := by simpa using hneg
    clear h
    go_enter Tryz.func50, Tryz.ntmps50
    go_wp2_with fail
    go_ret
    exact ⟨rfl, Below.refl _ _⟩
  · have e0 : decide (hart < 0) = false := by simpa using hneg
    obtain ⟨k, rfl⟩ := Int.eq_ofNat_of_zero_le (by omega : 0 ≤ hart)
    by_cases hk : k < n
    · obtain ⟨b, rfl, hA⟩ := h.pos (by omega)
      have hk8 : k < 8 := by omega
      have hs := hA.cell (show 9 + k < 17 by omega)
      have hcm := hA.cell (show 1 + k < 17 by omega)
      have ht := hA.cell (show 0 < 17 by omega)
      have hbit := hA.ok.bit k
      rw [show 9 + k + 1 = 10 + k by omega] at hs
      rw [show 1 + k + 1 = 2 + k by omega] at hcm
      have HE := Lib.hid (show Ct.lineC n ws (k : Int) = (if ws.getD (9 + k) 0 = 1 then 8 else 0) + (if ws.getD (1 + k) 0 ≤ ws.getD 0 0 then 128 else 0) by unfold Ct.lineC; rw [if_pos (by omega), Int.toNat_natCast])
      rw [HE.out]
      have e1 : decide (k ≥ n) = false := by simpa using hk
      have gk : (k : Int) < 8 := by omega
      clear h hA HE
      generalize ws.getD (9 + k) 0 = s at *
      generalize ws.getD (1 + k) 0 = c at *
      generalize ws.getD 0 0 = t at *
      by_cases hct : c ≤ t
      · have e2 : decide (t ≥ c) = true := by simpa using hct
        rw [if_pos hct]
        clear hct
        rcases hbit with rfl | rfl
        all_goals
          go_enter Tryz.func50, Tryz.ntmps50
          go_wp2_with fail
          refine HC.out.mono ?_
          rintro e w1 ⟨rfl, rfl⟩
          go_wp2_with fail
          go_quiet (fail)
          have HB := Lib.hid (below_dnC (Below.refl w1.heap.size w1) nq)
          go_wp2_with fail
          go_ret
          exact ⟨rfl, HB.out⟩
      · have e2 : decide (t ≥ c) = false := by simpa using hct
        rw [if_neg hct]
        clear hct
        rcases hbit with rfl | rfl
        all_goals
          go_enter Tryz.func50, Tryz.ntmps50
          go_wp2_with fail
          refine HC.out.mono ?_
          rintro e w1 ⟨rfl, rfl⟩
          go_wp2_with fail
          go_quiet (fail)
          have HB := Lib.hid (below_dnC (Below.refl w1.heap.size w1) nq)
          go_wp2_with fail
          go_ret
          exact ⟨rfl, HB.out⟩
    · have HE := Lib.hid (show Ct.lineC n ws (k : Int) = 0 by unfold Ct.lineC; rw [if_neg (by omega)])
      rw [HE.out]
      have e1 : decide (k ≥ n) = true := by simpa using hk
      clear h
      go_enter Tryz.func50, Tryz.ntmps50
      go_wp2_with fail
      refine HC.out.mono ?_
      rintro e w1 ⟨rfl, rfl⟩
      go_wp2_with fail
      go_ret
      exact ⟨rfl, Below.refl _ _⟩
end Go.Proofs.YtfjdalepaacmgaaGreat
set_option maxRecDepth 20000
namespace Go.Proofs.YtfjdalepaacmgaaGreat
open Go.RowKit
section
variable {P : Program} {ops : Array Oper} {md : Region.Mode} {S : World → Prop}

/-- In every world that meets S the operation leaves v, and S holds behind it. -/
def YieldsS (P : Program) (ops : Array Oper) (S : World → Prop) (o : Oper) (v : Value) (a : Act) : Prop :=
  (Region.wanted o (yielded ops a.tmps) = true ∧ ∀ w, S w →
    ((∃ w', (execOp a.eval o).run P w = .ok (.value v) w' ∧ S w') ∨ (∃ w', (execOp a.eval o).run P w = .ok .skip w' ∧ v = undef ∧ S w') ∨
      ∃ f args w', (execOp a.eval o).run P w = .ok (.enter f args) w' ∧ Calls P f args w' (fun e w'' => e = .returned v ∧ S w''))) ∨
  (Region.wanted o (yielded ops a.tmps) = false ∧ v = undef)
theorem YieldsS.of_same {o : Oper} {v : Value} {a a' : Act} (hy : YieldsS P ops S o v a) (he : execOp a'.eval o = execOp a.eval o)
    (hw : Region.wanted o (yielded ops a'.tmps) = Region.wanted o (yielded ops a.tmps)) : YieldsS P ops S o v a' := by
  unfold YieldsS at *
  rw [he, hw]
  exact hy
theorem YieldsS.wpOp {Q : Exit → Act → World → Prop} {i : Nat} {o : Oper} {v : Value} {a : Act} (hi : ops[i]? = some o) (hy : YieldsS P ops S o v a) {K : Act → World → Prop} {w : World} (hS : S w)
    (h : ∀ w', S w' → K (a.put o.dst v) w') : Go.wpOp P ops Q i K a w := by
  unfold Go.wpOp
  simp only [hi]
  rcases hy with ⟨hw, hv⟩ | ⟨hw, rfl⟩
  · simp only [hw, if_true]
    refine .inl ?_
    unfold Oper.wp
    rcases hv w hS with ⟨w', hr, hS'⟩ | ⟨w', hr, rfl, hS'⟩ | ⟨f, args, w', hr, hc⟩
    · rw [hr]; exact h _ hS'
    · rw [hr]; exact h _ hS'
    · rw [hr]
      simp only [Oper.upon]
      exact hc.mono fun e w'' ⟨he, hs⟩ => by subst he; exact h _ hs
  · simp only [hw, Bool.false_eq_true, if_false]; exact h _ hS
/-- The walk in the order of the text. -/
def wpSteady (P : Program) (ops : Array Oper) (S : World → Prop) (Q : Act → Prop) : List Oper → Act → Prop
  | [], a => Q a
  | o :: rest, a => ∃ v, YieldsS P ops S o v a ∧ wpSteady P ops S Q rest (a.put o.dst v)
def wpAnyT (P : Program) (md : Region.Mode) (ops : Array Oper) (S : World → Prop) (n : Nat) (L : Array Bool → Act → Prop) : Nat → Array Bool → Act → Prop
  | 0, listed, a => L listed a
  | f + 1, listed, a => Region.ready md ops listed ≠ [] ∧ ∀ i ∈ Region.ready md ops listed, i < n ∧ ∃ o v, ops[i]? = some o ∧ YieldsS P ops S o v a ∧ wpAnyT P md ops S n L f (listed.setIfInBounds i true) (a.put o.dst v)
theorem wpAny_of_T {n g : Nat} {L : Array Bool → Act → Prop} {Q' : Exit → Act → World → Prop} (hL : ∀ listed a w, S w → L listed a → wpAny P md ops Q' g listed a w) :
    ∀ (f : Nat) (listed : Array Bool) (a : Act) (w : World), S w → wpAnyT P md ops S n L f listed a → wpAny P md ops Q' (f + g) listed a w
  | 0, listed, a, w, hS, h => by rw [Nat.zero_add]; exact hL _ _ _ hS h
  | f + 1, listed, a, w, hS, h => by
    rw [show f + 1 + g = (f + g) + 1 by omega]
    refine ⟨fun h0 => absurd h0 h.1, fun i hi => ?_⟩
    obtain ⟨-, o, v, ho, hy, hn⟩ := h.2 i hi
    exact hy.wpOp ho hS fun w' hS' => wpAny_of_T hL f _ _ w' hS' hn
theorem wpAnyT_first {n i : Nat} {oi : Oper} {v : Value} {L : Array Bool → Act → Prop} (hi : ops[i]? = some oi) (hsel : ∀ (j : Nat) (o : Oper) cs b, ops[j]? = some o → o.op ≠ .select cs b) (hin : i < n)
    (hlt : ∀ listed, HeadInv md ops n listed → (∃ k, k < n ∧ listed.getD k true = false) → ∀ t ∈ Region.ready md ops listed, t < n)
    (hdone : ∀ listed a, L listed a → ∀ j ∈ Region.ready md ops listed, n ≤ j) :
    ∀ (f : Nat) (listed : Array Bool) (a : Act), HeadInv md ops n listed →
      (∀ j oj, ops[j]? = some oj → j ≠ i → listed.getD j true = false → (∀ e ∈ oj.after, Region.binds md e = true → e.on ≠ i) → oi.apart ops oj = true) →
      i ∈ Region.ready md ops listed → YieldsS P ops S oi v a →
      wpAnyT P md ops S n L f (listed.setIfInBounds i true) (a.put oi.dst v) → wpAnyT P md ops S n L (f + 1) listed a := by
  intro f
  induction f with
  | zero =>
    intro listed a inv _ hr hy H
    have hun := (mem_ready.1 hr).1
    refine ⟨fun h => (by rw [h] at hr; cases hr), fun j hj => ?_⟩
    have hjn : j < n := hlt listed inv ⟨i, hin, hun⟩ j hj
    by_cases hji : j = i
    · subst hji; exact ⟨hjn, oi, v, hi, hy, H⟩
    · have := hdone _ _ H j (ready_mono hj hji)
      omega
  | succ f ih =>
    intro listed a inv hfree hr hy H
    have hun := (mem_ready.1 hr).1
    refine ⟨fun h => (by rw [h] at hr; cases hr), fun j hj => ?_⟩
    have hjn : j < n := hlt listed inv ⟨i, hin, hun⟩ j hj
    by_cases hji : j = i
    · subst hji; exact ⟨hjn, oi, v, hi, hy, H⟩
    · obtain ⟨-, oj', u, hoj', hyj, hn⟩ := H.2 j (ready_mono hj hji)
      obtain ⟨hjun, oj, hoj, hall⟩ := mem_ready.1 hj
      obtain rfl : oj' = oj := Option.some.inj (hoj'.symm.trans hoj)
      have hnot : ∀ e ∈ oj'.after, Region.binds md e = true → e.on ≠ i := fun e he hb heq => by
        have h1 := hall e he hb
        rw [heq, getD_both hun] at h1
        cases h1
      obtain ⟨h1, h2, h3⟩ := Oper.apart_spec (hfree j oj' hoj hji hjun hnot)
      have hyj' : YieldsS P ops S oj' u a := hyj.of_same (execOp_put oj' (fun cs b => hsel j oj' cs b hoj) a oi.dst v h1).symm (wanted_put oj' a oi.dst v h1).symm
      have hyi : YieldsS P ops S oi v (a.put oj'.dst u) := hy.of_same (execOp_put oi (fun cs b => hsel i oi cs b hi) a oj'.dst u h3) (wanted_put oi a oj'.dst u h3)
      have hfree' : ∀ k ok, ops[k]? = some ok → k ≠ i → (listed.setIfInBounds j true).getD k true = false →
          (∀ e ∈ ok.after, Region.binds md e = true → e.on ≠ i) → oi.apart ops ok = true := fun k ok hk hki hun hno => by
        refine hfree k ok hk hki ?_ hno
        by_cases hjk : j = k
        · subst hjk; exact hjun
        · rw [getD_set_ne true hjk] at hun; exact hun
      refine ⟨hjn, oj', u, hoj, hyj', ih (listed.setIfInBounds j true) _ (inv.set hj hjn) hfree' (ready_mono hr (Ne.symm hji)) hyi ?_⟩
      rw [Array.setIfInBounds_comm _ _ hji, ← Act.put_comm a v u h2]
      exact hn
theorem headInv0 (n : Nat) : HeadInv md ops n (Array.replicate ops.size false) :=
  ⟨by simp, fun j oj _ hl => (by rw [getD_replicate_false] at hl; cases hl), fun t _ ht => getD_in (by simpa using ht) (getD_replicate_false _ _)⟩
theorem wpAnyT_lex {n g : Nat} {Lq : Act → Prop} (hsel : Region.noSelect ops = true) (hs : Region.sinkB md ops n = true) (hc : Region.chainB md ops n = true) (hn : n < ops.size) :
    ∀ (l : List Oper) (k : Nat) (listed : Array Bool) (a : Act), (∀ j, j < l.length → l[j]? = ops[k + j]?) → k + l.length = n → HeadInv md ops n listed →
    Region.lexHead md ops g l.length k listed = true → wpSteady P ops S Lq l a →
    wpAnyT P md ops S n (fun listed' a' => Region.seqB md ops g n listed' = true ∧ Lq a') l.length listed a
  | [], k, listed, a, _, hk, _, hB, h => by
    have : k = n := by simpa using hk
    subst this
    exact ⟨by simpa [Region.lexHead] using hB, h⟩
  | o :: l, k, listed, a, hl, hk, inv, hB, h => by
    have h0 : ops[k]? = some o := by simpa using (hl 0 (by simp)).symm
    simp only [List.length_cons, Region.lexHead, Bool.and_eq_true] at hB
    obtain ⟨⟨hr, hf⟩, hB'⟩ := hB
    have hkn : k < n := by simp only [List.length_cons] at hk; omega
    have hr' : k ∈ Region.ready md ops listed := by simpa using hr
    obtain ⟨v, hy, hK⟩ := h
    exact wpAnyT_first h0 (Region.noSelect_spec hsel) hkn (fun listed' inv' ⟨i, hi, hun⟩ t ht => Nat.lt_of_not_le fun hge => tail_waits hs hc hn inv' _ i rfl hi hun t hge ht)
      (fun listed' a' hL => seqB_ready hL.1) l.length listed a inv (Region.free_spec h0 hf) hr' hy
      (wpAnyT_lex hsel hs hc hn l (k + 1) _ _ (fun j hj => by have := hl (j + 1) (by simp; omega); simpa [Nat.add_assoc, Nat.add_comm 1 j] using this) (by simp only [List.length_cons] at hk; omega) (inv.set hr' hkn) hB' hK)
/-- The first n operations in whatever order, then the rest, one behind the other. -/
theorem wp_region_steady_tail {id : Nat} {Q : Exit → Act → World → Prop} {a : Act} {w : World} {l : List Oper} (S : World → Prop) (n : Nat) (hm : P.follows .mixedOrders = true) (hB : Region.lexTailB .any l.toArray n = true) (hS : S w.drew)
    (h : wpSteady P l.toArray S (fun a' => ∀ w', S w' → wpList P l.toArray Q (l.drop n) a' w') (l.take n) a) : (Code.region id l.toArray true).wp P Q a w := by
  simp only [Region.lexTailB, Bool.and_eq_true, decide_eq_true_eq] at hB
  obtain ⟨⟨⟨⟨hsel, hn⟩, hs⟩, hc⟩, hlex⟩ := hB
  have hn' : n < l.length := by simpa using hn
  have htl : (l.take n).length = n := by simp; omega
  have hdl : (l.drop n).length = l.toArray.size - n := by simp
  have H := wpAnyT_lex (md := .any) (g := l.toArray.size - n) hsel hs hc hn (l.take n) 0 _ a (fun j hj => by
    have hj' : j < n := by rw [htl] at hj; exact hj
    simp [hj']) (by simpa using htl) (headInv0 n) (by rw [htl]; exact hlex) h
  refine wp_region_any hm ?_
  have := wpAny_of_T (Q' := Q) (g := l.toArray.size - n) (fun listed a' w' hS' hL => by
    have := wpAny_of_seq (md := .any) (Q' := Q) (l.drop n) n listed a' w' (fun j => by simp [List.getElem?_drop]) (by rw [hdl]; exact hL.1) (hL.2 w' hS')
    rwa [hdl] at this) _ _ _ w.drew hS H
  rw [htl, show n + (l.toArray.size - n) = l.toArray.size by omega] at this
  exact this
theorem wpAnyT_whole {Lq : Act → Prop} (hsel : Region.noSelect ops = true) :
    ∀ (l : List Oper) (k : Nat) (listed : Array Bool) (a : Act), (∀ j, l[j]? = ops[k + j]?) → HeadInv md ops ops.size listed →
    Region.lexFrom md ops l.length k listed = true → wpSteady P ops S Lq l a →
    wpAnyT P md ops S ops.size (fun listed' a' => Region.ready md ops listed' = [] ∧ Lq a') l.length listed a
  | [], k, listed, a, _, _, hB, h => ⟨by simpa [Region.lexFrom] using hB, h⟩
  | o :: l, k, listed, a, hl, inv, hB, h => by
    have h0 : ops[k]? = some o := by simpa using (hl 0).symm
    simp only [List.length_cons, Region.lexFrom, Bool.and_eq_true] at hB
    obtain ⟨⟨hr, hf⟩, hB'⟩ := hB
    have hr' : k ∈ Region.ready md ops listed := by simpa using hr
    have hkn : k < ops.size := (Array.getElem?_eq_some_iff.1 h0).1
    obtain ⟨v, hy, hK⟩ := h
    exact wpAnyT_first h0 (Region.noSelect_spec hsel) hkn (fun listed' _ _ t ht => by obtain ⟨_, ot, hot, _⟩ := mem_ready.1 ht; exact (Array.getElem?_eq_some_iff.1 hot).1)
      (fun listed' a' hL j hj => by rw [hL.1] at hj; cases hj) l.length listed a inv (Region.free_spec h0 hf) hr' hy
      (wpAnyT_whole hsel l (k + 1) _ _ (fun j => by have := hl (j + 1); simpa [Nat.add_assoc, Nat.add_comm 1 j] using this) (inv.set hr' hkn) hB' hK)
/-- All operations in whatever order. -/
theorem wp_region_steady {id : Nat} {Q : Exit → Act → World → Prop} {a : Act} {w : World} {l : List Oper} (S : World → Prop) (hm : P.follows .mixedOrders = true) (hB : Region.lexB .any l.toArray = true) (hS : S w.drew)
    (h : wpSteady P l.toArray S (fun a' => ∀ w', S w' → Q .normal a' w') l a) : (Code.region id l.toArray true).wp P Q a w := by
  simp only [Region.lexB, Bool.and_eq_true] at hB
  have H := wpAnyT_whole (md := .any) hB.1 l 0 (Array.replicate l.toArray.size false) a (by simp) (headInv0 _) (by simpa using hB.2) h
  refine wp_region_any hm ?_
  have := wpAny_of_T (Q' := Q) (g := 0) (fun listed a' w' hS' hL => ⟨hL.1, hL.2 w' hS'⟩) _ _ _ w.drew hS H
  simpa using this
/-! The steps. -/
theorem steady_nil {Q : Act → Prop} {a : Act} (h : Q a) : wpSteady P ops S Q [] a := h
theorem steady_value {Q : Act → Prop} {a : Act} {o : Oper} {rest : List Oper} (v : Value) (hw : Region.wanted o (yielded ops a.tmps) = true) (hv : ∀ w, S w → (execOp a.eval o).run P w = .ok (.value v) w)
    (h : wpSteady P ops S Q rest (a.put o.dst v)) : wpSteady P ops S Q (o :: rest) a := ⟨v, .inl ⟨hw, fun w hS => .inl ⟨w, hv w hS, hS⟩⟩, h⟩
theorem steady_val {Q : Act → Prop} {a : Act} {o : Oper} {rest : List Oper} (v : Value) (b : Act) (hw : Region.wanted o (yielded ops a.tmps) = true) (hv : ∀ w, S w → (execOp a.eval o).run P w = .ok (.value v) w) (hb : a.put o.dst v = b)
    (h : wpSteady P ops S Q rest b) : wpSteady P ops S Q (o :: rest) a := steady_value v hw hv (hb ▸ h)
theorem steady_enter {Q : Act → Prop} {a : Act} {o : Oper} {rest : List Oper} (v : Value) (f : FuncId) (args : Array Value) (b : Act) (hw : Region.wanted o (yielded ops a.tmps) = true) (hv : ∀ w, S w → (execOp a.eval o).run P w = .ok (.enter f args) w)
    (hc : ∀ w, S w → Calls P f args w (fun e w'' => e = .returned v ∧ S w'')) (hb : a.put o.dst v = b)
    (h : wpSteady P ops S Q rest b) : wpSteady P ops S Q (o :: rest) a := ⟨v, .inl ⟨hw, fun w hS => .inr (.inr ⟨f, args, w, hv w hS, hc w hS⟩)⟩, hb ▸ h⟩
theorem steady_skip {Q : Act → Prop} {a : Act} {o : Oper} {rest : List Oper} (hw : Region.wanted o (yielded ops a.tmps) = false)
    (h : wpSteady P ops S Q rest (a.put o.dst undef)) : wpSteady P ops S Q (o :: rest) a := ⟨undef, .inr ⟨hw, rfl⟩, h⟩
theorem steady_call {Q : Act → Prop} {a : Act} {o : Oper} {rest : List Oper} (v : Value) (f : FuncId) (args : Array Value) (hw : Region.wanted o (yielded ops a.tmps) = true) (hv : ∀ w, S w → (execOp a.eval o).run P w = .ok (.enter f args) w)
    (hc : ∀ w, S w → Calls P f args w (fun e w'' => e = .returned v ∧ S w''))
    (h : wpSteady P ops S Q rest (a.put o.dst v)) : wpSteady P ops S Q (o :: rest) a := ⟨v, .inl ⟨hw, fun w hS => .inr (.inr ⟨f, args, w, hv w hS, hc w hS⟩)⟩, h⟩
/-! Operations on whole rows, run. -/
theorem exec_load_row {o : Oper} {a : Act} {w : World} (ty : TypeId) (x : Operand) (ho : o.op = .load ty x) (g : Nat) (hx : a.eval x = .pointer (some ⟨g, 0, none⟩)) (t : TypeId) (cs : Array Value) (d : TypeDesc) (hg : w.heap[g]? = some (.cells cs t (0, 0)))
    (hu : P.underlying ty = some d) (hd : (match d with | .struct _ | .array _ _ => true | _ => false) = true) (hi : (P.info? ty).map (·.size) = some cs.size) : (execOp a.eval o).run P w = .ok (.value (.agg cs)) w := by
  unfold execOp
  simp only [ho, hx, Instr.loadAt, Instr.sureAddr, Sem.run_bind, Sem.run_pure, Result.andThen_ok, run_loadVar_row w g t ty cs (0, 0) d hg hu hd hi]
theorem exec_store_row {o : Oper} {a : Act} {w : World} (ty : TypeId) (x y : Operand) (ho : o.op = .store ty x y) (g : Nat) (cells : Array Value) (hx : a.eval x = .pointer (some ⟨g, 0, none⟩)) (hy : a.eval y = .agg cells)
    (t : TypeId) (old : Array Value) (hg : w.heap[g]? = some (.cells old t (0, 0))) (hi : (P.info? ty).map (·.size) = some cells.size) (hold : old.size = cells.size) (h1 : cells.all (·.oneCell') = true) : (execOp a.eval o).run P w = .ok .skip (w.setRow g cells) := by
  unfold execOp
  simp only [ho, hx, hy, Instr.storeAt, Instr.sureAddr, Sem.run_bind, Sem.run_pure, Result.andThen_ok, run_storeVar_row w g t ty old cells hg hi hold h1]
theorem exec_alloc {o : Oper} {a : Act} {w : World} (ty : TypeId) (ho : o.op = .alloc ty) (z : Value) (hz : (zeroValue ty).run P w = .ok z w) : (execOp a.eval o).run P w = .ok (.value (.pointer (some ⟨w.heap.size, 0, none⟩))) (w.alloc (.cells z.cells ty)) := by
  unfold execOp
  simp [ho, Instr.alloc, hz, newVar, newRow, newObj, go_sem]
  rfl
theorem exec_cmp {o : Oper} {a : Act} {w : World} (op : BinOp) (t t2 : TypeId) (x y : Operand) (ho : o.op = .binOp op t x y t2) (xs ys : Array Value) (hx : a.eval x = .agg xs) (hy : a.eval y = .agg ys) (hm : P.eqGuardType P.depth t = false) (r : Value)
    (hr : (binOp op t (.agg xs) (.agg ys)).run P w = .ok r w) : (execOp a.eval o).run P w = .ok (.value r) w := by
  unfold execOp
  simp only [ho, hx, hy, Sem.run_bind, run_eqGuard_agg w op t x y xs ys hm, hr, Result.andThen_ok, Sem.run_pure]
theorem wpOp_val {Q : Exit → Act → World → Prop} {i : Nat} {o : Oper} {a : Act} {w : World} {K : Act → World → Prop} (v : Value) (w' : World) (hi : ops[i]? = some o) (hw : Region.wanted o (yielded ops a.tmps) = true) (hr : (execOp a.eval o).run P w = .ok (.value v) w') (h : K (a.put o.dst v) w') : Go.wpOp P ops Q i K a w := by
  unfold Go.wpOp
  simp only [hi, hw, if_true]
  refine .inl ?_
  unfold Oper.wp
  rw [hr]; exact h
theorem wpOp_valB {Q : Exit → Act → World → Prop} {i : Nat} {o : Oper} {a : Act} {w : World} {K : Act → World → Prop} (v : Value) (w' : World) (b : Act) (hi : ops[i]? = some o) (hw : Region.wanted o (yielded ops a.tmps) = true) (hr : (execOp a.eval o).run P w = .ok (.value v) w') (hb : a.put o.dst v = b) (h : K b w') : Go.wpOp P ops Q i K a w :=
  wpOp_val v w' hi hw hr (hb ▸ h)
theorem takeH {Q : Exit → Act → World → Prop} {i : Nat} {oi : Oper} {fuel : Nat} {listed : Array Bool} {a : Act} {w : World} (v : Value) (b : Act) (hi : ops[i]? = some oi) (hs : Region.noSelect ops = true) (hf : Region.free md ops listed i = true) (hr : (Region.ready md ops listed).contains i = true)
    (hQ : ∀ c a w, Q (.panic c) (a.put oi.dst v) w → Q (.panic c) a w) (hw : Region.wanted oi (yielded ops a.tmps) = true) (hv : ∀ w, S w → (execOp a.eval oi).run P w = .ok (.value v) w) (hS : S w) (hb : a.put oi.dst v = b)
    (h : wpAnyH P md ops Q S fuel (listed.setIfInBounds i true) b w) : wpAnyH P md ops Q S (fuel + 1) listed a w :=
  wpAnyH_take hi hs hf hr hQ (Or.inl ⟨hw, hv⟩) hS (hb ▸ h)
theorem wpOp_callB {Q : Exit → Act → World → Prop} {i : Nat} {o : Oper} {a : Act} {w : World} {K : Act → World → Prop} (f : FuncId) (args : Array Value) (v : Value) (b : Act) (hi : ops[i]? = some o) (hw : Region.wanted o (yielded ops a.tmps) = true) (hr : (execOp a.eval o).run P w = .ok (.enter f args) w)
    (hb : a.put o.dst v = b) (h : Calls P f args w fun e w'' => e = .returned v ∧ K b w'') : Go.wpOp P ops Q i K a w := by
  subst hb
  unfold Go.wpOp
  simp only [hi, hw, if_true]
  refine .inl ?_
  unfold Oper.wp
  rw [hr]
  simp only [Oper.upon]
  exact h.mono fun e w'' ⟨he, hk⟩ => by subst he; exact hk
theorem wpOp_unit {Q : Exit → Act → World → Prop} {i : Nat} {o : Oper} {a : Act} {w : World} {K : Act → World → Prop} (w' : World) (hi : ops[i]? = some o) (hw : Region.wanted o (yielded ops a.tmps) = true) (hr : (execOp a.eval o).run P w = .ok .skip w') (h : K (a.put o.dst undef) w') : Go.wpOp P ops Q i K a w := by
  unfold Go.wpOp
  simp only [hi, hw, if_true]
  refine .inl ?_
  unfold Oper.wp
  rw [hr]; exact h
theorem wpOp_unitB {Q : Exit → Act → World → Prop} {i : Nat} {o : Oper} {a : Act} {w : World} {K : Act → World → Prop} (w' : World) (b : Act) (hi : ops[i]? = some o) (hw : Region.wanted o (yielded ops a.tmps) = true) (hr : (execOp a.eval o).run P w = .ok .skip w') (hb : a.put o.dst undef = b) (h : K b w') : Go.wpOp P ops Q i K a w :=
  wpOp_unit w' hi hw hr (hb ▸ h)
end
end Go.Proofs.YtfjdalepaacmgaaGreat
