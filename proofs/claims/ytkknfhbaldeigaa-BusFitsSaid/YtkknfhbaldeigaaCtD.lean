/-
  Contracts of clint.count, wide, locate.
-/
import Derived.Test.YtkknfhbaldeigaaCtC
import Derived.Test.YtkknfhbaldeigaaOwn
import Derived.BigQuiet
import Derived.BigRegion
set_option maxRecDepth 20000
namespace Go.Proofs.Ytkknfhbaldeigaa
open Go.ChangeShapes Go.WideShapes Go.ChangeAt Go.RowKit

/-- What count looks at: none, or a clint of n harts. -/
def Cw (w : World) (p : Option Addr) (n : Nat) : Prop := (p = none ∧ n = 0) ∨ ∃ b, p = some ⟨b, 0, none⟩ ∧ w.cell? ⟨b, 0, none⟩ = some (.int .i64 n)
theorem wrap_n {n : Nat} (h : n ≤ 8) : IntKind.u64.wrap (n : Int) = n := by rw [IntKind.wrap_u64]; omega
theorem count_c (p : Option Addr) (n : Nat) (hn : n ≤ 8) (w : World) (h : Cw w p n) : Calls Try.prog 65 #[.pointer p] w fun e w' => e = .returned (.int .u64 n) ∧ w' = w := by
  rcases h with ⟨rfl, rfl⟩ | ⟨b, rfl, hc⟩
  · go_enter Try.func65, Try.ntmps65
    go_wp2_with fail
    go_ret
    exact ⟨rfl, rfl⟩
  · have e := wrap_n hn
    go_enter Try.func65, Try.ntmps65
    go_wp2_with fail
    go_ret
    exact ⟨by first | rfl | rw [e], rfl⟩
def ptr (p : Option Addr) (t : Option Nat) : Value := match t with
  | none => .pointer none
  | some i => .pointer (p.map fun a => ⟨a.block, i + 1, none⟩)
set_option maxHeartbeats 1000000 in
theorem wide_c (p : Option Addr) (n : Nat) (hn : n ≤ 8) (off : Int) (h0 : 0 ≤ off) (h1 : off ≤ 18446744073709551615) (w : World) (h : Cw w p n) :
    Calls Try.prog 93 #[.pointer p, .int .u64 off] w fun e w' => e = .returned (ptr p (Ct.wide n off)) ∧ w' = w := by
  have HC := Lib.hid (count_c p n hn w h)
  have h8 : 0 ≤ off % 8 ∧ off % 8 < 8 := by omega
  by_cases hf : off - off % 8 = 49144
  · by_cases hz : n = 0
    · have HE := Lib.hid (show Ct.wide n off = none by unfold Ct.wide; rw [if_neg (by omega), if_neg (by omega)])
      subst hz
      go_enter Try.func93, Try.ntmps93
      go_wp2_with fail
      refine HC.out.mono ?_
      rintro e w1 ⟨rfl, rfl⟩
      go_wp2_with fail
      refine HC.out.mono ?_
      rintro e w1 ⟨rfl, rfl⟩
      go_wp2_with fail
      go_ret
      exact ⟨by rw [HE.out]; rfl, rfl⟩
    · have HE := Lib.hid (show Ct.wide n off = some 0 by unfold Ct.wide; rw [if_pos (by omega)])
      obtain ⟨b, rfl, hc⟩ : ∃ b, p = some ⟨b, 0, none⟩ ∧ w.cell? ⟨b, 0, none⟩ = some (.int .i64 n) := by
        rcases h with h | h
        · exact absurd h.2 hz
        · exact h
      have gz : decide (0 < n) = true := by simp; omega
      clear h hz
      go_enter Try.func93, Try.ntmps93
      go_wp2_with fail
      refine HC.out.mono ?_
      rintro e w1 ⟨rfl, rfl⟩
      go_wp2_with fail
      go_ret
      exact ⟨by rw [HE.out]; rfl, rfl⟩
  · by_cases hlo : off - off % 8 < 16384
    · have HE := Lib.hid (show Ct.wide n off = none by unfold Ct.wide; rw [if_neg (by omega), if_neg (by omega)])
      have g0 : (off - off % 8 == 49144) = false := by simpa using hf
      have g1 : decide (off - off % 8 ≥ 16384) = false := by simp; omega
      clear h hf
      go_enter Try.func93, Try.ntmps93
      go_wp2_with fail
      go_ret
      exact ⟨by rw [HE.out]; rfl, rfl⟩
    · have g0 : (off - off % 8 == 49144) = false := by simpa using hf
      have g1 : decide (off - off % 8 ≥ 16384) = true := by simp; omega
      by_cases hn2 : (off - off % 8 - 16384) / 8 < n
      · have HE := Lib.hid (show Ct.wide n off = some (1 + ((off - off % 8 - 16384) / 8).toNat) by unfold Ct.wide; rw [if_neg (by omega), if_pos (by omega)])
        obtain ⟨b, rfl, hc⟩ : ∃ b, p = some ⟨b, 0, none⟩ ∧ w.cell? ⟨b, 0, none⟩ = some (.int .i64 n) := by
          rcases h with h | h
          · omega
          · exact h
        have g2 : decide ((off - off % 8 - 16384) / 8 < n) = true := by simpa using hn2
        have g3 : (off - off % 8 - 16384) / 8 < 8 := by omega
        clear h hf
        go_enter Try.func93, Try.ntmps93
        go_wp2_with fail
        refine HC.out.mono ?_
        rintro e w1 ⟨rfl, rfl⟩
        go_wp2_with fail
        go_ret
        exact ⟨by rw [HE.out, show 1 + ((off - off % 8 - 16384) / 8).toNat = ((off - off % 8 - 16384) / 8).toNat + 1 by omega]; show _ = Ending.returned (.pointer (some ⟨b, ((off - off % 8 - 16384) / 8).toNat + 1 + 1, none⟩)); rw [show ((off - off % 8 - 16384) / 8).toNat + 1 + 1 = 2 + ((off - off % 8 - 16384) / 8).toNat by omega]; rfl, rfl⟩
      · have HE := Lib.hid (show Ct.wide n off = none by unfold Ct.wide; rw [if_neg (by omega), if_neg (by omega)])
        have g2 : decide ((off - off % 8 - 16384) / 8 < n) = false := by simpa using hn2
        clear h hf
        go_enter Try.func93, Try.ntmps93
        go_wp2_with fail
        refine HC.out.mono ?_
        rintro e w1 ⟨rfl, rfl⟩
        go_wp2_with fail
        go_ret
        exact ⟨by rw [HE.out]; rfl, rfl⟩
abbrev RgT : TypeId := 147
/-- A register as the code has it. -/
def rgV (p : Option Addr) (t : Option (Nat × Int × Int)) : Array Value := match t with
  | none => #[.pointer none, .int .u64 0, .int .u64 0]
  | some (i, a, m) => #[.pointer (p.map fun q => ⟨q.block, i + 1, none⟩), .int .u64 a, .int .u64 m]
theorem loc0 {t : Nat × Nat × Nat} (h : t = (0, 0, 0)) : Ct.loc t = none := by rw [h]; rfl
theorem rgV_soft (b k : Nat) : rgV (some ⟨b, 0, none⟩) (some (9 + k, 0, 1)) = #[.pointer (some ⟨b, 10 + k, none⟩), .int .u64 0, .int .u64 1] := by
  show (#[.pointer (some ⟨b, 9 + k + 1, none⟩), .int .u64 0, .int .u64 1] : Array Value) = _
  rw [show 9 + k + 1 = 10 + k by omega]
/-- A cell's whole, and another result. -/
theorem results_cb {F : Func} {x y : Tmp} (ty : TypeId) (hF : F.results = #[.cell x ty, .tmp y]) (tmps : Array Value) (w : World) (b : Nat) (cs : Array Value) (r : Value) (h2 : tmps.getD x undef = .pointer (some ⟨b, 0, none⟩)) (h3 : tmps.getD y undef = r)
    (hl : (loadVar ty ⟨b, 0, none⟩).run Try.prog w = .ok (.agg cs) w) : (results F tmps).run Try.prog w = .ok (.tuple #[.agg cs, r]) w := by
  have h2' : tmps[x]?.getD undef = .pointer (some ⟨b, 0, none⟩) := by simpa using h2
  have h3' : tmps[y]?.getD undef = r := by simpa using h3
  simp [results, hF, h2', h3', asAddr, hl]
theorem Cw.low {w w' : World} {p : Option Addr} {n : Nat} (h : Cw w p n) (hb : Below w.heap.size w w') : Cw w' p n := by
  rcases h with h | ⟨b, rfl, hc⟩
  · exact .inl h
  · exact .inr ⟨b, rfl, (hb.cell (p := ⟨b, 0, none⟩) (World.block_lt_of_cell? _ _ hc)).trans hc⟩
theorem Cw.pos {w : World} {p : Option Addr} {n : Nat} (h : Cw w p n) (hn : 0 < n) : ∃ b, p = some ⟨b, 0, none⟩ := by
  rcases h with h | ⟨b, rfl, -⟩
  · omega
  · exact ⟨b, rfl⟩
set_option maxHeartbeats 4000000 in
theorem locate_c (p : Option Addr) (n : Nat) (hn : n ≤ 8) (off : Int) (h0 : 0 ≤ off) (h1 : off ≤ 18446744073709551615) (size : Int) (w : World) (h : Cw w p n) :
    Calls Try.prog 79 #[.pointer p, .int .u64 off, .int .i64 size] w fun e w' => e = .returned (.tuple #[.agg (rgV p (Ct.loc (Ct.at_ n off size))), .bool (Ct.loc (Ct.at_ n off size)).isSome]) ∧ Below w.heap.size w w' := by
  have HW := Lib.hid h
  have hlow := (Below.refl w.heap.size w).alloc (Nat.le_refl _)
  clear h
  by_cases hs8 : size = 8
  · subst hs8
    by_cases hm : off % 8 = 0
    · cases hw : Ct.wide n off with
      | none =>
        have HE := Lib.hid (loc0 (Ct.at_no8 hn hm hw))
        go_enter Try.func79, Try.ntmps79
        go_wp2_with fail
        refine (wide_c p n hn off h0 h1 _ (HW.out.low ((Below.refl _ _).alloc (Nat.le_refl _) _))).mono ?_
        rintro e w1 ⟨rfl, rfl⟩
        rw [hw, ptr]
        go_wp2_with fail
        exact bodyPost_ret (results_cb RgT Try.results79 _ _ w.heap.size _ _ rfl rfl (run_loadVar_row _ _ RgT RgT _ (0, 0) _ (CsAt.new _ RgT _) Try.underlying147 rfl (by kernel_rfl))) rfl ⟨by rw [HE.out]; rfl, (Below.refl _ _).alloc (Nat.le_refl _) _⟩
      | some i =>
        have HE := Lib.hid (Ct.at_yes8 hn hm hw)
        obtain ⟨b, rfl⟩ := HW.out.pos (Ct.wide_lt hn hw).2
        go_enter Try.func79, Try.ntmps79
        go_wp2_with fail
        refine (wide_c _ n hn off h0 h1 _ (HW.out.low ((Below.refl _ _).alloc (Nat.le_refl _) _))).mono ?_
        rintro e w1 ⟨rfl, rfl⟩
        rw [hw, ptr]
        simp only [Option.map_some]
        go_wp2_with fail
        exact bodyPost_ret (results_cb RgT Try.results79 _ _ w.heap.size _ _ rfl rfl (run_loadVar_row _ _ RgT RgT _ (0, 0) _ (CsAt.new _ RgT _) Try.underlying147 rfl (by kernel_rfl))) rfl ⟨by rw [HE.out]; rfl, (Below.refl _ _).alloc (Nat.le_refl _) _⟩
    · have HE := Lib.hid (loc0 (Ct.at_odd8 (n := n) hm))
      have g0 : (off % 8 == 0) = false := by simpa using hm
      clear hm
      go_enter Try.func79, Try.ntmps79
      go_wp2_with fail
      exact bodyPost_ret (results_cb RgT Try.results79 _ _ w.heap.size _ _ rfl rfl (run_loadVar_row _ _ RgT RgT _ (0, 0) _ (CsAt.new _ RgT _) Try.underlying147 rfl (by kernel_rfl))) rfl ⟨by rw [HE.out]; rfl, (Below.refl _ _).alloc (Nat.le_refl _) _⟩
  · by_cases hs4 : size = 4
    · subst hs4
      clear hs8
      by_cases hm : off % 4 = 0
      · by_cases hlt : off / 4 < n
        · have HE := Lib.hid (show Ct.loc (Ct.at_ n off 4) = some (9 + (off / 4).toNat, 0, 1) by rw [Ct.at_soft hm hlt]; rfl)
          obtain ⟨b, rfl⟩ := HW.out.pos (by omega)
          have g1 : decide (off / 4 < n) = true := by simpa using hlt
          have g2 : off / 4 < 8 := by omega
          have HC := Lib.hid (count_c _ n hn _ (HW.out.low (hlow (Obj.cells #[Value.pointer none, Value.int IntKind.u64 0, Value.int IntKind.u64 0] RgT))))
          go_enter Try.func79, Try.ntmps79
          go_wp2_with fail
          refine HC.out.mono ?_
          rintro e w1 ⟨rfl, rfl⟩
          go_wp2_with fail
          exact bodyPost_ret (results_cb RgT Try.results79 _ _ w.heap.size _ _ rfl rfl (run_loadVar_row _ _ RgT RgT _ (0, 0) _ (CsAt.new _ RgT _) Try.underlying147 rfl (by kernel_rfl))) rfl ⟨by rw [HE.out, rgV_soft]; rfl, (Below.refl _ _).alloc (Nat.le_refl _) _⟩
        · have g1 : decide (off / 4 < n) = false := by simpa using hlt
          have HC := Lib.hid (count_c p n hn _ (HW.out.low (hlow (Obj.cells #[Value.pointer none, Value.int IntKind.u64 0, Value.int IntKind.u64 0] RgT))))
          cases hw : Ct.wide n off with
          | none =>
            have HE := Lib.hid (loc0 (Ct.at_no4 hn hm hlt hw))
            clear hlt
            go_enter Try.func79, Try.ntmps79
            go_wp2_with fail
            refine HC.out.mono ?_
            rintro e w1 ⟨rfl, rfl⟩
            go_wp2_with fail
            refine (wide_c p n hn off h0 h1 _ (HW.out.low ((Below.refl _ _).alloc (Nat.le_refl _) _))).mono ?_
            rintro e w2 ⟨rfl, rfl⟩
            rw [hw, ptr]
            go_wp2_with fail
            exact bodyPost_ret (results_cb RgT Try.results79 _ _ w.heap.size _ _ rfl rfl (run_loadVar_row _ _ RgT RgT _ (0, 0) _ (CsAt.new _ RgT _) Try.underlying147 rfl (by kernel_rfl))) rfl ⟨by rw [HE.out]; rfl, (Below.refl _ _).alloc (Nat.le_refl _) _⟩
          | some i =>
            have HE := Lib.hid (Ct.at_yes4 hn hm hlt hw)
            clear hlt
            obtain ⟨b, rfl⟩ := HW.out.pos (Ct.wide_lt hn hw).2
            go_enter Try.func79, Try.ntmps79
            go_wp2_with fail
            refine HC.out.mono ?_
            rintro e w1 ⟨rfl, rfl⟩
            go_wp2_with fail
            refine (wide_c _ n hn off h0 h1 _ (HW.out.low ((Below.refl _ _).alloc (Nat.le_refl _) _))).mono ?_
            rintro e w2 ⟨rfl, rfl⟩
            rw [hw, ptr]
            simp only [Option.map_some]
            go_wp2_with fail
            exact bodyPost_ret (results_cb RgT Try.results79 _ _ w.heap.size _ _ rfl rfl (run_loadVar_row _ _ RgT RgT _ (0, 0) _ (CsAt.new _ RgT _) Try.underlying147 rfl (by kernel_rfl))) rfl ⟨by rw [HE.out]; rfl, (Below.refl _ _).alloc (Nat.le_refl _) _⟩
      · have HE := Lib.hid (loc0 (Ct.at_odd4 (n := n) hm))
        have g0 : (off % 4 == 0) = false := by simpa using hm
        clear hm
        go_enter Try.func79, Try.ntmps79
        go_wp2_with fail
        exact bodyPost_ret (results_cb RgT Try.results79 _ _ w.heap.size _ _ rfl rfl (run_loadVar_row _ _ RgT RgT _ (0, 0) _ (CsAt.new _ RgT _) Try.underlying147 rfl (by kernel_rfl))) rfl ⟨by rw [HE.out]; rfl, (Below.refl _ _).alloc (Nat.le_refl _) _⟩
    · have HE := Lib.hid (loc0 (Ct.at_size (n := n) (off := off) hs4 hs8))
      have g0 : (size == 4) = false := by simpa using hs4
      have g1 : (size == 8) = false := by simpa using hs8
      clear hs4 hs8
      go_enter Try.func79, Try.ntmps79
      go_wp2_with fail
      exact bodyPost_ret (results_cb RgT Try.results79 _ _ w.heap.size _ _ rfl rfl (run_loadVar_row _ _ RgT RgT _ (0, 0) _ (CsAt.new _ RgT _) Try.underlying147 rfl (by kernel_rfl))) rfl ⟨by rw [HE.out]; rfl, (Below.refl _ _).alloc (Nat.le_refl _) _⟩
end Go.Proofs.Ytkknfhbaldeigaa
