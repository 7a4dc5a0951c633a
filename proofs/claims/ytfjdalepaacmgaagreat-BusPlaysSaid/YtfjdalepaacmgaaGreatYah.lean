/-
  A clint within a bus: contracts of Read, Time, Lines. A clint within a bus: contracts of Tick, Write. Plain numbers and lists, no program: what a port is, and what is read, written and comes in (layer 17).
-/
import Derived.Test.YtfjdalepaacmgaaGreatYag
import Derived.BigQuiet
import Derived.BigRegion
import Derived.Test.YtfjdalepaacmgaaGreatYaa
set_option maxRecDepth 20000
namespace Go.Proofs.YtfjdalepaacmgaaGreat
open Go.ChangeShapes Go.WideShapes Go.ChangeAt Go.RowKit
namespace Bm
section
variable {S : SurC}
variable {w w' : World} {p : Option Addr} {n : Nat} {ws : List Int}
/-- A clint at a pointer, or none. -/
def CtP (S : SurC) (w : World) (p : Option Addr) (n : Nat) (ws : List Int) : Prop := (p = none ∧ n = 0) ∨ ∃ b, p = some ⟨b, 2, none⟩ ∧ BmAt S w b n ws
theorem CtP.cw (h : CtP S w p n ws) : Cw w p n := by
  rcases h with h | ⟨b, rfl, h⟩
  · exact .inl h
  · exact .inr ⟨b, rfl, h.n0⟩
theorem CtP.n8 (h : CtP S w p n ws) : n ≤ 8 := by
  rcases h with h | ⟨b, rfl, h⟩
  · omega
  · exact h.ok.n8
theorem CtP.pos (h : CtP S w p n ws) (hn : 0 < n) : ∃ b, p = some ⟨b, 2, none⟩ ∧ BmAt S w b n ws := by
  rcases h with h | h
  · omega
  · exact h
set_option maxHeartbeats 4000000 in
theorem read_c (p : Option Addr) (n : Nat) (ws : List Int) (off : Int) (h0 : 0 ≤ off) (h1 : off ≤ 18446744073709551615) (size : Int) (w : World) (h : CtP S w p n ws) :
    Calls Tryz.prog 53 #[.pointer p, .int .u64 off, .int .i64 size] w fun e w' => e = .returned (.tuple #[.int .u64 (Ct.readC n ws off size), .bool (Ct.is n off size)]) ∧ Below w.heap.size w w' := by
  have HC := Lib.hid (locate_c p n h.n8 off h0 h1 size w h.cw)
  rw [← Ct.is_loc]
  cases hl : Ct.loc (Ct.at_ n off size) with
  | none =>
    rw [hl, rgV] at HC
    rw [r_none hl]
    clear hl h
    go_enter Tryz.func53, Tryz.ntmps53
    go_wp2_with fail
    refine HC.out.mono ?_
    rintro e w1 ⟨rfl, hb1⟩
    simp only [Option.isSome_none]
    have HB := Lib.hid (hb1.alloc hb1.size (Obj.cells #[Value.pointer none, Value.int IntKind.u64 0, Value.int IntKind.u64 0] RgT))
    go_wp2_with fail
    go_ret2
    exact ⟨rfl, HB.out⟩
  | some t =>
    obtain ⟨i, a, m⟩ := t
    obtain ⟨hne, hcs⟩ := Ct.loc_cases h0 hl
    obtain ⟨b, rfl, hA⟩ := h.pos (by rcases hcs with h | h <;> omega)
    have hi : i < 17 := by have := hA.ok.n8; rcases hcs with h | h <;> omega
    have hw := hA.ok.rng i
    have hwl : ws.getD i 0 < 18446744073709551616 := by omega
    rw [hl, rgV] at HC
    have HE := Lib.hid (show Ct.readC n ws off size = bits .and .u64 (ws.getD i 0 / 2 ^ a.toNat) m by
      unfold Ct.readC
      rw [if_neg hne]
      rcases hcs with ⟨c1, c2, -, rfl, rfl⟩ | ⟨c1, c2, -, -, ⟨c3, rfl, rfl⟩ | ⟨c3, rfl, rfl⟩ | ⟨c3, rfl, rfl⟩⟩
      · rw [Ct.idx, if_pos c1, ← c2]
        have hb := hA.ok.bit (Ct.at_ n off size).2.1
        rw [← c2] at hb
        have h3 := Ct.at_bit c1
        rw [show ((0 : Int).toNat) = 0 from rfl, Int.pow_zero, Int.ediv_one, Ct.and_one hw.1 hwl, Ct.part, if_neg (by omega), if_neg (by omega)]
        omega
      · rw [← c2, c3, show ((0 : Int).toNat) = 0 from rfl, Int.pow_zero, Int.ediv_one, Ct.and_all hw.1 hwl]; rfl
      · rw [← c2, c3, show ((0 : Int).toNat) = 0 from rfl, Int.pow_zero, Int.ediv_one, Ct.and_low hw.1 hwl]; rfl
      · rw [← c2, c3, show ((32 : Int).toNat) = 32 from rfl, show ((2 : Int) ^ 32) = 4294967296 by decide, Ct.and_low (by omega) (by omega), Ct.part, if_neg (by omega), if_pos rfl]; omega)
    have HA := Lib.hid hA
    have ha : a = 0 ∨ a = 32 := by rcases hcs with ⟨c1, c2, -, rfl, rfl⟩ | ⟨c1, c2, -, -, ⟨c3, rfl, rfl⟩ | ⟨c3, rfl, rfl⟩ | ⟨c3, rfl, rfl⟩⟩ <;> omega
    rw [HE.out]
    clear hl h hcs hA HE hw hwl
    generalize hv : ws.getD i 0 = v at *
    have hb := HA.out.lt
    go_enter Tryz.func53, Tryz.ntmps53
    go_wp2_with fail
    refine HC.out.mono ?_
    rintro e w1 ⟨rfl, hb1⟩
    simp only [Option.isSome_some, Option.map_some]
    go_upto_region 4 with fail
    have hb2 := hb1.alloc hb1.size (Obj.cells #[Value.pointer (some ⟨b, i + 3, none⟩), Value.int .u64 a, Value.int .u64 m] RgT)
    have hR := CsAt.new w1 RgT #[Value.pointer (some ⟨b, i + 3, none⟩), Value.int .u64 a, Value.int .u64 m]
    generalize w1.alloc (Obj.cells #[Value.pointer (some ⟨b, i + 3, none⟩), Value.int .u64 a, Value.int .u64 m] RgT) = w2 at *
    have hc := (HA.out.low hb2).cell hi
    rw [hv] at hc
    have r0 := hR.cell 0
    have r1 := hR.cell 1
    have r2 := hR.cell 2
    simp only [List.getElem?_toArray, List.getElem?_cons_zero, List.getElem?_cons_succ] at r0 r1 r2
    have HB := Lib.hid hb2
    clear hb2 hb1 hR HA HC
    rcases ha with rfl | rfl
    all_goals
      go_quiet (fail)
      have HB3 := Lib.hid (below_dnC HB.out nq)
      go_wp2_with fail
      go_ret2
      first
        | exact ⟨rfl, HB3.out⟩
        | exact ⟨by rw [show v / 2 ^ (0 : Int).toNat = v by simp]; rfl, HB3.out⟩
theorem time_c (p : Option Addr) (n : Nat) (ws : List Int) (w : World) (h : CtP S w p n ws) (hz : n = 0 → ws.getD 0 0 = 0) :
    Calls Tryz.prog 76 #[.pointer p] w fun e w' => e = .returned (.int .u64 (ws.getD 0 0)) ∧ w' = w := by
  rcases h with ⟨rfl, rfl⟩ | ⟨b, rfl, h⟩
  · have HZ := Lib.hid (hz rfl)
    rw [HZ.out]
    clear hz
    go_enter Tryz.func76, Tryz.ntmps76
    go_wp2_with fail
    go_ret
    exact ⟨rfl, rfl⟩
  · have hc := h.cell (show 0 < 17 by omega)
    generalize ws.getD 0 0 = v at *
    clear h hz
    go_enter Tryz.func76, Tryz.ntmps76
    go_wp2_with fail
    go_ret
    exact ⟨rfl, rfl⟩
set_option maxHeartbeats 4000000 in
theorem lines_c (p : Option Addr) (n : Nat) (ws : List Int) (hart : Int) (g0 : -9223372036854775808 ≤ hart) (g1 : hart ≤ 9223372036854775807) (w : World) (h : CtP S w p n ws) :
    Calls Tryz.prog 50 #[.pointer p, .int .i64 hart] w fun e w' => e = .returned (.int .u64 (Ct.lineC n ws hart)) ∧ Below w.heap.size w w' := by
  have HC := Lib.hid (count_c p n h.n8 w h.cw)
  have hn8 := h.n8
  by_cases hneg : hart < 0
  · have HE := Lib.hid (show Ct.lineC n ws hart = 0 by unfold Ct.lineC; rw [if_neg (by omega)])
    rw [HE.out]
    have e0 : decide (hart < 0) = true := by simpa using hneg
    clear h
    go_enter Tryz.func50, Tryz.ntmps50
    go_wp2_with fail
    go_ret
    exact ⟨rfl, Below.refl _ _⟩
  · have e0 : decide (hart < 0) = false := by simpa using hneg
    obtain ⟨k, rfl⟩ := Int.eq_ofNat_of_zero_le (by omega : 0 ≤ hart)
    by_cases hk : k < n
    · obtain ⟨b, rfl, hA⟩ := h.pos (by omega)
      have hk8 : k < 8 := by omega
      have hs := hA.cell (show 9 + k < 17 by omega)
      have hcm := hA.cell (show 1 + k < 17 by omega)
      have ht := hA.cell (show 0 < 17 by omega)
      have hbit := hA.ok.bit k
      rw [show 9 + k + 3 = 12 + k by omega] at hs
      rw [show 1 + k + 3 = 4 + k by omega] at hcm
      have HE := Lib.hid (show Ct.lineC n ws (k : Int) = (if ws.getD (9 + k) 0 = 1 then 8 else 0) + (if ws.getD (1 + k) 0 ≤ ws.getD 0 0 then 128 else 0) by unfold Ct.lineC; rw [if_pos (by omega), Int.toNat_natCast])
      rw [HE.out]
      have e1 : decide (k ≥ n) = false := by simpa using hk
      have gk : (k : Int) < 8 := by omega
      clear h hA HE
      generalize ws.getD (9 + k) 0 = s at *
      generalize ws.getD (1 + k) 0 = c at *
      generalize ws.getD 0 0 = t at *
      by_cases hct : c ≤ t
      · have e2 : decide (t ≥ c) = true := by simpa using hct
        rw [if_pos hct]
        clear hct
        rcases hbit with rfl | rfl
        all_goals
          go_enter Tryz.func50, Tryz.ntmps50
          go_wp2_with fail
          refine HC.out.mono ?_
          rintro e w1 ⟨rfl, rfl⟩
          go_wp2_with fail
          go_quiet (fail)
          have HB := Lib.hid (below_dnC (Below.refl w1.heap.size w1) nq)
          go_wp2_with fail
          go_ret
          exact ⟨rfl, HB.out⟩
      · have e2 : decide (t ≥ c) = false := by simpa using hct
        rw [if_neg hct]
        clear hct
        rcases hbit with rfl | rfl
        all_goals
          go_enter Tryz.func50, Tryz.ntmps50
          go_wp2_with fail
          refine HC.out.mono ?_
          rintro e w1 ⟨rfl, rfl⟩
          go_wp2_with fail
          go_quiet (fail)
          have HB := Lib.hid (below_dnC (Below.refl w1.heap.size w1) nq)
          go_wp2_with fail
          go_ret
          exact ⟨rfl, HB.out⟩
    · have HE := Lib.hid (show Ct.lineC n ws (k : Int) = 0 by unfold Ct.lineC; rw [if_neg (by omega)])
      rw [HE.out]
      have e1 : decide (k ≥ n) = true := by simpa using hk
      clear h
      go_enter Tryz.func50, Tryz.ntmps50
      go_wp2_with fail
      refine HC.out.mono ?_
      rintro e w1 ⟨rfl, rfl⟩
      go_wp2_with fail
      go_ret
      exact ⟨rfl, Below.refl _ _⟩
end
end Bm
end Go.Proofs.YtfjdalepaacmgaaGreat
set_option maxRecDepth 20000
namespace Go.Proofs.YtfjdalepaacmgaaGreat
open Go.ChangeShapes Go.WideShapes Go.ChangeAt Go.RowKit
namespace Bm
section
variable {S : SurC}
set_option maxHeartbeats 4000000 in
theorem tick_c (p : Option Addr) (n : Nat) (ws : List Int) (t : Int) (g0 : -9223372036854775808 ≤ t) (g1 : t ≤ 9223372036854775807) (w : World) (h : CtP S w p n ws) :
    Calls Tryz.prog 26 #[.pointer p, .int .i64 t] w fun e w' => e = .returned (.tuple #[]) ∧ CtP S w' p n (Ct.tickC n ws t) ∧ Och (pb p) w w' := by
  have HC := Lib.hid (count_c p n h.n8 w h.cw)
  have hn8 := h.n8
  by_cases ht : 0 < t
  · have e0 : decide (t > 0) = true := by simpa using ht
    by_cases hn : 0 < n
    · obtain ⟨b, rfl, hA⟩ := h.pos hn
      have hok := Ct.tick_ok hA.ok t
      have HE := Lib.hid (show Ct.tickC n ws t = ws.set 0 ((ws.getD 0 0 + t) % 18446744073709551616) by unfold Ct.tickC; rw [if_pos ⟨ht, hn⟩])
      rw [HE.out] at hok
      have HS := Lib.hid (hA.set (by omega) _ hok)
      have hc := hA.cell (show 0 < 17 by omega)
      have hf := hA.row.frozen 3
      have hr := hA.ok.rng 0
      have e1 : decide (0 < n) = true := by simpa using hn
      clear h hA hok
      generalize ws.getD 0 0 = v at *
      go_enter Tryz.func26, Tryz.ntmps26
      go_wp2_with fail
      refine HC.out.mono ?_
      rintro e w1 ⟨rfl, rfl⟩
      go_wp2_with fail
      exact bodyPost_end (v := .tuple #[]) (by simp [results, Tryz.results26, go_sem]) rfl ⟨rfl, .inr ⟨b, rfl, by rw [HE.out, ← IntKind.wrap_u64]; have := HS.out; rw [← IntKind.wrap_u64] at this; exact this⟩, Och.set 3 _⟩
    · have HE := Lib.hid (show Ct.tickC n ws t = ws by unfold Ct.tickC; rw [if_neg (by omega)])
      have HP := Lib.hid h
      have hz : n = 0 := by omega
      subst hz
      clear h
      go_enter Tryz.func26, Tryz.ntmps26
      go_wp2_with fail
      refine HC.out.mono ?_
      rintro e w1 ⟨rfl, rfl⟩
      go_wp2_with fail
      exact bodyPost_end (v := .tuple #[]) (by simp [results, Tryz.results26, go_sem]) rfl ⟨rfl, by rw [HE.out]; exact HP.out, Och.refl _ _⟩
  · have e0 : decide (t > 0) = false := by simpa using ht
    have HE := Lib.hid (show Ct.tickC n ws t = ws by unfold Ct.tickC; rw [if_neg (by omega)])
    have HP := Lib.hid h
    clear h
    go_enter Tryz.func26, Tryz.ntmps26
    go_wp2_with fail
    exact bodyPost_end (v := .tuple #[]) (by simp [results, Tryz.results26, go_sem]) rfl ⟨rfl, by rw [HE.out]; exact HP.out, Och.refl _ _⟩
set_option maxHeartbeats 4000000 in
theorem write_c (p : Option Addr) (n : Nat) (ws : List Int) (off : Int) (h0 : 0 ≤ off) (h1 : off ≤ 18446744073709551615) (size v : Int) (v0 : 0 ≤ v) (v1 : v ≤ 18446744073709551615) (w : World) (h : CtP S w p n ws) :
    Calls Tryz.prog 57 #[.pointer p, .int .u64 off, .int .i64 size, .int .u64 v] w fun e w' => e = .returned (.bool (Ct.is n off size)) ∧ CtP S w' p n (Ct.writeC n ws off size v) ∧ Och (pb p) w w' := by
  have HC := Lib.hid (locate_c p n h.n8 off h0 h1 size w h.cw)
  rw [← Ct.is_loc]
  cases hl : Ct.loc (Ct.at_ n off size) with
  | none =>
    rw [hl, rgV] at HC
    rw [w_none hl]
    have HP := Lib.hid h
    clear hl h
    go_enter Tryz.func57, Tryz.ntmps57
    go_wp2_with fail
    refine HC.out.mono ?_
    rintro e w1 ⟨rfl, hb1⟩
    simp only [Option.isSome_none]
    have HB := Lib.hid (hb1.alloc hb1.size (Obj.cells #[Value.pointer none, Value.int IntKind.u64 0, Value.int IntKind.u64 0] RgT))
    go_wp2_with fail
    go_ret
    exact ⟨rfl, by rcases HP.out with h | ⟨b, rfl, h⟩; exact .inl h; exact .inr ⟨b, rfl, h.low HB.out⟩, Och.of_below HB.out⟩
  | some t =>
    obtain ⟨i, a, m⟩ := t
    obtain ⟨hne, hcs⟩ := Ct.loc_cases h0 hl
    obtain ⟨b, rfl, hA⟩ := h.pos (by rcases hcs with h | h <;> omega)
    have hi : i < 17 := by have := hA.ok.n8; rcases hcs with h | h <;> omega
    have hw := hA.ok.rng i
    have hwl : ws.getD i 0 < 18446744073709551616 := by omega
    have hok := Ct.write_ok hA.ok h0 size ⟨v0, v1⟩
    rw [hl, rgV] at HC
    have key : Ct.writeC n ws off size v = ws.set i (bits .or .u64 (bits .andNot .u64 (ws.getD i 0) (IntKind.u64.wrap (m * 2 ^ a.toNat))) (IntKind.u64.wrap (bits .and .u64 v m * 2 ^ a.toNat))) := by
      unfold Ct.writeC
      rw [if_neg hne]
      rcases hcs with ⟨c1, c2, -, rfl, rfl⟩ | ⟨c1, c2, -, -, ⟨c3, rfl, rfl⟩ | ⟨c3, rfl, rfl⟩ | ⟨c3, rfl, rfl⟩⟩
      · rw [if_pos c1, ← c2]
        have hb := hA.ok.bit (Ct.at_ n off size).2.1
        rw [← c2] at hb
        have e1 : IntKind.u64.wrap (1 * 2 ^ (0 : Int).toNat) = 1 := by decide
        have e2 : bits .and .u64 v 1 = v % 2 := Ct.and_one v0 (by omega)
        have e3 : IntKind.u64.wrap (v % 2 * 2 ^ (0 : Int).toNat) = v % 2 := by rw [show v % 2 * 2 ^ (0 : Int).toNat = v % 2 by simp, IntKind.wrap_u64]; omega
        have e4 : bits .andNot .u64 (ws.getD i 0) 1 = 0 := by rcases hb with hb | hb <;> rw [hb] <;> decide
        rw [e1, e2, e3, e4, Ct.or_zero (by omega) (by omega)]
      · rw [if_neg c1, ← c2, c3]
        have e1 : IntKind.u64.wrap (18446744073709551615 * 2 ^ (0 : Int).toNat) = 18446744073709551615 := by decide
        rw [e1, Ct.and_all v0 (by omega), Ct.not_all hw.1 hwl, show v * 2 ^ (0 : Int).toNat = v by simp, IntKind.wrap_u64, show v % 18446744073709551616 = v by omega, Ct.or_zero v0 (by omega)]
        rfl
      · rw [if_neg c1, ← c2, c3]
        have e1 : IntKind.u64.wrap (4294967295 * 2 ^ (0 : Int).toNat) = 4294967295 := by decide
        have e2 : IntKind.u64.wrap (bits .and .u64 v 4294967295 * 2 ^ (0 : Int).toNat) = bits .and .u64 v 4294967295 := by rw [Ct.and_low v0 (by omega), show v % 4294967296 * 2 ^ (0 : Int).toNat = v % 4294967296 by simp, IntKind.wrap_u64]; omega
        rw [e1, e2, Ct.put_low hw.1 hwl v0 (by omega)]
        rfl
      · rw [if_neg c1, ← c2, c3]
        have e1 : IntKind.u64.wrap (4294967295 * 2 ^ (32 : Int).toNat) = 18446744069414584320 := by decide
        rw [e1, Ct.and_low v0 (by omega), show (2 : Int) ^ (32 : Int).toNat = 4294967296 by decide, wrap_mul (by omega) (by omega), Ct.put_high hw.1 hwl]
        rfl
    rw [key] at hok
    have HE := Lib.hid key
    have HA := Lib.hid hA
    have HK := Lib.hid hok
    have ha : a = 0 ∨ a = 32 := by rcases hcs with ⟨c1, c2, -, rfl, rfl⟩ | ⟨c1, c2, -, -, ⟨c3, rfl, rfl⟩ | ⟨c3, rfl, rfl⟩ | ⟨c3, rfl, rfl⟩⟩ <;> omega
    clear hl h hcs hA key hw hwl hok
    obtain ⟨x, hv⟩ : ∃ x, x = ws.getD i 0 := ⟨_, rfl⟩
    rw [← hv] at HE HK
    have hb := HA.out.lt
    rw [HE.out]
    go_enter Tryz.func57, Tryz.ntmps57
    go_wp2_with fail
    refine HC.out.mono ?_
    rintro e w1 ⟨rfl, hb1⟩
    simp only [Option.isSome_some, Option.map_some]
    go_upto_region 4 with fail
    have hb2 := hb1.alloc hb1.size (Obj.cells #[Value.pointer (some ⟨b, i + 3, none⟩), Value.int .u64 a, Value.int .u64 m] RgT)
    have hR := CsAt.new w1 RgT #[Value.pointer (some ⟨b, i + 3, none⟩), Value.int .u64 a, Value.int .u64 m]
    generalize w1.alloc (Obj.cells #[Value.pointer (some ⟨b, i + 3, none⟩), Value.int .u64 a, Value.int .u64 m] RgT) = w2 at *
    have hA2 := HA.out.low hb2
    have hc := hA2.cell hi
    rw [← hv] at hc
    have hf := hA2.row.frozen (i + 3)
    have r0 := hR.cell 0
    have r1 := hR.cell 1
    have r2 := hR.cell 2
    simp only [List.getElem?_toArray, List.getElem?_cons_zero, List.getElem?_cons_succ] at r0 r1 r2
    have HB := Lib.hid hb2
    have HA2 := Lib.hid hA2
    clear hb2 hb1 hR HA HC hA2 hv
    have hWd : w2.drew = w2.drew := rfl
    refine wp_region_steady_tail (fun W => W = w2.drew) 21 (by kernel_rfl) (by kernel_rfl) hWd ?_
    rcases ha with rfl | rfl
    · iterate 21
        refine steady_val ?_ ?_ (by rfl) (fun W hS => ?_) ?_ ?_
        rotate_left 2
        · subst hS
          go_simp
          exact rfl
        · go_simp
          exact rfl
      refine steady_nil ?_
      rintro W rfl
      simp only [List.drop_succ_cons, List.drop_zero]
      have hs := HA2.out.set hi _ HK.out
      rw [show m * 2 ^ (0 : Int).toNat = m by simp, show bits .and .u64 v m * 2 ^ (0 : Int).toNat = bits .and .u64 v m by simp] at hs
      have HS := Lib.hid hs
      have HO := Lib.hid (Och.of_below (o := some b) HB.out)
      clear hs HK HA2 HB
      go_wp2_with fail
      go_ret
      exact ⟨rfl, .inr ⟨b, rfl, ⟨HS.out.row, HS.out.ok⟩⟩, HO.out.trans ((Och.set (i + 3) _).trans (Och.of_below (below_dnC (Below.refl _ _) 1)))⟩
    · iterate 21
        refine steady_val ?_ ?_ (by rfl) (fun W hS => ?_) ?_ ?_
        rotate_left 2
        · subst hS
          go_simp
          exact rfl
        · go_simp
          exact rfl
      refine steady_nil ?_
      rintro W rfl
      simp only [List.drop_succ_cons, List.drop_zero]
      have hs := HA2.out.set hi _ HK.out
      rw [show (2 : Int) ^ (32 : Int).toNat = 4294967296 by decide] at hs
      have HS := Lib.hid hs
      have HO := Lib.hid (Och.of_below (o := some b) HB.out)
      clear hs HK HA2 HB
      go_wp2_with fail
      go_ret
      exact ⟨rfl, .inr ⟨b, rfl, ⟨HS.out.row, HS.out.ok⟩⟩, HO.out.trans ((Och.set (i + 3) _).trans (Och.of_below (below_dnC (Below.refl _ _) 1)))⟩
end
end Bm
end Go.Proofs.YtfjdalepaacmgaaGreat
namespace Go.Proofs.YtfjdalepaacmgaaGreat.Ut

/-- A port. -/
structure S where
  ier : Int
  lcr : Int
  mcr : Int
  scr : Int
  dll : Int
  dlm : Int
  fifo : Bool
  lost : Bool
  empty : Bool
  q : List Int
  out : List Int
/-- A number's bit. -/
def bt (x : Int) (i : Nat) : Bool := decide (x / 2 ^ i % 2 = 1)
def isB (x : Int) : Prop := 0 ≤ x ∧ x < 256
structure Ok (s : S) : Prop where
  ier : 0 ≤ s.ier ∧ s.ier < 16
  lcr : isB s.lcr
  mcr : 0 ≤ s.mcr ∧ s.mcr < 32
  scr : isB s.scr
  dll : isB s.dll
  dlm : isB s.dlm
  qs : ∀ x ∈ s.q, isB x
  outs : ∀ x ∈ s.out, isB x
  qn : s.q.length ≤ 16
def room (s : S) : Nat := if s.fifo = true then 16 else 1
def comeS (s : S) (b : Int) : S := if room s ≤ s.q.length then { s with lost := true } else { s with q := s.q ++ [b] }
def comeB (s : S) : Bool := decide (s.q.length < room s)
def cause (s : S) : Int := if bt s.ier 2 = true ∧ s.lost = true then 6 else if bt s.ier 0 = true ∧ s.q ≠ [] then 4 else if bt s.ier 1 = true ∧ s.empty = true then 2 else 1
def b2i (b : Bool) : Int := if b = true then 1 else 0
def modem (m : Int) : Int := if bt m 4 = true then 16 * b2i (bt m 1) + 32 * b2i (bt m 0) + 64 * b2i (bt m 2) + 128 * b2i (bt m 3) else 176
def hi (s : S) : Bool := bt s.lcr 7
def lp (s : S) : Bool := bt s.mcr 4
def readV (s : S) (off : Int) : Int :=
  if off = 0 then (if hi s = true then s.dll else s.q.getD 0 0)
  else if off = 1 then (if hi s = true then s.dlm else s.ier)
  else if off = 2 then cause s + (if s.fifo = true then 192 else 0)
  else if off = 3 then s.lcr
  else if off = 4 then s.mcr
  else if off = 5 then 96 + (if s.q ≠ [] then 1 else 0) + (if s.lost = true then 2 else 0)
  else if off = 6 then modem s.mcr
  else if off = 7 then s.scr else 0
def readS (s : S) (off : Int) : S :=
  if off = 0 then (if hi s = true then s else { s with q := s.q.drop 1 })
  else if off = 2 then (if cause s = 2 then { s with empty := false } else s)
  else if off = 5 then { s with lost := false } else s
def writeS (s : S) (off b : Int) : S :=
  if off = 0 then (if hi s = true then { s with dll := b } else if lp s = true then { comeS s b with empty := true } else { s with out := s.out ++ [b], empty := true })
  else if off = 1 then (if hi s = true then { s with dlm := b } else { s with empty := s.empty || (bt b 1 && !bt s.ier 1), ier := b % 16 })
  else if off = 2 then { s with q := if bt b 0 ≠ s.fifo ∨ bt b 1 = true then [] else s.q, fifo := bt b 0 }
  else if off = 3 then { s with lcr := b }
  else if off = 4 then { s with mcr := b % 32 }
  else if off = 7 then { s with scr := b } else s
def inS (s : S) (b : Int) : S := if lp s = true then s else comeS s b
def inB (s : S) : Bool := !lp s && comeB s
def is (off : Int) : Bool := decide (off < 8)
def zero : S := ⟨0, 0, 0, 0, 0, 0, false, false, false, [], []⟩
theorem zero_ok : Ok zero := ⟨by decide, by unfold isB; decide, by decide, by unfold isB; decide, by unfold isB; decide, by unfold isB; decide, by simp [zero], by simp [zero], by simp [zero]⟩
section
variable {s : S} {b off : Int}
theorem come_ok (h : Ok s) (hb : isB b) : Ok (comeS s b) := by
  unfold comeS
  split
  · exact ⟨h.ier, h.lcr, h.mcr, h.scr, h.dll, h.dlm, h.qs, h.outs, h.qn⟩
  · rename_i hn
    refine ⟨h.ier, h.lcr, h.mcr, h.scr, h.dll, h.dlm, fun x hx => ?_, h.outs, ?_⟩
    · simp only [List.mem_append, List.mem_singleton] at hx
      rcases hx with hx | rfl
      · exact h.qs x hx
      · exact hb
    · unfold room at hn
      simp only [List.length_append, List.length_singleton]
      split at hn <;> omega
theorem read_ok (h : Ok s) (off : Int) : Ok (readS s off) := by
  unfold readS
  split
  · split
    · exact h
    · exact ⟨h.ier, h.lcr, h.mcr, h.scr, h.dll, h.dlm, fun x hx => h.qs x (List.mem_of_mem_drop hx), h.outs, by have := h.qn; simp only [List.length_drop]; omega⟩
  · split
    · split
      · exact ⟨h.ier, h.lcr, h.mcr, h.scr, h.dll, h.dlm, h.qs, h.outs, h.qn⟩
      · exact h
    · split
      · exact ⟨h.ier, h.lcr, h.mcr, h.scr, h.dll, h.dlm, h.qs, h.outs, h.qn⟩
      · exact h
theorem write_ok (h : Ok s) (hb : isB b) : Ok (writeS s off b) := by
  have hc := come_ok h hb
  unfold writeS
  split
  · split
    · exact ⟨h.ier, h.lcr, h.mcr, h.scr, hb, h.dlm, h.qs, h.outs, h.qn⟩
    · split
      · exact ⟨hc.ier, hc.lcr, hc.mcr, hc.scr, hc.dll, hc.dlm, hc.qs, hc.outs, hc.qn⟩
      · refine ⟨h.ier, h.lcr, h.mcr, h.scr, h.dll, h.dlm, h.qs, fun x hx => ?_, h.qn⟩
        simp only [List.mem_append, List.mem_singleton] at hx
        rcases hx with hx | rfl
        · exact h.outs x hx
        · exact hb
  · split
    · split
      · exact ⟨h.ier, h.lcr, h.mcr, h.scr, h.dll, hb, h.qs, h.outs, h.qn⟩
      · exact ⟨by dsimp only; omega, h.lcr, h.mcr, h.scr, h.dll, h.dlm, h.qs, h.outs, h.qn⟩
    · split
      · refine ⟨h.ier, h.lcr, h.mcr, h.scr, h.dll, h.dlm, fun x hx => ?_, h.outs, ?_⟩
        · dsimp only at hx
          split at hx
          · cases hx
          · exact h.qs x hx
        · dsimp only
          split
          · simp
          · exact h.qn
      · split
        · exact ⟨h.ier, hb, h.mcr, h.scr, h.dll, h.dlm, h.qs, h.outs, h.qn⟩
        · split
          · exact ⟨h.ier, h.lcr, by dsimp only; omega, h.scr, h.dll, h.dlm, h.qs, h.outs, h.qn⟩
          · split
            · exact ⟨h.ier, h.lcr, h.mcr, hb, h.dll, h.dlm, h.qs, h.outs, h.qn⟩
            · exact h
theorem in_ok (h : Ok s) (hb : isB b) : Ok (inS s b) := by
  unfold inS
  split
  · exact h
  · exact come_ok h hb
/-- How long what went out is. -/
theorem read_out : (readS s off).out = s.out := by
  unfold readS
  repeat' split
  all_goals rfl
theorem come_out : (comeS s b).out = s.out := by
  unfold comeS
  split <;> rfl
theorem write_out : (writeS s off b).out.length ≤ s.out.length + 1 := by
  have hc := come_out (s := s) (b := b)
  unfold writeS
  repeat' split
  all_goals first | omega | (simp only [List.length_append, List.length_singleton]; omega) | (dsimp only; rw [hc]; omega)
theorem in_out : (inS s b).out = s.out := by
  unfold inS
  split
  · rfl
  · exact come_out
end
end Go.Proofs.YtfjdalepaacmgaaGreat.Ut
