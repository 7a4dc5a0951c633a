/-
  A clint within a bus: contracts of Tick, Write.
-/
import Derived.Test.YtkknfhbaldeigaaBmE
import Derived.BigQuiet
import Derived.BigRegion
set_option maxRecDepth 20000
namespace Go.Proofs.Ytkknfhbaldeigaa
open Go.ChangeShapes Go.WideShapes Go.ChangeAt Go.RowKit
namespace Bm
section
variable {S : SurC}
set_option maxHeartbeats 4000000 in
theorem tick_c (p : Option Addr) (n : Nat) (ws : List Int) (t : Int) (g0 : -9223372036854775808 ≤ t) (g1 : t ≤ 9223372036854775807) (w : World) (h : CtP S w p n ws) :
    Calls Try.prog 28 #[.pointer p, .int .i64 t] w fun e w' => e = .returned (.tuple #[]) ∧ CtP S w' p n (Ct.tickC n ws t) ∧ Och (pb p) w w' := by
  have HC := Lib.hid (count_c p n h.n8 w h.cw)
  have hn8 := h.n8
  by_cases ht : 0 < t
  · have e0 : decide (t > 0) = true := by simpa using ht
    by_cases hn : 0 < n
    · obtain ⟨b, rfl, hA⟩ := h.pos hn
      have hok := Ct.tick_ok hA.ok t
      have HE := Lib.hid (show Ct.tickC n ws t = ws.set 0 ((ws.getD 0 0 + t) % 18446744073709551616) by unfold Ct.tickC; rw [if_pos ⟨ht, hn⟩])
      rw [HE.out] at hok
      have HS := Lib.hid (hA.set (by omega) _ hok)
      have hc := hA.cell (show 0 < 17 by omega)
      have hf := hA.row.frozen 3
      have hr := hA.ok.rng 0
      have e1 : decide (0 < n) = true := by simpa using hn
      clear h hA hok
      generalize ws.getD 0 0 = v at *
      go_enter Try.func28, Try.ntmps28
      go_wp2_with fail
      refine HC.out.mono ?_
      rintro e w1 ⟨rfl, rfl⟩
      go_wp2_with fail
      exact bodyPost_end (v := .tuple #[]) (by simp [results, Try.results28, go_sem]) rfl ⟨rfl, .inr ⟨b, rfl, by rw [HE.out, ← IntKind.wrap_u64]; have := HS.out; rw [← IntKind.wrap_u64] at this; exact this⟩, Och.set 3 _⟩
    · have HE := Lib.hid (show Ct.tickC n ws t = ws by unfold Ct.tickC; rw [if_neg (by omega)])
      have HP := Lib.hid h
      have hz : n = 0 := by omega
      subst hz
      clear h
      go_enter Try.func28, Try.ntmps28
      go_wp2_with fail
      refine HC.out.mono ?_
      rintro e w1 ⟨rfl, rfl⟩
      go_wp2_with fail
      exact bodyPost_end (v := .tuple #[]) (by simp [results, Try.results28, go_sem]) rfl ⟨rfl, by rw [HE.out]; exact HP.out, Och.refl _ _⟩
  · have e0 : decide (t > 0) = false := by simpa using ht
    have HE := Lib.hid (show Ct.tickC n ws t = ws by unfold Ct.tickC; rw [if_neg (by omega)])
    have HP := Lib.hid h
    clear h
    go_enter Try.func28, Try.ntmps28
    go_wp2_with fail
    exact bodyPost_end (v := .tuple #[]) (by simp [results, Try.results28, go_sem]) rfl ⟨rfl, by rw [HE.out]; exact HP.out, Och.refl _ _⟩
set_option maxHeartbeats 4000000 in
theorem write_c (p : Option Addr) (n : Nat) (ws : List Int) (off : Int) (h0 : 0 ≤ off) (h1 : off ≤ 18446744073709551615) (size v : Int) (v0 : 0 ≤ v) (v1 : v ≤ 18446744073709551615) (w : World) (h : CtP S w p n ws) :
    Calls Try.prog 62 #[.pointer p, .int .u64 off, .int .i64 size, .int .u64 v] w fun e w' => e = .returned (.bool (Ct.is n off size)) ∧ CtP S w' p n (Ct.writeC n ws off size v) ∧ Och (pb p) w w' := by
  have HC := Lib.hid (locate_c p n h.n8 off h0 h1 size w h.cw)
  rw [← Ct.is_loc]
  cases hl : Ct.loc (Ct.at_ n off size) with
  | none =>
    rw [hl, rgV] at HC
    rw [w_none hl]
    have HP := Lib.hid h
    clear hl h
    go_enter Try.func62, Try.ntmps62
    go_wp2_with fail
    refine HC.out.mono ?_
    rintro e w1 ⟨rfl, hb1⟩
    simp only [Option.isSome_none]
    have HB := Lib.hid (hb1.alloc hb1.size (Obj.cells #[Value.pointer none, Value.int IntKind.u64 0, Value.int IntKind.u64 0] RgT))
    go_wp2_with fail
    go_ret
    exact ⟨rfl, by rcases HP.out with h | ⟨b, rfl, h⟩; exact .inl h; exact .inr ⟨b, rfl, h.low HB.out⟩, Och.of_below HB.out⟩
  | some t =>
    obtain ⟨i, a, m⟩ := t
    obtain ⟨hne, hcs⟩ := Ct.loc_cases h0 hl
    obtain ⟨b, rfl, hA⟩ := h.pos (by rcases hcs with h | h <;> omega)
    have hi : i < 17 := by have := hA.ok.n8; rcases hcs with h | h <;> omega
    have hw := hA.ok.rng i
    have hwl : ws.getD i 0 < 18446744073709551616 := by omega
    have hok := Ct.write_ok hA.ok h0 size ⟨v0, v1⟩
    rw [hl, rgV] at HC
    have key : Ct.writeC n ws off size v = ws.set i (bits .or .u64 (bits .andNot .u64 (ws.getD i 0) (IntKind.u64.wrap (m * 2 ^ a.toNat))) (IntKind.u64.wrap (bits .and .u64 v m * 2 ^ a.toNat))) := by
      unfold Ct.writeC
      rw [if_neg hne]
      rcases hcs with ⟨c1, c2, -, rfl, rfl⟩ | ⟨c1, c2, -, -, ⟨c3, rfl, rfl⟩ | ⟨c3, rfl, rfl⟩ | ⟨c3, rfl, rfl⟩⟩
      · rw [if_pos c1, ← c2]
        have hb := hA.ok.bit (Ct.at_ n off size).2.1
        rw [← c2] at hb
        have e1 : IntKind.u64.wrap (1 * 2 ^ (0 : Int).toNat) = 1 := by decide
        have e2 : bits .and .u64 v 1 = v % 2 := Ct.and_one v0 (by omega)
        have e3 : IntKind.u64.wrap (v % 2 * 2 ^ (0 : Int).toNat) = v % 2 := by rw [show v % 2 * 2 ^ (0 : Int).toNat = v % 2 by simp, IntKind.wrap_u64]; omega
        have e4 : bits .andNot .u64 (ws.getD i 0) 1 = 0 := by rcases hb with hb | hb <;> rw [hb] <;> decide
        rw [e1, e2, e3, e4, Ct.or_zero (by omega) (by omega)]
      · rw [if_neg c1, ← c2, c3]
        have e1 : IntKind.u64.wrap (18446744073709551615 * 2 ^ (0 : Int).toNat) = 18446744073709551615 := by decide
        rw [e1, Ct.and_all v0 (by omega), Ct.not_all hw.1 hwl, show v * 2 ^ (0 : Int).toNat = v by simp, IntKind.wrap_u64, show v % 18446744073709551616 = v by omega, Ct.or_zero v0 (by omega)]
        rfl
      · rw [if_neg c1, ← c2, c3]
        have e1 : IntKind.u64.wrap (4294967295 * 2 ^ (0 : Int).toNat) = 4294967295 := by decide
        have e2 : IntKind.u64.wrap (bits .and .u64 v 4294967295 * 2 ^ (0 : Int).toNat) = bits .and .u64 v 4294967295 := by rw [Ct.and_low v0 (by omega), show v % 4294967296 * 2 ^ (0 : Int).toNat = v % 4294967296 by simp, IntKind.wrap_u64]; omega
        rw [e1, e2, Ct.put_low hw.1 hwl v0 (by omega)]
        rfl
      · rw [if_neg c1, ← c2, c3]
        have e1 : IntKind.u64.wrap (4294967295 * 2 ^ (32 : Int).toNat) = 18446744069414584320 := by decide
        rw [e1, Ct.and_low v0 (by omega), show (2 : Int) ^ (32 : Int).toNat = 4294967296 by decide, wrap_mul (by omega) (by omega), Ct.put_high hw.1 hwl]
        rfl
    rw [key] at hok
    have HE := Lib.hid key
    have HA := Lib.hid hA
    have HK := Lib.hid hok
    have ha : a = 0 ∨ a = 32 := by rcases hcs with ⟨c1, c2, -, rfl, rfl⟩ | ⟨c1, c2, -, -, ⟨c3, rfl, rfl⟩ | ⟨c3, rfl, rfl⟩ | ⟨c3, rfl, rfl⟩⟩ <;> omega
    clear hl h hcs hA key hw hwl hok
    obtain ⟨x, hv⟩ : ∃ x, x = ws.getD i 0 := ⟨_, rfl⟩
    rw [← hv] at HE HK
    have hb := HA.out.lt
    rw [HE.out]
    go_enter Try.func62, Try.ntmps62
    go_wp2_with fail
    refine HC.out.mono ?_
    rintro e w1 ⟨rfl, hb1⟩
    simp only [Option.isSome_some, Option.map_some]
    go_upto_region 4 with fail
    have hb2 := hb1.alloc hb1.size (Obj.cells #[Value.pointer (some ⟨b, i + 3, none⟩), Value.int .u64 a, Value.int .u64 m] RgT)
    have hR := CsAt.new w1 RgT #[Value.pointer (some ⟨b, i + 3, none⟩), Value.int .u64 a, Value.int .u64 m]
    generalize w1.alloc (Obj.cells #[Value.pointer (some ⟨b, i + 3, none⟩), Value.int .u64 a, Value.int .u64 m] RgT) = w2 at *
    have hA2 := HA.out.low hb2
    have hc := hA2.cell hi
    rw [← hv] at hc
    have hf := hA2.row.frozen (i + 3)
    have r0 := hR.cell 0
    have r1 := hR.cell 1
    have r2 := hR.cell 2
    simp only [List.getElem?_toArray, List.getElem?_cons_zero, List.getElem?_cons_succ] at r0 r1 r2
    have HB := Lib.hid hb2
    have HA2 := Lib.hid hA2
    clear hb2 hb1 hR HA HC hA2 hv
    have hWd : w2.drew = w2.drew := rfl
    refine wp_region_steady_tail (fun W => W = w2.drew) 21 (by kernel_rfl) (by kernel_rfl) hWd ?_
    rcases ha with rfl | rfl
    · iterate 21
        refine steady_val ?_ ?_ (by rfl) (fun W hS => ?_) ?_ ?_
        rotate_left 2
        · subst hS
          go_simp
          exact rfl
        · go_simp
          exact rfl
      refine steady_nil ?_
      rintro W rfl
      simp only [List.drop_succ_cons, List.drop_zero]
      have hs := HA2.out.set hi _ HK.out
      rw [show m * 2 ^ (0 : Int).toNat = m by simp, show bits .and .u64 v m * 2 ^ (0 : Int).toNat = bits .and .u64 v m by simp] at hs
      have HS := Lib.hid hs
      have HO := Lib.hid (Och.of_below (o := some b) HB.out)
      clear hs HK HA2 HB
      go_wp2_with fail
      go_ret
      exact ⟨rfl, .inr ⟨b, rfl, ⟨HS.out.row, HS.out.ok⟩⟩, HO.out.trans ((Och.set (i + 3) _).trans (Och.of_below (below_dnC (Below.refl _ _) 1)))⟩
    · iterate 21
        refine steady_val ?_ ?_ (by rfl) (fun W hS => ?_) ?_ ?_
        rotate_left 2
        · subst hS
          go_simp
          exact rfl
        · go_simp
          exact rfl
      refine steady_nil ?_
      rintro W rfl
      simp only [List.drop_succ_cons, List.drop_zero]
      have hs := HA2.out.set hi _ HK.out
      rw [show (2 : Int) ^ (32 : Int).toNat = 4294967296 by decide] at hs
      have HS := Lib.hid hs
      have HO := Lib.hid (Och.of_below (o := some b) HB.out)
      clear hs HK HA2 HB
      go_wp2_with fail
      go_ret
      exact ⟨rfl, .inr ⟨b, rfl, ⟨HS.out.row, HS.out.ok⟩⟩, HO.out.trans ((Och.set (i + 3) _).trans (Och.of_below (below_dnC (Below.refl _ _) 1)))⟩
end
end Bm
end Go.Proofs.Ytkknfhbaldeigaa
