/-
  A controller within a bus: contracts of Read, Write.
-/
import Derived.Test.YtkknfhbaldeigaaBpF
import Derived.BigQuiet
import Derived.BigRegion
set_option maxRecDepth 20000
namespace Go.Proofs.Ytkknfhbaldeigaa
open Go.ChangeShapes Go.WideShapes Go.ChangeAt Go.RowKit
theorem is_no {n : Nat} {off size : Int} (h : (Pc.at_ n off size).1 = 0) : Pc.is n off size = false := by unfold Pc.is; rw [h]; rfl
theorem is_yes {n : Nat} {off size : Int} (h : (Pc.at_ n off size).1 ≠ 0) : Pc.is n off size = true := by unfold Pc.is; simpa using h
theorem prV_eq (j k : Nat) : prV (j + 1, k) = #[.int .i64 j, .int .u64 k] := by
  unfold prV
  rw [if_neg (by simp)]
  simp
namespace Bp
section
variable {S : SurP}
set_option maxHeartbeats 16000000 in
theorem pread_c (p : Option Addr) (n : Nat) (ws : List Int) (off size : Int) (o0 : 0 ≤ off) (o1 : off ≤ 18446744073709551615) (w : World) (h : PcP S w p n ws) :
    Calls Try.prog 59 #[.pointer p, .int .u64 off, .int .i64 size] w fun e w' => e = .returned (.tuple #[.int .u64 (Pc.readV n ws off size), .bool (Pc.is n off size)]) ∧ PcP S w' p n (Pc.readW n ws off size) ∧ Och (pb p) w w' := by
  have HC := Lib.hid (pcount_c p n w h.cw)
  have HL := Lib.hid (plocate_c n off size o0 o1 w)
  have hof := Pc.at_of (n := n) (off := off) (size := size)
  have hn8 := h.n8
  have HV := Lib.hid (show Pc.readV n ws off size = if (Pc.at_ n off size).1 = 1 then ws.getD (3 + (Pc.at_ n off size).2) 0 else if (Pc.at_ n off size).1 = 2 then ws.getD 1 0 else if (Pc.at_ n off size).1 = 3 then ws.getD (35 + (Pc.at_ n off size).2) 0
    else if (Pc.at_ n off size).1 = 4 then ws.getD (51 + (Pc.at_ n off size).2) 0 else if (Pc.at_ n off size).1 = 5 then Pc.bst ws (Pc.at_ n off size).2 0 else 0 from rfl)
  have HW := Lib.hid (show Pc.readW n ws off size = if (Pc.at_ n off size).1 = 5 then Pc.claimP ws (Pc.at_ n off size).2 else ws from rfl)
  have HOK := Lib.hid (show (1 : Nat) = 1 from rfl)
  obtain ⟨t, ht⟩ : ∃ t, Pc.at_ n off size = t := ⟨_, rfl⟩
  rw [ht] at HL hof HW
  try rw [ht] at HV
  obtain ⟨t1, k⟩ := t
  simp only at hof HW
  try simp only at HV
  by_cases hz : t1 = 0
  · have HI := Lib.hid (is_no (by rw [ht]; exact hz))
    obtain rfl : k = 0 := by omega
    subst hz
    rw [show prV (0, 0) = pr0 from rfl, HI.out] at HL
    rw [HI.out]
    have HP := Lib.hid h
    clear h hof ht HI HOK
    rw [HV.out, HW.out]
    clear HV HW
    go_enter Try.func59, Try.ntmps59
    go_wp2_with fail
    refine HC.out.mono ?_
    rintro e w1 ⟨rfl, rfl⟩
    go_wp2_with fail
    refine HL.out.mono ?_
    rintro e w2 ⟨rfl, hb2⟩
    have HB3 := Lib.hid (hb2.alloc hb2.size (Obj.cells pr0 RgP))
    simp only [pr0] at HB3 ⊢
    go_wp2_with fail
    go_ret2
    exact ⟨rfl, HP.out.low HB3.out, Och.of_below HB3.out⟩
  · have HI := Lib.hid (is_yes (by rw [ht]; exact hz))
    rw [HI.out] at HL
    rw [HI.out]
    obtain ⟨b, rfl, hA⟩ := h.pos (by rcases hof with h | h | h | h; omega; (have := ht; unfold Pc.at_ at this; split at this; omega; (exact absurd (congrArg Prod.fst this).symm hz)); (have := ht; unfold Pc.at_ at this; split at this; omega; (exact absurd (congrArg Prod.fst this).symm hz)); omega)
    have HA := Lib.hid hA
    have hbl := hA.lt
    have hblk : pb (some ⟨b, 20, none⟩) = some b := rfl
    rw [hblk]
    clear h HI ht
    have h5 : (t1 = 1 ∧ k < 32) ∨ t1 = 2 ∨ (t1 = 3 ∧ k < 16) ∨ (t1 = 4 ∧ k < 16) ∨ (t1 = 5 ∧ k < 16) := by omega
    clear hof hz
    rcases h5 with ⟨rfl, hk⟩ | rfl | ⟨rfl, hk⟩ | ⟨rfl, hk⟩ | ⟨rfl, hk⟩
    · rw [prV_eq 0 k] at HL
      rw [HW.out, HV.out]
      simp only [Nat.reduceEqDiff, if_false, if_true]
      clear HV HW HOK
      obtain ⟨v, hv⟩ : ∃ v, ws.getD (3 + k) 0 = v := ⟨_, rfl⟩
      rw [hv]
      go_enter Try.func59, Try.ntmps59
      go_wp2_with fail
      refine HC.out.mono ?_
      rintro e w1 ⟨rfl, rfl⟩
      go_wp2_with fail
      refine HL.out.mono ?_
      rintro e w2 ⟨rfl, hb2⟩
      have hR := CsAt.new w2 RgP #[.int .i64 0, .int .u64 (k : Int)]
      have hb3 := hb2.alloc hb2.size (Obj.cells #[.int .i64 0, .int .u64 (k : Int)] RgP)
      go_upto_region 2 with fail
      generalize w2.alloc (Obj.cells #[.int .i64 0, .int .u64 (k : Int)] RgP) = w3 at *
      have r0 := hR.cell 0
      have r1 := hR.cell 1
      simp only [List.getElem?_toArray, List.getElem?_cons_zero, List.getElem?_cons_succ] at r0 r1
      have HA3 := Lib.hid (HA.out.low hb3)
      have HB3 := Lib.hid hb3
      have hrb : w2.heap.size ≠ b := by have := hb2.size; omega
      clear hR hb2 hb3 HC HL HA
      have q := HA3.out.cell (show 3 + k < 67 by omega)
      rw [show 3 + k + 21 = 24 + k by omega] at q
      have gk : (k : Int) < 32 := by omega
      rw [hv] at q
      clear hv
      go_upto_region 6 with fail
      go_quiet (fail)
      have HB4 := Lib.hid (below_dnC HB3.out nq)
      go_wp2_with fail
      go_ret2
      exact ⟨rfl, .inr ⟨b, rfl, HA3.out.low (below_dnC (Below.refl _ _) nq)⟩, Och.of_below HB4.out⟩
    · rw [prV_eq 1 k] at HL
      rw [HW.out, HV.out]
      simp only [Nat.reduceEqDiff, if_false, if_true]
      clear HV HW HOK
      obtain ⟨v, hv⟩ : ∃ v, ws.getD (1) 0 = v := ⟨_, rfl⟩
      rw [hv]
      go_enter Try.func59, Try.ntmps59
      go_wp2_with fail
      refine HC.out.mono ?_
      rintro e w1 ⟨rfl, rfl⟩
      go_wp2_with fail
      refine HL.out.mono ?_
      rintro e w2 ⟨rfl, hb2⟩
      have hR := CsAt.new w2 RgP #[.int .i64 1, .int .u64 (k : Int)]
      have hb3 := hb2.alloc hb2.size (Obj.cells #[.int .i64 1, .int .u64 (k : Int)] RgP)
      go_upto_region 2 with fail
      generalize w2.alloc (Obj.cells #[.int .i64 1, .int .u64 (k : Int)] RgP) = w3 at *
      have r0 := hR.cell 0
      have r1 := hR.cell 1
      simp only [List.getElem?_toArray, List.getElem?_cons_zero, List.getElem?_cons_succ] at r0 r1
      have HA3 := Lib.hid (HA.out.low hb3)
      have HB3 := Lib.hid hb3
      have hrb : w2.heap.size ≠ b := by have := hb2.size; omega
      clear hR hb2 hb3 HC HL HA
      have q := HA3.out.cell (show 1 < 67 by omega)
      rw [hv] at q
      clear hv
      go_wp2_with fail
      go_ret2
      exact ⟨rfl, .inr ⟨b, rfl, HA3.out⟩, Och.of_below HB3.out⟩
    · rw [prV_eq 2 k] at HL
      rw [HW.out, HV.out]
      simp only [Nat.reduceEqDiff, if_false, if_true]
      clear HV HW HOK
      obtain ⟨v, hv⟩ : ∃ v, ws.getD (35 + k) 0 = v := ⟨_, rfl⟩
      rw [hv]
      go_enter Try.func59, Try.ntmps59
      go_wp2_with fail
      refine HC.out.mono ?_
      rintro e w1 ⟨rfl, rfl⟩
      go_wp2_with fail
      refine HL.out.mono ?_
      rintro e w2 ⟨rfl, hb2⟩
      have hR := CsAt.new w2 RgP #[.int .i64 2, .int .u64 (k : Int)]
      have hb3 := hb2.alloc hb2.size (Obj.cells #[.int .i64 2, .int .u64 (k : Int)] RgP)
      go_upto_region 2 with fail
      generalize w2.alloc (Obj.cells #[.int .i64 2, .int .u64 (k : Int)] RgP) = w3 at *
      have r0 := hR.cell 0
      have r1 := hR.cell 1
      simp only [List.getElem?_toArray, List.getElem?_cons_zero, List.getElem?_cons_succ] at r0 r1
      have HA3 := Lib.hid (HA.out.low hb3)
      have HB3 := Lib.hid hb3
      have hrb : w2.heap.size ≠ b := by have := hb2.size; omega
      clear hR hb2 hb3 HC HL HA
      have q := HA3.out.cell (show 35 + k < 67 by omega)
      rw [show 35 + k + 21 = 56 + k by omega] at q
      have gk : (k : Int) < 16 := by omega
      rw [hv] at q
      clear hv
      go_upto_region 10 with fail
      go_quiet (fail)
      have HB4 := Lib.hid (below_dnC HB3.out nq)
      go_wp2_with fail
      go_ret2
      exact ⟨rfl, .inr ⟨b, rfl, HA3.out.low (below_dnC (Below.refl _ _) nq)⟩, Och.of_below HB4.out⟩
    · rw [prV_eq 3 k] at HL
      rw [HW.out, HV.out]
      simp only [Nat.reduceEqDiff, if_false, if_true]
      clear HV HW HOK
      obtain ⟨v, hv⟩ : ∃ v, ws.getD (51 + k) 0 = v := ⟨_, rfl⟩
      rw [hv]
      go_enter Try.func59, Try.ntmps59
      go_wp2_with fail
      refine HC.out.mono ?_
      rintro e w1 ⟨rfl, rfl⟩
      go_wp2_with fail
      refine HL.out.mono ?_
      rintro e w2 ⟨rfl, hb2⟩
      have hR := CsAt.new w2 RgP #[.int .i64 3, .int .u64 (k : Int)]
      have hb3 := hb2.alloc hb2.size (Obj.cells #[.int .i64 3, .int .u64 (k : Int)] RgP)
      go_upto_region 2 with fail
      generalize w2.alloc (Obj.cells #[.int .i64 3, .int .u64 (k : Int)] RgP) = w3 at *
      have r0 := hR.cell 0
      have r1 := hR.cell 1
      simp only [List.getElem?_toArray, List.getElem?_cons_zero, List.getElem?_cons_succ] at r0 r1
      have HA3 := Lib.hid (HA.out.low hb3)
      have HB3 := Lib.hid hb3
      have hrb : w2.heap.size ≠ b := by have := hb2.size; omega
      clear hR hb2 hb3 HC HL HA
      have q := HA3.out.cell (show 51 + k < 67 by omega)
      rw [show 51 + k + 21 = 72 + k by omega] at q
      have gk : (k : Int) < 16 := by omega
      rw [hv] at q
      clear hv
      go_upto_region 12 with fail
      go_quiet (fail)
      have HB4 := Lib.hid (below_dnC HB3.out nq)
      go_wp2_with fail
      go_ret2
      exact ⟨rfl, .inr ⟨b, rfl, HA3.out.low (below_dnC (Below.refl _ _) nq)⟩, Och.of_below HB4.out⟩
    · rw [prV_eq 4 k] at HL
      rw [HW.out, HV.out]
      simp only [Nat.reduceEqDiff, if_false, if_true]
      clear HV HW HOK
      go_enter Try.func59, Try.ntmps59
      go_wp2_with fail
      refine HC.out.mono ?_
      rintro e w1 ⟨rfl, rfl⟩
      go_wp2_with fail
      refine HL.out.mono ?_
      rintro e w2 ⟨rfl, hb2⟩
      have hR := CsAt.new w2 RgP #[.int .i64 4, .int .u64 (k : Int)]
      have hb3 := hb2.alloc hb2.size (Obj.cells #[.int .i64 4, .int .u64 (k : Int)] RgP)
      go_upto_region 2 with fail
      generalize w2.alloc (Obj.cells #[.int .i64 4, .int .u64 (k : Int)] RgP) = w3 at *
      have r0 := hR.cell 0
      have r1 := hR.cell 1
      simp only [List.getElem?_toArray, List.getElem?_cons_zero, List.getElem?_cons_succ] at r0 r1
      have HA3 := Lib.hid (HA.out.low hb3)
      have HB3 := Lib.hid hb3
      have hrb : w2.heap.size ≠ b := by have := hb2.size; omega
      clear hR hb2 hb3 HC HL HA
      go_wp2_with fail
      refine (pclaim_c b n ws k hk w3 HA3.out).mono ?_
      rintro e w4 ⟨rfl, hA4, ho4⟩
      have HA4 := Lib.hid hA4
      have HO4 := Lib.hid ho4
      clear hA4 ho4
      go_wp2_with fail
      go_ret2
      exact ⟨rfl, .inr ⟨b, rfl, HA4.out⟩, (Och.of_below HB3.out).trans HO4.out⟩
set_option maxHeartbeats 16000000 in
theorem pwrite_c (p : Option Addr) (n : Nat) (ws : List Int) (off size : Int) (o0 : 0 ≤ off) (o1 : off ≤ 18446744073709551615) (v : Int) (v0 : 0 ≤ v) (v1 : v < 18446744073709551616) (w : World) (h : PcP S w p n ws) :
    Calls Try.prog 63 #[.pointer p, .int .u64 off, .int .i64 size, .int .u64 v] w fun e w' => e = .returned (.bool (Pc.is n off size)) ∧ PcP S w' p n (Pc.writeW n ws off size v) ∧ Och (pb p) w w' := by
  have HC := Lib.hid (pcount_c p n w h.cw)
  have HL := Lib.hid (plocate_c n off size o0 o1 w)
  have hof := Pc.at_of (n := n) (off := off) (size := size)
  have hn8 := h.n8
  have HW := Lib.hid (show Pc.writeW n ws off size v = if (Pc.at_ n off size).1 = 1 then ws.set (3 + (Pc.at_ n off size).2) (Wd.cutS v 0 3) else if (Pc.at_ n off size).1 = 3 then ws.set (35 + (Pc.at_ n off size).2) (bits .and .u64 v (Wd.onesS 1 31))
    else if (Pc.at_ n off size).1 = 4 then ws.set (51 + (Pc.at_ n off size).2) (Wd.cutS v 0 3) else if (Pc.at_ n off size).1 = 5 then Pc.endP ws (Pc.at_ n off size).2 (Wd.cutS v 0 32) else ws from rfl)
  have HV := Lib.hid (show (1 : Nat) = 1 from rfl)
  have HOK := Lib.hid (show Pc.Ok n ws → Pc.Ok n (Pc.writeW n ws off size v) from fun h => Pc.write_ok h off size v0 v1)
  obtain ⟨t, ht⟩ : ∃ t, Pc.at_ n off size = t := ⟨_, rfl⟩
  rw [ht] at HL hof HW
  try rw [ht] at HV
  obtain ⟨t1, k⟩ := t
  simp only at hof HW
  try simp only at HV
  by_cases hz : t1 = 0
  · have HI := Lib.hid (is_no (by rw [ht]; exact hz))
    obtain rfl : k = 0 := by omega
    subst hz
    rw [show prV (0, 0) = pr0 from rfl, HI.out] at HL
    rw [HI.out]
    have HP := Lib.hid h
    clear h hof ht HI HOK
    rw [HW.out]
    clear HV HW
    go_enter Try.func63, Try.ntmps63
    go_wp2_with fail
    refine HC.out.mono ?_
    rintro e w1 ⟨rfl, rfl⟩
    go_wp2_with fail
    refine HL.out.mono ?_
    rintro e w2 ⟨rfl, hb2⟩
    have HB3 := Lib.hid (hb2.alloc hb2.size (Obj.cells pr0 RgP))
    simp only [pr0] at HB3 ⊢
    go_wp2_with fail
    go_ret
    exact ⟨rfl, HP.out.low HB3.out, Och.of_below HB3.out⟩
  · have HI := Lib.hid (is_yes (by rw [ht]; exact hz))
    rw [HI.out] at HL
    rw [HI.out]
    obtain ⟨b, rfl, hA⟩ := h.pos (by rcases hof with h | h | h | h; omega; (have := ht; unfold Pc.at_ at this; split at this; omega; (exact absurd (congrArg Prod.fst this).symm hz)); (have := ht; unfold Pc.at_ at this; split at this; omega; (exact absurd (congrArg Prod.fst this).symm hz)); omega)
    have HA := Lib.hid hA
    have hbl := hA.lt
    have hblk : pb (some ⟨b, 20, none⟩) = some b := rfl
    rw [hblk]
    clear h HI ht
    have h5 : (t1 = 1 ∧ k < 32) ∨ t1 = 2 ∨ (t1 = 3 ∧ k < 16) ∨ (t1 = 4 ∧ k < 16) ∨ (t1 = 5 ∧ k < 16) := by omega
    clear hof hz
    rcases h5 with ⟨rfl, hk⟩ | rfl | ⟨rfl, hk⟩ | ⟨rfl, hk⟩ | ⟨rfl, hk⟩
    · rw [prV_eq 0 k] at HL
      rw [HW.out] at HOK ⊢
      simp only [Nat.reduceEqDiff, if_false, if_true] at HOK ⊢
      clear HV HW
      go_enter Try.func63, Try.ntmps63
      go_wp2_with fail
      refine HC.out.mono ?_
      rintro e w1 ⟨rfl, rfl⟩
      go_wp2_with fail
      refine HL.out.mono ?_
      rintro e w2 ⟨rfl, hb2⟩
      have hR := CsAt.new w2 RgP #[.int .i64 0, .int .u64 (k : Int)]
      have hb3 := hb2.alloc hb2.size (Obj.cells #[.int .i64 0, .int .u64 (k : Int)] RgP)
      go_upto_region 2 with fail
      generalize w2.alloc (Obj.cells #[.int .i64 0, .int .u64 (k : Int)] RgP) = w3 at *
      have r0 := hR.cell 0
      have r1 := hR.cell 1
      simp only [List.getElem?_toArray, List.getElem?_cons_zero, List.getElem?_cons_succ] at r0 r1
      have HA3 := Lib.hid (HA.out.low hb3)
      have HB3 := Lib.hid hb3
      have hrb : w2.heap.size ≠ b := by have := hb2.size; omega
      clear hR hb2 hb3 HC HL HA
      have gk : (k : Int) < 32 := by omega
      have hf := HA3.out.row.frozen (24 + k)
      have q := HA3.out.cell (show 3 + k < 67 by omega)
      rw [show 3 + k + 21 = 24 + k by omega] at q
      have HR4 := Lib.hid (step_row HA3.out.row (3 + k) (Wd.cutS v 0 3))
      have HO4 := Lib.hid (step_och (Och.of_below (o := some b) HB3.out) (24 + k) (.int .u64 (Wd.cutS v 0 3)))
      rw [show 3 + k + 21 = 24 + k by omega] at HR4
      generalize ws.getD (3 + k) 0 = old at *
      go_upto_region 6 with fail
      have hWd : w3.drew = w3.drew := rfl
      refine wp_region_steady_tail (fun W => W = w3.drew) 8 (by kernel_rfl) (by kernel_rfl) hWd ?_
      iterate 4
        refine steady_val ?_ ?_ (by rfl) (fun W hS => ?_) ?_ ?_
        rotate_left 2
        · subst hS
          go_simp
          exact rfl
        · go_simp
          exact rfl
      refine steady_enter (.int .u64 (Wd.cutS v 0 3)) 90 #[.int .u64 v, .int .i64 3] ?_ (by rfl) (fun W hS => ?_) (fun W hS => (low_c v 3 W v0 v1).mono (by rintro e w' ⟨rfl, rfl⟩; exact ⟨rfl, hS⟩)) ?_ ?_
      rotate_left 1
      · subst hS
        go_simp
      · go_simp
        exact rfl
      iterate 3
        refine steady_val ?_ ?_ (by rfl) (fun W hS => ?_) ?_ ?_
        rotate_left 2
        · subst hS
          go_simp
          exact rfl
        · go_simp
          exact rfl
      refine steady_nil ?_
      rintro W rfl
      simp only [List.drop_succ_cons, List.drop_zero]
      go_wp2_with fail
      go_ret
      exact ⟨rfl, .inr ⟨b, rfl, ⟨HR4.out, HOK.out HA3.out.ok⟩⟩, HO4.out⟩
    · rw [prV_eq 1 k] at HL
      rw [HW.out] at HOK ⊢
      simp only [Nat.reduceEqDiff, if_false] at HOK ⊢
      clear HV HW
      go_enter Try.func63, Try.ntmps63
      go_wp2_with fail
      refine HC.out.mono ?_
      rintro e w1 ⟨rfl, rfl⟩
      go_wp2_with fail
      refine HL.out.mono ?_
      rintro e w2 ⟨rfl, hb2⟩
      have hR := CsAt.new w2 RgP #[.int .i64 1, .int .u64 (k : Int)]
      have hb3 := hb2.alloc hb2.size (Obj.cells #[.int .i64 1, .int .u64 (k : Int)] RgP)
      go_upto_region 2 with fail
      generalize w2.alloc (Obj.cells #[.int .i64 1, .int .u64 (k : Int)] RgP) = w3 at *
      have r0 := hR.cell 0
      have r1 := hR.cell 1
      simp only [List.getElem?_toArray, List.getElem?_cons_zero, List.getElem?_cons_succ] at r0 r1
      have HA3 := Lib.hid (HA.out.low hb3)
      have HB3 := Lib.hid hb3
      have hrb : w2.heap.size ≠ b := by have := hb2.size; omega
      clear hR hb2 hb3 HC HL HA
      go_wp2_with fail
      go_ret
      exact ⟨rfl, .inr ⟨b, rfl, HA3.out⟩, Och.of_below HB3.out⟩
    · rw [prV_eq 2 k] at HL
      rw [HW.out] at HOK ⊢
      simp only [Nat.reduceEqDiff, if_false, if_true] at HOK ⊢
      clear HV HW
      go_enter Try.func63, Try.ntmps63
      go_wp2_with fail
      refine HC.out.mono ?_
      rintro e w1 ⟨rfl, rfl⟩
      go_wp2_with fail
      refine HL.out.mono ?_
      rintro e w2 ⟨rfl, hb2⟩
      have hR := CsAt.new w2 RgP #[.int .i64 2, .int .u64 (k : Int)]
      have hb3 := hb2.alloc hb2.size (Obj.cells #[.int .i64 2, .int .u64 (k : Int)] RgP)
      go_upto_region 2 with fail
      generalize w2.alloc (Obj.cells #[.int .i64 2, .int .u64 (k : Int)] RgP) = w3 at *
      have r0 := hR.cell 0
      have r1 := hR.cell 1
      simp only [List.getElem?_toArray, List.getElem?_cons_zero, List.getElem?_cons_succ] at r0 r1
      have HA3 := Lib.hid (HA.out.low hb3)
      have HB3 := Lib.hid hb3
      have hrb : w2.heap.size ≠ b := by have := hb2.size; omega
      clear hR hb2 hb3 HC HL HA
      have gk : (k : Int) < 16 := by omega
      have hf := HA3.out.row.frozen (56 + k)
      have q := HA3.out.cell (show 35 + k < 67 by omega)
      rw [show 35 + k + 21 = 56 + k by omega] at q
      have HR4 := Lib.hid (step_row HA3.out.row (35 + k) (bits .and .u64 v (Wd.onesS 1 31)))
      have HO4 := Lib.hid (step_och (Och.of_below (o := some b) HB3.out) (56 + k) (.int .u64 (bits .and .u64 v (Wd.onesS 1 31))))
      rw [show 35 + k + 21 = 56 + k by omega] at HR4
      generalize ws.getD (35 + k) 0 = old at *
      go_upto_region 8 with fail
      have hWd : w3.drew = w3.drew := rfl
      refine wp_region_steady_tail (fun W => W = w3.drew) 9 (by kernel_rfl) (by kernel_rfl) hWd ?_
      iterate 4
        refine steady_val ?_ ?_ (by rfl) (fun W hS => ?_) ?_ ?_
        rotate_left 2
        · subst hS
          go_simp
          exact rfl
        · go_simp
          exact rfl
      refine steady_enter (.int .u64 (Wd.onesS 1 31)) 91 #[.int .i64 1, .int .i64 31] ?_ (by rfl) (fun W hS => ?_) (fun W hS => (ones_c 1 31 W (by omega) (by omega) (by omega) (by omega)).mono (by rintro e w' ⟨rfl, rfl⟩; exact ⟨rfl, hS⟩)) ?_ ?_
      rotate_left 1
      · subst hS
        go_simp
      · go_simp
        exact rfl
      iterate 4
        refine steady_val ?_ ?_ (by rfl) (fun W hS => ?_) ?_ ?_
        rotate_left 2
        · subst hS
          go_simp
          exact rfl
        · go_simp
          exact rfl
      refine steady_nil ?_
      rintro W rfl
      simp only [List.drop_succ_cons, List.drop_zero]
      go_wp2_with fail
      go_ret
      exact ⟨rfl, .inr ⟨b, rfl, ⟨HR4.out, HOK.out HA3.out.ok⟩⟩, HO4.out⟩
    · rw [prV_eq 3 k] at HL
      rw [HW.out] at HOK ⊢
      simp only [Nat.reduceEqDiff, if_false, if_true] at HOK ⊢
      clear HV HW
      go_enter Try.func63, Try.ntmps63
      go_wp2_with fail
      refine HC.out.mono ?_
      rintro e w1 ⟨rfl, rfl⟩
      go_wp2_with fail
      refine HL.out.mono ?_
      rintro e w2 ⟨rfl, hb2⟩
      have hR := CsAt.new w2 RgP #[.int .i64 3, .int .u64 (k : Int)]
      have hb3 := hb2.alloc hb2.size (Obj.cells #[.int .i64 3, .int .u64 (k : Int)] RgP)
      go_upto_region 2 with fail
      generalize w2.alloc (Obj.cells #[.int .i64 3, .int .u64 (k : Int)] RgP) = w3 at *
      have r0 := hR.cell 0
      have r1 := hR.cell 1
      simp only [List.getElem?_toArray, List.getElem?_cons_zero, List.getElem?_cons_succ] at r0 r1
      have HA3 := Lib.hid (HA.out.low hb3)
      have HB3 := Lib.hid hb3
      have hrb : w2.heap.size ≠ b := by have := hb2.size; omega
      clear hR hb2 hb3 HC HL HA
      have gk : (k : Int) < 16 := by omega
      have hf := HA3.out.row.frozen (72 + k)
      have q := HA3.out.cell (show 51 + k < 67 by omega)
      rw [show 51 + k + 21 = 72 + k by omega] at q
      have HR4 := Lib.hid (step_row HA3.out.row (51 + k) (Wd.cutS v 0 3))
      have HO4 := Lib.hid (step_och (Och.of_below (o := some b) HB3.out) (72 + k) (.int .u64 (Wd.cutS v 0 3)))
      rw [show 51 + k + 21 = 72 + k by omega] at HR4
      generalize ws.getD (51 + k) 0 = old at *
      go_upto_region 10 with fail
      have hWd : w3.drew = w3.drew := rfl
      refine wp_region_steady_tail (fun W => W = w3.drew) 8 (by kernel_rfl) (by kernel_rfl) hWd ?_
      iterate 4
        refine steady_val ?_ ?_ (by rfl) (fun W hS => ?_) ?_ ?_
        rotate_left 2
        · subst hS
          go_simp
          exact rfl
        · go_simp
          exact rfl
      refine steady_enter (.int .u64 (Wd.cutS v 0 3)) 90 #[.int .u64 v, .int .i64 3] ?_ (by rfl) (fun W hS => ?_) (fun W hS => (low_c v 3 W v0 v1).mono (by rintro e w' ⟨rfl, rfl⟩; exact ⟨rfl, hS⟩)) ?_ ?_
      rotate_left 1
      · subst hS
        go_simp
      · go_simp
        exact rfl
      iterate 3
        refine steady_val ?_ ?_ (by rfl) (fun W hS => ?_) ?_ ?_
        rotate_left 2
        · subst hS
          go_simp
          exact rfl
        · go_simp
          exact rfl
      refine steady_nil ?_
      rintro W rfl
      simp only [List.drop_succ_cons, List.drop_zero]
      go_wp2_with fail
      go_ret
      exact ⟨rfl, .inr ⟨b, rfl, ⟨HR4.out, HOK.out HA3.out.ok⟩⟩, HO4.out⟩
    · rw [prV_eq 4 k] at HL
      rw [HW.out] at HOK ⊢
      simp only [Nat.reduceEqDiff, if_false, if_true] at HOK ⊢
      clear HV HW
      go_enter Try.func63, Try.ntmps63
      go_wp2_with fail
      refine HC.out.mono ?_
      rintro e w1 ⟨rfl, rfl⟩
      go_wp2_with fail
      refine HL.out.mono ?_
      rintro e w2 ⟨rfl, hb2⟩
      have hR := CsAt.new w2 RgP #[.int .i64 4, .int .u64 (k : Int)]
      have hb3 := hb2.alloc hb2.size (Obj.cells #[.int .i64 4, .int .u64 (k : Int)] RgP)
      go_upto_region 2 with fail
      generalize w2.alloc (Obj.cells #[.int .i64 4, .int .u64 (k : Int)] RgP) = w3 at *
      have r0 := hR.cell 0
      have r1 := hR.cell 1
      simp only [List.getElem?_toArray, List.getElem?_cons_zero, List.getElem?_cons_succ] at r0 r1
      have HA3 := Lib.hid (HA.out.low hb3)
      have HB3 := Lib.hid hb3
      have hrb : w2.heap.size ≠ b := by have := hb2.size; omega
      clear hR hb2 hb3 HC HL HA
      go_upto_region 12 with fail
      have hWd : w3.drew = w3.drew := rfl
      refine wp_region_steady_tail (fun W => W = w3.drew) 5 (by kernel_rfl) (by kernel_rfl) hWd ?_
      iterate 4
        refine steady_val ?_ ?_ (by rfl) (fun W hS => ?_) ?_ ?_
        rotate_left 2
        · subst hS
          go_simp
          exact rfl
        · go_simp
          exact rfl
      refine steady_enter (.int .u64 (Wd.cutS v 0 32)) 90 #[.int .u64 v, .int .i64 32] ?_ (by rfl) (fun W hS => ?_) (fun W hS => (low_c v 32 W v0 v1).mono (by rintro e w' ⟨rfl, rfl⟩; exact ⟨rfl, hS⟩)) ?_ ?_
      rotate_left 1
      · subst hS
        go_simp
      · go_simp
        exact rfl
      refine steady_nil ?_
      rintro W rfl
      simp only [List.drop_succ_cons, List.drop_zero]
      have hcr := Wd.cutS_range v 0 32
      go_wp2_with fail
      refine (pcomplete_c b n ws k hk (Wd.cutS v 0 32) hcr.1 (by omega) w3.drew (HA3.out.low (below_dnC (Below.refl _ _) 1))).mono ?_
      rintro e w4 ⟨rfl, hA4, ho4⟩
      have HA4 := Lib.hid hA4
      have HO4 := Lib.hid ((Och.of_below (o := some b) (below_dnC HB3.out 1)).trans ho4)
      clear hA4 ho4
      go_wp2_with fail
      go_ret
      exact ⟨rfl, .inr ⟨b, rfl, HA4.out⟩, HO4.out⟩
end
end Bp
end Go.Proofs.Ytkknfhbaldeigaa
