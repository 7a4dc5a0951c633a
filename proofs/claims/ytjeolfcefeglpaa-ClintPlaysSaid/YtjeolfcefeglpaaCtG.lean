/-
  The law of layer 15: the chapter's example (live).
-/
import Derived.Test.YtjeolfcefeglpaaCtF
set_option maxRecDepth 20000
namespace Go.Proofs.Ytjeolfcefeglpaa
open Go.ChangeShapes Go.WideShapes Go.ChangeAt Go.RowKit

theorem CtAt.p {w : World} {b n : Nat} {ws : List Int} (h : CtAt w b n ws) : CtP w (some ⟨b, 0, none⟩) n ws := .inr ⟨b, rfl, h⟩
theorem CtP.of {w : World} {b n : Nat} {ws : List Int} (h : CtP w (some ⟨b, 0, none⟩) n ws) : CtAt w b n ws := by
  rcases h with h | ⟨c, hc, h⟩
  · cases h.1
  · cases hc; exact h
namespace Ct
def lv0 : List Int := newW 2
def lv1 : List Int := writeC 2 lv0 16392 8 5
def lv2 : List Int := tickC 2 lv1 5
def lv3 : List Int := writeC 2 lv2 4 4 3
theorem lv_is1 : is 2 16392 8 = true := by decide
theorem lv_is2 : is 2 4 4 = true := by decide
theorem lv_r : readC 2 lv3 4 4 = 1 := by decide
theorem lv_l1 : lineC 2 lv3 1 = 136 := by decide
theorem lv_l0 : lineC 2 lv3 0 = 0 := by decide
end Ct
set_option maxHeartbeats 4000000 in
theorem live15_c (w : World) : Calls Try.prog 9 #[] w fun e w' => e = .returned (.bool true) ∧ Below w.heap.size w w' := by
  have HN := Lib.hid (show Calls Try.prog 10 #[.int .i64 2] w fun e w' => e = .returned (.agg (ctV 2 Ct.lv0)) ∧ Below w.heap.size w w' from new15_c 2 w)
  have hl0 : Ct.lv0.length = 17 := rfl
  go_enter Try.func9, Try.ntmps9
  go_wp2_with fail
  refine HN.out.mono ?_
  rintro e w1 ⟨rfl, hb1⟩
  go_upto_region 2 with (refine wpList_storeNew (w0 := w1) rfl CT _ _ rfl _ (ctV 2 Ct.lv0) _ rfl rfl (iCT hl0) rfl ctV_one ?_)
  have hb2 := hb1.alloc hb1.size (Obj.cells (ctV 2 Ct.lv0) CT)
  have HA2 := Lib.hid (show CtAt (w1.alloc (Obj.cells (ctV 2 Ct.lv0) CT)) w1.heap.size 2 Ct.lv0 from ⟨CsAt.new w1 CT _, Ct.newW_ok 2 (by omega) (by omega)⟩)
  have hlt := hb1.size
  have HB2 := Lib.hid hb2
  clear hb1 hb2 HN
  generalize w1.alloc (Obj.cells (ctV 2 Ct.lv0) CT) = w2 at *
  generalize w1.heap.size = b at *
  go_wp2_with fail
  refine (write_c (some ⟨b, 0, none⟩) 2 Ct.lv0 16392 (by omega) (by omega) 8 5 (by omega) (by omega) w2 HA2.out.p).mono ?_
  rintro e w3 ⟨rfl, hA3, ho3⟩
  rw [Ct.lv_is1]
  have HA3 := Lib.hid (show CtAt w3 b 2 Ct.lv1 from hA3.of)
  have HB3 := Lib.hid (HB2.out.trans (ho3.below (B := w.heap.size) (fun c hc => by cases hc; exact hlt) HB2.out.size))
  clear hA3 ho3 HA2 HB2
  go_wp2_with fail
  refine (tick_c (some ⟨b, 0, none⟩) 2 Ct.lv1 5 (by omega) (by omega) w3 HA3.out.p).mono ?_
  rintro e w4 ⟨rfl, hA4, ho4⟩
  have HA4 := Lib.hid (show CtAt w4 b 2 Ct.lv2 from hA4.of)
  have HB4 := Lib.hid (HB3.out.trans (ho4.below (B := w.heap.size) (fun c hc => by cases hc; exact hlt) HB3.out.size))
  clear hA4 ho4 HA3 HB3
  go_wp2_with fail
  refine (write_c (some ⟨b, 0, none⟩) 2 Ct.lv2 4 (by omega) (by omega) 4 3 (by omega) (by omega) w4 HA4.out.p).mono ?_
  rintro e w5 ⟨rfl, hA5, ho5⟩
  rw [Ct.lv_is2]
  have HA5 := Lib.hid (show CtAt w5 b 2 Ct.lv3 from hA5.of)
  have HB5 := Lib.hid (HB4.out.trans (ho5.below (B := w.heap.size) (fun c hc => by cases hc; exact hlt) HB4.out.size))
  clear hA5 ho5 HA4 HB4
  go_wp2_with fail
  refine (read_c (some ⟨b, 0, none⟩) 2 Ct.lv3 4 (by omega) (by omega) 4 w5 HA5.out.p).mono ?_
  rintro e w6 ⟨rfl, hb6⟩
  rw [Ct.lv_is2, Ct.lv_r]
  have HA6 := Lib.hid (HA5.out.low hb6)
  have HB6 := Lib.hid (HB5.out.trans (hb6.mono HB5.out.size))
  clear hb6 HA5 HB5
  go_wp2_with fail
  refine (lines_c (some ⟨b, 0, none⟩) 2 Ct.lv3 1 (by omega) (by omega) w6 HA6.out.p).mono ?_
  rintro e w7 ⟨rfl, hb7⟩
  rw [Ct.lv_l1]
  have HA7 := Lib.hid (HA6.out.low hb7)
  have HB7 := Lib.hid (HB6.out.trans (hb7.mono HB6.out.size))
  clear hb7 HA6 HB6
  go_wp2_with fail
  refine (lines_c (some ⟨b, 0, none⟩) 2 Ct.lv3 0 (by omega) (by omega) w7 HA7.out.p).mono ?_
  rintro e w8 ⟨rfl, hb8⟩
  rw [Ct.lv_l0]
  have HB8 := Lib.hid (HB7.out.trans (hb8.mono HB7.out.size))
  clear hb8 HA7 HB7
  go_wp2_with fail
  go_ret
  exact ⟨rfl, HB8.out⟩
end Go.Proofs.Ytjeolfcefeglpaa
