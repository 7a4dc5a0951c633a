/-
  The law of layer 16: the chapter's example (live); and the reference's At.
-/
import Derived.Test.YtjeolfcefeglpaaPcG
set_option maxRecDepth 20000
namespace Go.Proofs.Ytjeolfcefeglpaa
open Go.ChangeShapes Go.WideShapes Go.ChangeAt Go.RowKit

namespace Pc
def l0 : List Int := zeros
def l1 : List Int := writeW 1 l0 40 4 3
def l2 : List Int := writeW 1 l1 8320 4 1024
def l3 : List Int := wireW 1 l2 10 true
def l4 : List Int := readW 1 l3 2101252 4
def l5 : List Int := readW 1 l4 2101252 4
def l6 : List Int := wireW 1 l5 10 false
def l7 : List Int := writeW 1 l6 2101252 4 10
theorem l_line : lineP 1 l3 1 = true := by decide +kernel
theorem l_is1 : is ((1 : Nat) : Int) 40 4 = true := by decide +kernel
theorem l_is2 : is ((1 : Nat) : Int) 8320 4 = true := by decide +kernel
theorem l_is3 : is ((1 : Nat) : Int) 2101252 4 = true := by decide +kernel
theorem l_a : readV 1 l3 2101252 4 = 10 := by decide +kernel
theorem l_b : readV 1 l4 2101252 4 = 0 := by decide +kernel
theorem l_w : l7.getD 1 0 = 0 := by decide +kernel
theorem l_s : l7.getD 2 0 = 0 := by decide +kernel
theorem l_wr : wires 1 10 = true := by decide
end Pc
set_option maxHeartbeats 4000000 in
theorem live16_c (w : World) : Calls Try.prog 23 #[] w fun e w' => e = .returned (.bool true) ∧ Below w.heap.size w w' := by
  have HN := Lib.hid (show Calls Try.prog 24 #[.int .i64 1] w fun e w' => e = .returned (.agg (ctV 1 Pc.l0)) ∧ Below w.heap.size w w' from pnew_c 1 w)
  have hl0 : Pc.l0.length = 67 := rfl
  go_enter Try.func23, Try.ntmps23
  go_wp2_with fail
  refine HN.out.mono ?_
  rintro e w1 ⟨rfl, hb1⟩
  have hz := zero_pt
  go_upto_region 2 with (refine wpList_storeNew (w0 := w1) rfl PT _ _ rfl _ (ctV 1 Pc.l0) _ rfl rfl (iPT hl0) rfl ctV_one ?_)
  have hb2 := hb1.alloc hb1.size (Obj.cells (ctV 1 Pc.l0) PT)
  have HA2 := Lib.hid (show PcAt (w1.alloc (Obj.cells (ctV 1 Pc.l0) PT)) w1.heap.size 1 Pc.l0 from ⟨CsAt.new w1 PT _, Pc.zeros_ok (by omega)⟩)
  have hlt := hb1.size
  have HB2 := Lib.hid hb2
  clear hb1 hb2 HN hz
  generalize w1.alloc (Obj.cells (ctV 1 Pc.l0) PT) = w2 at *
  generalize w1.heap.size = b at *
  go_wp2_with fail
  refine (pwrite_c (some ⟨b, 0, none⟩) 1 Pc.l0 40 4 (by omega) (by omega) 3 (by omega) (by omega) w2 HA2.out.at_).mono ?_
  rintro e w3 ⟨rfl, hA3, ho3⟩
  rw [Pc.l_is1]
  have HA3 := Lib.hid (show PcAt w3 b 1 Pc.l1 from hA3.of)
  have HB3 := Lib.hid (HB2.out.trans (ho3.below (B := w.heap.size) (fun c hc => by cases hc; exact hlt) HB2.out.size))
  clear hA3 ho3 HA2 HB2
  go_wp2_with fail
  refine (pwrite_c (some ⟨b, 0, none⟩) 1 Pc.l1 8320 4 (by omega) (by omega) 1024 (by omega) (by omega) w3 HA3.out.at_).mono ?_
  rintro e w4 ⟨rfl, hA4, ho4⟩
  rw [Pc.l_is2]
  have HA4 := Lib.hid (show PcAt w4 b 1 Pc.l2 from hA4.of)
  have HB4 := Lib.hid (HB3.out.trans (ho4.below (B := w.heap.size) (fun c hc => by cases hc; exact hlt) HB3.out.size))
  clear hA4 ho4 HA3 HB3
  go_wp2_with fail
  refine (pwire_c (some ⟨b, 0, none⟩) 1 Pc.l2 10 (by omega) (by omega) true w4 HA4.out.at_).mono ?_
  rintro e w5 ⟨rfl, hA5, ho5⟩
  rw [Pc.l_wr]
  have HA5 := Lib.hid (show PcAt w5 b 1 Pc.l3 from hA5.of)
  have HB5 := Lib.hid (HB4.out.trans (ho5.below (B := w.heap.size) (fun c hc => by cases hc; exact hlt) HB4.out.size))
  clear hA5 ho5 HA4 HB4
  go_wp2_with fail
  refine (pline_c (some ⟨b, 0, none⟩) 1 Pc.l3 1 (by omega) (by omega) w5 HA5.out.at_).mono ?_
  rintro e w6 ⟨rfl, hb6⟩
  rw [Pc.l_line]
  have HA6 := Lib.hid (HA5.out.low hb6)
  have HB6 := Lib.hid (HB5.out.trans (hb6.mono HB5.out.size))
  clear hb6 HA5 HB5
  go_wp2_with fail
  refine (pread_c (some ⟨b, 0, none⟩) 1 Pc.l3 2101252 4 (by omega) (by omega) w6 HA6.out.at_).mono ?_
  rintro e w7 ⟨rfl, hA7, ho7⟩
  rw [Pc.l_is3, Pc.l_a]
  have HA7 := Lib.hid (show PcAt w7 b 1 Pc.l4 from hA7.of)
  have HB7 := Lib.hid (HB6.out.trans (ho7.below (B := w.heap.size) (fun c hc => by cases hc; exact hlt) HB6.out.size))
  clear hA7 ho7 HA6 HB6
  go_wp2_with fail
  refine (pread_c (some ⟨b, 0, none⟩) 1 Pc.l4 2101252 4 (by omega) (by omega) w7 HA7.out.at_).mono ?_
  rintro e w8 ⟨rfl, hA8, ho8⟩
  rw [Pc.l_is3, Pc.l_b]
  have HA8 := Lib.hid (show PcAt w8 b 1 Pc.l5 from hA8.of)
  have HB8 := Lib.hid (HB7.out.trans (ho8.below (B := w.heap.size) (fun c hc => by cases hc; exact hlt) HB7.out.size))
  clear hA8 ho8 HA7 HB7
  go_wp2_with fail
  refine (pwire_c (some ⟨b, 0, none⟩) 1 Pc.l5 10 (by omega) (by omega) false w8 HA8.out.at_).mono ?_
  rintro e w9 ⟨rfl, hA9, ho9⟩
  rw [Pc.l_wr]
  have HA9 := Lib.hid (show PcAt w9 b 1 Pc.l6 from hA9.of)
  have HB9 := Lib.hid (HB8.out.trans (ho9.below (B := w.heap.size) (fun c hc => by cases hc; exact hlt) HB8.out.size))
  clear hA9 ho9 HA8 HB8
  go_wp2_with fail
  refine (pwrite_c (some ⟨b, 0, none⟩) 1 Pc.l6 2101252 4 (by omega) (by omega) 10 (by omega) (by omega) w9 HA9.out.at_).mono ?_
  rintro e w10 ⟨rfl, hA10, ho10⟩
  rw [Pc.l_is3]
  have HA10 := Lib.hid (show PcAt w10 b 1 Pc.l7 from hA10.of)
  have HB10 := Lib.hid (HB9.out.trans (ho10.below (B := w.heap.size) (fun c hc => by cases hc; exact hlt) HB9.out.size))
  clear hA10 ho10 HA9 HB9
  go_wp2_with fail
  refine (pwaits_c (some ⟨b, 0, none⟩) 1 Pc.l7 _ HA10.out.at_ (fun h => by cases h)).mono ?_
  rintro e w' ⟨rfl, rfl⟩
  rw [Pc.l_w]
  go_wp2_with fail
  refine (pserved_c (some ⟨b, 0, none⟩) 1 Pc.l7 _ HA10.out.at_ (fun h => by cases h)).mono ?_
  rintro e w' ⟨rfl, rfl⟩
  rw [Pc.l_s]
  go_wp2_with fail
  go_ret
  exact ⟨rfl, HB10.out⟩
namespace Pc
/-- None of a context's registers below c stands there. -/
def rno (off : Int) (c : Nat) : Prop := ∀ j : Nat, j < c → off ≠ 8192 + 128 * (j : Int) ∧ off ≠ 2097152 + 4096 * (j : Int) ∧ off ≠ 2097156 + 4096 * (j : Int)
theorem rat1 {n off : Int} {k : Nat} (hn : 1 ≤ n ∧ n ≤ 8) (h1 : 1 ≤ k) (hk : k < 32) (h : off = 4 * (k : Int)) : at_ n off 4 = (1, k) := by
  have := at_hit (off := off) (k := 0) hn (by omega) (fun j hj => by omega) (by simp [hit]; omega)
  rw [this, of, if_pos rfl]
  rw [show (off / 4).toNat = k by omega]
theorem rat2 {n off : Int} (hn : 1 ≤ n ∧ n ≤ 8) (h : off = 4096) : at_ n off 4 = (2, 0) := by
  have := at_hit (off := off) (k := 1) hn (by omega) (fun j hj => by obtain rfl : j = 0 := by omega
                                                                     simp [hit]; omega) (by simp [hit]; omega)
  rw [this]; rfl
theorem rat3 {n off : Int} {c : Nat} (hn : 1 ≤ n ∧ n ≤ 8) (hc : (c : Int) < 2 * n) (h : off = 8192 + 128 * (c : Int)) : at_ n off 4 = (3, c) := by
  have := at_hit (off := off) (k := 2) hn (by omega) (fun j hj => by
    have : j = 0 ∨ j = 1 := by omega
    rcases this with rfl | rfl <;> (simp [hit]; omega)) (by simp [hit]; omega)
  rw [this, of, if_neg (by omega), if_neg (by omega), if_pos rfl, show ((off - 8192) / 128).toNat = c by omega]
theorem rat4 {n off : Int} {c : Nat} (hn : 1 ≤ n ∧ n ≤ 8) (hc : (c : Int) < 2 * n) (h : off = 2097152 + 4096 * (c : Int)) : at_ n off 4 = (4, c) := by
  have := at_hit (off := off) (k := 3) hn (by omega) (fun j hj => by
    have : j = 0 ∨ j = 1 ∨ j = 2 := by omega
    rcases this with rfl | rfl | rfl <;> (simp [hit]; omega)) (by simp [hit]; omega)
  rw [this, of, if_neg (by omega), if_neg (by omega), if_neg (by omega), if_pos rfl, show ((off - 2097152) / 4096).toNat = c by omega]
theorem rat5 {n off : Int} {c : Nat} (hn : 1 ≤ n ∧ n ≤ 8) (hc : (c : Int) < 2 * n) (h : off = 2097156 + 4096 * (c : Int)) : at_ n off 4 = (5, c) := by
  have := at_hit (off := off) (k := 4) hn (by omega) (fun j hj => by
    have : j = 0 ∨ j = 1 ∨ j = 2 ∨ j = 3 := by omega
    rcases this with rfl | rfl | rfl | rfl <;> (simp [hit]; omega)) (by simp [hit]; omega)
  rw [this, of, if_neg (by omega), if_neg (by omega), if_neg (by omega), if_neg (by omega), show ((off - 2097156) / 4096).toNat = c by omega]
theorem rat0 {n : Nat} {off : Int} (h1 : ∀ j : Nat, 1 ≤ j → j < 32 → off ≠ 4 * (j : Int)) (h2 : off ≠ 4096) (h3 : rno off (2 * n)) : at_ (n : Int) off 4 = (0, 0) := by
  refine at_miss fun j hj => ?_
  have : j = 0 ∨ j = 1 ∨ j = 2 ∨ j = 3 ∨ j = 4 := by omega
  rcases this with rfl | rfl | rfl | rfl | rfl
  all_goals simp [hit]
  · intro a b
    have := h1 (off / 4).toNat
    omega
  · exact h2
  · intro a b
    have := h3 ((off - 8192) / 128).toNat
    omega
  · intro a b
    have := h3 ((off - 2097152) / 4096).toNat
    omega
  · intro a b
    have := h3 ((off - 2097156) / 4096).toNat
    omega
end Pc
def atV (t : Nat × Nat) : Value := .tuple #[.int .i64 t.1, .int .i64 t.2]
set_option maxHeartbeats 16000000 in
theorem rat16_c (h off size : Int) (w : World) :
    Calls Try.prog 26 #[.int .i64 h, .int .u64 off, .int .i64 size] w fun e w' => e = .returned (atV (Pc.at_ h off size)) ∧ w' = w := by
  by_cases hbad : h < 1 ∨ 8 < h ∨ size ≠ 4
  · have HE := Lib.hid (Pc.at_bad (off := off) hbad)
    by_cases b1 : size = 4
    · have g1 : (size != 4) = false := by simpa using b1
      by_cases b2 : h < 1
      · have g2 : decide (h < 1) = true := by simpa using b2
        clear hbad b1 b2
        go_enter Try.func26, Try.ntmps26
        go_wp2_with fail
        go_ret2
        exact ⟨by rw [HE.out]; rfl, rfl⟩
      · have g2 : decide (h < 1) = false := by simpa using b2
        have g3 : decide (h > 8) = true := by simp; omega
        clear hbad b1 b2
        go_enter Try.func26, Try.ntmps26
        go_wp2_with fail
        go_ret2
        exact ⟨by rw [HE.out]; rfl, rfl⟩
    · have g1 : (size != 4) = true := by simpa using b1
      clear hbad b1
      go_enter Try.func26, Try.ntmps26
      go_wp2_with fail
      go_ret2
      exact ⟨by rw [HE.out]; rfl, rfl⟩
  · obtain ⟨n, rfl⟩ := Int.eq_ofNat_of_zero_le (by omega : 0 ≤ h)
    have hn : 1 ≤ (n : Int) ∧ (n : Int) ≤ 8 := by omega
    obtain rfl : size = 4 := by omega
    have g1 : decide ((n : Int) < 1) = false := by simp; omega
    have g2 : decide ((n : Int) > 8) = false := by simp; omega
    have g0 : ((4 : Int) != 4) = false := by rfl
    clear hbad
    go_enter Try.func26, Try.ntmps26
    go_wp2_with fail
    go_loopw [8] (fun i wr => ∃ k : Nat, 1 ≤ k ∧ k ≤ 32 ∧ i = .int .i64 k ∧ (∀ j : Nat, 1 ≤ j → j < k → off ≠ 4 * (j : Int)) ∧ wr = w) (fun i _ => 32 - (intOf i).toNat)
    case atStart => exact ⟨1, by omega, by omega, rfl, fun j h1 h2 => by omega, rfl⟩
    case round =>
      obtain ⟨k, hk1, hk, rfl, hno, hwr⟩ := hrel
      have HWR := Lib.hid hwr
      clear hwr
      have HNO := Lib.hid hno
      clear hno
      by_cases hlt : k < 32
      · have e1 : decide ((k : Int) < 32) = true := by simp; omega
        by_cases he : off = 4 * (k : Int)
        · have HE := Lib.hid (Pc.rat1 hn hk1 hlt he)
          have e2 : (off == 4 * (k : Int)) = true := by simpa using he
          clear he HNO
          go_wp2_with fail
          go_ret2
          exact ⟨by rw [HE.out]; rfl, HWR.out⟩
        · have e2 : (off == 4 * (k : Int)) = false := by simpa using he
          have HN2 := Lib.hid (show ∀ j : Nat, 1 ≤ j → j < k + 1 → off ≠ 4 * (j : Int) from fun j h1 h2 => by
            by_cases e : j = k
            · rw [e]; exact he
            · exact HNO.out j h1 (by omega))
          clear he HNO
          go_wp2_with fail
          go_roundw
          case rel => exact ⟨k + 1, by omega, by omega, by go_num, HN2.out, HWR.out⟩
          case measure => simp [intOf]; omega
      · obtain rfl : k = 32 := by omega
        by_cases h4 : off = 4096
        · have HE := Lib.hid (Pc.rat2 hn h4)
          have e2 : (off == 4096) = true := by simpa using h4
          clear h4 HNO
          go_wp2_with fail
          go_ret2
          exact ⟨by rw [HE.out]; rfl, HWR.out⟩
        · have e2 : (off == 4096) = false := by simpa using h4
          have H4 := Lib.hid h4
          clear h4
          go_wp2_with fail
          go_loopw [9] (fun i wr => ∃ c : Nat, c ≤ 2 * n ∧ i = .int .i64 c ∧ Pc.rno off c ∧ wr = w) (fun i _ => 2 * n - (intOf i).toNat)
          case atStart => exact ⟨0, by omega, rfl, fun j h2 => by omega, HWR.out⟩
          case round =>
            obtain ⟨c, hc, rfl, hno, hwr⟩ := hrel
            have HWR2 := Lib.hid hwr
            clear hwr
            have HC := Lib.hid hno
            clear hno
            have hc16 : (c : Int) ≤ 16 := by omega
            by_cases hlt2 : c < 2 * n
            · have e3 : decide ((c : Int) < 2 * (n : Int)) = true := by simp; omega
              by_cases he3 : off = 8192 + 128 * (c : Int)
              · have HE := Lib.hid (Pc.rat3 hn (by omega) he3)
                have e4 : (off == 8192 + 128 * (c : Int)) = true := by simpa using he3
                clear he3 HC H4 HNO
                go_wp2_with fail
                go_ret2
                exact ⟨by rw [HE.out]; rfl, HWR2.out⟩
              · have e4 : (off == 8192 + 128 * (c : Int)) = false := by simpa using he3
                by_cases he5 : off = 2097152 + 4096 * (c : Int)
                · have HE := Lib.hid (Pc.rat4 hn (by omega) he5)
                  have e5 : (off == 2097152 + 4096 * (c : Int)) = true := by simpa using he5
                  clear he3 he5 HC H4 HNO
                  go_wp2_with fail
                  go_ret2
                  exact ⟨by rw [HE.out]; rfl, HWR2.out⟩
                · have e5 : (off == 2097152 + 4096 * (c : Int)) = false := by simpa using he5
                  by_cases he6 : off = 2097156 + 4096 * (c : Int)
                  · have HE := Lib.hid (Pc.rat5 hn (by omega) he6)
                    have e6 : (off == 2097156 + 4096 * (c : Int)) = true := by simpa using he6
                    clear he3 he5 he6 HC H4 HNO
                    go_wp2_with fail
                    go_ret2
                    exact ⟨by rw [HE.out]; rfl, HWR2.out⟩
                  · have e6 : (off == 2097156 + 4096 * (c : Int)) = false := by simpa using he6
                    have HC2 := Lib.hid (show Pc.rno off (c + 1) from fun j hj => by
                      by_cases e : j = c
                      · rw [e]; exact ⟨he3, he5, he6⟩
                      · exact HC.out j (by omega))
                    clear he3 he5 he6 HC
                    go_wp2_with fail
                    go_roundw
                    case rel => exact ⟨c + 1, by omega, by go_num, HC2.out, HWR2.out⟩
                    case measure => simp [intOf]; omega
            · obtain rfl : c = 2 * n := by omega
              have e3 : decide (((2 * n : Nat) : Int) < 2 * (n : Int)) = false := by simp
              have HE := Lib.hid (Pc.rat0 HNO.out H4.out HC.out)
              clear HC H4 HNO
              go_wp2_with fail
              go_ret2
              exact ⟨by rw [HE.out]; rfl, HWR2.out⟩
end Go.Proofs.Ytjeolfcefeglpaa
