/-
  Plain numbers: an address that may be is told by its places and its lowest bits; pages lie within pages.
-/
import Derived.Test.YtmieabafiijfjaaVrA
set_option maxRecDepth 4000
namespace Go.Proofs.Ytmieabafiijfjaa
open Go.RowKit Wd Csr Sta

theorem low_eq {a b : Int} (ha : W64 a) (hb : W64 b) (h : a % 4096 = b % 4096) {i : Nat} (hi : i < 12) : tb a i = tb b i := by
  obtain ⟨m, rfl⟩ := Int.eq_ofNat_of_zero_le ha.1
  obtain ⟨k, rfl⟩ := Int.eq_ofNat_of_zero_le hb.1
  have h' : m % 2 ^ 12 = k % 2 ^ 12 := by omega
  unfold tb
  rw [show ((m : Nat) : Int).toNat = m by omega, show ((k : Nat) : Int).toNat = k by omega]
  have e1 := Nat.testBit_mod_two_pow m 12 i
  have e2 := Nat.testBit_mod_two_pow k 12 i
  rw [h'] at e1
  rw [e1] at e2
  rw [decide_eq_true hi] at e2
  simpa using e2
theorem place_bit {a b : Int} (n : Nat) (hn : n ≤ 2) (h : placeS a n = placeS b n) {i : Nat} (h1 : 12 + 9 * n ≤ i) (h2 : i < 21 + 9 * n) : tb a i = tb b i := by
  unfold placeS at h
  rw [if_pos (by omega), if_pos (by omega)] at h
  have ea := ccut a (12 + 9 * (n : Int)) 9 (k := i - (12 + 9 * n)) (by omega)
  have eb := ccut b (12 + 9 * (n : Int)) 9 (k := i - (12 + 9 * n)) (by omega)
  rw [h, eb] at ea
  rw [decide_eq_true (by omega), show ((12 + 9 * (n : Int)) + ((i - (12 + 9 * n) : Nat) : Int)).toNat = i by omega] at ea
  simpa using ea.symm
/-- An address that may be is told by its places and its lowest 12 bits. -/
theorem told {a b : Int} (ha : W64 a) (hb : W64 b) (ma : mayP a) (mb : mayP b) (hl : a % 4096 = b % 4096) (h0 : placeS a 0 = placeS b 0) (h1 : placeS a 1 = placeS b 1) (h2 : placeS a 2 = placeS b 2) : a = b := by
  apply Wd.ext ha.1 ha.2 hb.1 hb.2
  intro i hi
  have key : ∀ j, j < 39 → tb a j = tb b j := by
    intro j hj
    by_cases c0 : j < 12
    · exact low_eq ha hb hl c0
    · by_cases c1 : j < 21
      · exact place_bit 0 (by omega) h0 (by omega) (by omega)
      · by_cases c2 : j < 30
        · exact place_bit 1 (by omega) h1 (by omega) (by omega)
        · exact place_bit 2 (by omega) h2 (by omega) (by omega)
  by_cases c : i < 39
  · exact key i c
  · have ea := ma (i - 39) (by omega)
    have eb := mb (i - 39) (by omega)
    rw [show 39 + (i - 39) = i by omega] at ea eb
    rw [ea, eb, key 38 (by omega)]
theorem page_of {a : Int} (n : Int) (h : 0 ≤ n ∧ n ≤ 2) : pageS a n = a / sizeS n * sizeS n := if_pos h
theorem page_next {a b : Int} {n : Int} (h : n = 0 ∨ n = 1) (e : pageS a n = pageS b n) : pageS a (n + 1) = pageS b (n + 1) := by
  rw [page_of n (by omega), page_of n (by omega)] at e
  rw [page_of (n + 1) (by omega), page_of (n + 1) (by omega)]
  rcases h with rfl | rfl
  · rw [show sizeS 0 = 4096 from rfl] at e
    rw [show sizeS (0 + 1) = 2097152 from rfl]
    omega
  · rw [show sizeS 1 = 2097152 from rfl] at e
    rw [show sizeS (1 + 1) = 1073741824 from rfl]
    omega
theorem page_low {a : Int} {n : Int} (h : 0 ≤ n ∧ n ≤ 2) : 0 ≤ a - pageS a n ∧ a - pageS a n < sizeS n := by
  rw [page_of n h]
  rcases lev3 h with rfl | rfl | rfl
  · rw [show sizeS 0 = 4096 from rfl]; omega
  · rw [show sizeS 1 = 2097152 from rfl]; omega
  · rw [show sizeS 2 = 1073741824 from rfl]; omega
theorem cut7 : cutS 7 0 44 = 7 := by decide +kernel
theorem entry_frame (a : Int) {n : Int} (h : 0 ≤ n ∧ n ≤ 2) : entryS 7 a n / 4096 = 7 := by
  have hp := place_lt a n
  unfold entryS
  rw [if_pos h, cut7]
  omega
/-- satp's parts put together again. -/
theorem satp_back {x : Int} (hx : W64 x) : satpS (cutS x 60 4) (cutS x 44 16) (cutS x 0 44) = x := by
  have wr : ∀ y, W64 y → IntKind.u64.wrap y = y := fun y hy => by have := hy.1; have := hy.2; rw [IntKind.wrap_u64]; omega
  unfold satpS
  rw [wr _ (cutS_range _ _ _), wr _ (cutS_range _ _ _)]
  have a := putS_range (putS (putS 0 0 44 (cutS x 0 44)) 44 16 (cutS x 44 16)) 60 4 (cutS x 60 4)
  apply Wd.ext a.1 a.2 hx.1 hx.2
  intro i hi
  rw [cput _ _ _ _ hi, cput _ _ _ _ hi, cput _ _ _ _ hi]
  unfold inP
  by_cases c1 : i < 44
  · rw [if_neg (by simp; omega), if_neg (by simp; omega), if_pos (by simp; omega), ccut _ _ _ (by omega), decide_eq_true (by omega)]
    rw [show ((0 : Int) + (((i : Int) - 0).toNat : Int)).toNat = i by omega]; rfl
  · by_cases c2 : i < 60
    · rw [if_neg (by simp; omega), if_pos (by simp; omega), ccut _ _ _ (by omega), decide_eq_true (by omega)]
      rw [show ((44 : Int) + (((i : Int) - 44).toNat : Int)).toNat = i by omega]; rfl
    · rw [if_pos (by simp; omega), ccut _ _ _ (by omega), decide_eq_true (by omega)]
      rw [show ((60 : Int) + (((i : Int) - 60).toNat : Int)).toNat = i by omega]; rfl
end Go.Proofs.Ytmieabafiijfjaa
