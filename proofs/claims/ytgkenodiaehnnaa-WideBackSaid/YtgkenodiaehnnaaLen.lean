/-
  Contracts of math/bits.Len64 and LeadingZeros64 over this program: how far a word is to be moved up till its highest bit is set.
-/
import Derived.Test.YtgkenodiaehnnaaWide
import Derived.Lib.Strings
import Derived.Lib.Slices
import Derived.Lib.Small
import Derived.Lib.Walk
import Derived.Lib.BitFns
import Derived.Lib.ItoaNum
namespace Go.Proofs.Ytgkenodiaehnnaa
open Go.ChangeShapes Go.WideShapes Go.ChangeAt Go.RowKit Wd

theorem len_fin {x d : Int} {k : Nat} {D : Nat} (d0 : 0 ≤ d) (d1 : d ≤ 255) (e : d.toNat = x.toNat / D) (s : Lib.bitLen x.toNat = k + Lib.bitLen (x.toNat / D)) : ((k : Int) + Lib.len8 d) = (Lib.bitLen x.toNat : Int) := by
  rw [Lib.len8_of d d0 d1, e]
  omega
theorem len8_range {d : Int} (d0 : 0 ≤ d) (d1 : d ≤ 255) : 0 ≤ Lib.len8 d ∧ Lib.len8 d ≤ 8 := by
  have := Lib.bitLen_le8' d d0 d1
  rw [Lib.len8_of d d0 d1]
  omega

set_option maxHeartbeats 4000000 in
set_option maxRecDepth 100000 in
theorem len64_c (x : Int) (w : World) (h0 : 0 ≤ x) (h1 : x ≤ 18446744073709551615) :
    Calls Try.prog 72 #[.int .u64 x] w fun e w' => e = .returned (.int .i64 (Lib.bitLen x.toNat)) ∧ w = w' := by
  have hu := Try.underlying9
  by_cases c1 : 4294967296 ≤ x
  · by_cases c2 : 65536 ≤ x / 4294967296
    · by_cases c3 : 256 ≤ x / 4294967296 / 65536
      · skip
        have d0 : 0 ≤ x / 4294967296 / 65536 / 256 := by omega
        have d1 : x / 4294967296 / 65536 / 256 ≤ 255 := by omega
        have HL := Lib.hid (len_fin (k := 56) (D := 72057594037927936) d0 d1 (by omega) (Lib.bitLen_shift56 x.toNat (by omega) (by omega)))
        obtain ⟨l0, l1⟩ := len8_range d0 d1
        go_enter Try.func72, Try.ntmps72
        go_wp2
        go_ret
        exact ⟨ret_u HL.out, rfl⟩
      · skip
        have d0 : 0 ≤ x / 4294967296 / 65536 := by omega
        have d1 : x / 4294967296 / 65536 ≤ 255 := by omega
        have HL := Lib.hid (len_fin (k := 48) (D := 281474976710656) d0 d1 (by omega) (Lib.bitLen_shift48 x.toNat (by omega) (by omega)))
        obtain ⟨l0, l1⟩ := len8_range d0 d1
        go_enter Try.func72, Try.ntmps72
        go_wp2
        go_ret
        exact ⟨ret_u HL.out, rfl⟩
    · by_cases c3 : 256 ≤ x / 4294967296
      · skip
        have d0 : 0 ≤ x / 4294967296 / 256 := by omega
        have d1 : x / 4294967296 / 256 ≤ 255 := by omega
        have HL := Lib.hid (len_fin (k := 40) (D := 1099511627776) d0 d1 (by omega) (Lib.bitLen_shift40 x.toNat (by omega) (by omega)))
        obtain ⟨l0, l1⟩ := len8_range d0 d1
        go_enter Try.func72, Try.ntmps72
        go_wp2
        go_ret
        exact ⟨ret_u HL.out, rfl⟩
      · skip
        have d0 : 0 ≤ x / 4294967296 := by omega
        have d1 : x / 4294967296 ≤ 255 := by omega
        have HL := Lib.hid (len_fin (k := 32) (D := 4294967296) d0 d1 (by omega) (Lib.bitLen_shift32 x.toNat (by omega) (by omega)))
        obtain ⟨l0, l1⟩ := len8_range d0 d1
        go_enter Try.func72, Try.ntmps72
        go_wp2
        go_ret
        exact ⟨ret_u HL.out, rfl⟩
  · by_cases c2 : 65536 ≤ x
    · by_cases c3 : 256 ≤ x / 65536
      · skip
        have d0 : 0 ≤ x / 65536 / 256 := by omega
        have d1 : x / 65536 / 256 ≤ 255 := by omega
        have HL := Lib.hid (len_fin (k := 24) (D := 16777216) d0 d1 (by omega) (Lib.bitLen_shift24 x.toNat (by omega) (by omega)))
        obtain ⟨l0, l1⟩ := len8_range d0 d1
        go_enter Try.func72, Try.ntmps72
        go_wp2
        go_ret
        exact ⟨ret_u HL.out, rfl⟩
      · skip
        have d0 : 0 ≤ x / 65536 := by omega
        have d1 : x / 65536 ≤ 255 := by omega
        have HL := Lib.hid (len_fin (k := 16) (D := 65536) d0 d1 (by omega) (Lib.bitLen_shift16 x.toNat (by omega) (by omega)))
        obtain ⟨l0, l1⟩ := len8_range d0 d1
        go_enter Try.func72, Try.ntmps72
        go_wp2
        go_ret
        exact ⟨ret_u HL.out, rfl⟩
    · by_cases c3 : 256 ≤ x
      · skip
        have d0 : 0 ≤ x / 256 := by omega
        have d1 : x / 256 ≤ 255 := by omega
        have HL := Lib.hid (len_fin (k := 8) (D := 256) d0 d1 (by omega) (Lib.bitLen_shift8 x.toNat (by omega) (by omega)))
        obtain ⟨l0, l1⟩ := len8_range d0 d1
        go_enter Try.func72, Try.ntmps72
        go_wp2
        go_ret
        exact ⟨ret_u HL.out, rfl⟩
      · skip
        have d0 : 0 ≤ x := by omega
        have d1 : x ≤ 255 := by omega
        have HL := Lib.hid (len_fin (x := x) (k := 0) (D := 1) d0 d1 (by omega) (by rw [Nat.div_one]; omega))
        obtain ⟨l0, l1⟩ := len8_range d0 d1
        go_enter Try.func72, Try.ntmps72
        go_wp2
        go_ret
        first | exact ⟨ret_u HL.out, rfl⟩ | (refine ⟨ret_u ?_, rfl⟩; rw [← HL.out]; simp)

def lz (y : Int) : Nat := 64 - Lib.bitLen y.toNat
theorem lz_spec {y : Int} (h0 : 0 < y) (h1 : y < 18446744073709551616) : lz y ≤ 63 ∧ 9223372036854775808 ≤ y * 2 ^ lz y ∧ y * 2 ^ lz y < 18446744073709551616 ∧ (Lib.bitLen y.toNat : Int) = 64 - (lz y : Int) := by
  obtain ⟨Y, rfl⟩ := Int.eq_ofNat_of_zero_le (Int.le_of_lt h0)
  unfold lz
  rw [Int.toNat_natCast]
  have hb := Lib.bitLenAux_bounds 64 Y (by omega) (by omega)
  have hle := Lib.bitLen_le Y 64 (by omega) (by omega)
  obtain ⟨b1, b2, b3⟩ := hb
  have e : Lib.bitLen Y = Lib.bitLenAux 64 Y := rfl
  rw [← e] at b1 b2 b3
  generalize Lib.bitLen Y = n at *
  refine ⟨by omega, ?_, ?_, by omega⟩
  · have : 2 ^ (n - 1) * 2 ^ (64 - n) ≤ Y * 2 ^ (64 - n) := Nat.mul_le_mul_right _ b2
    rw [← Nat.pow_add, show n - 1 + (64 - n) = 63 by omega] at this
    rw [pow_cast, ← Int.natCast_mul]
    omega
  · have : Y * 2 ^ (64 - n) < 2 ^ n * 2 ^ (64 - n) := Nat.mul_lt_mul_of_pos_right b3 (Nat.two_pow_pos _)
    rw [← Nat.pow_add, show n + (64 - n) = 64 by omega] at this
    rw [pow_cast, ← Int.natCast_mul]
    omega
theorem lz64_c (y : Int) (w : World) (h0 : 0 < y) (h1 : y < 18446744073709551616) :
    Calls Try.prog 71 #[.int .u64 y] w fun e w' => e = .returned (.int .i64 (lz y)) ∧ w = w' := by
  obtain ⟨s1, _, _, s2⟩ := lz_spec h0 h1
  have H := Lib.hid s2
  have hl0 : (0 : Int) ≤ (Lib.bitLen y.toNat : Int) := by omega
  have hl1 : (Lib.bitLen y.toNat : Int) ≤ 64 := by omega
  have H2 := Lib.hid (show (64 : Int) - (Lib.bitLen y.toNat : Int) = (lz y : Int) from by omega)
  clear s2 s1
  go_enter Try.func71, Try.ntmps71
  go_wp2_with fail
  refine (len64_c _ _ (by omega) (by omega)).mono ?_
  rintro e w' ⟨rfl, rfl⟩
  go_wp2_with fail
  go_ret
  exact ⟨ret_u H2.out, rfl⟩
end Go.Proofs.Ytgkenodiaehnnaa
