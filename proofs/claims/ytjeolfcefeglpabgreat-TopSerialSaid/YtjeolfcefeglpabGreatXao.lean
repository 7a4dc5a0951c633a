/-
  Plain numbers, no program: the sign of 32 bits as a sum, and what hangs on the lowest 32 bits alone. The tables of the reference of layers 3 and 4, as plain lists: the names of ops and of formats as bytes; for each op its format's number, the mask and what is matched. Contracts of the reference's tables (layers 3 and 4): Names, Rows.
-/
import Derived.Test.YtjeolfcefeglpabGreatXal
import Derived.Test.YtjeolfcefeglpabGreatXam
import Derived.Test.YtjeolfcefeglpabGreatXan
import Derived.Test.YtjeolfcefeglpabGreatXac
import Derived.Great.BuildSlice
import Derived.Deep.DeepCutAuto
set_option maxRecDepth 20000
namespace Go.Proofs.YtjeolfcefeglpabGreat
open Go.ChangeShapes Go.WideShapes Go.ChangeAt Go.RowKit Wd

theorem sgn32 {x : Int} (hx0 : 0 ≤ x) : signS x 32 = if x % 4294967296 < 2147483648 then x % 4294967296 else x % 4294967296 + 18446744069414584320 := by
  rw [← sign_mid hx0 (by omega) (by omega)]
  have e : ((64 : Int) - 32).toNat = 32 := by decide
  have e2 : (2 : Int) ^ 32 = 4294967296 := by decide
  rw [e, e2, IntKind.wrap_u64, IntKind.wrap_u64]
  unfold wrap64
  split <;> omega
theorem sgn_mod {x : Int} (hx0 : 0 ≤ x) : signS x 32 % 4294967296 = x % 4294967296 := by
  rw [sgn32 hx0]
  split <;> omega
theorem sgn_eq {x y : Int} (hx0 : 0 ≤ x) (hy0 : 0 ≤ y) (h : x % 4294967296 = y % 4294967296) : signS x 32 = signS y 32 := by
  rw [sgn32 hx0, sgn32 hy0, h]
theorem sgn_cut {x : Int} (hx0 : 0 ≤ x) : signS (cutS x 0 32) 32 = signS x 32 := by
  rw [cut32 hx0]
  exact sgn_eq (by omega) hx0 (by omega)
theorem half_cut {x : Int} (hx0 : 0 ≤ x) (p : Bool) : halfS (cutS x 0 32) p = halfS x p := by
  cases p
  · show signS (cutS x 0 32) 32 = signS x 32
    exact sgn_cut hx0
  · show cutS x 0 32 % 4294967296 = x % 4294967296
    rw [cut32 hx0]; omega
theorem half_sgn {x : Int} (hx0 : 0 ≤ x) (p : Bool) : halfS (signS x 32) p = halfS x p := by
  cases p
  · show signS (signS x 32) 32 = signS x 32
    exact keep_sign x 32
  · show signS x 32 % 4294967296 = x % 4294967296
    exact sgn_mod hx0
theorem wrap_mod (x : Int) : IntKind.u64.wrap x % 4294967296 = x % 4294967296 := by rw [IntKind.wrap_u64]; omega
theorem sgn_wrap {x y : Int} (h : x % 4294967296 = y % 4294967296) : signS (IntKind.u64.wrap x) 32 = signS (IntKind.u64.wrap y) 32 :=
  sgn_eq (wrap_range x).1 (wrap_range y).1 (by rw [wrap_mod, wrap_mod, h])
theorem addw_low {a b : Int} (ha0 : 0 ≤ a) (hb0 : 0 ≤ b) : signS (IntKind.u64.wrap (cutS a 0 32 + signS b 32)) 32 = signS (IntKind.u64.wrap (a + b)) 32 := by
  have h1 := sgn_mod hb0
  have h2 := cut32 ha0
  exact sgn_wrap (by omega)
theorem subw_low {a b : Int} (ha0 : 0 ≤ a) (hb0 : 0 ≤ b) : signS (IntKind.u64.wrap (cutS a 0 32 - signS b 32)) 32 = signS (IntKind.u64.wrap (a - b)) 32 := by
  have h1 := sgn_mod hb0
  have h2 := cut32 ha0
  exact sgn_wrap (by omega)
theorem sgn_32 {b : Int} (hb0 : 0 ≤ b) : signS b 32 % 32 = b % 32 := by
  have h1 := sgn_mod hb0
  omega
theorem sllw_low {a b : Int} (ha0 : 0 ≤ a) (hb0 : 0 ≤ b) : sllwS (cutS a 0 32) (signS b 32) = sllwS a b := by
  unfold sllwS
  rw [sgn_32 hb0, cut32 ha0]
  apply sgn_wrap
  rw [Int.mul_emod, Int.emod_emod_of_dvd _ (Int.dvd_refl _), ← Int.mul_emod]
theorem srlw_low {a b : Int} (ha0 : 0 ≤ a) (hb0 : 0 ≤ b) : srlwS (cutS a 0 32) (signS b 32) = srlwS a b := by
  unfold srlwS
  rw [sgn_32 hb0, cut32 (cutS_range a 0 32).1, cut32 ha0, Int.emod_emod_of_dvd _ (Int.dvd_refl _)]
theorem sraw_low {a b : Int} (ha0 : 0 ≤ a) (hb0 : 0 ≤ b) : srawS (cutS a 0 32) (signS b 32) = srawS a b := by
  unfold srawS
  rw [sgn_32 hb0, sgn_cut ha0]
theorem sraw_sgn (a b : Int) : signS (srawS a b) 32 = srawS a b := by
  rw [sraw_ref (F := (b % 32).toNat) (by omega) (by omega)]
  exact keep_sign _ 32
theorem or_plus (n : Nat) : ∀ a b : Nat, a < 2 ^ n → (a ||| b) + (a &&& b) = a + b := by
  induction n with
  | zero =>
    intro a b h
    obtain rfl : a = 0 := by omega
    simp
  | succ n ih =>
    intro a b h
    have i := ih (a / 2) (b / 2) (by rw [Nat.pow_succ] at h; omega)
    have o1 : (a ||| b) / 2 = a / 2 ||| b / 2 := Nat.or_div_two
    have o2 : (a &&& b) / 2 = a / 2 &&& b / 2 := Nat.and_div_two
    have m1 : (a ||| b) % 2 = 1 ↔ a % 2 = 1 ∨ b % 2 = 1 := Nat.or_mod_two_eq_one
    have m2 : (a &&& b) % 2 = 1 ↔ a % 2 = 1 ∧ b % 2 = 1 := Nat.and_mod_two_eq_one
    generalize a ||| b = o at *
    generalize a &&& b = d at *
    generalize a / 2 ||| b / 2 = o' at *
    generalize a / 2 &&& b / 2 = d' at *
    omega
theorem or_and {a b : Int} (ha0 : 0 ≤ a) (ha : a < 18446744073709551616) (hb0 : 0 ≤ b) (hb : b < 18446744073709551616) : bits .or .u64 a b + bits .and .u64 a b = a + b := by
  rw [u64_or a b ha0 ha hb0 hb, u64_and a b ha0 ha hb0 hb]
  have := or_plus 64 a.toNat b.toNat (by omega)
  omega
theorem xor_back {a b : Int} (ha0 : 0 ≤ a) (ha : a < 18446744073709551616) (hb0 : 0 ≤ b) (hb : b < 18446744073709551616) : bits .xor .u64 (bits .xor .u64 a b) b = a := by
  have e := u64_xor a b ha0 ha hb0 hb
  have l := Nat.xor_lt_two_pow (x := a.toNat) (y := b.toNat) (n := 64) (by omega) (by omega)
  rw [u64_xor (bits .xor .u64 a b) b (by omega) (by omega) hb0 hb, e, Int.toNat_natCast, Nat.xor_assoc, Nat.xor_self, Nat.xor_zero]
  omega
theorem sub_add {a b : Int} (ha0 : 0 ≤ a) (ha : a < 18446744073709551616) : IntKind.u64.wrap (IntKind.u64.wrap (a + b) - b) = a := by
  rw [IntKind.wrap_u64, IntKind.wrap_u64]; omega
theorem div_back {a b q : Int} (ha0 : 0 ≤ a) (ha : a < 18446744073709551616) : IntKind.u64.wrap (IntKind.u64.wrap (q * b) + IntKind.u64.wrap (a - IntKind.u64.wrap (b * q))) = a := by
  rw [Int.mul_comm q b]
  simp only [IntKind.wrap_u64]
  generalize b * q = p
  omega
end Go.Proofs.YtjeolfcefeglpabGreat
namespace Go.Proofs.YtjeolfcefeglpabGreat.Tab
def names4 : List (List UInt8) := [[], [108, 117, 105], [97, 117, 105, 112, 99], [106, 97, 108], [106, 97, 108, 114], [98, 101, 113], [98, 110, 101], [98, 108, 116], [98, 103, 101], [98, 108, 116, 117], [98, 103, 101, 117], [108, 98], [108, 104], [108, 119], [108, 100], [108, 98, 117], [108, 104, 117], [108, 119, 117], [115, 98], [115, 104], [115, 119], [115, 100], [97, 100, 100, 105], [115, 108, 116, 105], [115, 108, 116, 105, 117], [120, 111, 114, 105], [111, 114, 105], [97, 110, 100, 105], [115, 108, 108, 105], [115, 114, 108, 105], [115, 114, 97, 105], [97, 100, 100], [115, 117, 98], [115, 108, 108], [115, 108, 116], [115, 108, 116, 117], [120, 111, 114], [115, 114, 108], [115, 114, 97], [111, 114], [97, 110, 100], [97, 100, 100, 105, 119], [115, 108, 108, 105, 119], [115, 114, 108, 105, 119], [115, 114, 97, 105, 119], [97, 100, 100, 119], [115, 117, 98, 119], [115, 108, 108, 119], [115, 114, 108, 119], [115, 114, 97, 119], [102, 101, 110, 99, 101], [102, 101, 110, 99, 101, 46, 105], [101, 99, 97, 108, 108], [101, 98, 114, 101, 97, 107], [109, 117, 108], [109, 117, 108, 104], [109, 117, 108, 104, 115, 117], [109, 117, 108, 104, 117], [100, 105, 118], [100, 105, 118, 117], [114, 101, 109], [114, 101, 109, 117], [109, 117, 108, 119], [100, 105, 118, 119], [100, 105, 118, 117, 119], [114, 101, 109, 119], [114, 101, 109, 117, 119], [108, 114, 46, 119], [115, 99, 46, 119], [97, 109, 111, 115, 119, 97, 112, 46, 119], [97, 109, 111, 97, 100, 100, 46, 119], [97, 109, 111, 120, 111, 114, 46, 119], [97, 109, 111, 97, 110, 100, 46, 119], [97, 109, 111, 111, 114, 46, 119], [97, 109, 111, 109, 105, 110, 46, 119], [97, 109, 111, 109, 97, 120, 46, 119], [97, 109, 111, 109, 105, 110, 117, 46, 119], [97, 109, 111, 109, 97, 120, 117, 46, 119], [108, 114, 46, 100], [115, 99, 46, 100], [97, 109, 111, 115, 119, 97, 112, 46, 100], [97, 109, 111, 97, 100, 100, 46, 100], [97, 109, 111, 120, 111, 114, 46, 100], [97, 109, 111, 97, 110, 100, 46, 100], [97, 109, 111, 111, 114, 46, 100], [97, 109, 111, 109, 105, 110, 46, 100], [97, 109, 111, 109, 97, 120, 46, 100], [97, 109, 111, 109, 105, 110, 117, 46, 100], [97, 109, 111, 109, 97, 120, 117, 46, 100], [99, 115, 114, 114, 119], [99, 115, 114, 114, 115], [99, 115, 114, 114, 99], [99, 115, 114, 114, 119, 105], [99, 115, 114, 114, 115, 105], [99, 115, 114, 114, 99, 105], [109, 114, 101, 116], [115, 114, 101, 116], [119, 102, 105], [115, 102, 101, 110, 99, 101, 46, 118, 109, 97]]
def names3 : List (List UInt8) := [[], [82], [73], [83], [66], [85], [74], [83, 104, 105, 102, 116], [83, 104, 105, 102, 116, 87], [67, 115, 114], [67, 115, 114, 73], [65], [76, 114], [66, 97, 114, 101], [83, 102, 101, 110, 99, 101]]
/-- (op, format's number, mask, match) -/
def rows3 : List (Nat × Nat × Nat × Nat) := [(1, 5, 127, 55), (2, 5, 127, 23), (3, 6, 127, 111), (4, 2, 28799, 103), (5, 4, 28799, 99), (6, 4, 28799, 4195), (7, 4, 28799, 16483), (8, 4, 28799, 20579), (9, 4, 28799, 24675), (10, 4, 28799, 28771), (11, 2, 28799, 3), (12, 2, 28799, 4099), (13, 2, 28799, 8195), (14, 2, 28799, 12291), (15, 2, 28799, 16387), (16, 2, 28799, 20483), (17, 2, 28799, 24579), (18, 3, 28799, 35), (19, 3, 28799, 4131), (20, 3, 28799, 8227), (21, 3, 28799, 12323), (22, 2, 28799, 19), (23, 2, 28799, 8211), (24, 2, 28799, 12307), (25, 2, 28799, 16403), (26, 2, 28799, 24595), (27, 2, 28799, 28691), (28, 7, 4227887231, 4115), (29, 7, 4227887231, 20499), (30, 7, 4227887231, 1073762323), (31, 1, 4261441663, 51), (32, 1, 4261441663, 1073741875), (33, 1, 4261441663, 4147), (34, 1, 4261441663, 8243), (35, 1, 4261441663, 12339), (36, 1, 4261441663, 16435), (37, 1, 4261441663, 20531), (38, 1, 4261441663, 1073762355), (39, 1, 4261441663, 24627), (40, 1, 4261441663, 28723), (41, 2, 28799, 27), (42, 8, 4261441663, 4123), (43, 8, 4261441663, 20507), (44, 8, 4261441663, 1073762331), (45, 1, 4261441663, 59), (46, 1, 4261441663, 1073741883), (47, 1, 4261441663, 4155), (48, 1, 4261441663, 20539), (49, 1, 4261441663, 1073762363), (50, 2, 28799, 15), (51, 2, 28799, 4111), (52, 13, 4294967295, 115), (53, 13, 4294967295, 1048691), (54, 1, 4261441663, 33554483), (55, 1, 4261441663, 33558579), (56, 1, 4261441663, 33562675), (57, 1, 4261441663, 33566771), (58, 1, 4261441663, 33570867), (59, 1, 4261441663, 33574963), (60, 1, 4261441663, 33579059), (61, 1, 4261441663, 33583155), (62, 1, 4261441663, 33554491), (63, 1, 4261441663, 33570875), (64, 1, 4261441663, 33574971), (65, 1, 4261441663, 33579067), (66, 1, 4261441663, 33583163), (67, 12, 4193284223, 268443695), (68, 11, 4160778367, 402661423), (69, 11, 4160778367, 134225967), (70, 11, 4160778367, 8239), (71, 11, 4160778367, 536879151), (72, 11, 4160778367, 1610620975), (73, 11, 4160778367, 1073750063), (74, 11, 4160778367, 2147491887), (75, 11, 4160778367, 2684362799), (76, 11, 4160778367, 3221233711), (77, 11, 4160778367, 3758104623), (78, 12, 4193284223, 268447791), (79, 11, 4160778367, 402665519), (80, 11, 4160778367, 134230063), (81, 11, 4160778367, 12335), (82, 11, 4160778367, 536883247), (83, 11, 4160778367, 1610625071), (84, 11, 4160778367, 1073754159), (85, 11, 4160778367, 2147495983), (86, 11, 4160778367, 2684366895), (87, 11, 4160778367, 3221237807), (88, 11, 4160778367, 3758108719), (89, 9, 28799, 4211), (90, 9, 28799, 8307), (91, 9, 28799, 12403), (92, 10, 28799, 20595), (93, 10, 28799, 24691), (94, 10, 28799, 28787), (95, 13, 4294967295, 807403635), (96, 13, 4294967295, 270532723), (97, 13, 4294967295, 273678451), (98, 14, 4261445631, 301990003)]
end Go.Proofs.YtjeolfcefeglpabGreat.Tab
set_option maxRecDepth 20000
namespace Go.Proofs.YtjeolfcefeglpabGreat
open Go.ChangeShapes Go.WideShapes Go.ChangeAt Go.RowKit Wd

def bsOf (l : List UInt8) : ByteArray := ⟨l.toArray⟩
abbrev strV (l : List UInt8) : Value := .string (bsOf l)
theorem info_str : (Tryz.prog.info? 9).map (fun i => (i.zero, i.size, i.bytes)) = some (some (.string ⟨#[]⟩), 1, 16) := by kernel_rfl
set_option maxHeartbeats 4000000 in
set_option maxRecDepth 1000000 in
theorem refNames4_c (w : World) : Calls Tryz.prog 132 #[] w fun e w' => e = .returned (.slice (some ⟨w.heap.size, 0, none⟩) 99 99) ∧ w.alloc (.cells (Tab.names4.map strV).toArray 9) = w' := by
  obtain ⟨i0, hi, hz0, hz1, hz2⟩ := info_parts info_str
  go_enter Tryz.func132, Tryz.ntmps132
  go_upto_region 1 with fail
  apply wp_region_lit
  refine Go.wpList_buildSlice rfl 196 9 99 _ rfl (Tab.names4.map strV).toArray i0 (.string ⟨#[]⟩) Tryz.underlying196 hi hz0 (by rw [hz1]; decide) (by rw [hz1]; decide) (by rw [hz1]; kernel_rfl) ?_
  go_wp2
  go_ret
  exact ⟨rfl, rfl⟩
end Go.Proofs.YtjeolfcefeglpabGreat
