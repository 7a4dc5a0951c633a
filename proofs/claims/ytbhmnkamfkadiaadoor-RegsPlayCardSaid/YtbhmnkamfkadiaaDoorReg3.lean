/-
  The names of registers; their numbers' digits: contracts of strconv.Itoa below 32, of the reference's Digits and Names, of regs.Name.
-/
import Derived.Test.YtbhmnkamfkadiaaDoorReg1
import Derived.WalkSpells
import Derived.Great.BuildSlice
import Derived.Deep.DeepCutAuto
import Derived.Deep.QuietTactic
import Derived.BigQuiet
import Derived.StillTactics
import Derived.IntWalk
namespace Go.Proofs.YtbhmnkamfkadiaaDoor
open Go.ChangeShapes Go.WideShapes Go.ChangeAt Go.RowKit

def bsR (l : List UInt8) : ByteArray := ⟨l.toArray⟩
abbrev strR (l : List UInt8) : Value := .string (bsR l)
/-- The registers' names, by their numbers. -/
def namesR : List (List UInt8) := [[122, 101, 114, 111], [114, 97], [115, 112], [103, 112], [116, 112], [116, 48], [116, 49], [116, 50], [115, 48], [115, 49], [97, 48], [97, 49], [97, 50], [97, 51], [97, 52], [97, 53], [97, 54], [97, 55], [115, 50], [115, 51], [115, 52], [115, 53], [115, 54], [115, 55], [115, 56], [115, 57], [115, 49, 48], [115, 49, 49], [116, 51], [116, 52], [116, 53], [116, 54]]
def nmR (k : Nat) : List UInt8 := namesR.getD k []
/-- A number's digits, below 100. -/
def digR (k : Nat) : List UInt8 := if k < 10 then [48 + k.toUInt8] else [48 + (k / 10).toUInt8, 48 + (k % 10).toUInt8]
theorem ret_s {a b : ByteArray} (h : a = b) : Ending.returned (.string a) = .returned (.string b) := by rw [h]
theorem slice_lh {P : Program} (w : World) (t : TypeId) (s : ByteArray) (ht : P.underlying t = some .string) (l h : Int) (h0 : 0 ≤ l) (h1 : l ≤ h) (h2 : h ≤ s.size) :
    (Instr.slice t (.string s) (some (.int .i64 l)) (some (.int .i64 h)) none).run P w = .ok (.string (s.extract l.toNat h.toNat)) w := by
  have eh : (h.toNat : Int) = h := Int.toNat_of_nonneg (by omega)
  simp [Instr.slice, run_underlying ht, Instr.sliceBounds, run_sliceBound, *, (by omega : 0 ≤ h)]
def tens : ByteArray := { data := (([48, 48, 48, 49, 48, 50, 48, 51, 48, 52, 48, 53, 48, 54, 48, 55, 48, 56, 48, 57, 49, 48, 49, 49, 49, 50, 49, 51, 49, 52, 49, 53, 49, 54, 49, 55, 49, 56, 49, 57, 50, 48, 50, 49, 50, 50, 50, 51, 50, 52].append [50, 53, 50, 54, 50, 55, 50, 56, 50, 57, 51, 48, 51, 49, 51, 50, 51, 51, 51, 52, 51, 53, 51, 54, 51, 55, 51, 56, 51, 57, 52, 48, 52, 49, 52, 50, 52, 51, 52, 52, 52, 53, 52, 54, 52, 55, 52, 56, 52, 57]).append ([53, 48, 53, 49, 53, 50, 53, 51, 53, 52, 53, 53, 53, 54, 53, 55, 53, 56, 53, 57, 54, 48, 54, 49, 54, 50, 54, 51, 54, 52, 54, 53, 54, 54, 54, 55, 54, 56, 54, 57, 55, 48, 55, 49, 55, 50, 55, 51, 55, 52].append [55, 53, 55, 54, 55, 55, 55, 56, 55, 57, 56, 48, 56, 49, 56, 50, 56, 51, 56, 52, 56, 53, 56, 54, 56, 55, 56, 56, 56, 57, 57, 48, 57, 49, 57, 50, 57, 51, 57, 52, 57, 53, 57, 54, 57, 55, 57, 56, 57, 57])).toArray }
theorem tens_eq : tens = { data := (([48, 48, 48, 49, 48, 50, 48, 51, 48, 52, 48, 53, 48, 54, 48, 55, 48, 56, 48, 57, 49, 48, 49, 49, 49, 50, 49, 51, 49, 52, 49, 53, 49, 54, 49, 55, 49, 56, 49, 57, 50, 48, 50, 49, 50, 50, 50, 51, 50, 52].append [50, 53, 50, 54, 50, 55, 50, 56, 50, 57, 51, 48, 51, 49, 51, 50, 51, 51, 51, 52, 51, 53, 51, 54, 51, 55, 51, 56, 51, 57, 52, 48, 52, 49, 52, 50, 52, 51, 52, 52, 52, 53, 52, 54, 52, 55, 52, 56, 52, 57]).append ([53, 48, 53, 49, 53, 50, 53, 51, 53, 52, 53, 53, 53, 54, 53, 55, 53, 56, 53, 57, 54, 48, 54, 49, 54, 50, 54, 51, 54, 52, 54, 53, 54, 54, 54, 55, 54, 56, 54, 57, 55, 48, 55, 49, 55, 50, 55, 51, 55, 52].append [55, 53, 55, 54, 55, 55, 55, 56, 55, 57, 56, 48, 56, 49, 56, 50, 56, 51, 56, 52, 56, 53, 56, 54, 56, 55, 56, 56, 56, 57, 57, 48, 57, 49, 57, 50, 57, 51, 57, 52, 57, 53, 57, 54, 57, 55, 57, 56, 57, 57])).toArray } := rfl
def ones : ByteArray := { data := #[48, 49, 50, 51, 52, 53, 54, 55, 56, 57, 97, 98, 99, 100, 101, 102, 103, 104, 105, 106, 107, 108, 109, 110, 111, 112, 113, 114, 115, 116, 117, 118, 119, 120, 121, 122] }
theorem ones_eq : ones = { data := #[48, 49, 50, 51, 52, 53, 54, 55, 56, 57, 97, 98, 99, 100, 101, 102, 103, 104, 105, 106, 107, 108, 109, 110, 111, 112, 113, 114, 115, 116, 117, 118, 119, 120, 121, 122] } := rfl
theorem ones_cut : ∀ k : Fin 10, ones.extract k.val (k.val + 1) = bsR (digR k.val) := by decide +kernel
theorem tens_cut : ∀ k : Fin 100, 10 ≤ k.val → tens.extract (k.val * 2) (k.val * 2 + 2) = bsR (digR k.val) := by decide +kernel
set_option maxHeartbeats 1000000 in
theorem small_c (k : Nat) (hk : k < 100) (w : World) : Calls Tryd.prog 26 #[.int .i64 k] w fun e w' => e = .returned (strR (digR k)) ∧ w = w' := by
  by_cases h : k < 10
  · have e0 : decide ((k : Int) < 10) = true := by simp; omega
    have hsl : ∀ W0 : World, (Instr.slice 9 (.string ones) (some (.int .i64 (k : Int))) (some (.int .i64 ((k : Int) + 1))) none).run Tryd.prog W0 = .ok (strR (digR k)) W0 := fun W0 => by
      rw [slice_lh W0 _ ones Tryd.underlying9 _ _ (by omega) (by omega) (by show (k : Int) + 1 ≤ 36; omega)]
      rw [show ((k : Int)).toNat = k by omega, show ((k : Int) + 1).toNat = k + 1 by omega, ones_cut ⟨k, h⟩]
    go_enter Tryd.func26, Tryd.ntmps26
    rw [← ones_eq]
    generalize ones = S at *
    generalize strR (digR k) = v at *
    go_wp2_with fail
    go_ret
    exact ⟨rfl, rfl⟩
  · have e0 : decide ((k : Int) < 10) = false := by simp; omega
    have hsl : ∀ W0 : World, (Instr.slice 9 (.string tens) (some (.int .i64 ((k : Int) * 2))) (some (.int .i64 ((k : Int) * 2 + 2))) none).run Tryd.prog W0 = .ok (strR (digR k)) W0 := fun W0 => by
      rw [slice_lh W0 _ tens Tryd.underlying9 _ _ (by omega) (by omega) (by show (k : Int) * 2 + 2 ≤ 200; omega)]
      rw [show ((k : Int) * 2).toNat = k * 2 by omega, show ((k : Int) * 2 + 2).toNat = k * 2 + 2 by omega, tens_cut ⟨k, hk⟩ (by simp only; omega)]
    go_enter Tryd.func26, Tryd.ntmps26
    rw [← tens_eq]
    generalize tens = S at *
    generalize strR (digR k) = v at *
    go_wp2_with fail
    go_ret
    exact ⟨rfl, rfl⟩
set_option maxHeartbeats 1000000 in
theorem itoa_c (k : Nat) (hk : k < 100) (w : World) : Calls Tryd.prog 21 #[.int .i64 k] w fun e w' => e = .returned (strR (digR k)) ∧ w = w' := by
  have h1 : (k : Int) < 100 := by omega
  have e1 : decide ((k : Int) < 100) = true := by simpa using h1
  have e2 : decide ((0 : Int) ≤ (k : Int)) = true := by simp
  have k2 : Calls Tryd.prog 25 #[.int .i64 k, .int .i64 10] w fun e w' => e = .returned (strR (digR k)) ∧ w = w' := by
    go_enter Tryd.func25, Tryd.ntmps25
    go_wp2_with fail
    refine (small_c k hk _).mono ?_
    rintro e w1 ⟨rfl, rfl⟩
    go_wp2_with fail
    go_ret
    exact ⟨rfl, rfl⟩
  have H2 := Lib.hid k2
  clear k2
  have k3 : Calls Tryd.prog 24 #[.int .i64 k] w fun e w' => e = .returned (strR (digR k)) ∧ w = w' := by
    go_enter Tryd.func24, Tryd.ntmps24
    go_wp2_with fail
    refine H2.out.mono ?_
    rintro e w1 ⟨rfl, rfl⟩
    go_wp2_with fail
    go_ret
    exact ⟨rfl, rfl⟩
  have H3 := Lib.hid k3
  clear k3
  go_enter Tryd.func21, Tryd.ntmps21
  go_wp2_with fail
  refine H3.out.mono ?_
  rintro e w1 ⟨rfl, rfl⟩
  go_wp2_with fail
  go_ret
  exact ⟨rfl, rfl⟩
def ten : ByteArray := { data := #[48, 49, 50, 51, 52, 53, 54, 55, 56, 57] }
theorem ten_eq : ten = { data := #[48, 49, 50, 51, 52, 53, 54, 55, 56, 57] } := rfl
theorem ten_cut : ∀ k : Fin 10, ten.extract k.val (k.val + 1) = bsR (digR k.val) := by decide +kernel
theorem dig_two : ∀ k : Fin 100, 10 ≤ k.val → (bsR (digR (k.val / 10))) ++ (bsR (digR (k.val % 10))) = bsR (digR k.val) := by decide +kernel
theorem ten_slice (a : Nat) (ha : a < 10) (W0 : World) : (Instr.slice 9 (.string ten) (some (.int .i64 (a : Int))) (some (.int .i64 ((a : Int) + 1))) none).run Tryd.prog W0 = .ok (strR (digR a)) W0 := by
  rw [slice_lh W0 _ ten Tryd.underlying9 _ _ (by omega) (by omega) (by show (a : Int) + 1 ≤ 10; omega)]
  rw [show ((a : Int)).toNat = a by omega, show ((a : Int) + 1).toNat = a + 1 by omega, ten_cut ⟨a, ha⟩]
set_option maxHeartbeats 1000000 in
theorem digits_c (k : Nat) (hk : k < 100) (w : World) : Calls Tryd.prog 20 #[.int .i64 k] w fun e w' => e = .returned (strR (digR k)) ∧ Below w.heap.size w w' := by
  by_cases h : k < 10
  · have e0 : decide ((k : Int) < 10) = true := by simp; omega
    have hsl := fun W0 => ten_slice k h W0
    go_enter Tryd.func20, Tryd.ntmps20
    rw [← ten_eq]
    generalize ten = S at *
    generalize strR (digR k) = v at *
    go_wp2_with fail
    go_ret
    exact ⟨rfl, Below.refl _ _⟩
  · have e0 : decide ((k : Int) < 10) = false := by simp; omega
    obtain ⟨a, ha⟩ : ∃ a : Int, a = ((k / 10 : Nat) : Int) := ⟨_, rfl⟩
    obtain ⟨b, hb⟩ : ∃ b : Int, b = ((k % 10 : Nat) : Int) := ⟨_, rfl⟩
    have HD := Lib.hid (show ten.extract a.toNat (a + 1).toNat ++ ten.extract b.toNat (b + 1).toNat = bsR (digR k) by
      rw [show a.toNat = k / 10 by omega, show (a + 1).toNat = k / 10 + 1 by omega, show b.toNat = k % 10 by omega, show (b + 1).toNat = k % 10 + 1 by omega, ten_cut ⟨k / 10, by omega⟩, ten_cut ⟨k % 10, by omega⟩]
      exact dig_two ⟨k, hk⟩ (by simp only; omega))
    have t1 : IntKind.i64.wrap ((k : Int) / 10) = a := by rw [show (k : Int) / 10 = a by omega]; exact IntWalk.i64_in _ (by omega)
    have t2 : (k : Int).tmod 10 = b := by rw [Int.tmod_eq_emod_of_nonneg (by omega)]; omega
    have t3 : IntKind.i64.wrap (a + 1) = a + 1 := IntWalk.i64_in _ (by omega)
    have t4 : IntKind.i64.wrap (b + 1) = b + 1 := IntWalk.i64_in _ (by omega)
    have s1 : 0 ≤ a := by omega
    have s2 : 0 ≤ a + 1 := by omega
    have s3 : a + 1 ≤ (ten.size : Int) := by show a + 1 ≤ 10; omega
    have s4 : 0 ≤ b := by omega
    have s5 : 0 ≤ b + 1 := by omega
    have s6 : b + 1 ≤ (ten.size : Int) := by show b + 1 ≤ 10; omega
    have s7 : a ≤ a + 1 := by omega
    have s8 : b ≤ b + 1 := by omega
    have s9 : (a + 1).toNat - a.toNat = 1 := by omega
    have s10 : (b + 1).toNat - b.toNat = 1 := by omega
    clear ha hb h
    go_enter Tryd.func20, Tryd.ntmps20
    rw [← ten_eq]
    generalize ten = S at *
    go_wp2_with fail
    refine wp_region_still_lit (by kernel_rfl) (by kernel_rfl) ?_
    iterate 16 still_step
    refine wpStill_nil ?_
    go_wp2_with fail
    go_ret
    exact ⟨ret_s HD.out, (Below.refl _ _).drew⟩
theorem info_str5 : (Tryd.prog.info? 9).map (fun i => (i.zero, i.size, i.bytes)) = some (some (.string ⟨#[]⟩), 1, 16) := by kernel_rfl
set_option maxHeartbeats 1000000 in
set_option maxRecDepth 100000 in
theorem refNames5_c (w : World) : Calls Tryd.prog 8 #[] w fun e w' => e = .returned (.slice (some ⟨w.heap.size, 0, none⟩) 32 32) ∧ w.alloc (.cells (namesR.map strR).toArray 9) = w' := by
  obtain ⟨i0, hi, hz0, hz1, hz2⟩ := info_parts info_str5
  go_enter Tryd.func8, Tryd.ntmps8
  go_upto_region 1 with fail
  apply wp_region_lit
  refine Go.wpList_buildSlice rfl 23 9 32 _ rfl (namesR.map strR).toArray i0 (.string ⟨#[]⟩) Tryd.underlying23 hi hz0 (by rw [hz1]; decide) (by rw [hz1]; decide) (by rw [hz1]; kernel_rfl) ?_
  go_wp2
  go_ret
  exact ⟨rfl, rfl⟩
/-- The program's table of names in memory. -/
def NamesAt (w : World) : Prop := 1 ≤ w.heap.size ∧ ∀ k, k < 32 → w.cell? ⟨0, k, none⟩ = some (strR (nmR k))
theorem NamesAt.low {w w' : World} (h : NamesAt w) (hb : Below w.heap.size w w') : NamesAt w' :=
  ⟨Nat.le_trans h.1 hb.size, fun k hk => (hb.cell (p := ⟨0, k, none⟩) (by have := h.1; show 0 < w.heap.size; omega)).trans (h.2 k hk)⟩
def nameR (i : Int) : List UInt8 := if 0 ≤ i ∧ i < 32 then nmR i.toNat else []
set_option maxHeartbeats 400000 in
theorem name_c (i : Int) (w : World) (h : NamesAt w) : Calls Tryd.prog 11 #[.int .i64 i] w fun e w' => e = .returned (strR (nameR i)) ∧ w = w' := by
  by_cases hi : 0 ≤ i ∧ i < 32
  · have HG := Lib.hid (show nameR i = nmR i.toNat by unfold nameR; rw [if_pos hi])
    have e := inR_iff.2 hi
    obtain ⟨k, rfl⟩ := Int.eq_ofNat_of_zero_le hi.1
    have hk : k < 32 := by omega
    have hk2 : (k : Int) < 32 := by omega
    have hc := h.2 k hk
    rw [HG.out, Int.toNat_natCast]
    generalize strR (nmR k) = v at *
    clear hi HG h
    go_enter Tryd.func11, Tryd.ntmps11
    go_wp2_with fail
    refine (exists_c _ _).mono ?_
    rintro e w1 ⟨rfl, rfl⟩
    go_wp2_with fail
    go_ret
    exact ⟨rfl, rfl⟩
  · have HG := Lib.hid (show nameR i = [] by unfold nameR; rw [if_neg hi])
    have e := inR_no hi
    rw [HG.out]
    clear hi HG h
    go_enter Tryd.func11, Tryd.ntmps11
    go_wp2_with fail
    refine (exists_c _ _).mono ?_
    rintro e w1 ⟨rfl, rfl⟩
    go_wp2_with fail
    go_ret
    exact ⟨rfl, rfl⟩
end Go.Proofs.YtbhmnkamfkadiaaDoor
