/-
  The numbers of layer 6's texts, without the program: what a text's number is by strconv's ParseInt and FormatInt, and by the reference's digits, is the same. The contracts of the reference's digits (layer 6). The contract of the reference's Digits (layer 6). The contract of the reference's Number (layer 6).
-/
import Derived.Lib.ParseIntBTie
import Derived.Lib.ItoaLen
import Derived.Test.YthehcplogkgkeaaGreatDoorRows
import Derived.WalkKit
import Derived.WalkSpells
import Derived.Below
import Derived.Lib.Hide
import Derived.IntWalk
import Derived.Laws.Rows
import Derived.Lib.IndexBytes
set_option maxRecDepth 4000
namespace Go.Proofs.YthehcplogkgkeaaGreatDoor
namespace Num
open Go.Lib

def valFrom (acc : Nat) (l : List UInt8) : Nat := l.foldl (fun a c => a * 10 + (c.toNat - 48)) acc
def isDig (c : UInt8) : Bool := 48 ≤ c.toNat && c.toNat ≤ 57

theorem valFrom_nil (a : Nat) : valFrom a [] = a := rfl
theorem valFrom_cons (a : Nat) (c : UInt8) (r : List UInt8) : valFrom a (c :: r) = valFrom (a * 10 + (c.toNat - 48)) r := by unfold valFrom; rw [List.foldl_cons]
theorem valFrom_snoc (a : Nat) (l : List UInt8) (c : UInt8) : valFrom a (l ++ [c]) = valFrom a l * 10 + (c.toNat - 48) := by simp [valFrom, List.foldl_append]
theorem valFrom_ge : ∀ (l : List UInt8) (a : Nat), a ≤ valFrom a l
  | [], a => Nat.le_refl _
  | c :: r, a => by rw [valFrom_cons]; have := valFrom_ge r (a * 10 + (c.toNat - 48)); omega

theorem parseUintM_val (M : Nat) (hM : M ≤ 18446744073709551615) : ∀ (l : List UInt8) (acc : Nat), l.all isDig = true → valFrom acc l ≤ M → parseUintM M acc l = .ok (valFrom acc l)
  | [], acc, _, _ => rfl
  | c :: r, acc, hd, hv => by
    simp only [List.all_cons, Bool.and_eq_true, isDig, decide_eq_true_eq] at hd
    rw [valFrom_cons] at hv ⊢
    have hg := valFrom_ge r (acc * 10 + (c.toNat - 48))
    rw [parseUintM, if_pos hd.1, if_neg (by omega), if_neg (by omega)]
    exact parseUintM_val M hM r _ (by simpa [isDig] using hd.2) hv

theorem dig_ofNat (d : Nat) (h : d < 10) : (UInt8.ofNat (48 + d)).toNat = 48 + d := by
  rw [UInt8.toNat_ofNat']; omega

theorem dec_all (u : Nat) : (decDigits u).all isDig = true := by
  induction u using Nat.strongRecOn with
  | _ u ih =>
    by_cases h : u < 10
    · have := dig_ofNat u h
      rw [decDigits, dif_pos h]; simp only [List.all_cons, List.all_nil, Bool.and_true, isDig, this, Bool.and_eq_true, decide_eq_true_eq]; omega
    · rw [decDigits, dif_neg h, List.all_append, ih (u / 10) (by omega)]
      have := dig_ofNat (u % 10) (by omega)
      simp only [List.all_cons, List.all_nil, Bool.and_true, Bool.true_and, isDig, this, Bool.and_eq_true, decide_eq_true_eq]; omega

theorem dec_val (u : Nat) : valFrom 0 (decDigits u) = u := by
  induction u using Nat.strongRecOn with
  | _ u ih =>
    by_cases h : u < 10
    · rw [decDigits, dif_pos h, valFrom_cons, valFrom_nil, dig_ofNat u h]; omega
    · rw [decDigits, dif_neg h, valFrom_snoc, ih (u / 10) (by omega), dig_ofNat (u % 10) (by omega)]; omega

theorem nDig_le : ∀ (k u : Nat), u < 10 ^ (k + 1) → nDigits u ≤ k + 1
  | 0, u, h => by rw [nDigits_small (by simpa using h)]; exact Nat.le_refl _
  | k + 1, u, h => by
    by_cases h10 : u < 10
    · rw [nDigits_small h10]; omega
    · rw [nDigits_big h10]
      have := nDig_le k (u / 10) (by rw [Nat.pow_succ] at h; omega)
      omega

theorem dec_len (u : Nat) (h : u ≤ 9223372036854775808) : 1 ≤ (decDigits u).length ∧ (decDigits u).length ≤ 19 := by
  rw [decDigits_length]; exact ⟨nDigits_pos u, nDig_le 18 u (by omega)⟩

theorem dec_head (u : Nat) : ∃ c r, decDigits u = c :: r ∧ 48 ≤ c.toNat ∧ c.toNat ≤ 57 := by
  have ha := dec_all u
  have hl := nDigits_pos u
  rw [← decDigits_length] at hl
  match h : decDigits u with
  | [] => rw [h] at hl; simp at hl
  | c :: r => rw [h] at ha; simp [isDig] at ha; exact ⟨c, r, rfl, ha.1.1, ha.1.2⟩

theorem uintB_dec (u : Nat) (h : u ≤ 9223372036854775808) : parseUintB 64 (decDigits u) = .ok u := by
  obtain ⟨c, r, he, _, _⟩ := dec_head u
  have hne : decDigits u ≠ [] := by rw [he]; simp
  rw [parseUintB, if_neg hne, parseUintM_val _ (by decide) _ _ (dec_all u) (by rw [dec_val]; omega), dec_val]

/-- what is written is read by ParseInt as it was. -/
theorem parse_itoa (n : Int) (h0 : -9223372036854775808 ≤ n) (h1 : n ≤ 9223372036854775807) : parseIntB 64 (itoa n) = .ok n := by
  unfold itoa
  by_cases hn : n < 0
  · rw [if_pos hn, parseIntB_minus, uintB_dec _ (by omega), signedC]
    rw [if_neg (by omega)]; congr 1; omega
  · rw [if_neg hn]
    obtain ⟨c, r, he, c0, c1⟩ := dec_head n.toNat
    have hu := uintB_dec n.toNat (by omega)
    rw [he] at hu ⊢
    rw [parseIntB_plain _ _ _ (by omega) (by omega), hu, signlessC, if_neg (by omega)]; congr 1; omega

/-- the number of a text, by ParseInt and FormatInt. -/
def numP (l : List UInt8) : Option Int :=
  if 20 < l.length then none else
  match parseIntB 64 l with
  | .ok n => if itoa n = l then some n else none
  | _ => none

/-- the number of a text, by the reference's digits. -/
def negP (l : List UInt8) : Bool := l.head? == some 45
def restP (l : List UInt8) : List UInt8 := if negP l then l.tail else l
def valP (l : List UInt8) : Int := if negP l then -(valFrom 0 (restP l) : Int) else (valFrom 0 (restP l) : Int)
def goodP (l : List UInt8) : Bool :=
  !(decide ((restP l).length < 1) || decide (19 < (restP l).length)) && (restP l).all isDig &&
    !(decide (9223372036854775808 < valFrom 0 (restP l)) || (!negP l && decide (9223372036854775807 < valFrom 0 (restP l))))
def numR (l : List UInt8) : Option Int := if goodP l then (if itoa (valP l) = l then some (valP l) else none) else none

theorem itoa_parts (n : Int) : negP (itoa n) = decide (n < 0) ∧ restP (itoa n) = decDigits n.natAbs := by
  unfold itoa
  by_cases hn : n < 0
  · rw [if_pos hn]; simp [negP, restP, hn]
  · rw [if_neg hn]
    obtain ⟨c, r, he, c0, c1⟩ := dec_head n.toNat
    have hc : c ≠ 45 := by rintro rfl; exact absurd c0 (by decide)
    have h2 : n.natAbs = n.toNat := by omega
    rw [h2, he]
    have : negP (c :: r) = false := by simp [negP, hc]
    simp [restP, this]; omega

theorem good_itoa (n : Int) (h0 : -9223372036854775808 ≤ n) (h1 : n ≤ 9223372036854775807) : goodP (itoa n) = true ∧ valP (itoa n) = n := by
  obtain ⟨ha, hb⟩ := itoa_parts n
  obtain ⟨l0, l1⟩ := dec_len n.natAbs (by omega)
  constructor
  · have e1 : decide ((decDigits n.natAbs).length < 1) = false := decide_eq_false (by omega)
    have e2 : decide (19 < (decDigits n.natAbs).length) = false := decide_eq_false (by omega)
    have e3 : decide (9223372036854775808 < n.natAbs) = false := decide_eq_false (by omega)
    rw [goodP, ha, hb, dec_all, dec_val, e1, e2, e3]
    by_cases hn : n < 0
    · rw [decide_eq_true hn]; rfl
    · have e4 : decide (9223372036854775807 < n.natAbs) = false := decide_eq_false (by omega)
      rw [decide_eq_false hn, e4]; rfl
  · rw [valP, ha, hb, dec_val]
    by_cases hn : n < 0
    · simp [hn]; omega
    · simp [hn]; omega

theorem good_range (l : List UInt8) (h : goodP l = true) : -9223372036854775808 ≤ valP l ∧ valP l ≤ 9223372036854775807 := by
  simp only [goodP, Bool.and_eq_true, Bool.not_eq_true', Bool.or_eq_false_iff, decide_eq_false_iff_not, Bool.and_eq_false_iff] at h
  unfold valP
  cases hb : negP l
  · rw [hb] at h; simp at h ⊢; omega
  · simp; omega

/-- both are the same. -/
theorem num_eq (l : List UInt8) : numP l = numR l := by
  have key : ∀ n, numP l = some n ↔ numR l = some n := by
    intro n
    constructor
    · intro h
      unfold numP at h
      split at h
      · cases h
      · split at h
        · rename_i v hv
          split at h
          · rename_i hi
            cases h
            obtain ⟨b0, b1⟩ := parseIntB_bounds hv
            obtain ⟨g, gv⟩ := good_itoa n (by simpa using b0) (by simp at b1; omega)
            rw [hi] at g gv
            rw [numR, g, gv, hi]; simp
          · cases h
        · cases h
    · intro h
      unfold numR at h
      split at h
      · rename_i hg
        split at h
        · rename_i hi
          cases h
          obtain ⟨r0, r1⟩ := good_range l hg
          have hp := parse_itoa _ r0 r1
          have hl : (itoa (valP l)).length ≤ 20 := by
            unfold itoa
            split
            · have := (dec_len (valP l).natAbs (by omega)).2; simp; omega
            · have := (dec_len (valP l).toNat (by omega)).2; omega
          rw [hi] at hp hl
          rw [numP, if_neg (by omega), hp]
          simp [hi]
        · cases h
      · cases h
  cases h : numR l with
  | some n => exact (key n).mpr h
  | none =>
    cases h2 : numP l with
    | none => rfl
    | some n => rw [(key n).mp h2] at h; cases h

end Num
end Go.Proofs.YthehcplogkgkeaaGreatDoor
set_option maxRecDepth 4000
namespace Go.Proofs.YthehcplogkgkeaaGreatDoor
open Go.ChangeShapes Go.WideShapes Go.RowKit

namespace Num
open Go.Lib
def dg6 (a : Nat) : UInt8 := UInt8.ofNat (48 + a)
def preOf (m : Nat) : List UInt8 := if m < 10 then [] else decDigits (m / 10)
theorem dec_pre (m : Nat) : decDigits m = preOf m ++ [dg6 (m % 10)] := by
  unfold preOf dg6
  by_cases h : m < 10
  · rw [if_pos h, decDigits, dif_pos h, Nat.mod_eq_of_lt h]; rfl
  · rw [if_neg h, decDigits, dif_neg h]
theorem pre_step (m : Nat) (h : ¬ m < 10) : preOf m = preOf (m / 10) ++ [dg6 (m / 10 % 10)] := by
  rw [← dec_pre, preOf, if_neg h]
def ten6 : ByteArray := { data := #[48, 49, 50, 51, 52, 53, 54, 55, 56, 57] }
theorem ten6_eq : ten6 = { data := #[48, 49, 50, 51, 52, 53, 54, 55, 56, 57] } := rfl
theorem cut_dig : ∀ d : Fin 10, ten6.extract d.val (d.val + 1) = ⟨#[dg6 d.val]⟩ := by decide +kernel
def bs6 (l : List UInt8) : ByteArray := ⟨l.toArray⟩
theorem bs6_cons (c : UInt8) (l : List UInt8) : bs6 [c] ++ bs6 l = bs6 (c :: l) := by
  apply ByteArray.ext; simp [bs6, ByteArray.data_append]
theorem slice_lhu {P : Program} (w : World) (t : TypeId) (s : ByteArray) (ht : P.underlying t = some .string) (l h : Int) (h0 : 0 ≤ l) (h1 : l ≤ h) (h2 : h ≤ s.size) :
    (Instr.slice t (.string s) (some (.int .u64 l)) (some (.int .u64 h)) none).run P w = .ok (.string (s.extract l.toNat h.toNat)) w := by
  have eh : (h.toNat : Int) = h := Int.toNat_of_nonneg (by omega)
  simp [Instr.slice, run_underlying ht, Instr.sliceBounds, run_sliceBound, *, (by omega : 0 ≤ h)]
theorem ten6_slice (a : Nat) (ha : a < 10) (W0 : World) : (Instr.slice 9 (.string ten6) (some (.int .u64 (a : Int))) (some (.int .u64 ((a : Int) + 1))) none).run Tryz.prog W0 = .ok (.string (bs6 [dg6 a])) W0 := by
  rw [slice_lhu W0 _ ten6 Tryz.underlying9 _ _ (by omega) (by omega) (by show (a : Int) + 1 ≤ 10; omega)]
  rw [show ((a : Int)).toNat = a by omega, show ((a : Int) + 1).toNat = a + 1 by omega, cut_dig ⟨a, ha⟩]; rfl
end Num
open Num

set_option maxHeartbeats 2000000 in
theorem refPlain6_c (n : Nat) (hn : n < 18446744073709551616) (w : World) : Calls Tryz.prog 47 #[.int .u64 n] w fun e w' => e = .returned (.string (bs6 (Lib.decDigits n))) ∧ w' = w := by
  obtain ⟨d, hd⟩ : ∃ d : Nat, d = n % 10 := ⟨_, rfl⟩
  have hd10 : d < 10 := by omega
  have t2 : (n : Int).tmod 10 = (d : Int) := by rw [Int.tmod_eq_emod_of_nonneg (by omega)]; omega
  have t4 : IntKind.u64.wrap ((d : Int) + 1) = (d : Int) + 1 := IntWalk.u64_in _ (by omega)
  have hsl := fun W0 => ten6_slice d hd10 W0
  have H0 := Lib.hid (show Lib.decDigits n = preOf n ++ [dg6 d] by rw [hd]; exact dec_pre n)
  clear hd
  go_enter Tryz.func47, Tryz.ntmps47
  rw [← ten6_eq]
  have HS := Lib.hid ten6_slice
  generalize ten6 = S at *
  go_wp2_with fail
  go_loop [0, 4] (fun a b => ∃ (m : Nat) (l : List UInt8), m ≤ n ∧ a = .int .u64 m ∧ b = .string (bs6 l) ∧ Lib.decDigits n = preOf m ++ l) (fun a _ => (intOf a).toNat)
  case atStart => exact ⟨n, _, Nat.le_refl _, rfl, rfl, H0.out⟩
  case round =>
    obtain ⟨m, l, hm, rfl, rfl, hq⟩ := hrel
    have HQ := Lib.hid hq
    have HM := Lib.hid hm
    clear hq hm t2 t4 hsl
    by_cases h : m < 10
    · have e0 : decide ((9 : Int) < (m : Int)) = false := by simp; omega
      have HE := Lib.hid (show bs6 l = bs6 (Lib.decDigits n) by rw [HQ.out, preOf, if_pos h]; rfl)
      clear h
      generalize bs6 l = B at *
      go_wp2_with fail
      go_ret
      exact ⟨by rw [HE.out]; rfl, rfl⟩
    · have e0 : decide ((9 : Int) < (m : Int)) = true := by simp; omega
      obtain ⟨k, hk⟩ : ∃ k : Nat, k = m / 10 := ⟨_, rfl⟩
      obtain ⟨c, hc⟩ : ∃ c : Nat, c = k % 10 := ⟨_, rfl⟩
      have hc10 : c < 10 := by omega
      have hmn := HM.out
      have t1 : IntKind.u64.wrap ((m : Int) / 10) = (k : Int) := by rw [show (m : Int) / 10 = (k : Int) by omega]; exact IntWalk.u64_in _ (by omega)
      have t1' : IntKind.u64.wrap ((m : Int).tdiv 10) = (k : Int) := by rw [Int.tdiv_eq_ediv_of_nonneg (by omega)]; exact t1
      have t2 : (k : Int).tmod 10 = (c : Int) := by rw [Int.tmod_eq_emod_of_nonneg (by omega)]; omega
      have t4 : IntKind.u64.wrap ((c : Int) + 1) = (c : Int) + 1 := IntWalk.u64_in _ (by omega)
      have hsl := fun W0 => HS.out c hc10 W0
      have HN := Lib.hid (show k ≤ n ∧ k < m ∧ Lib.decDigits n = preOf k ++ (dg6 c :: l) by
        refine ⟨by omega, by omega, ?_⟩
        rw [HQ.out, pre_step m h, hc, hk]; simp)
      have HZ := Lib.hid (show (bs6 [dg6 c]).size + (bs6 l).size ≤ 21 by
        have h1 := Lib.nDigits_le20 n hn
        rw [← Lib.decDigits_length, HQ.out, List.length_append] at h1
        show 1 + l.toArray.size ≤ 21
        simp; omega)
      have HB := Lib.hid (bs6_cons (dg6 c) l)
      clear h hk hc hmn
      generalize bs6 [dg6 c] = b1 at *
      generalize hl : bs6 l = b2 at *
      go_wp2_with fail
      · exact absurd ‹9223372036854775807 < b1.size + b2.size› (by have := HZ.out; omega)
      · go_round
        case rel => exact ⟨k, dg6 c :: l, HN.out.1, rfl, by rw [← HB.out], HN.out.2.2⟩
        case measure => have := HN.out.2.1; simp [intOf]; omega

end Go.Proofs.YthehcplogkgkeaaGreatDoor
set_option maxRecDepth 4000
namespace Go.Proofs.YthehcplogkgkeaaGreatDoor
open Go.ChangeShapes Go.WideShapes Go.RowKit Num

namespace Num
theorem itoa_lt (n : Int) (h : n < 0) : bs6 [45] ++ bs6 (Lib.decDigits n.natAbs) = bs6 (Lib.itoa n) := by rw [bs6_cons, Lib.itoa, if_pos h]
theorem itoa_ge (n : Int) (h : ¬ n < 0) : bs6 (Lib.decDigits n.natAbs) = bs6 (Lib.itoa n) := by rw [Lib.itoa, if_neg h, show n.natAbs = n.toNat by omega]
theorem bs6_45 : bs6 [45] = { data := #[45] } := rfl
theorem dig_size (u : Nat) (h : u < 18446744073709551616) : (bs6 [45]).size + (bs6 (Lib.decDigits u)).size ≤ 21 := by
  have h1 := Lib.nDigits_le20 u h
  rw [← Lib.decDigits_length] at h1
  show 1 + (Lib.decDigits u).toArray.size ≤ 21
  simp; omega
end Num

set_option maxHeartbeats 2000000 in
theorem refDigits6_c (n : Int) (h0 : -9223372036854775808 ≤ n) (h1 : n ≤ 9223372036854775807) (w : World) :
    Calls Tryz.prog 28 #[.int .i64 n] w fun e w' => e = .returned (.string (bs6 (Lib.itoa n))) ∧ w' = w := by
  by_cases hn : n < 0
  · have e0 : decide (n < 0) = true := decide_eq_true hn
    obtain ⟨u, hu⟩ : ∃ u : Nat, u = n.natAbs := ⟨_, rfl⟩
    obtain ⟨x, hx⟩ : ∃ x : Int, x = n + 18446744073709551616 := ⟨_, rfl⟩
    have t1 : IntKind.u64.wrap n = x := by rw [hx]; simp [IntKind.wrap, IntKind.signed, IntKind.bits]; omega
    have t2 : IntKind.u64.wrap (0 - x) = (u : Int) := by simp [IntKind.wrap, IntKind.signed, IntKind.bits]; omega
    have t3 : IntKind.u64.wrap (-x) = (u : Int) := by simpa using t2
    have hb : u < 18446744073709551616 := by omega
    have HE := Lib.hid (itoa_lt n hn)
    have HZ := Lib.hid (dig_size u hb)
    rw [← hu] at HE
    clear hu hx
    go_enter Tryz.func28, Tryz.ntmps28
    rw [← bs6_45]
    generalize bs6 [45] = b1 at *
    go_wp2_with fail
    refine (refPlain6_c u hb _).mono ?_
    rintro e w1 ⟨rfl, rfl⟩
    generalize bs6 (Lib.decDigits u) = b2 at *
    go_wp2_with fail
    · exact absurd ‹9223372036854775807 < b1.size + b2.size› (by have := HZ.out; omega)
    · go_ret
      exact ⟨by rw [← HE.out]; rfl, rfl⟩
  · have e0 : decide (n < 0) = false := decide_eq_false hn
    obtain ⟨u, hu⟩ : ∃ u : Nat, u = n.natAbs := ⟨_, rfl⟩
    have t1 : IntKind.u64.wrap n = (u : Int) := by simp [IntKind.wrap, IntKind.signed, IntKind.bits]; omega
    have hb : u < 18446744073709551616 := by omega
    have HE := Lib.hid (itoa_ge n hn)
    rw [← hu] at HE
    clear hu hn
    go_enter Tryz.func28, Tryz.ntmps28
    go_wp2_with fail
    refine (refPlain6_c u hb _).mono ?_
    rintro e w1 ⟨rfl, rfl⟩
    generalize bs6 (Lib.decDigits u) = b2 at *
    go_wp2_with fail
    go_ret
    exact ⟨by rw [← HE.out]; rfl, rfl⟩
end Go.Proofs.YthehcplogkgkeaaGreatDoor
set_option maxRecDepth 4000
namespace Go.Proofs.YthehcplogkgkeaaGreatDoor
open Go.ChangeShapes Go.WideShapes Go.RowKit Num

namespace Num
def numV (o : Option Int) : Value := .tuple #[.int .i64 (o.getD 0), .bool o.isSome]
theorem numV_none : numV none = .tuple #[.int .i64 0, .bool false] := rfl
theorem numV_some (n : Int) : numV (some n) = .tuple #[.int .i64 n, .bool true] := rfl
/-- the digits up to a place. -/
theorem val_take (t : List UInt8) (k : Nat) (hk : k < t.length) : valFrom 0 (t.take (k + 1)) = valFrom 0 (t.take k) * 10 + ((t[k]'hk).toNat - 48) := by
  rw [List.take_succ_eq_append_getElem hk, valFrom_snoc]
theorem val_lt : ∀ (t : List UInt8) (a : Nat), t.all isDig = true → valFrom a t < (a + 1) * 10 ^ t.length
  | [], a, _ => by simp [valFrom]
  | c :: r, a, h => by
    simp only [List.all_cons, Bool.and_eq_true, isDig, decide_eq_true_eq] at h
    have h2 := val_lt r (a * 10 + (c.toNat - 48)) (by simpa [isDig] using h.2)
    rw [valFrom_cons, List.length_cons, Nat.pow_succ]
    refine Nat.lt_of_lt_of_le h2 ?_
    rw [Nat.mul_comm (10 ^ r.length) 10, ← Nat.mul_assoc]
    exact Nat.mul_le_mul_right _ (by omega)
end Num

namespace Num
theorem numR_of (t : List UInt8) (h : goodP t = false) : numR t = none := by rw [numR, h]; rfl
theorem numR_len (t : List UInt8) (h : (restP t).length < 1 ∨ 19 < (restP t).length) : numR t = none := by
  refine numR_of t ?_
  have h2 : (decide ((restP t).length < 1) || decide (19 < (restP t).length)) = true := by simp only [Bool.or_eq_true, decide_eq_true_eq]; exact h
  rw [goodP, h2]; rfl
theorem numR_dig (t : List UInt8) (k : Nat) (hk : k < (restP t).length) (h : ((restP t)[k]).toNat < 48 ∨ 57 < ((restP t)[k]).toNat) : numR t = none := by
  refine numR_of t ?_
  have h2 : (restP t).all isDig = false := by
    rw [List.all_eq_false]
    refine ⟨_, List.getElem_mem hk, ?_⟩
    simp only [isDig, Bool.and_eq_true, decide_eq_true_eq]; omega
  rw [goodP, h2, Bool.and_false]; rfl
theorem numR_big (t : List UInt8) (h : 9223372036854775808 < valFrom 0 (restP t) ∨ (negP t = false ∧ 9223372036854775807 < valFrom 0 (restP t))) : numR t = none := by
  refine numR_of t ?_
  have h2 : (decide (9223372036854775808 < valFrom 0 (restP t)) || (!negP t && decide (9223372036854775807 < valFrom 0 (restP t)))) = true := by
    rcases h with h | ⟨h, h3⟩
    · rw [decide_eq_true h]; rfl
    · rw [h, decide_eq_true h3]; simp
  rw [goodP, h2, Bool.not_true, Bool.and_false]
theorem take_dig (t : List UInt8) (k : Nat) (hk : k < t.length) (hd : (t.take k).all isDig = true) (h : 48 ≤ (t[k]).toNat ∧ (t[k]).toNat ≤ 57) : (t.take (k + 1)).all isDig = true := by
  rw [List.take_succ_eq_append_getElem hk, List.all_append, hd]
  simp [isDig, h]
theorem take_lt (t : List UInt8) (k : Nat) (hk : k ≤ 18) (hd : (t.take k).all isDig = true) : valFrom 0 (t.take k) < 1000000000000000000 := by
  have h := val_lt (t.take k) 0 hd
  have h2 : 10 ^ (t.take k).length ≤ 10 ^ 18 := Nat.pow_le_pow_right (by decide) (by rw [List.length_take]; omega)
  have h3 : (10 : Nat) ^ 18 = 1000000000000000000 := by decide
  rw [h3] at h2
  omega
theorem bs6_beq (a b : List UInt8) : ((bs6 a).toList == (bs6 b).toList) = (a == b) := by rw [ByteArray.toList_eq, ByteArray.toList_eq]; rfl
theorem numR_fin (t : List UInt8) (hd : (restP t).all isDig = true) (hl : 1 ≤ (restP t).length ∧ (restP t).length ≤ 19)
    (h : ¬ (9223372036854775808 < valFrom 0 (restP t) ∨ (negP t = false ∧ 9223372036854775807 < valFrom 0 (restP t)))) : numR t = if Lib.itoa (valP t) == t then some (valP t) else none := by
  have h1 : goodP t = true := by
    have e1 : decide ((restP t).length < 1) = false := decide_eq_false (by omega)
    have e2 : decide (19 < (restP t).length) = false := decide_eq_false (by omega)
    have e3 : decide (9223372036854775808 < valFrom 0 (restP t)) = false := decide_eq_false (by omega)
    rw [goodP, hd, e1, e2, e3]
    cases hn : negP t
    · have e4 : decide (9223372036854775807 < valFrom 0 (restP t)) = false := decide_eq_false (fun h2 => h (Or.inr ⟨hn, h2⟩))
      rw [e4]; rfl
    · rfl
  rw [numR, h1, if_pos rfl]
  by_cases h2 : Lib.itoa (valP t) = t
  · rw [if_pos h2, if_pos (by simpa using h2)]
  · rw [if_neg h2, if_neg (by simpa using h2)]
theorem ext_tail (c : UInt8) (r : List UInt8) : (bs6 (c :: r)).extract 1 (bs6 (c :: r)).size = bs6 r := by
  apply bytes_inj
  rw [Lib.extract_to_end]; rfl
theorem byte_at {B : ByteArray} {t : List UInt8} (hB : bs6 t = B) (k : Nat) (h : k < B.size) (h2 : k < t.length) : B[k] = t[k] := by subst hB; rfl
theorem head45 {B : ByteArray} {t : List UInt8} (hB : bs6 t = B) (h : 0 < B.size) : (((B[0].toNat : Nat) : Int) == 45) = negP t := by
  subst hB
  match t, h with
  | c :: r, h =>
    show (((c.toNat : Nat) : Int) == 45) = ((some c : Option UInt8) == some 45)
    by_cases h : c = 45
    · rw [h]; rfl
    · have : c.toNat ≠ 45 := fun h2 => h (UInt8.toNat_inj.mp h2)
      have h3 : ((some c : Option UInt8) == some 45) = false := by simpa using h
      rw [h3, beq_eq_false_iff_ne]; omega
theorem bs6_size (l : List UInt8) : (bs6 l).size = l.length := List.size_toArray
end Num

set_option maxHeartbeats 4000000 in
theorem refNumber6_c (l : List UInt8) (hl : l.length ≤ 4294967296) (w : World) :
    Calls Tryz.prog 11 #[.string (bs6 l)] w fun e w' => e = .returned (numV (numR l)) ∧ w' = w := by
  have hs := bs6_size l
  rcases l with _ | ⟨c, r⟩
  · have HV := Lib.hid (show numV (numR []) = .tuple #[.int .i64 0, .bool false] by rw [show numR [] = none from by simp [numR, goodP, restP, negP]]; rfl)
    generalize numV (numR []) = v at *
    have e1 : decide ((0 : Int) < ((bs6 []).size : Int)) = false := by rw [hs]; rfl
    have e2 : decide (((bs6 []).size : Int) < 1) = true := by rw [hs]; rfl
    have e3 : ¬ (0 < (bs6 []).size) := by rw [hs]; decide
    clear hs
    generalize bs6 [] = B at *
    go_enter Tryz.func11, Tryz.ntmps11
    go_wp2_with fail
    go_ret2
    exact ⟨by rw [HV.out]; rfl, rfl⟩
  · have e0 : 0 < (bs6 (c :: r)).size := by rw [hs]; simp
    have e1 : decide ((0 : Int) < ((bs6 (c :: r)).size : Int)) = true := by simp; omega
    by_cases h : c = 45
    · subst h
      have hN : negP (45 :: r) = true := rfl
      have hR : restP (45 :: r) = r := rfl
      have hB2 := ext_tail 45 r
      generalize 45 :: r = L at *
      generalize r = t at *
      obtain ⟨v, HV0⟩ : ∃ v, v = numV (numR L) := ⟨_, rfl⟩
      rw [← HV0]
      have HV := Lib.hid HV0
      have HR := Lib.hid hR
      have HN := Lib.hid hN
      have HT0 := Lib.hid (bs6_size t)
      clear HV0 hR hN hs
      generalize hB0 : bs6 L = B at *
      generalize hB : bs6 t = T at *
      have HB := Lib.hid hB
      have HB0 := Lib.hid hB0
      have HS := HT0
      have hc : ((B[0].toNat : Int) == 45) = true := (head45 hB0 e0).trans HN.out
      clear hB hB0 HT0
      go_enter Tryz.func11, Tryz.ntmps11
      go_wp2_with fail
      · go_ret2
        refine ⟨?_, rfl⟩
        rw [HV.out, numR_len L (by rw [HR.out]; have := HS.out; omega)]
        rfl
      rotate_left
      · go_ret2
        refine ⟨?_, rfl⟩
        rw [HV.out, numR_len L (by rw [HR.out]; have := HS.out; omega)]
        rfl
      go_loop [6, 7] (fun a i => ∃ k : Nat, k ≤ t.length ∧ i = .int .i64 k ∧ a = .int .u64 (valFrom 0 (t.take k) : Nat) ∧ (t.take k).all isDig = true) (fun _ i => 20 - (intOf i).toNat)
      case atStart => exact ⟨0, by omega, rfl, rfl, rfl⟩
      case round =>
        obtain ⟨k, hk, rfl, rfl, hd⟩ := hrel
        have HD := Lib.hid hd
        clear hd
        by_cases hkl : k < t.length
        · have g0 : k < T.size := by rw [HS.out]; exact hkl
          have g1 : decide ((k : Int) < (T.size : Int)) = true := by simp; omega
          obtain ⟨x, hx⟩ : ∃ x : Nat, x = (t[k]'hkl).toNat := ⟨_, rfl⟩
          have hbx : ((T[k]'g0).toNat : Int) = (x : Int) := by rw [hx, byte_at HB.out k g0 hkl]
          have HX := Lib.hid (show ∃ h : k < t.length, x = (t[k]'h).toNat from ⟨hkl, hx⟩)
          have HT := Lib.hid (show valFrom 0 (t.take (k + 1)) = valFrom 0 (t.take k) * 10 + (x - 48) by rw [val_take t k hkl, hx])
          have hy := take_lt t k (by have := HS.out; omega) HD.out
          have HG := Lib.hid (show 48 ≤ x → x ≤ 57 → (t.take (k + 1)).all isDig = true by intro a b; exact take_dig t k hkl HD.out (by omega))
          clear hx hkl
          generalize valFrom 0 (t.take k) = y at *
          by_cases hxa : x < 48
          · have q1 : decide ((x : Int) < 48) = true := by simp; omega
            go_wp2_with fail
            go_ret2
            refine ⟨?_, rfl⟩
            obtain ⟨hL, hE⟩ := HX.out
            rw [HV.out, numR_dig L k (by rw [HR.out]; exact hL) (by simp only [HR.out]; omega)]
            rfl
          · have q1 : decide ((x : Int) < 48) = false := by simp; omega
            by_cases hxb : 57 < x
            · have q2 : decide ((57 : Int) < (x : Int)) = true := by simp; omega
              go_wp2_with fail
              go_ret2
              refine ⟨?_, rfl⟩
              obtain ⟨hL, hE⟩ := HX.out
              rw [HV.out, numR_dig L k (by rw [HR.out]; exact hL) (by simp only [HR.out]; omega)]
              rfl
            · have q2 : decide ((57 : Int) < (x : Int)) = false := by simp; omega
              have q3 : IntKind.u8.wrap ((x : Int) - 48) = (x : Int) - 48 := by simp [IntKind.wrap, IntKind.signed, IntKind.bits]; omega
              have q4 : IntKind.u64.wrap ((x : Int) - 48) = (x : Int) - 48 := by simp [IntKind.wrap, IntKind.signed, IntKind.bits]; omega
              have q5 : IntKind.u64.wrap (10 * (y : Int)) = 10 * (y : Int) := by simp [IntKind.wrap, IntKind.signed, IntKind.bits]; omega
              have q6 : IntKind.u64.wrap (10 * (y : Int) + ((x : Int) - 48)) = 10 * (y : Int) + ((x : Int) - 48) := by simp [IntKind.wrap, IntKind.signed, IntKind.bits]; omega
              go_wp2_with fail
              go_round
              case rel =>
                obtain ⟨hL, hE⟩ := HX.out
                exact ⟨k + 1, by omega, by go_num, by rw [HT.out]; congr 1; omega, HG.out (by omega) (by omega)⟩
              case measure => have := HS.out; simp [intOf]; omega
        · have g1 : decide ((k : Int) < (T.size : Int)) = false := by simp; have := HS.out; omega
          have g0 : ¬ k < T.size := by have := HS.out; omega
          have g2 : decide (k < T.size) = false := decide_eq_false g0
          have hkt : k = t.length := by omega
          have ht : t.take k = t := by rw [hkt, List.take_length]
          have hD := HD.out
          rw [ht] at hD ⊢
          clear ht hkt hkl HD
          have HY := Lib.hid (show valFrom 0 (restP L) = valFrom 0 t by rw [HR.out])
          have HP := Lib.hid (show valP L = -(valFrom 0 t : Int) by rw [valP, HN.out, HR.out]; rfl)
          have HF := Lib.hid (numR_fin L (by rw [HR.out]; exact hD) (by rw [HR.out]; have := HS.out; omega))
          clear hD
          generalize valFrom 0 t = y at *
          by_cases hp : 9223372036854775808 < y
          · have p1 : decide ((9223372036854775808 : Int) < (y : Int)) = true := by simp; omega
            go_wp2_with fail
            go_ret2
            refine ⟨?_, rfl⟩
            rw [HV.out, numR_big L (by rw [HY.out]; exact Or.inl hp)]
            rfl
          · have p1 : decide ((9223372036854775808 : Int) < (y : Int)) = false := by simp; omega
            obtain ⟨z, hz0⟩ : ∃ z : Int, z = IntKind.u64.wrap (0 - (y : Int)) := ⟨_, rfl⟩
            obtain ⟨n, hn0⟩ : ∃ n : Int, n = -(y : Int) := ⟨_, rfl⟩
            have p3 : IntKind.u64.wrap (0 - (y : Int)) = z := hz0.symm
            have p3' : IntKind.u64.wrap (-(y : Int)) = z := by simpa using p3
            have p6 : IntKind.i64.wrap z = n := by rw [hz0, hn0]; simp [IntKind.wrap, IntKind.signed, IntKind.bits]; omega
            have p7 : ∃ u : Int, u = IntKind.i64.wrap (y : Int) := ⟨_, rfl⟩
            obtain ⟨u, hu⟩ := p7
            have p8 : IntKind.i64.wrap (y : Int) = u := hu.symm
            have p4 := HF.out (by rw [HY.out, HN.out]; simp; omega)
            rw [HP.out, ← hn0] at p4
            have p5 : ((bs6 (Lib.itoa n)).toList == B.toList) = (Lib.itoa n == L) := by rw [← HB0.out]; exact bs6_beq _ _
            have H4 := Lib.hid p4
            clear p4
            have hy1 : -9223372036854775808 ≤ n := by omega
            have hy2 : n ≤ 9223372036854775807 := by omega
            clear hp hz0 hn0 hu
            go_wp2_with fail
            refine (refDigits6_c n hy1 hy2 _).mono ?_
            rintro e w1 ⟨rfl, rfl⟩
            generalize bs6 (Lib.itoa n) = D at *
            rcases (show (Lib.itoa n == L) = true ∨ (Lib.itoa n == L) = false by cases (Lib.itoa n == L) <;> simp) with hz | hz
            · rw [hz] at p5 H4
              go_wp2_with fail
              go_ret2
              refine ⟨?_, rfl⟩
              rw [HV.out, H4.out]
              rfl
            · rw [hz] at p5 H4
              go_wp2_with fail
              go_ret2
              refine ⟨?_, rfl⟩
              rw [HV.out, H4.out]
              rfl
    · obtain ⟨t, ht⟩ : ∃ t, t = c :: r := ⟨_, rfl⟩
      have hn : negP t = false := by rw [ht]; simp [negP, h]
      have hr : restP t = t := by rw [restP, hn]; rfl
      clear h
      simp only [← ht] at *
      clear ht
      obtain ⟨v, HV⟩ : ∃ v, v = numV (numR t) := ⟨_, rfl⟩
      rw [← HV]
      have HV2 := Lib.hid HV
      clear HV
      have HV := HV2
      clear HV2
      have HR := Lib.hid hr
      have HN := Lib.hid hn
      have HS := Lib.hid hs
      clear hr hn hs
      generalize hB : bs6 t = B at *
      have HB := Lib.hid hB
      have hc : ((B[0].toNat : Int) == 45) = false := (head45 hB e0).trans HN.out
      clear hB
      go_enter Tryz.func11, Tryz.ntmps11
      go_wp2_with fail
      · go_ret2
        refine ⟨?_, rfl⟩
        rw [HV.out, numR_len t (by rw [HR.out]; have := HS.out; omega)]
        rfl
      go_loop [6, 7] (fun a i => ∃ k : Nat, k ≤ t.length ∧ i = .int .i64 k ∧ a = .int .u64 (valFrom 0 (t.take k) : Nat) ∧ (t.take k).all isDig = true) (fun _ i => 20 - (intOf i).toNat)
      case atStart => exact ⟨0, by omega, rfl, rfl, rfl⟩
      case round =>
        obtain ⟨k, hk, rfl, rfl, hd⟩ := hrel
        have HD := Lib.hid hd
        clear hd
        by_cases hkl : k < t.length
        · have g0 : k < B.size := by rw [HS.out]; exact hkl
          have g1 : decide ((k : Int) < (B.size : Int)) = true := by simp; omega
          obtain ⟨x, hx⟩ : ∃ x : Nat, x = (t[k]'hkl).toNat := ⟨_, rfl⟩
          have hbx : ((B[k]'g0).toNat : Int) = (x : Int) := by rw [hx, byte_at HB.out k g0 hkl]
          have HX := Lib.hid (show ∃ h : k < t.length, x = (t[k]'h).toNat from ⟨hkl, hx⟩)
          have HT := Lib.hid (show valFrom 0 (t.take (k + 1)) = valFrom 0 (t.take k) * 10 + (x - 48) by rw [val_take t k hkl, hx])
          have hy := take_lt t k (by have := HS.out; omega) HD.out
          have HG := Lib.hid (show 48 ≤ x → x ≤ 57 → (t.take (k + 1)).all isDig = true by intro a b; exact take_dig t k hkl HD.out (by omega))
          clear hx hkl
          generalize valFrom 0 (t.take k) = y at *
          by_cases hxa : x < 48
          · have q1 : decide ((x : Int) < 48) = true := by simp; omega
            go_wp2_with fail
            go_ret2
            refine ⟨?_, rfl⟩
            obtain ⟨hL, hE⟩ := HX.out
            rw [HV.out, numR_dig t k (by rw [HR.out]; exact hL) (by simp only [HR.out]; omega)]
            rfl
          · have q1 : decide ((x : Int) < 48) = false := by simp; omega
            by_cases hxb : 57 < x
            · have q2 : decide ((57 : Int) < (x : Int)) = true := by simp; omega
              go_wp2_with fail
              go_ret2
              refine ⟨?_, rfl⟩
              obtain ⟨hL, hE⟩ := HX.out
              rw [HV.out, numR_dig t k (by rw [HR.out]; exact hL) (by simp only [HR.out]; omega)]
              rfl
            · have q2 : decide ((57 : Int) < (x : Int)) = false := by simp; omega
              have q3 : IntKind.u8.wrap ((x : Int) - 48) = (x : Int) - 48 := by simp [IntKind.wrap, IntKind.signed, IntKind.bits]; omega
              have q4 : IntKind.u64.wrap ((x : Int) - 48) = (x : Int) - 48 := by simp [IntKind.wrap, IntKind.signed, IntKind.bits]; omega
              have q5 : IntKind.u64.wrap (10 * (y : Int)) = 10 * (y : Int) := by simp [IntKind.wrap, IntKind.signed, IntKind.bits]; omega
              have q6 : IntKind.u64.wrap (10 * (y : Int) + ((x : Int) - 48)) = 10 * (y : Int) + ((x : Int) - 48) := by simp [IntKind.wrap, IntKind.signed, IntKind.bits]; omega
              go_wp2_with fail
              go_round
              case rel =>
                obtain ⟨hL, hE⟩ := HX.out
                exact ⟨k + 1, by omega, by go_num, by rw [HT.out]; congr 1; omega, HG.out (by omega) (by omega)⟩
              case measure => have := HS.out; simp [intOf]; omega
        · have g1 : decide ((k : Int) < (B.size : Int)) = false := by simp; have := HS.out; omega
          have g0 : ¬ k < B.size := by have := HS.out; omega
          have g2 : decide (k < B.size) = false := decide_eq_false g0
          have hkt : k = t.length := by omega
          have ht : t.take k = t := by rw [hkt, List.take_length]
          have hD := HD.out
          rw [ht] at hD ⊢
          clear ht hkt hkl HD
          have HY := Lib.hid (show valFrom 0 (restP t) = valFrom 0 t by rw [HR.out])
          have HP := Lib.hid (show valP t = (valFrom 0 t : Int) by rw [valP, HN.out, HR.out]; rfl)
          have HF := Lib.hid (numR_fin t (by rw [HR.out]; exact hD) (by rw [HR.out]; have := HS.out; omega))
          clear hD
          generalize valFrom 0 t = y at *
          by_cases hp : 9223372036854775808 < y
          · have p1 : decide ((9223372036854775808 : Int) < (y : Int)) = true := by simp; omega
            go_wp2_with fail
            go_ret2
            refine ⟨?_, rfl⟩
            rw [HV.out, numR_big t (by rw [HY.out]; exact Or.inl hp)]
            rfl
          · have p1 : decide ((9223372036854775808 : Int) < (y : Int)) = false := by simp; omega
            by_cases hq : 9223372036854775807 < y
            · have p2 : decide ((9223372036854775807 : Int) < (y : Int)) = true := by simp; omega
              go_wp2_with fail
              go_ret2
              refine ⟨?_, rfl⟩
              rw [HV.out, numR_big t (by rw [HY.out]; exact Or.inr ⟨HN.out, hq⟩)]
              rfl
            · have p2 : decide ((9223372036854775807 : Int) < (y : Int)) = false := by simp; omega
              have p3 : IntKind.i64.wrap (y : Int) = (y : Int) := IntWalk.i64_in _ (by omega)
              have p4 := HF.out (by rw [HY.out]; omega)
              rw [HP.out] at p4
              have p5 : ((bs6 (Lib.itoa y)).toList == B.toList) = (Lib.itoa y == t) := by rw [← HB.out]; exact bs6_beq _ _
              have H4 := Lib.hid p4
              clear p4
              have hy1 : -9223372036854775808 ≤ (y : Int) := by omega
              have hy2 : (y : Int) ≤ 9223372036854775807 := by omega
              clear hp hq
              go_wp2_with fail
              refine (refDigits6_c y hy1 hy2 _).mono ?_
              rintro e w1 ⟨rfl, rfl⟩
              generalize bs6 (Lib.itoa y) = D at *
              rcases (show (Lib.itoa y == t) = true ∨ (Lib.itoa y == t) = false by cases (Lib.itoa y == t) <;> simp) with hz | hz
              · rw [hz] at p5 H4
                go_wp2_with fail
                go_ret2
                refine ⟨?_, rfl⟩
                rw [HV.out, H4.out]
                rfl
              · rw [hz] at p5 H4
                go_wp2_with fail
                go_ret2
                refine ⟨?_, rfl⟩
                rw [HV.out, H4.out]
                rfl
end Go.Proofs.YthehcplogkgkeaaGreatDoor
