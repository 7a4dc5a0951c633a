/-
  Contracts of package ram (layer 10): Load, Store.
-/
import Derived.Test.YtdlollkieihjpaaRmE
namespace Go.Proofs.Ytdlollkieihjpaa
open Go.ChangeShapes Go.WideShapes Go.ChangeAt Go.RowKit Wd

theorem find_at (i p : Nat) (hp : p < 64) (hi : i < 4096) (w : World) : Calls Try.prog 34 #[.int .u64 (2147483648 + ((64 * i + p : Nat) : Int))] w fun e w' => e = .returned (.tuple #[.int .i64 (i : Int), .int .i64 (p : Int)]) ∧ w = w' :=
  (find_c _ w (by omega) (by omega)).mono fun e w' h => ⟨by
    rw [h.1, show (2147483648 + ((64 * i + p : Nat) : Int) - 2147483648) / 64 = (i : Int) by omega, show (2147483648 + ((64 * i + p : Nat) : Int) - 2147483648) % 64 = (p : Int) by omega], h.2⟩
/-- The number that a memory answers. -/
def ldV (B : List Int) (n : Nat) (x m : Int) : Int := if hasN n x m then Ln.num B (x - 2147483648).toNat m.toNat else 0
theorem addr_of {n : Nat} {x m : Int} (h : hasN n x m = true) : ∃ i p k : Nat, p < 64 ∧ i < n ∧ 1 ≤ k ∧ k ≤ 8 ∧ m = (k : Int) ∧ x = 2147483648 + ((64 * i + p : Nat) : Int) ∧ 64 * i + p + k ≤ 64 * n := by
  obtain ⟨h1, h2, h3, h4⟩ := hasN_iff.1 h
  refine ⟨(x - 2147483648).toNat / 64, (x - 2147483648).toNat % 64, m.toNat, by omega, by omega, by omega, by omega, by omega, by omega, by omega⟩
theorem load_no {w : World} {p : Option Addr} {n : Nat} (h : linesV w p n) (hn : n ≤ 4096) (x m : Int) (hx : 0 ≤ x ∧ x < 18446744073709551616) (hm : -9223372036854775808 ≤ m ∧ m ≤ 9223372036854775807) (hf : hasN n x m = false) :
    Calls Try.prog 16 #[.pointer p, .int .u64 x, .int .i64 m] w fun e w' => e = .returned (.tuple #[.int .u64 0, .bool false]) ∧ w = w' := by
  have H := Lib.hid h
  have HX := Lib.hid hx
  have HM := Lib.hid hm
  have HF := Lib.hid hf
  clear h hx hm hf
  go_enter Try.func16, Try.ntmps16
  go_wp2_with fail
  refine (hasNumber_c H.out hn x m HX.out HM.out).mono ?_
  rintro e w' ⟨rfl, rfl⟩
  rw [HF.out]
  go_wp2_with fail
  go_ret2
  exact ⟨rfl, rfl⟩
theorem or_comm' {x y : Int} (hx0 : 0 ≤ x) (hx : x < 18446744073709551616) (hy0 : 0 ≤ y) (hy : y < 18446744073709551616) : bits .or .u64 x y = bits .or .u64 y x := by
  have a := or_range hx0 hx hy0 hy
  have b := or_range hy0 hy hx0 hx
  exact Wd.ext a.1 a.2 b.1 b.2 fun i _ => by rw [tb_or hx0 hx hy0 hy, tb_or hy0 hy hx0 hx, Bool.or_comm]
theorem or_zero' {y : Int} (hy0 : 0 ≤ y) (hy : y < 18446744073709551616) : bits .or .u64 0 y = y := by
  have a := or_range (x := 0) (by decide) (by decide) hy0 hy
  exact Wd.ext a.1 a.2 hy0 hy fun i _ => by rw [tb_or (by decide) (by decide) hy0 hy, tb_zero, Bool.false_or]
theorem get_nat {ws : List Int} {p m : Nat} (h1 : 1 ≤ m) (h8 : m ≤ 8) (hpm : p + m ≤ 64) : Ln.get ws (p : Int) (m : Int) = Ln.num ws p m := by
  unfold Ln.get
  rw [if_pos (Ln.fits_iff.2 (by omega)), Int.toNat_natCast, Int.toNat_natCast]
theorem num_u64 {B : List Int} {n : Nat} (h : Rm.Ok B n) (a k : Nat) (hk : k ≤ 8) : 0 ≤ Ln.num B a k ∧ Ln.num B a k < 18446744073709551616 := by
  have r := Rm.num_rng h a k
  have := Ln.pow_le hk
  have e : (256 : Int) ^ 8 = 18446744073709551616 := by decide
  omega
/-- A number within one line. -/
theorem load_one {B : List Int} {n : Nat} (h : Rm.Ok B n) (R : List Int) (i p k : Nat) (h1 : 1 ≤ k) (h8 : k ≤ 8) (hpk : p + k ≤ 64) : bits .or .u64 (IntKind.u64.wrap (Ln.get R 0 0 * 2 ^ (8 * k))) (Ln.get (Rm.row B i) (p : Int) (k : Int)) = Ln.num B (64 * i + p) k := by
  have e : Ln.get R 0 0 = 0 := by unfold Ln.get; rw [if_neg (by decide)]
  have r := num_u64 h (64 * i + p) k h8
  rw [e, get_nat h1 h8 hpk, Rm.num_row i p k hpk, Int.zero_mul, show IntKind.u64.wrap 0 = 0 by decide, or_zero' r.1 r.2]
/-- A number in two lines. -/
theorem load_two {B : List Int} {n : Nat} (h : Rm.Ok B n) (i p k : Nat) (hp : p < 64) (h8 : k ≤ 8) (hpk : 64 < p + k) (hi : i + 1 < n) :
    bits .or .u64 (IntKind.u64.wrap (Ln.get (lineAt B n ((i : Int) + 1)) 0 ((k : Int) - (64 - (p : Int))) * 2 ^ (8 * (64 - p)))) (Ln.get (Rm.row B i) (p : Int) (64 - (p : Int))) = Ln.num B (64 * i + p) k := by
  have e1 : (64 : Int) - (p : Int) = ((64 - p : Nat) : Int) := by omega
  have e2 : (k : Int) - ((64 - p : Nat) : Int) = ((k - (64 - p) : Nat) : Int) := by omega
  have e3 : ((i : Int) + 1) = ((i + 1 : Nat) : Int) := by omega
  rw [e1, e2, e3, row_at (i + 1) hi, show (0 : Int) = ((0 : Nat) : Int) from rfl, get_nat (by omega) (by omega) (by omega), get_nat (by omega) (by omega) (by omega), Rm.num_row i p _ (by omega), Rm.num_row (i + 1) 0 _ (by omega)]
  have r := num_u64 h (64 * i + p) k h8
  have a := Rm.num_rng h (64 * i + p) (64 - p)
  have a8 := num_u64 h (64 * i + p) (64 - p) (by omega)
  have b := Rm.num_rng h (64 * (i + 1)) (k - (64 - p))
  have e := Rm.num_add B (64 * i + p) (64 - p) (k - (64 - p))
  rw [show 64 - p + (k - (64 - p)) = k by omega, show 64 * i + p + (64 - p) = 64 * (i + 1) by omega, Ln.pow_two] at e
  rw [show 64 * (i + 1) + 0 = 64 * (i + 1) by omega]
  generalize Ln.num B (64 * (i + 1)) (k - (64 - p)) = hi' at *
  generalize Ln.num B (64 * i + p) (64 - p) = lo at *
  generalize Ln.num B (64 * i + p) k = z at *
  rw [Ln.pow_two] at a
  have q : (0 : Int) < 2 ^ (8 * (64 - p)) := Int.pow_pos (by decide)
  have m0 : 0 ≤ 2 ^ (8 * (64 - p)) * hi' := Int.mul_nonneg (Int.le_of_lt q) b.1
  have ew : IntKind.u64.wrap (hi' * 2 ^ (8 * (64 - p))) = 2 ^ (8 * (64 - p)) * hi' := by
    rw [Int.mul_comm, IntKind.wrap_u64]; omega
  rw [ew, or_comm' m0 (by omega) a.1 a8.2, Ln.or_add (8 * (64 - p)) a.1 a.2 b.1 (by omega), e]
set_option maxHeartbeats 2000000 in
theorem load_yes {w : World} {rb mb n : Nat} {B : List Int} (h : RamAt w rb mb n B) (i p k : Nat) (hp : p < 64) (hi : i < n) (hk1 : 1 ≤ k) (hk8 : k ≤ 8) (hB : 64 * i + p + k ≤ 64 * n) :
    Calls Try.prog 16 #[.pointer (some ⟨rb, 0, none⟩), .int .u64 (2147483648 + ((64 * i + p : Nat) : Int)), .int .i64 (k : Int)] w fun e w' => e = .returned (.tuple #[.int .u64 (Ln.num B (64 * i + p) k), .bool true]) ∧ Below w.heap.size w w' := by
  have hn := h.n1
  have HH := Lib.hid h
  have HF := Lib.hid (show hasN n (2147483648 + ((64 * i + p : Nat) : Int)) (k : Int) = true from hasN_iff.2 (by omega))
  have HFA := Lib.hid (fun W => find_at i p hp (show i < 4096 by omega) W)
  have HXR := Lib.hid (show 0 ≤ 2147483648 + ((64 * i + p : Nat) : Int) ∧ 2147483648 + ((64 * i + p : Nat) : Int) < 18446744073709551616 by omega)
  have HBB := Lib.hid hB
  clear h
  generalize 2147483648 + ((64 * i + p : Nat) : Int) = x at *
  clear hB
  go_enter Try.func16, Try.ntmps16
  go_wp2_with fail
  refine (hasNumber_c (lines_c HH.out) hn x (k : Int) HXR.out (by omega)).mono ?_
  rintro e w' ⟨rfl, rfl⟩
  rw [HF.out]
  go_wp2_with fail
  refine (HFA.out _).mono ?_
  rintro e w' ⟨rfl, rfl⟩
  have HR := Lib.hid (Rm.row_is HH.out.ok i)
  have HN := Lib.hid (lineAt_is (n := n) HH.out.ok ((i : Int) + 1))
  by_cases c : (k : Int) ≤ 64 - (p : Int)
  · have HF2 := Lib.hid (load_one HH.out.ok (lineAt B n ((i : Int) + 1)) i p k hk1 hk8 (by omega))
    go_wp2_with fail
    refine (line_yes HH.out i hi).mono ?_
    rintro e w1 ⟨rfl, hb1⟩
    have H1 := Lib.hid (HH.out.low hb1)
    have HB1 := Lib.hid hb1
    clear hb1 HH
    go_wp2_with fail
    refine (get_c _ HR.out _ _ _ (by omega)).mono ?_
    rintro e w2 ⟨rfl, hb2⟩
    have H2 := Lib.hid (H1.out.low hb2)
    have HB2 := Lib.hid (HB1.out.trans (hb2.mono HB1.out.size))
    clear hb2 H1 HB1
    go_wp2_with fail
    refine (line_c H2.out ((i : Int) + 1)).mono ?_
    rintro e w3 ⟨rfl, hb3⟩
    have HB3 := Lib.hid (HB2.out.trans (hb3.mono HB2.out.size))
    clear hb3 H2 HB2
    go_wp2_with fail
    refine (get_c _ HN.out _ _ _ (by omega)).mono ?_
    rintro e w4 ⟨rfl, hb4⟩
    have HB4 := Lib.hid (HB3.out.trans (hb4.mono HB3.out.size))
    clear hb4 HB3
    go_wp2_with fail
    go_ret2
    exact ⟨lret_nb HF2.out rfl, HB4.out⟩
  · have HF2 := Lib.hid (load_two HH.out.ok i p k hp hk8 (by omega) (by have := HBB.out; omega))
    go_wp2_with fail
    refine (line_yes HH.out i hi).mono ?_
    rintro e w1 ⟨rfl, hb1⟩
    have H1 := Lib.hid (HH.out.low hb1)
    have HB1 := Lib.hid hb1
    clear hb1 HH
    go_wp2_with fail
    refine (get_c _ HR.out _ _ _ (by omega)).mono ?_
    rintro e w2 ⟨rfl, hb2⟩
    have H2 := Lib.hid (H1.out.low hb2)
    have HB2 := Lib.hid (HB1.out.trans (hb2.mono HB1.out.size))
    clear hb2 H1 HB1
    go_wp2_with fail
    refine (line_c H2.out ((i : Int) + 1)).mono ?_
    rintro e w3 ⟨rfl, hb3⟩
    have HB3 := Lib.hid (HB2.out.trans (hb3.mono HB2.out.size))
    clear hb3 H2 HB2
    go_wp2_with fail
    refine (get_c _ HN.out _ _ _ (by omega)).mono ?_
    rintro e w4 ⟨rfl, hb4⟩
    have HB4 := Lib.hid (HB3.out.trans (hb4.mono HB3.out.size))
    clear hb4 HB3
    go_wp2_with fail
    go_ret2
    exact ⟨lret_nb HF2.out rfl, HB4.out⟩
theorem load_c {w : World} {rb mb n : Nat} {B : List Int} (h : RamAt w rb mb n B) (x m : Int) (hx : 0 ≤ x ∧ x < 18446744073709551616) (hm : -9223372036854775808 ≤ m ∧ m ≤ 9223372036854775807) :
    Calls Try.prog 16 #[.pointer (some ⟨rb, 0, none⟩), .int .u64 x, .int .i64 m] w fun e w' => e = .returned (.tuple #[.int .u64 (ldV B n x m), .bool (hasN n x m)]) ∧ Below w.heap.size w w' := by
  cases hf : hasN n x m
  · have e : ldV B n x m = 0 := by unfold ldV; rw [hf]; rfl
    rw [e]
    exact (load_no (lines_c h) h.n1 x m hx hm hf).mono fun e w' hh => ⟨hh.1, hh.2 ▸ Below.refl _ _⟩
  · obtain ⟨i, p, k, hp, hi, hk1, hk8, rfl, rfl, hB⟩ := addr_of hf
    have e : ldV B n (2147483648 + ((64 * i + p : Nat) : Int)) (k : Int) = Ln.num B (64 * i + p) k := by
      unfold ldV
      rw [hf, show (2147483648 + ((64 * i + p : Nat) : Int) - 2147483648).toNat = 64 * i + p by omega, Int.toNat_natCast]
      rfl
    rw [e]
    exact load_yes h i p k hp hi hk1 hk8 hB
/-- What a memory has behind a number that is stored. -/
def stV (B : List Int) (n : Nat) (x m v : Int) : List Int := if hasN n x m then Rm.st B (x - 2147483648).toNat m.toNat v else B
theorem store_no {w : World} {p : Option Addr} {n : Nat} (h : linesV w p n) (hn : n ≤ 4096) (x m v : Int) (hx : 0 ≤ x ∧ x < 18446744073709551616) (hm : -9223372036854775808 ≤ m ∧ m ≤ 9223372036854775807) (hf : hasN n x m = false) :
    Calls Try.prog 19 #[.pointer p, .int .u64 x, .int .i64 m, .int .u64 v] w fun e w' => e = .returned (.bool false) ∧ w = w' := by
  have H := Lib.hid h
  have HX := Lib.hid hx
  have HM := Lib.hid hm
  have HF := Lib.hid hf
  clear h hx hm hf
  go_enter Try.func19, Try.ntmps19
  go_wp2_with fail
  refine (hasNumber_c H.out hn x m HX.out HM.out).mono ?_
  rintro e w' ⟨rfl, rfl⟩
  rw [HF.out]
  go_wp2_with fail
  go_ret
  exact ⟨rfl, rfl⟩
set_option maxHeartbeats 2000000 in
theorem store_yes {w : World} {rb mb n : Nat} {B : List Int} (h : RamAt w rb mb n B) (i p k : Nat) (hp : p < 64) (hi : i < n) (hk1 : 1 ≤ k) (hk8 : k ≤ 8) (hB : 64 * i + p + k ≤ 64 * n) (v : Int) (hv : 0 ≤ v ∧ v < 18446744073709551616) :
    Calls Try.prog 19 #[.pointer (some ⟨rb, 0, none⟩), .int .u64 (2147483648 + ((64 * i + p : Nat) : Int)), .int .i64 (k : Int), .int .u64 v] w
      fun e w' => e = .returned (.bool true) ∧ RamAt w' rb mb n (Rm.st B (64 * i + p) k v) ∧ Only mb w w' := by
  have hn := h.n1
  have HH := Lib.hid h
  have HV := Lib.hid hv
  have HF := Lib.hid (show hasN n (2147483648 + ((64 * i + p : Nat) : Int)) (k : Int) = true from hasN_iff.2 (by omega))
  have HFA := Lib.hid (fun W => find_at i p hp (show i < 4096 by omega) W)
  have HXR := Lib.hid (show 0 ≤ 2147483648 + ((64 * i + p : Nat) : Int) ∧ 2147483648 + ((64 * i + p : Nat) : Int) < 18446744073709551616 by omega)
  have HBB := Lib.hid hB
  clear h hv
  generalize 2147483648 + ((64 * i + p : Nat) : Int) = x at *
  clear hB
  go_enter Try.func19, Try.ntmps19
  go_wp2_with fail
  refine (hasNumber_c (lines_c HH.out) hn x (k : Int) HXR.out (by omega)).mono ?_
  rintro e w' ⟨rfl, rfl⟩
  rw [HF.out]
  go_wp2_with fail
  refine (HFA.out _).mono ?_
  rintro e w' ⟨rfl, rfl⟩
  have he : ((i : Int) + 1) = ((i + 1 : Nat) : Int) := by omega
  have HE := Lib.hid he
  clear he
  by_cases c : (k : Int) ≤ 64 - (p : Int)
  · go_wp2_with fail
    refine (rput_c HH.out i (p : Int) (k : Int) v (by omega) HV.out (fun _ => hi)).mono ?_
    rintro e w1 ⟨rfl, h1, o1⟩
    have HS := Lib.hid (Rm.putR_st HH.out.ok i p k v (by omega) hk8)
    rw [HS.out] at h1
    have H1 := Lib.hid h1
    have O1 := Lib.hid o1
    clear h1 o1 HH
    have HD := Lib.hid (Wd.div_range HV.out.1 HV.out.2 (8 * k))
    go_wp2_with fail
    rw [HE.out]
    refine (rput_c H1.out (i + 1) 0 0 _ (by omega) HD.out (fun hf => absurd hf (by decide))).mono ?_
    rintro e w2 ⟨rfl, h2, o2⟩
    have H2 := Lib.hid (show RamAt w2 rb mb n (Rm.st B (64 * i + p) k v) ∧ Only mb w w2 from ⟨h2, O1.out.trans o2⟩)
    clear h2 o2
    go_wp2_with fail
    go_ret
    exact ⟨rfl, H2.out.1, H2.out.2⟩
  · go_wp2_with fail
    have hq : (64 : Int) - (p : Int) = ((64 - p : Nat) : Int) := by omega
    have HQ := Lib.hid hq
    have HQ2 := Lib.hid (show (k : Int) - (64 - (p : Int)) = ((k - (64 - p) : Nat) : Int) by omega)
    refine (rput_c HH.out i (p : Int) (64 - (p : Int)) v (by omega) HV.out (fun _ => hi)).mono ?_
    rintro e w1 ⟨rfl, h1, o1⟩
    have HS := Lib.hid (Rm.putR_st HH.out.ok i p (64 - p) v (by omega) (by omega))
    rw [hq, HS.out] at h1
    have H1 := Lib.hid h1
    have O1 := Lib.hid o1
    have HS2 := Lib.hid (Rm.putR_st (v := v / 256 ^ (64 - p)) H1.out.ok (i + 1) 0 (k - (64 - p)) (by omega) (by omega))
    have HS3 := Lib.hid (Rm.st_two HH.out.ok (64 * i + p) (64 - p) (k - (64 - p)) v)
    clear h1 o1 HH hq
    have HD := Lib.hid (Wd.div_range HV.out.1 HV.out.2 (8 * (64 - p)))
    go_wp2_with fail
    rw [HE.out]
    refine (rput_c H1.out (i + 1) 0 _ _ (by omega) HD.out (fun _ => by have := HBB.out; omega)).mono ?_
    rintro e w2 ⟨rfl, h2, o2⟩
    have hfin : Rm.putR (Rm.st B (64 * i + p) (64 - p) v) (i + 1) 0 ((k : Int) - (64 - (p : Int))) (v / 2 ^ (8 * (64 - p))) = Rm.st B (64 * i + p) k v := by
      rw [HQ2.out, ← Ln.pow_two]
      have := HS2.out
      rw [show (((0 : Nat) : Int)) = 0 from rfl] at this
      rw [this, show 64 * (i + 1) + 0 = 64 * i + p + (64 - p) by omega, HS3.out, show 64 - p + (k - (64 - p)) = k by omega]
    have H2 := Lib.hid (show RamAt w2 rb mb n (Rm.st B (64 * i + p) k v) ∧ Only mb w w2 from ⟨hfin ▸ h2, O1.out.trans o2⟩)
    clear h2 o2
    go_wp2_with fail
    go_ret
    exact ⟨rfl, H2.out.1, H2.out.2⟩
theorem stV_ok {B : List Int} {n : Nat} (h : Rm.Ok B n) (x m v : Int) : Rm.Ok (stV B n x m v) n := by
  unfold stV
  split
  · exact Rm.st_ok h _ _ _
  · exact h
theorem store_c {w : World} {rb mb n : Nat} {B : List Int} (h : RamAt w rb mb n B) (x m v : Int) (hx : 0 ≤ x ∧ x < 18446744073709551616) (hm : -9223372036854775808 ≤ m ∧ m ≤ 9223372036854775807) (hv : 0 ≤ v ∧ v < 18446744073709551616) :
    Calls Try.prog 19 #[.pointer (some ⟨rb, 0, none⟩), .int .u64 x, .int .i64 m, .int .u64 v] w fun e w' => e = .returned (.bool (hasN n x m)) ∧ RamAt w' rb mb n (stV B n x m v) ∧ Only mb w w' := by
  cases hf : hasN n x m
  · have e : stV B n x m v = B := by unfold stV; rw [hf]; rfl
    rw [e]
    exact (store_no (lines_c h) h.n1 x m v hx hm hf).mono fun e w' hh => ⟨hh.1, hh.2 ▸ h, hh.2 ▸ Only.refl _ _⟩
  · obtain ⟨i, p, k, hp, hi, hk1, hk8, rfl, rfl, hB⟩ := addr_of hf
    have e : stV B n (2147483648 + ((64 * i + p : Nat) : Int)) (k : Int) v = Rm.st B (64 * i + p) k v := by
      unfold stV
      rw [hf, show (2147483648 + ((64 * i + p : Nat) : Int) - 2147483648).toNat = 64 * i + p by omega, Int.toNat_natCast]
      rfl
    rw [e]
    exact store_yes h i p k hp hi hk1 hk8 hB v hv
end Go.Proofs.Ytdlollkieihjpaa
