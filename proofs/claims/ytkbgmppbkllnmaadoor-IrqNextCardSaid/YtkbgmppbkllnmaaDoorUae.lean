/-
  Contracts of the reference of layer 1: Ones, Sign, Cut. The reference of layer 20: At, Get, put, mpp, Enter, Leave. The reference's View of layer 20.
-/
import Derived.Test.YtkbgmppbkllnmaaDoorUad
import Derived.Test.YtkbgmppbkllnmaaDoorUab
import Derived.ProofKit
import Derived.WalkLawsBesides
import Derived.Deep.DeepCutAuto
import Derived.Test.YtkbgmppbkllnmaaDoorUac
import Derived.Great.BuildSlice
set_option maxRecDepth 20000
namespace Go.Proofs.YtkbgmppbkllnmaaDoor
open Go.ChangeShapes Go.WideShapes Go.ChangeAt Go.RowKit Wd

theorem one_cell' (n : Int) : ∀ u ∈ [Value.int .u64 n], u.oneCell' = true := by
  intro u hu; simp at hu; subst hu; rfl

theorem signS_pos {x s : Int} (h : 1 ≤ s) : signS x s = word fun i => if (i : Int) < s then tb x i else tb x (s - 1).toNat := by
  unfold signS
  rw [if_neg (by omega)]

/-! ### Cut -/
def hit (x p : Int) (k i : Nat) : Bool := decide (0 ≤ p + k ∧ p + k < i) && tb x (p + k).toNat
theorem hit_zero (x p : Int) (k : Nat) : hit x p k 0 = false := by
  unfold hit
  have : ¬ (0 ≤ p + k ∧ p + k < ((0 : Nat) : Int)) := by omega
  rw [decide_eq_false this, Bool.false_and]
theorem hit_at {x p : Int} {k i : Nat} (hi : i < 64) (h : (i : Int) - p = k) : tbI x i = hit x p k (i + 1) := by
  unfold hit
  have a : 0 ≤ p + k ∧ p + k < ((i + 1 : Nat) : Int) := by omega
  rw [decide_eq_true a, tbI_nat x i hi]
  have : (p + k).toNat = i := by omega
  simp [this]
theorem hit_not {x p : Int} {k i : Nat} (h : ¬ (i : Int) - p = k) : hit x p k i = hit x p k (i + 1) := by
  unfold hit
  congr 1
  apply decide_eq_decide.2
  omega
theorem hit_all {x p : Int} {k : Nat} (hx : x < 18446744073709551616) : hit x p k 64 = (decide (0 ≤ p + k) && tb x (p + k).toNat) := by
  unfold hit
  by_cases c : p + k < ((64 : Nat) : Int)
  · congr 1
    apply decide_eq_decide.2
    omega
  · rw [tb_big hx (by omega), Bool.and_false, Bool.and_false]
theorem inK_eq {p : Int} {k i : Nat} (hk : k < 64) (h : (i : Int) - p = k) : (inK p i == (k : Int)) = true := by
  unfold inK
  rw [if_neg (by omega), beq_iff_eq]
  omega
theorem inK_ne {p : Int} {k i : Nat} (hk : k < 64) (h : ¬ (i : Int) - p = k) : (inK p i == (k : Int)) = false := by
  unfold inK
  rw [beq_eq_false_iff_ne]
  split <;> omega
theorem cut_true {x p s : Int} {k : Nat} (hx : x < 18446744073709551616) (h : (k : Int) < s) : hit x p k 64 = (decide ((k : Int) < s ∧ 0 ≤ p + k) && tb x (p + k).toNat) := by
  rw [hit_all hx]
  congr 1
  apply decide_eq_decide.2
  omega
theorem cut_false {x p s : Int} {k : Nat} (h : ¬ (k : Int) < s) : false = (decide ((k : Int) < s ∧ 0 ≤ p + k) && tb x (p + k).toNat) := by
  have : ¬ ((k : Int) < s ∧ 0 ≤ p + k) := by omega
  rw [decide_eq_false this, Bool.false_and]

set_option maxHeartbeats 1600000 in
theorem refCut_c (x p s : Int) (w : World) (hx0 : 0 ≤ x) (hx : x < 18446744073709551616) (hp0 : -9223372036854775808 ≤ p) (hs : s < 9223372036854775808) :
    Calls Tryd.prog 98 #[.int .u64 x, .int .i64 p, .int .i64 s] w fun e w' => e = .returned (.int .u64 (cutS x p s)) ∧ Below w.heap.size w w' := by
  obtain ⟨i0, hi, hz0, hz1, hz2⟩ := info_parts info_u64
  obtain ⟨f, hf⟩ : ∃ f : Nat → Bool, f = fun (k : Nat) => decide ((k : Int) < s ∧ 0 ≤ p + k) && tb x (p + k).toNat := ⟨_, rfl⟩
  have HF := Lib.hid hf
  clear hf
  go_enter Tryd.func98, Tryd.ntmps98
  go_wp2
  go_loopw [7, 8] (fun v i wr => ∃ k : Nat, k ≤ 64 ∧ i = .int .i64 k ∧ wr.ownsRow w.heap.size 25 1 v k (bl f k) ∧ Below w.heap.size w wr) (fun _ i _ => 64 - (intOf i).toNat)
  case atStart => exact ⟨0, Nat.zero_le _, rfl, World.ownsRow_nil _ _ _ _, Below.refl _ _⟩
  case round =>
    obtain ⟨k, hk, rfl, hown, hnx⟩ := hrel
    have hsz := hnx.size
    have HO := Lib.hid hown
    clear hown
    by_cases hlt : k < 64
    · by_cases hks : (k : Int) < s
      · have hb : hit x p k 64 = f k := by rw [HF.out]; exact cut_true hx hks
        have HB := Lib.hid hb
        clear hb
        have hd1 : decide ((k : Int) < 64) = true := decide_eq_true (by omega)
        have hd2 : decide ((k : Int) < s) = true := decide_eq_true hks
        go_wp2
        clear hd1 hd2
        go_loop [9, 10] (fun t i => ∃ j : Nat, j ≤ 64 ∧ i = .int .i64 j ∧ t = .int .u64 (bi (hit x p k j))) (fun _ i => 64 - (intOf i).toNat)
        case atStart => exact ⟨0, Nat.zero_le _, rfl, by rw [hit_zero]; rfl⟩
        case round =>
          obtain ⟨j, hj, rfl, rfl⟩ := hrel
          by_cases hjl : j < 64
          · by_cases hin : inP p s j = true
            · have HI := Lib.hid hin
              clear hin
              by_cases hjk : (j : Int) - p = k
              · have he := inK_eq hlt hjk
                have HE := Lib.hid (hit_at (x := x) hjl hjk)
                have HJ := Lib.hid hjk
                clear hjk
                go_wp2_with (first
                  | (go_at_call 100; refine (in_yes p s j _ hjl hp0 hs HI.out).mono ?_; rintro e w' ⟨rfl, rfl⟩)
                  | (go_at_call 73; refine (bit_c _ _ _ hx0 hx).mono ?_; rintro e w' ⟨rfl, rfl⟩))
                go_round
                case rel => exact ⟨j + 1, by omega, by go_num, by rw [HE.out]⟩
                case measure => simp [intOf]; omega
              · have he := inK_ne hlt hjk
                have HE := Lib.hid (hit_not (x := x) hjk)
                have HJ := Lib.hid hjk
                clear hjk
                go_wp2_with (first
                  | (go_at_call 100; refine (in_yes p s j _ hjl hp0 hs HI.out).mono ?_; rintro e w' ⟨rfl, rfl⟩)
                  | (go_at_call 73; refine (bit_c _ _ _ hx0 hx).mono ?_; rintro e w' ⟨rfl, rfl⟩))
                go_round
                case rel => exact ⟨j + 1, by omega, by go_num, by rw [HE.out]⟩
                case measure => simp [intOf]; omega
            · have hin' : inP p s j = false := by simpa using hin
              have hjk : ¬ (j : Int) - p = k := by
                have := of_decide_eq_false hin'
                omega
              have HI := Lib.hid hin'
              have HE := Lib.hid (hit_not (x := x) hjk)
              clear hin hin' hjk
              go_wp2_with (go_at_call 100; refine (in_no p s j _ hjl hp0 hs HI.out).mono ?_; rintro e w' ⟨rfl, rfl⟩)
              go_round
              case rel => exact ⟨j + 1, by omega, by go_num, by rw [HE.out]⟩
              case measure => simp [intOf]; omega
          · obtain rfl : j = 64 := by omega
            go_wp2_with (at_builtin; refine wpList_append_own _ rfl _ _ 142 rfl w.heap.size 25 i0 (.int .u64 0) 1 8 Tryd.underlying142 hi hz0 hz1 hz2 rfl (by decide) _ _ _ rfl (HO.out.alloc _) ⟨wr.heap.size, 0, none⟩ 1 1 [.int .u64 (bi (hit x p k 64))] rfl rfl news_one (one_cell _) (by unfold maxLen; omega) (by omega) (by simp; omega) ?_; intro v' w1 hown' hgrow _)
            have R := rel_app hsz HB.out HO.out hown' hgrow hnx
            go_roundw
            case rel => exact ⟨k + 1, by omega, by go_num, R.1, R.2⟩
            case measure => simp [intOf]; omega
      · have hb : false = f k := by rw [HF.out]; exact cut_false hks
        have HB := Lib.hid hb
        clear hb
        go_wp2_with (at_builtin; refine wpList_append_own _ rfl _ _ 142 rfl w.heap.size 25 i0 (.int .u64 0) 1 8 Tryd.underlying142 hi hz0 hz1 hz2 rfl (by decide) _ _ _ rfl (HO.out.alloc _) ⟨wr.heap.size, 0, none⟩ 1 1 [.int .u64 0] rfl rfl news_one (one_cell' _) (by unfold maxLen; omega) (by omega) (by simp; omega) ?_; intro v' w1 hown' hgrow _)
        have R := rel_app (b := false) hsz HB.out HO.out hown' hgrow hnx
        go_roundw
        case rel => exact ⟨k + 1, by omega, by go_num, R.1, R.2⟩
        case measure => simp [intOf]; omega
    · obtain rfl : k = 64 := by omega
      go_wp2_with (go_at_call 86; refine (of_c f 64 _ w.heap.size _ (by omega) (by omega) HO.out).mono ?_; rintro e w' ⟨rfl, rfl⟩)
      go_ret
      exact ⟨by rw [HF.out]; rfl, hnx⟩
end Go.Proofs.YtkbgmppbkllnmaaDoor
set_option maxRecDepth 20000
namespace Go.Proofs.YtkbgmppbkllnmaaDoor
open Go.ChangeShapes Go.WideShapes Go.ChangeAt Go.RowKit Wd Csr Sta

/-- Where the bit of a name stands; -1: nowhere. -/
def atI (s : ByteArray) : Int := if s.toList == [115, 105, 101] then 1 else if s.toList == [109, 105, 101] then 3 else if s.toList == [115, 112, 105, 101] then 5 else if s.toList == [109, 112, 105, 101] then 7 else if s.toList == [115, 112, 112] then 8 else if s.toList == [109, 112, 114, 118] then 17 else if s.toList == [115, 117, 109] then 18 else if s.toList == [109, 120, 114] then 19 else if s.toList == [116, 118, 109] then 20 else if s.toList == [116, 119] then 21 else if s.toList == [116, 115, 114] then 22 else -1
theorem at_sie : atI ⟨#[115, 105, 101]⟩ = 1 := by decide +kernel
theorem at_mie : atI ⟨#[109, 105, 101]⟩ = 3 := by decide +kernel
theorem at_spie : atI ⟨#[115, 112, 105, 101]⟩ = 5 := by decide +kernel
theorem at_mpie : atI ⟨#[109, 112, 105, 101]⟩ = 7 := by decide +kernel
theorem at_spp : atI ⟨#[115, 112, 112]⟩ = 8 := by decide +kernel
theorem at_mprv : atI ⟨#[109, 112, 114, 118]⟩ = 17 := by decide +kernel
theorem at_sum : atI ⟨#[115, 117, 109]⟩ = 18 := by decide +kernel
theorem at_mxr : atI ⟨#[109, 120, 114]⟩ = 19 := by decide +kernel
theorem at_tvm : atI ⟨#[116, 118, 109]⟩ = 20 := by decide +kernel
theorem at_tw : atI ⟨#[116, 119]⟩ = 21 := by decide +kernel
theorem at_tsr : atI ⟨#[116, 115, 114]⟩ = 22 := by decide +kernel
theorem at_range (s : ByteArray) : -1 ≤ atI s ∧ atI s ≤ 22 := by
  unfold atI
  repeat' split
  all_goals omega
set_option maxHeartbeats 1000000 in
theorem at_c (s : ByteArray) (w : World) : Calls Tryd.prog 99 #[.string s] w fun e w' => e = .returned (.int .i64 (atI s)) ∧ w' = w := by
  cases e0 : (s.toList == [115, 105, 101])
  · cases e1 : (s.toList == [109, 105, 101])
    · cases e2 : (s.toList == [115, 112, 105, 101])
      · cases e3 : (s.toList == [109, 112, 105, 101])
        · cases e4 : (s.toList == [115, 112, 112])
          · cases e5 : (s.toList == [109, 112, 114, 118])
            · cases e6 : (s.toList == [115, 117, 109])
              · cases e7 : (s.toList == [109, 120, 114])
                · cases e8 : (s.toList == [116, 118, 109])
                  · cases e9 : (s.toList == [116, 119])
                    · cases e10 : (s.toList == [116, 115, 114])
                      · have HA := Lib.hid (show atI s = -1 by unfold atI; simp only [e0, e1, e2, e3, e4, e5, e6, e7, e8, e9, e10, Bool.false_eq_true, if_false])
                        go_enter Tryd.func99, Tryd.ntmps99
                        go_wp2_with fail
                        go_ret
                        exact ⟨by rw [HA.out]; rfl, rfl⟩
                      · have HA := Lib.hid (show atI s = 22 by unfold atI; simp only [e0, e1, e2, e3, e4, e5, e6, e7, e8, e9, e10, if_true, Bool.false_eq_true, if_false])
                        go_enter Tryd.func99, Tryd.ntmps99
                        go_wp2_with fail
                        go_ret
                        exact ⟨by rw [HA.out]; rfl, rfl⟩
                    · have HA := Lib.hid (show atI s = 21 by unfold atI; simp only [e0, e1, e2, e3, e4, e5, e6, e7, e8, e9, if_true, Bool.false_eq_true, if_false])
                      go_enter Tryd.func99, Tryd.ntmps99
                      go_wp2_with fail
                      go_ret
                      exact ⟨by rw [HA.out]; rfl, rfl⟩
                  · have HA := Lib.hid (show atI s = 20 by unfold atI; simp only [e0, e1, e2, e3, e4, e5, e6, e7, e8, if_true, Bool.false_eq_true, if_false])
                    go_enter Tryd.func99, Tryd.ntmps99
                    go_wp2_with fail
                    go_ret
                    exact ⟨by rw [HA.out]; rfl, rfl⟩
                · have HA := Lib.hid (show atI s = 19 by unfold atI; simp only [e0, e1, e2, e3, e4, e5, e6, e7, if_true, Bool.false_eq_true, if_false])
                  go_enter Tryd.func99, Tryd.ntmps99
                  go_wp2_with fail
                  go_ret
                  exact ⟨by rw [HA.out]; rfl, rfl⟩
              · have HA := Lib.hid (show atI s = 18 by unfold atI; simp only [e0, e1, e2, e3, e4, e5, e6, if_true, Bool.false_eq_true, if_false])
                go_enter Tryd.func99, Tryd.ntmps99
                go_wp2_with fail
                go_ret
                exact ⟨by rw [HA.out]; rfl, rfl⟩
            · have HA := Lib.hid (show atI s = 17 by unfold atI; simp only [e0, e1, e2, e3, e4, e5, if_true, Bool.false_eq_true, if_false])
              go_enter Tryd.func99, Tryd.ntmps99
              go_wp2_with fail
              go_ret
              exact ⟨by rw [HA.out]; rfl, rfl⟩
          · have HA := Lib.hid (show atI s = 8 by unfold atI; simp only [e0, e1, e2, e3, e4, if_true, Bool.false_eq_true, if_false])
            go_enter Tryd.func99, Tryd.ntmps99
            go_wp2_with fail
            go_ret
            exact ⟨by rw [HA.out]; rfl, rfl⟩
        · have HA := Lib.hid (show atI s = 7 by unfold atI; simp only [e0, e1, e2, e3, if_true, Bool.false_eq_true, if_false])
          go_enter Tryd.func99, Tryd.ntmps99
          go_wp2_with fail
          go_ret
          exact ⟨by rw [HA.out]; rfl, rfl⟩
      · have HA := Lib.hid (show atI s = 5 by unfold atI; simp only [e0, e1, e2, if_true, Bool.false_eq_true, if_false])
        go_enter Tryd.func99, Tryd.ntmps99
        go_wp2_with fail
        go_ret
        exact ⟨by rw [HA.out]; rfl, rfl⟩
    · have HA := Lib.hid (show atI s = 3 by unfold atI; simp only [e0, e1, if_true, Bool.false_eq_true, if_false])
      go_enter Tryd.func99, Tryd.ntmps99
      go_wp2_with fail
      go_ret
      exact ⟨by rw [HA.out]; rfl, rfl⟩
  · have HA := Lib.hid (show atI s = 1 by unfold atI; simp only [e0, if_true])
    go_enter Tryd.func99, Tryd.ntmps99
    go_wp2_with fail
    go_ret
    exact ⟨by rw [HA.out]; rfl, rfl⟩
set_option maxHeartbeats 1000000 in
theorem rget_c (x : Int) (hx : W64 x) (s : ByteArray) (w : World) : Calls Tryd.prog 78 #[.int .u64 x, .string s] w fun e w' => e = .returned (.int .u64 (bi (tbI x (atI s)))) ∧ w = w' := by
  have HC := Lib.hid (fun W => bit_c x (atI s) W hx.1 hx.2)
  go_enter Tryd.func78, Tryd.ntmps78
  go_wp2_with fail
  refine (at_c s _).mono ?_
  rintro e w1 ⟨rfl, rfl⟩
  go_wp2_with fail
  refine (HC.out _).mono ?_
  rintro e w2 ⟨rfl, rfl⟩
  go_wp2_with fail
  go_ret
  exact ⟨rfl, rfl⟩
set_option maxHeartbeats 1000000 in
theorem rput_c (x : Int) (hx : W64 x) (s : ByteArray) (n : Int) (hn : W64 n) (w : World) : Calls Tryd.prog 77 #[.int .u64 x, .string s, .int .u64 n] w fun e w' => e = .returned (.int .u64 (putS x (atI s) 1 n)) ∧ Below w.heap.size w w' := by
  have hr := at_range s
  have HC := Lib.hid (fun W => refPut_c x (atI s) 1 n W hx.1 hx.2 (by omega) (by omega) hn.1 hn.2)
  go_enter Tryd.func77, Tryd.ntmps77
  go_wp2_with fail
  refine (at_c s _).mono ?_
  rintro e w1 ⟨rfl, rfl⟩
  go_wp2_with fail
  refine (HC.out _).mono ?_
  rintro e w2 ⟨rfl, hb⟩
  have HB := Lib.hid hb
  clear hb
  go_wp2_with fail
  go_ret
  exact ⟨rfl, HB.out⟩
theorem get_at {x : Int} {s : ByteArray} {k : Nat} (h : atI s = k) (hk : k < 64) : bi (tbI x (atI s)) = cutS x k 1 := by
  rw [h, cut1 x hk, tbI_nat x k hk]
theorem get_sie (x : Int) : bi (tbI x (atI ⟨#[115, 105, 101]⟩)) = cutS x 1 1 := get_at (k := 1) at_sie (by omega)
theorem get_mie (x : Int) : bi (tbI x (atI ⟨#[109, 105, 101]⟩)) = cutS x 3 1 := get_at (k := 3) at_mie (by omega)
theorem get_spie (x : Int) : bi (tbI x (atI ⟨#[115, 112, 105, 101]⟩)) = cutS x 5 1 := get_at (k := 5) at_spie (by omega)
theorem get_mpie (x : Int) : bi (tbI x (atI ⟨#[109, 112, 105, 101]⟩)) = cutS x 7 1 := get_at (k := 7) at_mpie (by omega)
theorem get_spp (x : Int) : bi (tbI x (atI ⟨#[115, 112, 112]⟩)) = cutS x 8 1 := get_at (k := 8) at_spp (by omega)
theorem get_mprv (x : Int) : bi (tbI x (atI ⟨#[109, 112, 114, 118]⟩)) = cutS x 17 1 := get_at (k := 17) at_mprv (by omega)
theorem get_sum (x : Int) : bi (tbI x (atI ⟨#[115, 117, 109]⟩)) = cutS x 18 1 := get_at (k := 18) at_sum (by omega)
theorem get_mxr (x : Int) : bi (tbI x (atI ⟨#[109, 120, 114]⟩)) = cutS x 19 1 := get_at (k := 19) at_mxr (by omega)
theorem get_tvm (x : Int) : bi (tbI x (atI ⟨#[116, 118, 109]⟩)) = cutS x 20 1 := get_at (k := 20) at_tvm (by omega)
theorem get_tw (x : Int) : bi (tbI x (atI ⟨#[116, 119]⟩)) = cutS x 21 1 := get_at (k := 21) at_tw (by omega)
theorem get_tsr (x : Int) : bi (tbI x (atI ⟨#[116, 115, 114]⟩)) = cutS x 22 1 := get_at (k := 22) at_tsr (by omega)
set_option maxHeartbeats 1000000 in
theorem rmpp_c (x : Int) (hx : W64 x) (w : World) : Calls Tryd.prog 84 #[.int .u64 x] w fun e w' => e = .returned (.int .i64 (mppS x)) ∧ Below w.heap.size w w' := by
  have HC := Lib.hid (fun W => refCut_c x 11 2 W hx.1 hx.2 (by omega) (by omega))
  have h4 := cut2_lt x
  have h5 := (cutS_range x 11 2).1
  have HM := Lib.hid (show mppS x = prvS (cutS x 11 2) from rfl)
  generalize cutS x 11 2 = c at *
  by_cases h : c = 2
  · subst h
    have HI := Lib.hid (show prvS 2 = 0 from rfl)
    go_enter Tryd.func84, Tryd.ntmps84
    go_wp2_with fail
    refine (HC.out _).mono ?_
    rintro e w2 ⟨rfl, hb⟩
    have HB := Lib.hid hb
    clear hb
    go_wp2_with fail
    go_ret
    exact ⟨by rw [HM.out, HI.out]; rfl, HB.out⟩
  · have HI := Lib.hid (show prvS c = c from if_neg h)
    have hw2 : wrap64 c = c := by unfold wrap64; omega
    have t1 : (c == 2) = false := by simpa using h
    clear h
    go_enter Tryd.func84, Tryd.ntmps84
    go_wp2_with fail
    refine (HC.out _).mono ?_
    rintro e w2 ⟨rfl, hb⟩
    have HB := Lib.hid hb
    clear hb
    go_wp2_with fail
    go_ret
    exact ⟨by rw [HM.out, HI.out]; rfl, HB.out⟩
set_option maxHeartbeats 4000000 in
set_option maxRecDepth 100000 in
theorem renter3_c (x p r : Int) (hr : enterM x p = r) (hx : W64 x) (hf : p = 0 ∨ p = 1 ∨ p = 3) (w : World) : Calls Tryd.prog 39 #[.int .u64 x, .int .i64 p, .int .i64 3] w fun e w' => e = .returned (.int .u64 r) ∧ Below w.heap.size w w' := by
  unfold enterM at hr
  have HRR := Lib.hid hr
  clear hr
  have hc : W64 (cutS x 3 1) := cutS_range _ _ _
  have hn : W64 p := by rcases hf with rfl | rfl | rfl <;> decide
  have hw : IntKind.u64.wrap p = p := by rcases hf with rfl | rfl | rfl <;> rfl
  rcases hf with rfl | rfl | rfl
  all_goals
    go_enter Tryd.func39, Tryd.ntmps39
    have HB := Lib.hid (Below.refl w.heap.size w)
    go_wp2_with fail
    refine (rget_c x (by assumption) _ _).mono ?_
    rintro e w1 ⟨rfl, rfl⟩
    rw [get_mie]
    generalize cutS x 3 1 = c at *
    go_wp2_with fail
    refine (rput_c x (by assumption) _ c (by assumption) _).mono ?_
    rintro e w2 ⟨rfl, hb⟩
    replace HB := Lib.hid (HB.out.trans (hb.mono HB.out.size))
    clear hb
    rw [at_mpie]
    have yh : W64 (putS x 7 1 c) := putS_range _ _ _ _
    generalize putS x 7 1 c = y at *
    go_wp2_with fail
    refine (rput_c y (by assumption) _ 0 (by decide) _).mono ?_
    rintro e w3 ⟨rfl, hb⟩
    replace HB := Lib.hid (HB.out.trans (hb.mono HB.out.size))
    clear hb
    rw [at_mie]
    have zh : W64 (putS y 3 1 0) := putS_range _ _ _ _
    generalize putS y 3 1 0 = z at *
    go_wp2_with fail
    refine (refPut_c z 11 2 _ _ zh.1 zh.2 (by omega) (by omega) (by omega) (by omega)).mono ?_
    rintro e w9 ⟨rfl, hb⟩
    replace HB := Lib.hid (HB.out.trans (hb.mono HB.out.size))
    clear hb
    go_wp2_with fail
    go_ret
    exact ⟨by rw [← HRR.out]; rfl, HB.out⟩
set_option maxHeartbeats 4000000 in
set_option maxRecDepth 100000 in
theorem renter1_c (x p r : Int) (hr : enterU x (if p = 1 then 1 else 0) = r) (hx : W64 x) (hf : p = 0 ∨ p = 1 ∨ p = 3) (w : World) : Calls Tryd.prog 39 #[.int .u64 x, .int .i64 p, .int .i64 1] w fun e w' => e = .returned (.int .u64 r) ∧ Below w.heap.size w w' := by
  have hc : W64 (cutS x 1 1) := cutS_range _ _ _
  have HRR := Lib.hid (show putS (putS (putS x 5 1 (cutS x 1 1)) 1 1 0) 8 1 (if p = 1 then 1 else 0) = r from hr)
  clear hr
  rcases hf with rfl | rfl | rfl
  all_goals
    simp only [if_pos, Int.reduceEq, if_false] at HRR
    go_enter Tryd.func39, Tryd.ntmps39
    have HB := Lib.hid (Below.refl w.heap.size w)
    go_wp2_with fail
    refine (rget_c x (by assumption) _ _).mono ?_
    rintro e w1 ⟨rfl, rfl⟩
    rw [get_sie]
    generalize cutS x 1 1 = c at *
    go_wp2_with fail
    refine (rput_c x (by assumption) _ c (by assumption) _).mono ?_
    rintro e w2 ⟨rfl, hb⟩
    replace HB := Lib.hid (HB.out.trans (hb.mono HB.out.size))
    clear hb
    rw [at_spie]
    have yh : W64 (putS x 5 1 c) := putS_range _ _ _ _
    generalize putS x 5 1 c = y at *
    go_wp2_with fail
    refine (rput_c y (by assumption) _ 0 (by decide) _).mono ?_
    rintro e w3 ⟨rfl, hb⟩
    replace HB := Lib.hid (HB.out.trans (hb.mono HB.out.size))
    clear hb
    rw [at_sie]
    have zh : W64 (putS y 1 1 0) := putS_range _ _ _ _
    generalize putS y 1 1 0 = z at *
    go_wp2_with fail
    refine (rput_c z zh _ _ (by decide) _).mono ?_
    rintro e w9 ⟨rfl, hb⟩
    replace HB := Lib.hid (HB.out.trans (hb.mono HB.out.size))
    clear hb
    rw [at_spp]
    go_wp2_with fail
    go_ret
    exact ⟨by rw [← HRR.out]; rfl, HB.out⟩
set_option maxHeartbeats 4000000 in
theorem renter0_c (x frm dst : Int) (h : ¬ (frm = 0 ∨ frm = 1 ∨ frm = 3) ∨ (dst ≠ 3 ∧ dst ≠ 1)) (w : World) : Calls Tryd.prog 39 #[.int .u64 x, .int .i64 frm, .int .i64 dst] w fun e w' => e = .returned (.int .u64 x) ∧ Below w.heap.size w w' := by
  by_cases hf : frm = 0 ∨ frm = 1 ∨ frm = 3
  · have hd : dst ≠ 3 ∧ dst ≠ 1 := by rcases h with h | h; exact absurd hf h; exact h
    have e3 : (dst == 3) = false := by simpa using hd.1
    have e1 : (dst == 1) = false := by simpa using hd.2
    clear h hd
    rcases hf with rfl | rfl | rfl
    all_goals
      go_enter Tryd.func39, Tryd.ntmps39
      go_wp2_with fail
      go_ret
      exact ⟨rfl, Below.refl _ _⟩
  · have e0 : (frm != 0) = true := by simp; omega
    have e1 : (frm != 1) = true := by simp; omega
    have e3 : (frm != 3) = true := by simp; omega
    clear h hf
    go_enter Tryd.func39, Tryd.ntmps39
    go_wp2_with fail
    go_ret
    exact ⟨rfl, Below.refl _ _⟩
theorem rprv_cases {p : Int} (h : isPriv p = true) : p = 0 ∨ p = 1 ∨ p = 3 := by
  unfold isPriv at h
  simp at h
  omega
theorem rprv_no {p : Int} (h : isPriv p = false) : ¬ (p = 0 ∨ p = 1 ∨ p = 3) := by
  unfold isPriv at h
  simp at h
  omega
theorem renter_c (x frm dst : Int) (hx : W64 x) (w : World) : Calls Tryd.prog 39 #[.int .u64 x, .int .i64 frm, .int .i64 dst] w fun e w' => e = .returned (.int .u64 (enterV x frm dst)) ∧ Below w.heap.size w w' := by
  unfold enterV
  cases hp : isPriv frm
  · exact renter0_c x frm dst (.inl (rprv_no hp)) w
  · have hf := rprv_cases hp
    rw [if_pos rfl]
    by_cases h3 : dst = 3
    · subst h3
      rw [if_pos rfl]; exact renter3_c x frm _ rfl hx hf w
    · by_cases h1 : dst = 1
      · subst h1
        rw [if_neg (by omega), if_pos rfl]; exact renter1_c x frm _ rfl hx hf w
      · rw [if_neg h3, if_neg h1]
        exact renter0_c x frm dst (.inr ⟨h3, h1⟩) w
set_option maxHeartbeats 4000000 in
theorem rleave0_c (x dst : Int) (h3 : dst ≠ 3) (h1 : dst ≠ 1) (w : World) : Calls Tryd.prog 42 #[.int .u64 x, .int .i64 dst] w fun e w' => e = .returned (.tuple #[.int .u64 x, .int .i64 0]) ∧ Below w.heap.size w w' := by
  have e3 : (dst == 3) = false := by simpa using h3
  have e1 : (dst == 1) = false := by simpa using h1
  clear h3 h1
  go_enter Tryd.func42, Tryd.ntmps42
  go_wp2_with fail
  go_ret2
  exact ⟨rfl, Below.refl _ _⟩
set_option maxHeartbeats 4000000 in
set_option maxRecDepth 100000 in
theorem rleave3n_c (x p r : Int) (hr : putS (backM x) 17 1 0 = r) (hx : W64 x) (hp : mppS x = p) (hm : p ≠ 3) (w : World) : Calls Tryd.prog 42 #[.int .u64 x, .int .i64 3] w fun e w' => e = .returned (.tuple #[.int .u64 r, .int .i64 p]) ∧ Below w.heap.size w w' := by
  unfold backM at hr
  have HRR := Lib.hid hr
  have HP := Lib.hid (fun W => rmpp_c x hx W)
  rw [hp] at HP
  have hpm : (p != 3) = true := by simpa using hm
  have hc : W64 (cutS x 7 1) := cutS_range _ _ _
  clear hr hp hm
  go_enter Tryd.func42, Tryd.ntmps42
  have HB := Lib.hid (Below.refl w.heap.size w)
  go_wp2_with fail
  refine (HP.out _).mono ?_
  rintro e w1 ⟨rfl, hb⟩
  replace HB := Lib.hid (HB.out.trans (hb.mono HB.out.size))
  clear hb
  go_wp2_with fail
  refine (rget_c x (by assumption) _ _).mono ?_
  rintro e w2 ⟨rfl, rfl⟩
  rw [get_mpie]
  generalize cutS x 7 1 = c at *
  go_wp2_with fail
  refine (rput_c x (by assumption) _ c (by assumption) _).mono ?_
  rintro e w3 ⟨rfl, hb⟩
  replace HB := Lib.hid (HB.out.trans (hb.mono HB.out.size))
  clear hb
  rw [at_mie]
  have yh : W64 (putS x 3 1 c) := putS_range _ _ _ _
  generalize putS x 3 1 c = y at *
  go_wp2_with fail
  refine (rput_c y (by assumption) _ 1 (by decide) _).mono ?_
  rintro e w4 ⟨rfl, hb⟩
  replace HB := Lib.hid (HB.out.trans (hb.mono HB.out.size))
  clear hb
  rw [at_mpie]
  have zh : W64 (putS y 7 1 1) := putS_range _ _ _ _
  generalize putS y 7 1 1 = z at *
  go_wp2_with fail
  refine (refPut_c z 11 2 0 _ (And.left (by assumption)) (And.right (by assumption)) (by omega) (by omega) (by omega) (by omega)).mono ?_
  rintro e w5 ⟨rfl, hb⟩
  replace HB := Lib.hid (HB.out.trans (hb.mono HB.out.size))
  clear hb
  have uh : W64 (putS z 11 2 0) := putS_range _ _ _ _
  generalize putS z 11 2 0 = u at *
  go_wp2_with fail
  refine (rput_c u (by assumption) _ 0 (by decide) _).mono ?_
  rintro e w6 ⟨rfl, hb⟩
  replace HB := Lib.hid (HB.out.trans (hb.mono HB.out.size))
  clear hb
  rw [at_mprv]
  have vh : W64 (putS u 17 1 0) := putS_range _ _ _ _
  generalize putS u 17 1 0 = v at *
  go_wp2_with fail
  go_ret2
  exact ⟨by rw [← HRR.out]; rfl, HB.out⟩
set_option maxHeartbeats 4000000 in
set_option maxRecDepth 100000 in
theorem rleave3y_c (x p r : Int) (hr : backM x = r) (hx : W64 x) (hp : mppS x = p) (hm : p = 3) (w : World) : Calls Tryd.prog 42 #[.int .u64 x, .int .i64 3] w fun e w' => e = .returned (.tuple #[.int .u64 r, .int .i64 p]) ∧ Below w.heap.size w w' := by
  unfold backM at hr
  have HRR := Lib.hid hr
  have HP := Lib.hid (fun W => rmpp_c x hx W)
  rw [hp] at HP
  have hpm : (p != 3) = false := by simpa using hm
  have hc : W64 (cutS x 7 1) := cutS_range _ _ _
  clear hr hp hm
  go_enter Tryd.func42, Tryd.ntmps42
  have HB := Lib.hid (Below.refl w.heap.size w)
  go_wp2_with fail
  refine (HP.out _).mono ?_
  rintro e w1 ⟨rfl, hb⟩
  replace HB := Lib.hid (HB.out.trans (hb.mono HB.out.size))
  clear hb
  go_wp2_with fail
  refine (rget_c x (by assumption) _ _).mono ?_
  rintro e w2 ⟨rfl, rfl⟩
  rw [get_mpie]
  generalize cutS x 7 1 = c at *
  go_wp2_with fail
  refine (rput_c x (by assumption) _ c (by assumption) _).mono ?_
  rintro e w3 ⟨rfl, hb⟩
  replace HB := Lib.hid (HB.out.trans (hb.mono HB.out.size))
  clear hb
  rw [at_mie]
  have yh : W64 (putS x 3 1 c) := putS_range _ _ _ _
  generalize putS x 3 1 c = y at *
  go_wp2_with fail
  refine (rput_c y (by assumption) _ 1 (by decide) _).mono ?_
  rintro e w4 ⟨rfl, hb⟩
  replace HB := Lib.hid (HB.out.trans (hb.mono HB.out.size))
  clear hb
  rw [at_mpie]
  have zh : W64 (putS y 7 1 1) := putS_range _ _ _ _
  generalize putS y 7 1 1 = z at *
  go_wp2_with fail
  refine (refPut_c z 11 2 0 _ (And.left (by assumption)) (And.right (by assumption)) (by omega) (by omega) (by omega) (by omega)).mono ?_
  rintro e w5 ⟨rfl, hb⟩
  replace HB := Lib.hid (HB.out.trans (hb.mono HB.out.size))
  clear hb
  have uh : W64 (putS z 11 2 0) := putS_range _ _ _ _
  generalize putS z 11 2 0 = u at *
  go_wp2_with fail
  go_ret2
  exact ⟨by rw [← HRR.out]; rfl, HB.out⟩
set_option maxHeartbeats 4000000 in
set_option maxRecDepth 100000 in
theorem rleave1_c (x r : Int) (hr : leaveU x = r) (hx : W64 x) (w : World) : Calls Tryd.prog 42 #[.int .u64 x, .int .i64 1] w fun e w' => e = .returned (.tuple #[.int .u64 r, .int .i64 (cutS x 8 1)]) ∧ Below w.heap.size w w' := by
  unfold leaveU at hr
  have HRR := Lib.hid hr
  have hc : W64 (cutS x 5 1) := cutS_range _ _ _
  have h8 : 0 ≤ cutS x 8 1 ∧ cutS x 8 1 ≤ 1 := by
    have h := cut1 x (k := 8) (by omega)
    have e : cutS x ((8 : Nat) : Int) 1 = cutS x 8 1 := rfl
    rw [← e, h]; exact bi_range _
  have hw8 : wrap64 (cutS x 8 1) = cutS x 8 1 := by unfold wrap64; omega
  have HG8 := Lib.hid (fun W => rget_c x hx ⟨#[115, 112, 112]⟩ W)
  rw [get_spp] at HG8
  clear hr
  generalize h8e : cutS x 8 1 = q at *
  have HQ := Lib.hid h8e
  clear h8e
  go_enter Tryd.func42, Tryd.ntmps42
  have HB := Lib.hid (Below.refl w.heap.size w)
  go_wp2_with fail
  refine (rget_c x (by assumption) _ _).mono ?_
  rintro e w1 ⟨rfl, rfl⟩
  rw [get_spie]
  generalize cutS x 5 1 = c at *
  go_wp2_with fail
  refine (rput_c x (by assumption) _ c (by assumption) _).mono ?_
  rintro e w2 ⟨rfl, hb⟩
  replace HB := Lib.hid (HB.out.trans (hb.mono HB.out.size))
  clear hb
  rw [at_sie]
  have yh : W64 (putS x 1 1 c) := putS_range _ _ _ _
  generalize putS x 1 1 c = y at *
  go_wp2_with fail
  refine (rput_c y (by assumption) _ 1 (by decide) _).mono ?_
  rintro e w3 ⟨rfl, hb⟩
  replace HB := Lib.hid (HB.out.trans (hb.mono HB.out.size))
  clear hb
  rw [at_spie]
  have zh : W64 (putS y 5 1 1) := putS_range _ _ _ _
  generalize putS y 5 1 1 = z at *
  go_wp2_with fail
  refine (rput_c z (by assumption) _ 0 (by decide) _).mono ?_
  rintro e w4 ⟨rfl, hb⟩
  replace HB := Lib.hid (HB.out.trans (hb.mono HB.out.size))
  clear hb
  rw [at_spp]
  have uh : W64 (putS z 8 1 0) := putS_range _ _ _ _
  generalize putS z 8 1 0 = u at *
  go_wp2_with fail
  refine (rput_c u (by assumption) _ 0 (by decide) _).mono ?_
  rintro e w5 ⟨rfl, hb⟩
  replace HB := Lib.hid (HB.out.trans (hb.mono HB.out.size))
  clear hb
  rw [at_mprv]
  have vh : W64 (putS u 17 1 0) := putS_range _ _ _ _
  generalize putS u 17 1 0 = v at *
  go_wp2_with fail
  refine (HG8.out _).mono ?_
  rintro e w9 ⟨rfl, rfl⟩
  go_wp2_with fail
  go_ret2
  exact ⟨by rw [← HRR.out]; rfl, HB.out⟩
theorem rleave_c (x dst : Int) (hx : W64 x) (w : World) : Calls Tryd.prog 42 #[.int .u64 x, .int .i64 dst] w fun e w' => e = .returned (.tuple #[.int .u64 (leaveV x dst), .int .i64 (leaveP x dst)]) ∧ Below w.heap.size w w' := by
  unfold leaveV leaveP
  by_cases h3 : dst = 3
  · subst h3
    rw [if_pos rfl, if_pos rfl]
    unfold leaveM
    by_cases hm : mppS x = 3
    · rw [if_pos hm]
      exact rleave3y_c x _ _ rfl hx rfl hm w
    · rw [if_neg hm]
      exact rleave3n_c x _ _ rfl hx rfl hm w
  · by_cases h1 : dst = 1
    · subst h1
      rw [if_neg h3, if_pos rfl, if_neg h3, if_pos rfl]
      exact rleave1_c x _ rfl hx w
    · rw [if_neg h3, if_neg h1, if_neg h3, if_neg h1]
      exact rleave0_c x dst h3 h1 w
end Go.Proofs.YtkbgmppbkllnmaaDoor
set_option maxRecDepth 20000
namespace Go.Proofs.YtkbgmppbkllnmaaDoor
open Go.ChangeShapes Go.WideShapes Go.ChangeAt Go.RowKit Wd Csr Sta

def nmS (k : Nat) : ByteArray := [⟨#[115, 105, 101]⟩, ⟨#[115, 112, 105, 101]⟩, ⟨#[115, 112, 112]⟩, ⟨#[115, 117, 109]⟩, ⟨#[109, 120, 114]⟩].getD k ⟨#[]⟩
def plS (k : Nat) : Nat := [1, 5, 8, 18, 19].getD k 0
theorem nm_at : ∀ k : Fin 5, atI (nmS k.val) = (plS k.val : Nat) ∧ plS k.val < 64 := by decide +kernel
def viewP (x : Int) : Nat → Int
  | 0 => 0
  | k + 1 => putS (viewP x k) (plS k) 1 (cutS x (plS k) 1)
theorem viewP_range (x : Int) : ∀ k, W64 (viewP x k)
  | 0 => by unfold viewP W64; omega
  | k + 1 => putS_range _ _ _ _
theorem viewP_end (x : Int) : putS (viewP x 5) 33 1 (cutS x 33 1) = viewR x := rfl
structure VwS (w W : World) (b : Nat) : Prop where
  row : CsAt W b 9 #[.string ⟨#[115, 105, 101]⟩, .string ⟨#[115, 112, 105, 101]⟩, .string ⟨#[115, 112, 112]⟩, .string ⟨#[115, 117, 109]⟩, .string ⟨#[109, 120, 114]⟩]
  bel : Below w.heap.size w W
theorem VwS.low {w W W' : World} {b : Nat} (h : VwS w W b) (hb : Below W.heap.size W W') : VwS w W' b := ⟨h.row.low hb, h.bel.trans (hb.mono h.bel.size)⟩
theorem VwS.drew {w W : World} {b : Nat} (h : VwS w W b) : VwS w W.drew b := ⟨h.row, h.bel.drew⟩
theorem VwS.at_ {w W : World} {b : Nat} (h : VwS w W b) (k : Nat) (hk : k < 5) : W.cell? ⟨b, k, none⟩ = some (.string (nmS k)) := by
  rw [h.row.cell k]
  match k, hk with
  | 0, _ => rfl
  | 1, _ => rfl
  | 2, _ => rfl
  | 3, _ => rfl
  | 4, _ => rfl
set_option maxHeartbeats 4000000 in
set_option maxRecDepth 100000 in
theorem rview_c (x : Int) (hx : W64 x) (w : World) : Calls Tryd.prog 83 #[.int .u64 x] w fun e w' => e = .returned (.int .u64 (viewS x)) ∧ Below w.heap.size w w' := by
  have HV := Lib.hid (show viewS x = putS (viewP x 5) 33 1 (cutS x 33 1) from view_ref hx)
  have HX := Lib.hid hx
  go_enter Tryd.func83, Tryd.ntmps83
  go_wp2_with fail
  have hS : VwS w (w.alloc (.cells #[.string ⟨#[115, 105, 101]⟩, .string ⟨#[115, 112, 105, 101]⟩, .string ⟨#[115, 112, 112]⟩, .string ⟨#[115, 117, 109]⟩, .string ⟨#[109, 120, 114]⟩] 9)) w.heap.size := ⟨CsAt.new w _ _, (Below.refl _ _).alloc (Nat.le_refl _) _⟩
  generalize (w.alloc (.cells #[.string ⟨#[115, 105, 101]⟩, .string ⟨#[115, 112, 105, 101]⟩, .string ⟨#[115, 112, 112]⟩, .string ⟨#[115, 117, 109]⟩, .string ⟨#[109, 120, 114]⟩] 9)) = w1 at *
  have HS := Lib.hid hS
  clear hS
  go_wp2_with fail
  go_loopw [3, 5] (fun acc iv wr => ∃ k : Nat, k ≤ 5 ∧ iv = .int .i64 k ∧ acc = .int .u64 (viewP x k) ∧ VwS w wr w.heap.size) (fun _ iv _ => 5 - (intOf iv).toNat)
  case atStart => exact ⟨0, by omega, rfl, rfl, HS.out⟩
  case round =>
    obtain ⟨k, hk, rfl, rfl, hv⟩ := hrel
    have HW := Lib.hid hv
    clear hv
    by_cases hlt : k < 5
    · have hl2 : (k : Int) < 5 := by omega
      obtain ⟨ha, hpl⟩ := nm_at ⟨k, hlt⟩
      simp only at ha hpl
      have HG := Lib.hid (fun W => rget_c x HX.out (nmS k) W)
      rw [get_at ha hpl] at HG
      have HP := Lib.hid (fun W => rput_c (viewP x k) (viewP_range x k) (nmS k) (cutS x (plS k) 1) (cutS_range _ _ _) W)
      rw [ha] at HP
      have HN := Lib.hid (show putS (viewP x k) (plS k) 1 (cutS x (plS k) 1) = viewP x (k + 1) from rfl)
      rw [HN.out] at HP
      have HC := Lib.hid (fun (W : World) (h : VwS w W w.heap.size) => h.at_ k hlt)
      clear ha hpl HN
      generalize nmS k = nm at *
      generalize cutS x (plS k) 1 = c at *
      generalize hvk : viewP x k = a at *
      generalize hvn : viewP x (k + 1) = a2 at *
      have HVN := Lib.hid hvn
      clear hvk hvn hx
      go_upto_region 6 with fail
      refine wp_region_steady (fun W => VwS w W w.heap.size) (by kernel_rfl) (by kernel_rfl) HW.out.drew ?_
      iterate 4
        refine steady_val ?_ ?_ (by kernel_rfl) (fun W hS => ?_) ?_ ?_
        rotate_left 2
        · go_simp
          exact rfl
        · go_simp
          exact rfl
      refine steady_val ?_ ?_ (by kernel_rfl) (fun W hS => ?_) ?_ ?_
      rotate_left 2
      · have q := HC.out W hS; go_simp
        exact rfl
      · go_simp
        exact rfl
      iterate 4
        refine steady_val ?_ ?_ (by kernel_rfl) (fun W hS => ?_) ?_ ?_
        rotate_left 2
        · go_simp
          exact rfl
        · go_simp
          exact rfl
      refine steady_val ?_ ?_ (by kernel_rfl) (fun W hS => ?_) ?_ ?_
      rotate_left 2
      · have q := HC.out W hS; go_simp
        exact rfl
      · go_simp
        exact rfl
      refine steady_enter (.int .u64 c) 78 #[.int .u64 x, .string nm] ?_ (by kernel_rfl) (fun W hS => ?_) (fun W hS => (HG.out W).mono (by rintro e w' ⟨rfl, rfl⟩; exact ⟨rfl, hS⟩)) ?_ ?_
      rotate_left 1
      · go_simp
      · go_simp
        exact rfl
      refine steady_enter (.int .u64 a2) 77 #[.int .u64 a, .string nm, .int .u64 c] ?_ (by kernel_rfl) (fun W hS => ?_) (fun W hS => (HP.out W).mono (by rintro e w' ⟨rfl, hb⟩; exact ⟨rfl, hS.low hb⟩)) ?_ ?_
      rotate_left 1
      · go_simp
      · go_simp
        exact rfl
      refine steady_val ?_ ?_ (by kernel_rfl) (fun W hS => ?_) ?_ ?_
      rotate_left 2
      · go_simp
        exact rfl
      · go_simp
        exact rfl
      refine steady_nil ?_
      intro W hS
      have HS5 := Lib.hid hS
      clear hS HW
      go_wp2_with fail
      go_roundw
      case rel => exact ⟨k + 1, by omega, by go_num, by rw [HVN.out], HS5.out⟩
      case measure => simp [intOf]; omega
    · obtain rfl : k = 5 := by omega
      have HB33 := Lib.hid (fun W => bit_c x 33 W HX.out.1 HX.out.2)
      have e33 : bi (tbI x 33) = cutS x 33 1 := by
        have h := cut1 x (k := 33) (by omega)
        rw [← tbI_nat x 33 (by omega)] at h
        exact h.symm
      rw [e33] at HB33
      have hv5 := viewP_range x 5
      have h33 := cutS_range x 33 1
      have HP33 := Lib.hid (fun W => refPut_c (viewP x 5) 33 1 (cutS x 33 1) W hv5.1 hv5.2 (by omega) (by omega) h33.1 h33.2)
      clear e33 hv5 h33
      generalize hq : putS (viewP x 5) 33 1 (cutS x 33 1) = q at *
      generalize viewP x 5 = a at *
      generalize cutS x 33 1 = c at *
      clear hq hx
      go_wp2_with fail
      refine (HB33.out _).mono ?_
      rintro e w2 ⟨rfl, rfl⟩
      go_wp2_with fail
      refine (HP33.out _).mono ?_
      rintro e w3 ⟨rfl, hb⟩
      have HE := Lib.hid (HW.out.low hb)
      clear hb
      go_wp2_with fail
      go_ret
      exact ⟨by rw [HV.out]; rfl, HE.out.bel⟩
end Go.Proofs.YtkbgmppbkllnmaaDoor
