/-
  Contracts of the reference of layer 1: in, Put, Ones. Contracts of the reference of layer 1: Ones, Sign, Cut. Contracts of package split and of the reference of layer 11: isSize, left, Cut, May, Line, Stripe, Byte.
-/
import Derived.Test.YtjeolfcefeglpabGreatXab
import Derived.Test.YtjeolfcefeglpabGreatXaa
import Derived.Laws.ResultCell
import Derived.ProofKit
import Derived.OpenShut
import Derived.Deep.DeepCutAuto
import Derived.Deep.QuietTactic
import Derived.BigQuiet
set_option maxRecDepth 20000
namespace Go.Proofs.YtjeolfcefeglpabGreat
open Go.ChangeShapes Go.WideShapes Go.ChangeAt Go.RowKit Wd

def inK (p : Int) (i : Nat) : Int := if 1000 < (i : Int) - p then 1000 else (i : Int) - p
theorem in_yes (p s : Int) (i : Nat) (w : World) (hi : i < 64) (_hp0 : -9223372036854775808 ≤ p) (hs : s < 9223372036854775808) (hin : inP p s i = true) :
    Calls Tryz.prog 134 #[.int .i64 p, .int .i64 s, .int .i64 i] w fun e w' => e = .returned (.tuple #[.int .i64 (inK p i), .bool true]) ∧ w = w' := by
  obtain ⟨h1, h2, h3⟩ := of_decide_eq_true hin
  clear hin
  have h3' : (i : Int) - p < s := by omega
  have h0' : 0 ≤ (i : Int) - p := by omega
  clear h3
  have he : IntKind.u64.wrap (↑i - IntKind.u64.wrap p) = ↑i - p := by rw [IntKind.wrap_u64, IntKind.wrap_u64]; omega
  by_cases c : 1000 < (i : Int) - p
  · have hk : inK p i = 1000 := by unfold inK; rw [if_pos c]
    have H := Lib.hid hk
    clear hk
    have hneg : p < 0 := by omega
    go_enter Tryz.func134, Tryz.ntmps134
    go_wp2
    go_ret2
    exact ⟨by rw [H.out]; rfl, rfl⟩
  · have hk : inK p i = i - p := by unfold inK; rw [if_neg c]
    have H := Lib.hid hk
    clear hk
    by_cases hneg : p < 0
    · go_enter Tryz.func134, Tryz.ntmps134
      go_wp2
      go_ret2
      exact ⟨by rw [H.out]; rfl, rfl⟩
    · clear he
      go_enter Tryz.func134, Tryz.ntmps134
      go_wp2
      go_ret2
      exact ⟨by rw [H.out]; rfl, rfl⟩
theorem in_no (p s : Int) (i : Nat) (w : World) (hi : i < 64) (hp0 : -9223372036854775808 ≤ p) (hs : s < 9223372036854775808) (hin : inP p s i = false) :
    Calls Tryz.prog 134 #[.int .i64 p, .int .i64 s, .int .i64 i] w fun e w' => e = .returned (.tuple #[.int .i64 0, .bool false]) ∧ w = w' := by
  have h := of_decide_eq_false hin
  clear hin
  by_cases h1 : s < 1
  · clear h
    go_enter Tryz.func134, Tryz.ntmps134
    go_wp2
    go_ret2
    exact ⟨rfl, rfl⟩
  · by_cases h2 : (i : Int) < p
    · clear h
      go_enter Tryz.func134, Tryz.ntmps134
      go_wp2
      go_ret2
      exact ⟨rfl, rfl⟩
    · have h3' : s ≤ (i : Int) - p := by omega
      have h0' : 0 ≤ (i : Int) - p := by omega
      have h1' : 1 ≤ s := by omega
      have h2' : p ≤ (i : Int) := by omega
      clear h h1 h2
      have he : IntKind.u64.wrap (↑i - IntKind.u64.wrap p) = ↑i - p := by rw [IntKind.wrap_u64, IntKind.wrap_u64]; omega
      by_cases hneg : p < 0
      · go_enter Tryz.func134, Tryz.ntmps134
        go_wp2
        go_ret2
        exact ⟨rfl, rfl⟩
      · clear he
        go_enter Tryz.func134, Tryz.ntmps134
        go_wp2
        go_ret2
        exact ⟨rfl, rfl⟩
theorem bit_inK {n p : Int} {i : Nat} (hn : n < 18446744073709551616) (h : 0 ≤ (i : Int) - p) : tbI n (inK p i) = tb n (i - p).toNat := by
  unfold inK tbI
  by_cases c : 1000 < (i : Int) - p
  · rw [if_pos c, tb_big hn (i := (i - p : Int).toNat) (by omega)]
    simp
  · rw [if_neg c]
    by_cases c2 : (i : Int) - p ≤ 63
    · rw [decide_eq_true ⟨h, c2⟩, Bool.true_and]
    · rw [tb_big hn (i := (i - p : Int).toNat) (by omega)]
      simp
theorem inP_ge {p s : Int} {i : Nat} (h : inP p s i = true) : 0 ≤ (i : Int) - p := by
  have := of_decide_eq_true h
  omega

theorem info_u64 : (Tryz.prog.info? 38).map (fun i => (i.zero, i.size, i.bytes)) = some (some (.int .u64 0), 1, 8) := by kernel_rfl
theorem rel_app {base k : Nat} {w wr w1 : World} {v v' : Value} {f : Nat → Bool} {o : Obj} {b : Bool} (hb : base ≤ wr.heap.size) (hbf : b = f k)
    (hown : wr.ownsRow base 38 1 v k (bl f k)) (hown' : w1.ownsRow base 38 1 v' (k + 1) (bl f k ++ [.int .u64 (bi b)])) (hgrow : (wr.alloc o).grownBy w1 v.ownBlock) (hnx : Below base w wr) :
    w1.ownsRow base 38 1 v' (k + 1) (bl f (k + 1)) ∧ Below base w w1 := by
  subst hbf
  refine ⟨by rw [bl_succ]; exact hown', (hnx.alloc hb o).grown hgrow (by simp; omega) (fun j hj => (hown.lt j hj).1)⟩

theorem news_one {w : World} {u : Value} {t : TypeId} : ∀ (j : Nat) (u' : Value), [u][j]? = some u' → (w.alloc (.cells #[u] t)).cell? ((⟨w.heap.size, 0, none⟩ : Addr).add j) = some u' := by
  intro j u' hj
  match j, hj with
  | 0, hj => simp at hj; subst hj; simp [Addr.add]
theorem one_cell (b : Bool) : ∀ u ∈ [Value.int .u64 (bi b)], u.oneCell' = true := by
  intro u hu; simp at hu; subst hu; rfl

end Go.Proofs.YtjeolfcefeglpabGreat
set_option maxRecDepth 20000
namespace Go.Proofs.YtjeolfcefeglpabGreat
open Go.ChangeShapes Go.WideShapes Go.ChangeAt Go.RowKit Wd

theorem one_cell' (n : Int) : ∀ u ∈ [Value.int .u64 n], u.oneCell' = true := by
  intro u hu; simp at hu; subst hu; rfl

theorem signS_pos {x s : Int} (h : 1 ≤ s) : signS x s = word fun i => if (i : Int) < s then tb x i else tb x (s - 1).toNat := by
  unfold signS
  rw [if_neg (by omega)]

set_option maxHeartbeats 1600000 in
theorem refSign_c (x s : Int) (w : World) (hx0 : 0 ≤ x) (hx : x < 18446744073709551616) (hs : s < 9223372036854775808) :
    Calls Tryz.prog 90 #[.int .u64 x, .int .i64 s] w fun e w' => e = .returned (.int .u64 (signS x s)) ∧ Below w.heap.size w w' := by
  by_cases hs1 : s < 1
  · go_enter Tryz.func90, Tryz.ntmps90
    go_wp2
    go_ret
    exact ⟨ret_u (sign_low hs1), Below.refl _ _⟩
  · have hs1' : 1 ≤ s := by omega
    clear hs1
    obtain ⟨i0, hi, hz0, hz1, hz2⟩ := info_parts info_u64
    obtain ⟨f, hf⟩ : ∃ f : Nat → Bool, f = fun (i : Nat) => if (i : Int) < s then tb x i else tb x (s - 1).toNat := ⟨_, rfl⟩
    have HF := Lib.hid hf
    clear hf
    go_enter Tryz.func90, Tryz.ntmps90
    go_wp2
    go_loopw [5, 6] (fun v i wr => ∃ k : Nat, k ≤ 64 ∧ i = .int .i64 k ∧ wr.ownsRow w.heap.size 38 1 v k (bl f k) ∧ Below w.heap.size w wr) (fun _ i _ => 64 - (intOf i).toNat)
    case atStart => exact ⟨0, Nat.zero_le _, rfl, World.ownsRow_nil _ _ _ _, Below.refl _ _⟩
    case round =>
      obtain ⟨k, hk, rfl, hown, hnx⟩ := hrel
      have hsz := hnx.size
      have HO := Lib.hid hown
      clear hown
      by_cases hlt : k < 64
      · by_cases hin : (k : Int) < s
        · have hb : tbI x k = f k := by rw [HF.out, tbI_nat x k hlt]; simp [hin]
          have HB := Lib.hid hb
          clear hb
          go_wp2_with (first
            | (go_at_call 135; refine (bit_c _ _ _ hx0 hx).mono ?_; rintro e w' ⟨rfl, rfl⟩)
            | (at_builtin; refine wpList_append_own _ rfl _ _ 148 rfl w.heap.size 38 i0 (.int .u64 0) 1 8 Tryz.underlying148 hi hz0 hz1 hz2 rfl (by decide) _ _ _ rfl (HO.out.alloc _) ⟨wr.heap.size, 0, none⟩ 1 1 [.int .u64 (bi (tbI x k))] rfl rfl news_one (one_cell _) (by unfold maxLen; omega) (by omega) (by simp; omega) ?_; intro v' w1 hown' hgrow _))
          have R := rel_app hsz HB.out HO.out hown' hgrow hnx
          go_roundw
          case rel => exact ⟨k + 1, by omega, by go_num, R.1, R.2⟩
          case measure => simp [intOf]; omega
        · have hb : tbI x (s - 1) = f k := by
            rw [HF.out]
            unfold tbI
            have : 0 ≤ s - 1 ∧ s - 1 ≤ 63 := by omega
            rw [decide_eq_true this]
            simp [hin]
          have HB := Lib.hid hb
          clear hb
          go_wp2_with (first
            | (go_at_call 135; refine (bit_c _ _ _ hx0 hx).mono ?_; rintro e w' ⟨rfl, rfl⟩)
            | (at_builtin; refine wpList_append_own _ rfl _ _ 148 rfl w.heap.size 38 i0 (.int .u64 0) 1 8 Tryz.underlying148 hi hz0 hz1 hz2 rfl (by decide) _ _ _ rfl (HO.out.alloc _) ⟨wr.heap.size, 0, none⟩ 1 1 [.int .u64 (bi (tbI x (s - 1)))] rfl rfl news_one (one_cell _) (by unfold maxLen; omega) (by omega) (by simp; omega) ?_; intro v' w1 hown' hgrow _))
          have R := rel_app hsz HB.out HO.out hown' hgrow hnx
          go_roundw
          case rel => exact ⟨k + 1, by omega, by go_num, R.1, R.2⟩
          case measure => simp [intOf]; omega
      · obtain rfl : k = 64 := by omega
        go_wp2_with (go_at_call 136; refine (of_c f 64 _ w.heap.size _ (by omega) (by omega) HO.out).mono ?_; rintro e w' ⟨rfl, rfl⟩)
        go_ret
        exact ⟨by rw [signS_pos hs1', HF.out]; rfl, hnx⟩

/-! ### Cut -/
def hit (x p : Int) (k i : Nat) : Bool := decide (0 ≤ p + k ∧ p + k < i) && tb x (p + k).toNat
theorem hit_zero (x p : Int) (k : Nat) : hit x p k 0 = false := by
  unfold hit
  have : ¬ (0 ≤ p + k ∧ p + k < ((0 : Nat) : Int)) := by omega
  rw [decide_eq_false this, Bool.false_and]
theorem hit_at {x p : Int} {k i : Nat} (hi : i < 64) (h : (i : Int) - p = k) : tbI x i = hit x p k (i + 1) := by
  unfold hit
  have a : 0 ≤ p + k ∧ p + k < ((i + 1 : Nat) : Int) := by omega
  rw [decide_eq_true a, tbI_nat x i hi]
  have : (p + k).toNat = i := by omega
  simp [this]
theorem hit_not {x p : Int} {k i : Nat} (h : ¬ (i : Int) - p = k) : hit x p k i = hit x p k (i + 1) := by
  unfold hit
  congr 1
  apply decide_eq_decide.2
  omega
theorem hit_all {x p : Int} {k : Nat} (hx : x < 18446744073709551616) : hit x p k 64 = (decide (0 ≤ p + k) && tb x (p + k).toNat) := by
  unfold hit
  by_cases c : p + k < ((64 : Nat) : Int)
  · congr 1
    apply decide_eq_decide.2
    omega
  · rw [tb_big hx (by omega), Bool.and_false, Bool.and_false]
theorem inK_eq {p : Int} {k i : Nat} (hk : k < 64) (h : (i : Int) - p = k) : (inK p i == (k : Int)) = true := by
  unfold inK
  rw [if_neg (by omega), beq_iff_eq]
  omega
theorem inK_ne {p : Int} {k i : Nat} (hk : k < 64) (h : ¬ (i : Int) - p = k) : (inK p i == (k : Int)) = false := by
  unfold inK
  rw [beq_eq_false_iff_ne]
  split <;> omega
theorem cut_true {x p s : Int} {k : Nat} (hx : x < 18446744073709551616) (h : (k : Int) < s) : hit x p k 64 = (decide ((k : Int) < s ∧ 0 ≤ p + k) && tb x (p + k).toNat) := by
  rw [hit_all hx]
  congr 1
  apply decide_eq_decide.2
  omega
theorem cut_false {x p s : Int} {k : Nat} (h : ¬ (k : Int) < s) : false = (decide ((k : Int) < s ∧ 0 ≤ p + k) && tb x (p + k).toNat) := by
  have : ¬ ((k : Int) < s ∧ 0 ≤ p + k) := by omega
  rw [decide_eq_false this, Bool.false_and]

set_option maxHeartbeats 1600000 in
theorem refCut_c (x p s : Int) (w : World) (hx0 : 0 ≤ x) (hx : x < 18446744073709551616) (hp0 : -9223372036854775808 ≤ p) (hs : s < 9223372036854775808) :
    Calls Tryz.prog 88 #[.int .u64 x, .int .i64 p, .int .i64 s] w fun e w' => e = .returned (.int .u64 (cutS x p s)) ∧ Below w.heap.size w w' := by
  obtain ⟨i0, hi, hz0, hz1, hz2⟩ := info_parts info_u64
  obtain ⟨f, hf⟩ : ∃ f : Nat → Bool, f = fun (k : Nat) => decide ((k : Int) < s ∧ 0 ≤ p + k) && tb x (p + k).toNat := ⟨_, rfl⟩
  have HF := Lib.hid hf
  clear hf
  go_enter Tryz.func88, Tryz.ntmps88
  go_wp2
  go_loopw [7, 8] (fun v i wr => ∃ k : Nat, k ≤ 64 ∧ i = .int .i64 k ∧ wr.ownsRow w.heap.size 38 1 v k (bl f k) ∧ Below w.heap.size w wr) (fun _ i _ => 64 - (intOf i).toNat)
  case atStart => exact ⟨0, Nat.zero_le _, rfl, World.ownsRow_nil _ _ _ _, Below.refl _ _⟩
  case round =>
    obtain ⟨k, hk, rfl, hown, hnx⟩ := hrel
    have hsz := hnx.size
    have HO := Lib.hid hown
    clear hown
    by_cases hlt : k < 64
    · by_cases hks : (k : Int) < s
      · have hb : hit x p k 64 = f k := by rw [HF.out]; exact cut_true hx hks
        have HB := Lib.hid hb
        clear hb
        have hd1 : decide ((k : Int) < 64) = true := decide_eq_true (by omega)
        have hd2 : decide ((k : Int) < s) = true := decide_eq_true hks
        go_wp2
        clear hd1 hd2
        go_loop [9, 10] (fun t i => ∃ j : Nat, j ≤ 64 ∧ i = .int .i64 j ∧ t = .int .u64 (bi (hit x p k j))) (fun _ i => 64 - (intOf i).toNat)
        case atStart => exact ⟨0, Nat.zero_le _, rfl, by rw [hit_zero]; rfl⟩
        case round =>
          obtain ⟨j, hj, rfl, rfl⟩ := hrel
          by_cases hjl : j < 64
          · by_cases hin : inP p s j = true
            · have HI := Lib.hid hin
              clear hin
              by_cases hjk : (j : Int) - p = k
              · have he := inK_eq hlt hjk
                have HE := Lib.hid (hit_at (x := x) hjl hjk)
                have HJ := Lib.hid hjk
                clear hjk
                go_wp2_with (first
                  | (go_at_call 134; refine (in_yes p s j _ hjl hp0 hs HI.out).mono ?_; rintro e w' ⟨rfl, rfl⟩)
                  | (go_at_call 135; refine (bit_c _ _ _ hx0 hx).mono ?_; rintro e w' ⟨rfl, rfl⟩))
                go_round
                case rel => exact ⟨j + 1, by omega, by go_num, by rw [HE.out]⟩
                case measure => simp [intOf]; omega
              · have he := inK_ne hlt hjk
                have HE := Lib.hid (hit_not (x := x) hjk)
                have HJ := Lib.hid hjk
                clear hjk
                go_wp2_with (first
                  | (go_at_call 134; refine (in_yes p s j _ hjl hp0 hs HI.out).mono ?_; rintro e w' ⟨rfl, rfl⟩)
                  | (go_at_call 135; refine (bit_c _ _ _ hx0 hx).mono ?_; rintro e w' ⟨rfl, rfl⟩))
                go_round
                case rel => exact ⟨j + 1, by omega, by go_num, by rw [HE.out]⟩
                case measure => simp [intOf]; omega
            · have hin' : inP p s j = false := by simpa using hin
              have hjk : ¬ (j : Int) - p = k := by
                have := of_decide_eq_false hin'
                omega
              have HI := Lib.hid hin'
              have HE := Lib.hid (hit_not (x := x) hjk)
              clear hin hin' hjk
              go_wp2_with (go_at_call 134; refine (in_no p s j _ hjl hp0 hs HI.out).mono ?_; rintro e w' ⟨rfl, rfl⟩)
              go_round
              case rel => exact ⟨j + 1, by omega, by go_num, by rw [HE.out]⟩
              case measure => simp [intOf]; omega
          · obtain rfl : j = 64 := by omega
            go_wp2_with (at_builtin; refine wpList_append_own _ rfl _ _ 148 rfl w.heap.size 38 i0 (.int .u64 0) 1 8 Tryz.underlying148 hi hz0 hz1 hz2 rfl (by decide) _ _ _ rfl (HO.out.alloc _) ⟨wr.heap.size, 0, none⟩ 1 1 [.int .u64 (bi (hit x p k 64))] rfl rfl news_one (one_cell _) (by unfold maxLen; omega) (by omega) (by simp; omega) ?_; intro v' w1 hown' hgrow _)
            have R := rel_app hsz HB.out HO.out hown' hgrow hnx
            go_roundw
            case rel => exact ⟨k + 1, by omega, by go_num, R.1, R.2⟩
            case measure => simp [intOf]; omega
      · have hb : false = f k := by rw [HF.out]; exact cut_false hks
        have HB := Lib.hid hb
        clear hb
        go_wp2_with (at_builtin; refine wpList_append_own _ rfl _ _ 148 rfl w.heap.size 38 i0 (.int .u64 0) 1 8 Tryz.underlying148 hi hz0 hz1 hz2 rfl (by decide) _ _ _ rfl (HO.out.alloc _) ⟨wr.heap.size, 0, none⟩ 1 1 [.int .u64 0] rfl rfl news_one (one_cell' _) (by unfold maxLen; omega) (by omega) (by simp; omega) ?_; intro v' w1 hown' hgrow _)
        have R := rel_app (b := false) hsz HB.out HO.out hown' hgrow hnx
        go_roundw
        case rel => exact ⟨k + 1, by omega, by go_num, R.1, R.2⟩
        case measure => simp [intOf]; omega
    · obtain rfl : k = 64 := by omega
      go_wp2_with (go_at_call 136; refine (of_c f 64 _ w.heap.size _ (by omega) (by omega) HO.out).mono ?_; rintro e w' ⟨rfl, rfl⟩)
      go_ret
      exact ⟨by rw [HF.out]; rfl, hnx⟩
end Go.Proofs.YtjeolfcefeglpabGreat
set_option maxRecDepth 20000
namespace Go.Proofs.YtjeolfcefeglpabGreat
open Go.ChangeShapes Go.WideShapes Go.ChangeAt Go.RowKit Wd

theorem sret_b {a b : Bool} (h : a = b) : Ending.returned (.bool a) = .returned (.bool b) := by rw [h]
theorem sret_u {k : IntKind} {a b : Int} (h : a = b) : Ending.returned (.int k a) = .returned (.int k b) := by rw [h]
theorem isSize_c (n : Int) (w : World) : Calls Tryz.prog 114 #[.int .i64 n] w fun e w' => e = .returned (.bool (Sp.szB n)) ∧ w = w' := by
  by_cases h1 : 1 ≤ n
  · have g1 : decide (1 ≤ n) = true := by simpa using h1
    have H := Lib.hid (show Sp.szB n = decide (n ≤ 8) by unfold Sp.szB; exact decide_eq_decide.2 (by omega))
    go_enter Tryz.func114, Tryz.ntmps114
    go_wp2_with fail
    go_ret
    exact ⟨sret_b H.out.symm, rfl⟩
  · have g1 : decide (1 ≤ n) = false := by simpa using h1
    have H := Lib.hid (show Sp.szB n = false by unfold Sp.szB; simp; omega)
    go_enter Tryz.func114, Tryz.ntmps114
    go_wp2_with fail
    go_ret
    exact ⟨sret_b H.out.symm, rfl⟩
theorem left_c (a s : Int) (w : World) (h0 : 0 ≤ a) (h1 : a < 18446744073709551616) (hs : 1 ≤ s) (hs2 : s ≤ 4096) :
    Calls Tryz.prog 115 #[.int .u64 a, .int .i64 s] w fun e w' => e = .returned (.int .i64 (s - a % s)) ∧ w = w' := by
  have hw : IntKind.u64.wrap s = s := by rw [IntKind.wrap_u64]; omega
  have hm0 := Int.emod_nonneg a (show s ≠ 0 by omega)
  have hm1 := Int.emod_lt_of_pos a (show 0 < s by omega)
  go_enter Tryz.func115, Tryz.ntmps115
  go_wp2_with fail
  go_ret
  exact ⟨sret_u (by first | rfl | omega), rfl⟩
/-- An access. -/
abbrev axV (a b c n : Int) : Array Value := #[.int .u64 a, .int .u64 b, .int .i64 c, .int .i64 n]
theorem may_c (a b c n : Int) (w : World) : Calls Tryz.prog 65 #[.agg (axV a b c n)] w fun e w' => e = .returned (.bool (Sp.okA c n)) ∧ Below w.heap.size w w' := by
  have HB := Lib.hid ((Below.refl w.heap.size w).alloc (Nat.le_refl _) (.cells (axV a b c n) 104))
  have HC := CsAt.new w 104 (axV a b c n)
  have c2 := HC.cell 2
  have c3 := HC.cell 3
  clear HC
  go_enter Tryz.func65, Tryz.ntmps65
  go_upto_region 1 with (fail)
  generalize w.alloc (.cells (axV a b c n) 104) = w1 at *
  go_wp2_with fail
  refine (isSize_c _ _).mono ?_
  rintro e w2 ⟨rfl, rfl⟩
  cases hs : Sp.szB n
  · have H := Lib.hid (show Sp.okA c n = false by
      unfold Sp.szB at hs; unfold Sp.okA; simp at hs ⊢; omega)
    go_wp2_with fail
    go_ret
    exact ⟨sret_b H.out.symm, HB.out⟩
  · unfold Sp.szB at hs
    by_cases h0 : 0 ≤ c
    · have g0 : decide (0 ≤ c) = true := by simpa using h0
      have H := Lib.hid (show Sp.okA c n = decide (c < n) by
        unfold Sp.okA; simp at hs; exact decide_eq_decide.2 (by omega))
      clear hs
      go_wp2_with fail
      go_ret
      exact ⟨sret_b H.out.symm, HB.out⟩
    · have g0 : decide (0 ≤ c) = false := by simpa using h0
      have H := Lib.hid (show Sp.okA c n = false by
        unfold Sp.okA; simp; omega)
      clear hs
      go_wp2_with fail
      go_ret
      exact ⟨sret_b H.out.symm, HB.out⟩
theorem sline_c (a : Int) (w : World) (h0 : 0 ≤ a) (h1 : a < 18446744073709551616) : Calls Tryz.prog 37 #[.int .u64 a] w fun e w' => e = .returned (.int .u64 (a / 64)) ∧ w = w' := by
  go_enter Tryz.func37, Tryz.ntmps37
  go_wp2_with fail
  go_ret
  exact ⟨rfl, rfl⟩
theorem stripe_c (a n : Int) (w : World) (h0 : 0 ≤ a) (h1 : a < 18446744073709551616) (hn : n ≤ 9223372036854775807) :
    Calls Tryz.prog 61 #[.int .u64 a, .int .i64 n] w fun e w' => e = .returned (.int .i64 (Sp.stripe a n)) ∧ w = w' := by
  by_cases h : n < 1
  · have H := Lib.hid (show Sp.stripe a n = 0 by unfold Sp.stripe; rw [if_pos h])
    go_enter Tryz.func61, Tryz.ntmps61
    go_wp2_with fail
    go_ret
    exact ⟨sret_u H.out.symm, rfl⟩
  · have hr := Sp.stripe_range (n := n) h0 h1
    have HE := Lib.hid (show a / 64 % n = Sp.stripe a n by unfold Sp.stripe; rw [if_neg h])
    have e1 : IntKind.u64.wrap n = n := by rw [IntKind.wrap_u64]; omega
    have HR := Lib.hid (show 0 ≤ a / 64 % n ∧ a / 64 % n < 288230376151711744 by rw [HE.out]; exact hr)
    have hq0 : 0 ≤ a / 64 := by omega
    clear hr
    go_enter Tryz.func61, Tryz.ntmps61
    go_wp2_with fail
    refine (sline_c _ _ h0 h1).mono ?_
    rintro e w1 ⟨rfl, rfl⟩
    obtain ⟨r0, r1⟩ := HR.out
    go_wp2_with fail
    go_ret
    exact ⟨sret_u HE.out, rfl⟩
end Go.Proofs.YtjeolfcefeglpabGreat
