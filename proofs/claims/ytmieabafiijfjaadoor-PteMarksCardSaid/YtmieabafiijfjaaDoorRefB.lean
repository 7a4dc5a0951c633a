/-
  Contracts of the reference of layer 1: in, Put, Ones.
-/
import Derived.Test.YtmieabafiijfjaaDoorRefA
set_option maxRecDepth 4000
namespace Go.Proofs.YtmieabafiijfjaaDoor
open Go.ChangeShapes Go.WideShapes Go.ChangeAt Go.RowKit Wd

def inK (p : Int) (i : Nat) : Int := if 1000 < (i : Int) - p then 1000 else (i : Int) - p
theorem in_yes (p s : Int) (i : Nat) (w : World) (hi : i < 64) (_hp0 : -9223372036854775808 ≤ p) (hs : s < 9223372036854775808) (hin : inP p s i = true) :
    Calls Tryd.prog 25 #[.int .i64 p, .int .i64 s, .int .i64 i] w fun e w' => e = .returned (.tuple #[.int .i64 (inK p i), .bool true]) ∧ w = w' := by
  obtain ⟨h1, h2, h3⟩ := of_decide_eq_true hin
  clear hin
  have h3' : (i : Int) - p < s := by omega
  have h0' : 0 ≤ (i : Int) - p := by omega
  clear h3
  have he : IntKind.u64.wrap (↑i - IntKind.u64.wrap p) = ↑i - p := by rw [IntKind.wrap_u64, IntKind.wrap_u64]; omega
  by_cases c : 1000 < (i : Int) - p
  · have hk : inK p i = 1000 := by unfold inK; rw [if_pos c]
    have H := Lib.hid hk
    clear hk
    have hneg : p < 0 := by omega
    go_enter Tryd.func25, Tryd.ntmps25
    go_wp2
    go_ret2
    exact ⟨by rw [H.out]; rfl, rfl⟩
  · have hk : inK p i = i - p := by unfold inK; rw [if_neg c]
    have H := Lib.hid hk
    clear hk
    by_cases hneg : p < 0
    · go_enter Tryd.func25, Tryd.ntmps25
      go_wp2
      go_ret2
      exact ⟨by rw [H.out]; rfl, rfl⟩
    · clear he
      go_enter Tryd.func25, Tryd.ntmps25
      go_wp2
      go_ret2
      exact ⟨by rw [H.out]; rfl, rfl⟩
theorem in_no (p s : Int) (i : Nat) (w : World) (hi : i < 64) (hp0 : -9223372036854775808 ≤ p) (hs : s < 9223372036854775808) (hin : inP p s i = false) :
    Calls Tryd.prog 25 #[.int .i64 p, .int .i64 s, .int .i64 i] w fun e w' => e = .returned (.tuple #[.int .i64 0, .bool false]) ∧ w = w' := by
  have h := of_decide_eq_false hin
  clear hin
  by_cases h1 : s < 1
  · clear h
    go_enter Tryd.func25, Tryd.ntmps25
    go_wp2
    go_ret2
    exact ⟨rfl, rfl⟩
  · by_cases h2 : (i : Int) < p
    · clear h
      go_enter Tryd.func25, Tryd.ntmps25
      go_wp2
      go_ret2
      exact ⟨rfl, rfl⟩
    · have h3' : s ≤ (i : Int) - p := by omega
      have h0' : 0 ≤ (i : Int) - p := by omega
      have h1' : 1 ≤ s := by omega
      have h2' : p ≤ (i : Int) := by omega
      clear h h1 h2
      have he : IntKind.u64.wrap (↑i - IntKind.u64.wrap p) = ↑i - p := by rw [IntKind.wrap_u64, IntKind.wrap_u64]; omega
      by_cases hneg : p < 0
      · go_enter Tryd.func25, Tryd.ntmps25
        go_wp2
        go_ret2
        exact ⟨rfl, rfl⟩
      · clear he
        go_enter Tryd.func25, Tryd.ntmps25
        go_wp2
        go_ret2
        exact ⟨rfl, rfl⟩
theorem bit_inK {n p : Int} {i : Nat} (hn : n < 18446744073709551616) (h : 0 ≤ (i : Int) - p) : tbI n (inK p i) = tb n (i - p).toNat := by
  unfold inK tbI
  by_cases c : 1000 < (i : Int) - p
  · rw [if_pos c, tb_big hn (i := (i - p : Int).toNat) (by omega)]
    simp
  · rw [if_neg c]
    by_cases c2 : (i : Int) - p ≤ 63
    · rw [decide_eq_true ⟨h, c2⟩, Bool.true_and]
    · rw [tb_big hn (i := (i - p : Int).toNat) (by omega)]
      simp
theorem inP_ge {p s : Int} {i : Nat} (h : inP p s i = true) : 0 ≤ (i : Int) - p := by
  have := of_decide_eq_true h
  omega

theorem info_u64 : (Tryd.prog.info? 22).map (fun i => (i.zero, i.size, i.bytes)) = some (some (.int .u64 0), 1, 8) := by kernel_rfl
theorem rel_app {base k : Nat} {w wr w1 : World} {v v' : Value} {f : Nat → Bool} {o : Obj} {b : Bool} (hb : base ≤ wr.heap.size) (hbf : b = f k)
    (hown : wr.ownsRow base 22 1 v k (bl f k)) (hown' : w1.ownsRow base 22 1 v' (k + 1) (bl f k ++ [.int .u64 (bi b)])) (hgrow : (wr.alloc o).grownBy w1 v.ownBlock) (hnx : Below base w wr) :
    w1.ownsRow base 22 1 v' (k + 1) (bl f (k + 1)) ∧ Below base w w1 := by
  subst hbf
  refine ⟨by rw [bl_succ]; exact hown', (hnx.alloc hb o).grown hgrow (by simp; omega) (fun j hj => (hown.lt j hj).1)⟩

theorem news_one {w : World} {u : Value} {t : TypeId} : ∀ (j : Nat) (u' : Value), [u][j]? = some u' → (w.alloc (.cells #[u] t)).cell? ((⟨w.heap.size, 0, none⟩ : Addr).add j) = some u' := by
  intro j u' hj
  match j, hj with
  | 0, hj => simp at hj; subst hj; simp [Addr.add]
theorem one_cell (b : Bool) : ∀ u ∈ [Value.int .u64 (bi b)], u.oneCell' = true := by
  intro u hu; simp at hu; subst hu; rfl

set_option maxHeartbeats 1600000 in
theorem refPut_c (x p s n : Int) (w : World) (hx0 : 0 ≤ x) (hx : x < 18446744073709551616) (hp0 : -9223372036854775808 ≤ p) (hs : s < 9223372036854775808) (hn0 : 0 ≤ n) (hn : n < 18446744073709551616) :
    Calls Tryd.prog 14 #[.int .u64 x, .int .i64 p, .int .i64 s, .int .u64 n] w fun e w' => e = .returned (.int .u64 (putS x p s n)) ∧ Below w.heap.size w w' := by
  obtain ⟨i0, hi, hz0, hz1, hz2⟩ := info_parts info_u64
  obtain ⟨f, hf⟩ : ∃ f : Nat → Bool, f = fun i => if inP p s i then tb n (i - p).toNat else tb x i := ⟨_, rfl⟩
  have HF := Lib.hid hf
  clear hf
  go_enter Tryd.func14, Tryd.ntmps14
  go_wp2
  go_loopw [9, 10] (fun v i wr => ∃ k : Nat, k ≤ 64 ∧ i = .int .i64 k ∧ wr.ownsRow w.heap.size 22 1 v k (bl f k) ∧ Below w.heap.size w wr) (fun _ i _ => 64 - (intOf i).toNat)
  case atStart => exact ⟨0, Nat.zero_le _, rfl, World.ownsRow_nil _ _ _ _, Below.refl _ _⟩
  case round =>
    obtain ⟨k, hk, rfl, hown, hnx⟩ := hrel
    have hsz := hnx.size
    have HO := Lib.hid hown
    clear hown
    by_cases hlt : k < 64
    · by_cases hin : inP p s k = true
      · have hb : tbI n (inK p k) = f k := by rw [HF.out, bit_inK hn (inP_ge hin)]; simp [hin]
        have HB := Lib.hid hb
        have HI := Lib.hid hin
        clear hb hin
        go_wp2_with (first
          | (go_at_call 25; refine (in_yes p s k _ hlt hp0 hs HI.out).mono ?_; rintro e w' ⟨rfl, rfl⟩)
          | (go_at_call 26; refine (bit_c _ _ _ hn0 hn).mono ?_; rintro e w' ⟨rfl, rfl⟩)
          | (at_builtin; refine wpList_append_own _ rfl _ _ 49 rfl w.heap.size 22 i0 (.int .u64 0) 1 8 Tryd.underlying49 hi hz0 hz1 hz2 rfl (by decide) _ _ _ rfl (HO.out.alloc _) ⟨wr.heap.size, 0, none⟩ 1 1 [.int .u64 (bi (tbI n (inK p k)))] rfl rfl news_one (one_cell _) (by unfold maxLen; omega) (by omega) (by simp; omega) ?_; intro v' w1 hown' hgrow _))
        have R := rel_app hsz HB.out HO.out hown' hgrow hnx
        go_roundw
        case rel => exact ⟨k + 1, by omega, by go_num, R.1, R.2⟩
        case measure => simp [intOf]; omega
      · have hin' : inP p s k = false := by simpa using hin
        clear hin
        have hb : tbI x k = f k := by rw [HF.out, tbI_nat x k hlt]; simp [hin']
        have HB := Lib.hid hb
        have HI := Lib.hid hin'
        clear hb hin'
        go_wp2_with (first
          | (go_at_call 25; refine (in_no p s k _ hlt hp0 hs HI.out).mono ?_; rintro e w' ⟨rfl, rfl⟩)
          | (go_at_call 26; refine (bit_c _ _ _ hx0 hx).mono ?_; rintro e w' ⟨rfl, rfl⟩)
          | (at_builtin; refine wpList_append_own _ rfl _ _ 49 rfl w.heap.size 22 i0 (.int .u64 0) 1 8 Tryd.underlying49 hi hz0 hz1 hz2 rfl (by decide) _ _ _ rfl (HO.out.alloc _) ⟨wr.heap.size, 0, none⟩ 1 1 [.int .u64 (bi (tbI x k))] rfl rfl news_one (one_cell _) (by unfold maxLen; omega) (by omega) (by simp; omega) ?_; intro v' w1 hown' hgrow _))
        have R := rel_app hsz HB.out HO.out hown' hgrow hnx
        go_roundw
        case rel => exact ⟨k + 1, by omega, by go_num, R.1, R.2⟩
        case measure => simp [intOf]; omega
    · obtain rfl : k = 64 := by omega
      go_wp2_with (go_at_call 27; refine (of_c f 64 _ w.heap.size _ (by omega) (by omega) HO.out).mono ?_; rintro e w' ⟨rfl, rfl⟩)
      go_ret
      exact ⟨by rw [HF.out]; rfl, hnx⟩
end Go.Proofs.YtmieabafiijfjaaDoor
