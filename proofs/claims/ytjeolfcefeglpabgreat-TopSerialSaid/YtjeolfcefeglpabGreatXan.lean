/-
  What the laws' frames share: the program's knobs. What the laws' frames share: an array of two integers that came in, opened (the program's knobs: FrameO). Plain numbers for P1.5: what was put is cut, what was signed stays so, Sra is division downwards.
-/
import Derived.Test.YtjeolfcefeglpabGreatRows
import Derived.WalkKit
import Derived.ProofKit
import Derived.OpenShut
import Derived.ShutString
import Derived.ChangeOld
import Derived.Below
import Derived.Test.YtjeolfcefeglpabGreatXam
set_option maxRecDepth 20000
namespace Go.Proofs.YtjeolfcefeglpabGreat
open Go.ChangeShapes Go.WideShapes Go.ChangeAt Go.RowKit

theorem own : ownKnob Tryz.prog.godebug = none := by kernel_rfl
theorem laidOut : laidOutB Tryz.prog = true := by kernel_rfl

end Go.Proofs.YtjeolfcefeglpabGreat
set_option maxRecDepth 20000
namespace Go.Proofs.YtjeolfcefeglpabGreat
open Go.ChangeShapes Go.WideShapes Go.ChangeAt Go.RowKit

theorem open_arr2 {H : Type} {enc : TypeId × Value → H} {w : World} {r : Reach} {b0 base : Nat} {spare : Nat → Bool} {held : Bool} {t e : TypeId} {k : IntKind} {v : Value} {d : DataW H} {ps : List MemPlace}
    (ht : Tryz.prog.underlying t = some (.array 2 e)) (he : Tryz.prog.underlying e = some (.int k)) (hct : Tryz.prog.cellsOf t = 2) (hce : Tryz.prog.cellsOf e = 1)
    (hval : Value.okWide Tryz.prog w r b0 t v) (hd : DataW.Trod enc Tryz.prog w base spare held t v d ps) :
    ∃ a b, v = .agg #[.int k a, .int k b] ∧ (Lit.int k a).wf = true ∧ (Lit.int k b).wf = true := by
  simp only [Value.okWide, ht] at hval
  obtain ⟨cs, rfl, hsz, _⟩ := hval
  obtain ⟨fuel, hf⟩ := hd
  obtain ⟨xs, m, rfl, _, hl, hxl, hall⟩ := DataW.trod_array ht hf
  rw [hct] at hsz
  have h0 := hall 0 (by omega)
  have h1 := hall 1 (by omega)
  rw [hce] at h0 h1
  have hx0 : ∃ x, xs[0]? = some x := ⟨xs[0], by simp [hxl]⟩
  have hx1 : ∃ x, xs[1]? = some x := ⟨xs[1], by simp [hxl]⟩
  obtain ⟨x0, hx0⟩ := hx0
  obtain ⟨x1, hx1⟩ := hx1
  rw [hx0] at h0
  rw [hx1] at h1
  obtain ⟨a, ha, _, hwa⟩ := DataW.trod_int he h0
  obtain ⟨b, hb, _, hwb⟩ := DataW.trod_int he h1
  refine ⟨a, b, ?_, hwa, hwb⟩
  obtain ⟨l⟩ := cs
  match l, hsz with
  | [c0, c1], _ =>
    simp [Value.cells] at ha hb
    subst ha
    subst hb
    rfl
end Go.Proofs.YtjeolfcefeglpabGreat
set_option maxRecDepth 20000
namespace Go.Proofs.YtjeolfcefeglpabGreat
open Go.ChangeShapes Go.WideShapes Go.ChangeAt Go.RowKit Wd

theorem tb_put (x p s n : Int) {i : Nat} (hi : i < 64) : tb (putS x p s n) i = if inP p s i then tb n (i - p).toNat else tb x i := by
  unfold putS
  rw [tb_word]
  simp [hi]
theorem tb_cut (x p s : Int) {k : Nat} (hk : k < 64) : tb (cutS x p s) k = (decide ((k : Int) < s ∧ 0 ≤ p + k) && tb x (p + k).toNat) := by
  unfold cutS
  rw [tb_word]
  simp [hk]
theorem keep_others (x p s n : Int) (hx0 : 0 ≤ x) (hx : x < 18446744073709551616) : bits .andNot .u64 (putS x p s n) (onesS p s) = bits .andNot .u64 x (onesS p s) := by
  have a := putS_range x p s n
  have b := onesS_range p s
  have c := andNot_range a.1 a.2 b.1 b.2
  have d := andNot_range hx0 hx b.1 b.2
  apply ext c.1 c.2 d.1 d.2
  intro i hi
  rw [tb_andNot a.1 a.2 b.1 b.2, tb_andNot hx0 hx b.1 b.2, tb_put _ _ _ _ hi]
  unfold onesS
  rw [tb_word]
  cases h : inP p s i <;> simp [hi]
theorem keep_back (x p s n : Int) (hn : n < 18446744073709551616) : putS (putS x p s n) p s (cutS (putS x p s n) p s) = putS x p s n := by
  have a := putS_range (putS x p s n) p s (cutS (putS x p s n) p s)
  have b := putS_range x p s n
  apply ext a.1 a.2 b.1 b.2
  intro i hi
  rw [tb_put _ _ _ _ hi]
  cases h : inP p s i
  · simp
  · simp only [if_true]
    obtain ⟨h1, h2, h3⟩ := of_decide_eq_true h
    by_cases c : (i - p : Int).toNat < 64
    · rw [tb_cut _ _ _ c]
      have e1 : (((i - p : Int).toNat : Nat) : Int) < s ∧ 0 ≤ p + (((i - p : Int).toNat : Nat) : Int) := by omega
      have e2 : (p + (((i - p : Int).toNat : Nat) : Int)).toNat = i := by omega
      rw [decide_eq_true e1, e2, Bool.true_and]
    · have r := cutS_range (putS x p s n) p s
      rw [tb_big r.2 (by omega), tb_put _ _ _ _ hi, h]
      simp only [if_true]
      rw [tb_big hn (by omega)]
theorem keep_cut {x p s n : Int} (h0 : 0 ≤ p) (h1 : p < 64) (hs : 0 < s) : cutS (putS x p s n) p s = cutS (cutS n 0 s) 0 (64 - p) := by
  apply word_congr
  intro k hk
  by_cases c : p + (k : Int) < 64
  · have e1 : (0 + (k : Int)).toNat = k := by omega
    rw [tb_put _ _ _ _ (by omega), e1, tb_cut _ _ _ hk, e1]
    have e2 : ((p + (k : Int)).toNat - p : Int).toNat = k := by omega
    by_cases c2 : (k : Int) < s
    · have g : inP p s (p + (k : Int)).toNat = true := by unfold inP; apply decide_eq_true; omega
      have d1 : (k : Int) < s ∧ 0 ≤ p + (k : Int) := by omega
      have d2 : (k : Int) < 64 - p ∧ 0 ≤ 0 + (k : Int) := by omega
      have d3 : (k : Int) < s ∧ 0 ≤ 0 + (k : Int) := by omega
      rw [g, decide_eq_true d1, decide_eq_true d2, decide_eq_true d3]
      simp only [if_true, Bool.true_and, e2]
    · have d1 : ¬ ((k : Int) < s ∧ 0 ≤ p + (k : Int)) := by omega
      have d3 : ¬ ((k : Int) < s ∧ 0 ≤ 0 + (k : Int)) := by omega
      rw [decide_eq_false d1, decide_eq_false d3]
      simp
  · have r := putS_range x p s n
    have d2 : ¬ ((k : Int) < 64 - p ∧ 0 ≤ 0 + (k : Int)) := by omega
    rw [tb_big r.2 (by omega), decide_eq_false d2]
    simp
theorem tb_sign {x s : Int} (h : 1 ≤ s) {i : Nat} (hi : i < 64) : tb (signS x s) i = if (i : Int) < s then tb x i else tb x (s - 1).toNat := by
  rw [signS_pos h, tb_word]
  simp [hi]
theorem keep_sign (x s : Int) : signS (signS x s) s = signS x s := by
  by_cases c : s < 1
  · rw [← sign_low c, ← sign_low c]
  · have a := signS_range (signS x s) s
    have b := signS_range x s
    apply ext a.1 a.2 b.1 b.2
    intro i hi
    rw [tb_sign (by omega) hi]
    by_cases c2 : (i : Int) < s
    · rw [if_pos c2]
    · rw [if_neg c2, tb_sign (by omega) hi, if_neg c2, tb_sign (by omega) (by omega), if_pos (by omega)]
theorem keep_sign1 {x s : Int} (h : 0 < s) : signS (signS x s) (s + 1) = signS x s := by
  have a := signS_range (signS x s) (s + 1)
  have b := signS_range x s
  apply ext a.1 a.2 b.1 b.2
  intro i hi
  rw [tb_sign (by omega) hi]
  by_cases c2 : (i : Int) < s + 1
  · rw [if_pos c2]
  · rw [if_neg c2, tb_sign (by omega) hi, if_neg (by omega), tb_sign (by omega) (by omega), if_neg (by omega)]
theorem sra_i64 {x : Int} (F : Nat) (n : Int) (hF : n % 64 = F) : wrap64 (sraS x n) = wrap64 x / 2 ^ F := by
  unfold sraS
  have e : (n % 64).toNat = F := by omega
  rw [e]
  have hw : -9223372036854775808 ≤ wrap64 x ∧ wrap64 x ≤ 9223372036854775807 := by unfold wrap64; omega
  generalize wrap64 x = y at *
  have hp : (0 : Int) < 2 ^ F := Int.pow_pos (by decide)
  have h1 : -9223372036854775808 ≤ y / 2 ^ F ∧ y / 2 ^ F ≤ 9223372036854775807 := by
    have g1 := Int.emod_nonneg y (Int.ne_of_gt hp)
    have g2 := Int.emod_lt_of_pos y hp
    have g3 := Int.mul_ediv_add_emod y (2 ^ F)
    generalize y / 2 ^ F = q at *
    generalize y % 2 ^ F = r at *
    generalize (2 : Int) ^ F = t at *
    constructor
    · by_cases c : q < 0
      · have : t * q ≤ q := by
          have := Int.mul_le_mul_of_nonpos_right (show (1 : Int) ≤ t by omega) (show q ≤ 0 by omega)
          omega
        by_cases c3 : q < -9223372036854775808
        · have h4 : t * (q + 1) ≤ q + 1 := by
            have := Int.mul_le_mul_of_nonpos_right (show (1 : Int) ≤ t by omega) (show q + 1 ≤ 0 by omega)
            omega
          rw [Int.mul_add, Int.mul_one] at h4
          omega
        · omega
      · omega
    · by_cases c : 0 < q
      · have : q ≤ t * q := by
          have := Int.mul_le_mul_of_nonneg_right (show (1 : Int) ≤ t by omega) (show 0 ≤ q by omega)
          omega
        omega
      · omega
  generalize y / 2 ^ F = q at *
  rw [IntKind.wrap_u64]
  unfold wrap64
  omega
theorem sra_floor {y : Int} (h0 : -9223372036854775808 ≤ y) (h1 : y ≤ 9223372036854775807) (F : Nat) (hF : F ≤ 62) :
    wrap64 (y / 2 ^ F * 2 ^ F) = y / 2 ^ F * 2 ^ F ∧ y / 2 ^ F * 2 ^ F ≤ y ∧ y - y / 2 ^ F * 2 ^ F < 2 ^ F ∧ 0 ≤ y - y / 2 ^ F * 2 ^ F ∧ wrap64 (2 ^ F) = 2 ^ F := by
  have hp : (1 : Int) ≤ 2 ^ F ∧ (2 : Int) ^ F ≤ 9223372036854775808 := pow_le (by omega)
  have hp2 : (2 : Int) ^ F ≤ 4611686018427387904 := by
    have : 2 ^ F ≤ 2 ^ 62 := Nat.pow_le_pow_right (by decide) hF
    rw [pow_cast]
    omega
  have g1 := Int.emod_nonneg y (show (2 : Int) ^ F ≠ 0 by omega)
  have g2 := Int.emod_lt_of_pos y (show (0 : Int) < 2 ^ F by omega)
  have g3 := Int.mul_ediv_add_emod y (2 ^ F)
  rw [Int.mul_comm] at g3
  have hlow : -9223372036854775808 ≤ y / 2 ^ F * 2 ^ F := by
    obtain ⟨D, hD⟩ : ∃ D : Int, (9223372036854775808 : Int) = D * 2 ^ F := ⟨2 ^ (63 - F), by
      rw [← Int.pow_add, show 63 - F + F = 63 by omega]
      rfl⟩
    have : -D ≤ y / 2 ^ F := by
      apply Int.le_ediv_of_mul_le (by omega)
      rw [Int.neg_mul]
      omega
    have := Int.mul_le_mul_of_nonneg_right this (show (0 : Int) ≤ 2 ^ F by omega)
    rw [Int.neg_mul] at this
    omega
  generalize y / 2 ^ F * 2 ^ F = q at *
  generalize y % 2 ^ F = r at *
  generalize (2 : Int) ^ F = t at *
  unfold wrap64
  omega
end Go.Proofs.YtjeolfcefeglpabGreat
