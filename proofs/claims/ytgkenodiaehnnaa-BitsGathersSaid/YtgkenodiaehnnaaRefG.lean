/-
  The contract of the reference's Gather (layer 1): it comes to what bits.Gather does; only new memory is made.
-/
import Derived.Test.YtgkenodiaehnnaaGather
import Derived.Deep.RegionHeld3
namespace Go.Proofs.Ytgkenodiaehnnaa
open Go.ChangeShapes Go.WideShapes Go.ChangeAt Go.RowKit Wd

theorem cut_lt {x p s : Int} (t : Nat) (h : s ≤ t) : cutS x p s < 2 ^ t := by
  have r := cutS_range x p s
  have e : (cutS x p s).toNat % 2 ^ t = (cutS x p s).toNat := by
    apply Nat.eq_of_testBit_eq
    intro i
    rw [Nat.testBit_mod_two_pow]
    by_cases c : i < t
    · simp [c]
    · have : (cutS x p s).toNat.testBit i = false := by
        show tb (cutS x p s) i = false
        unfold cutS
        rw [tb_word]
        have : ¬ ((i : Int) < s ∧ 0 ≤ p + i) := by omega
        rw [decide_eq_false this]
        simp
      rw [this]
      simp
  have l := Nat.mod_lt (cutS x p s).toNat (Nat.two_pow_pos t)
  rw [e] at l
  rw [pow_cast]
  omega
theorem or_eq_add {a c : Int} (t : Nat) (ha0 : 0 ≤ a) (ha : a < 18446744073709551616) (hc0 : 0 ≤ c) (hc : c < 18446744073709551616) (q : Int) (hq0 : 0 ≤ q) (hq : a = 2 ^ t * q) (hl : c < 2 ^ t) :
    IntKind.u64.wrap (a + c) = bits .or .u64 a c := by
  have r := or_range ha0 ha hc0 hc
  have e : bits .or .u64 a c = a + c := by
    rw [u64_or a c ha0 ha hc0 hc]
    obtain ⟨Q, rfl⟩ := Int.eq_ofNat_of_zero_le hq0
    obtain ⟨Cn, rfl⟩ := Int.eq_ofNat_of_zero_le hc0
    have h1 : a.toNat = 2 ^ t * Q := by rw [hq, pow_cast, ← Int.natCast_mul, Int.toNat_natCast]
    have h2 : Cn < 2 ^ t := by rw [pow_cast] at hl; omega
    rw [h1, Int.toNat_natCast, ← Nat.two_pow_add_eq_or_of_lt h2 Q, ← h1]
    omega
  rw [e] at r ⊢
  rw [IntKind.wrap_u64]
  omega
theorem raise_mul {y t : Int} (hy0 : 0 ≤ y) (h0 : 0 ≤ t) (h1 : t < 9223372036854775808) : IntKind.u64.wrap (y * 2 ^ min t.toNat 64) = raiseS y t := by
  have := raise_pos (x := y) hy0 h0 h1
  rw [pos_toNat h0 h1] at this
  exact this
theorem raise_is {y t : Int} (hy0 : 0 ≤ y) (h0 : 0 ≤ t) (h1 : t < 9223372036854775808) : ∃ q : Int, 0 ≤ q ∧ raiseS y t = 2 ^ min t.toNat 64 * q := by
  rw [← raise_mul hy0 h0 h1, IntKind.wrap_u64]
  have hk : min t.toNat 64 ≤ 64 := by omega
  generalize min t.toNat 64 = k at *
  obtain ⟨D, hD⟩ : ∃ D : Int, (18446744073709551616 : Int) = 2 ^ k * D := ⟨2 ^ (64 - k), by
    rw [← Int.pow_add, show k + (64 - k) = 64 by omega]
    rfl⟩
  have hp : (0 : Int) < 2 ^ k := Int.pow_pos (by decide)
  refine ⟨y % D, Int.emod_nonneg _ (fun h => by rw [h, Int.mul_zero] at hD; omega), ?_⟩
  rw [hD, Int.mul_comm y, Int.mul_emod_mul_of_pos _ _ hp]
theorem gref {x y p s t : Int} (hy0 : 0 ≤ y) (ht : t = if s < 0 then 0 else s) (hs : s < 9223372036854775808) :
    IntKind.u64.wrap (IntKind.u64.wrap (y * 2 ^ min t.toNat 64) + cutS x p s) = gstep x y (p, s) := by
  have h0 : 0 ≤ t := by rw [ht]; split <;> omega
  have h1 : t < 9223372036854775808 := by rw [ht]; split <;> omega
  have hst : s ≤ t := by rw [ht]; split <;> omega
  obtain ⟨q, hq0, hq⟩ := raise_is hy0 h0 h1
  rw [raise_mul hy0 h0 h1]
  have a := raiseS_range y t
  have c := cutS_range x p s
  unfold gstep
  simp only
  rw [← ht]
  by_cases c64 : t ≤ 64
  · refine or_eq_add (min t.toNat 64) a.1 a.2 c.1 c.2 q hq0 hq (cut_lt _ (by omega))
  · refine or_eq_add (min t.toNat 64) a.1 a.2 c.1 c.2 q hq0 hq ?_
    have e : min t.toNat 64 = 64 := by omega
    rw [e]
    exact c.2
theorem dbl_step (y : Int) (k : Nat) : IntKind.u64.wrap (IntKind.u64.wrap (y * 2 ^ k) * 2) = IntKind.u64.wrap (y * 2 ^ (k + 1)) := by
  rw [Int.pow_succ, ← Int.mul_assoc]
  rw [IntKind.wrap_u64, IntKind.wrap_u64, IntKind.wrap_u64]
  generalize y * 2 ^ k = z
  omega
theorem dbl_zero {y : Int} (h0 : 0 ≤ y) (h1 : y < 18446744073709551616) : y = IntKind.u64.wrap (y * 2 ^ 0) := by
  rw [Int.pow_zero, Int.mul_one, IntKind.wrap_u64]
  omega

set_option maxHeartbeats 1600000 in
theorem refGather_c (x : Int) (ps : List (Int × Int)) (b off n cap : Nat) (w : World) (hx0 : 0 ≤ x) (hx : x < 18446744073709551616) (hb : b < w.heap.size) (hl : n ≤ 1000000) (hn : n = ps.length)
    (hr : FitAll ps) (hc : Pairs w b off ps) :
    Calls Try.prog 34 #[.int .u64 x, .slice (some ⟨b, off, none⟩) n cap] w fun e w' => e = .returned (.int .u64 (gatherS x ps)) ∧ Below w.heap.size w w' := by
  have HC := Lib.hid hc
  have HR := Lib.hid hr
  have HN := Lib.hid hn
  clear hc hr hn
  go_enter Try.func34, Try.ntmps34
  go_wp2
  go_loopw [5, 6] (fun v i wr => ∃ k : Nat, k ≤ n ∧ i = .int .i64 k ∧ v = .int .u64 (gatherS x (ps.take k)) ∧ Below w.heap.size w wr) (fun _ i _ => n - (intOf i).toNat)
  case atStart => exact ⟨0, Nat.zero_le _, rfl, rfl, Below.refl _ _⟩
  case round =>
    obtain ⟨k, hk, rfl, rfl, hnx⟩ := hrel
    have hsz := hnx.size
    obtain ⟨hy0, hy⟩ := gatherS_range x ps k (by rw [← HN.out]; exact hk)
    by_cases hlt : k < n
    · have HE := Lib.hid (gatherS_succ x ps k (by rw [← HN.out]; exact hlt))
      generalize hy' : gatherS x (ps.take k) = y at *
      clear hy'
      obtain ⟨h1, h2⟩ := HC.out k (by rw [← HN.out]; exact hlt)
      rw [← hnx.cell (by exact hb)] at h1 h2
      obtain ⟨r1, r2, r3, r4⟩ := HR.out k
      generalize hq : ps.getD k (0, 0) = q at *
      clear hq
      obtain ⟨p, s⟩ := q
      simp only at h1 h2 r1 r2 r3 r4
      obtain ⟨t, ht⟩ : ∃ t : Int, t = if s < 0 then 0 else s := ⟨_, rfl⟩
      have hst : 0 ≤ t ∧ s ≤ t ∧ (0 < t → t = s) := by rw [ht]; split <;> omega
      have HG := Lib.hid (gref (x := x) (p := p) hy0 ht r4)
      have HT := Lib.hid hst
      clear ht hst
      have hd0 : decide ((k : Int) < n) = true := decide_eq_true (by omega)
      go_wp2
      clear hd0
      go_loop [5, 7] (fun v i => ∃ j : Nat, j ≤ 64 ∧ (j : Int) ≤ t ∧ i = .int .i64 j ∧ v = .int .u64 (IntKind.u64.wrap (y * 2 ^ j))) (fun _ i => 64 - (intOf i).toNat)
      case atStart => exact ⟨0, by omega, HT.out.1, rfl, congrArg (Value.int .u64) (dbl_zero hy0 hy)⟩
      case round =>
        obtain ⟨j, hj, hjt, rfl, rfl⟩ := hrel
        by_cases c1 : (j : Int) < s
        · by_cases c2 : j < 64
          · have HD := Lib.hid (dbl_step y j)
            have hjt' : (j : Int) + 1 ≤ t := by have := HT.out; omega
            go_wp2
            go_round
            case rel => exact ⟨j + 1, by omega, by omega, by go_num, by rw [HD.out]⟩
            case measure => simp [intOf]; omega
          · have hj64 : min t.toNat 64 = j := by have := HT.out; omega
            rw [hj64] at HG
            clear hj64
            have g1 : decide ((j : Int) < s) = true := decide_eq_true c1
            have g2 : decide ((j : Int) < 64) = false := decide_eq_false (by omega)
            go_wp2
            clear g1 g2
            go_region_held3 (fun w' => w'.cell? ⟨b, off + k * 2, none⟩ = some (.int .i64 p) ∧ w'.cell? ⟨b, off + k * 2 + 1, none⟩ = some (.int .i64 s)) (first | exact ⟨h1, h2⟩ | exact ⟨k1, k2⟩)
              (first | (go_at_call 17; refine (refCut_c x p s _ hx0 hx r1 r4).mono ?_; rintro e w2 ⟨rfl, hb2⟩; have k1 := (hb2.cell (p := ⟨b, off + k * 2, none⟩) (Nat.lt_of_lt_of_le hb hsz)).trans h1; have k2 := (hb2.cell (p := ⟨b, off + k * 2 + 1, none⟩) (Nat.lt_of_lt_of_le hb hsz)).trans h2))
            clear h1 h2
            go_wp2
            go_roundw
            case rel => exact ⟨k + 1, by omega, by go_num, by rw [HE.out, ← HG.out], hnx.drew.trans (hb2.mono hsz)⟩
            case measure => simp [intOf]; omega
        · have hj64 : min t.toNat 64 = j := by have := HT.out; omega
          rw [hj64] at HG
          clear hj64
          have g1 : decide ((j : Int) < s) = false := decide_eq_false c1
          go_wp2
          clear g1
          go_region_held3 (fun w' => w'.cell? ⟨b, off + k * 2, none⟩ = some (.int .i64 p) ∧ w'.cell? ⟨b, off + k * 2 + 1, none⟩ = some (.int .i64 s)) (first | exact ⟨h1, h2⟩ | exact ⟨k1, k2⟩)
            (first | (go_at_call 17; refine (refCut_c x p s _ hx0 hx r1 r4).mono ?_; rintro e w2 ⟨rfl, hb2⟩; have k1 := (hb2.cell (p := ⟨b, off + k * 2, none⟩) (Nat.lt_of_lt_of_le hb hsz)).trans h1; have k2 := (hb2.cell (p := ⟨b, off + k * 2 + 1, none⟩) (Nat.lt_of_lt_of_le hb hsz)).trans h2))
          clear h1 h2
          go_wp2
          go_roundw
          case rel => exact ⟨k + 1, by omega, by go_num, by rw [HE.out, ← HG.out], hnx.drew.trans (hb2.mono hsz)⟩
          case measure => simp [intOf]; omega
    · go_wp2
      go_ret
      exact ⟨by rw [List.take_of_length_le (by have := HN.out; omega)]; rfl, hnx⟩
end Go.Proofs.Ytgkenodiaehnnaa
