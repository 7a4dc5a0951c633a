/-
  Contracts of line.Words and of the reference of layer 9: fits, Get, Put, Of, Blend.
-/
import Derived.Test.YteaooopjfmlcbaaLnC
import Derived.Test.YteaooopjfmlcbaaRefC
namespace Go.Proofs.Yteaooopjfmlcbaa
open Go.ChangeShapes Go.WideShapes Go.ChangeAt Go.RowKit Wd

/-- The eight numbers of a line. -/
def wordsN (ws : List Int) : Nat → List Int
  | 0 => List.replicate 8 0
  | k + 1 => (wordsN ws k).set k (Ln.get ws (8 * k : Nat) 8)
theorem wordsN_len (ws : List Int) : ∀ k, (wordsN ws k).length = 8
  | 0 => rfl
  | k + 1 => by simp [wordsN, wordsN_len ws k]
theorem wordsN_get (ws : List Int) : ∀ (k : Nat), k ≤ 8 → ∀ j, j < k → (wordsN ws k).getD j 0 = Ln.get ws (8 * j : Nat) 8
  | 0, _, j, hj => absurd hj (by omega)
  | k + 1, hk, j, hj => by
    show ((wordsN ws k).set k _).getD j 0 = _
    rw [Ln.getD_set _ _ _ _ (by rw [wordsN_len]; omega)]
    by_cases h : j = k
    · subst h; rw [if_pos rfl]
    · rw [if_neg h]; exact wordsN_get ws k (by omega) j (by omega)
theorem zeros8 : aV .u64 (List.replicate 8 0) = #[.int .u64 0, .int .u64 0, .int .u64 0, .int .u64 0, .int .u64 0, .int .u64 0, .int .u64 0, .int .u64 0] := rfl
theorem info_w8 : (Try.prog.info? 32).map (·.size) = some 8 := by kernel_rfl
theorem iW {ws : List Int} (h : ws.length = 8) : (Try.prog.info? 32).map (·.size) = some (aV .u64 ws).size := by rw [aV_size, h]; exact info_w8
theorem zeros8_size {ws : List Int} (h : ws.length = 8) : (aV .u64 (List.replicate 8 0)).size = (aV .u64 ws).size := by rw [aV_size, aV_size, h]; rfl
set_option maxHeartbeats 1000000 in
theorem lwords_c (ws : List Int) (h : Ln.Is ws) (w : World) : Calls Try.prog 10 #[.agg (aV .u8 ws)] w fun e w' => e = .returned (.agg (aV .u64 (wordsN ws 8))) ∧ Below w.heap.size w w' := by
  have HI := Lib.hid h
  have HL := Lib.hid (wordsN_len ws 8)
  clear h
  go_enter Try.func10, Try.ntmps10
  go_upto_region 2 with (fail)
  have hB := (((Below.refl w.heap.size w).alloc (Nat.le_refl _) (.cells (aV .u8 ws) 26)).alloc (by simp) (.cells (aV .u64 (List.replicate 8 0)) 32)).alloc (by simp; omega) (.cells (aV .u64 (List.replicate 8 0)) 32)
  have hR := (RowAt.new .u8 w 26 ws).alloc (.cells (aV .u64 (List.replicate 8 0)) 32) |>.alloc (.cells (aV .u64 (List.replicate 8 0)) 32)
  have hO := (RowAt.new .u64 (w.alloc (.cells (aV .u8 ws) 26)) 32 (List.replicate 8 0)).alloc (.cells (aV .u64 (List.replicate 8 0)) 32)
  have hZ := RowAt.new .u64 ((w.alloc (.cells (aV .u8 ws) 26)).alloc (.cells (aV .u64 (List.replicate 8 0)) 32)) 32 (List.replicate 8 0)
  rw [show (w.alloc (.cells (aV .u8 ws) 26)).heap.size = w.heap.size + 1 by simp] at hO
  rw [show ((w.alloc (.cells (aV .u8 ws) 26)).alloc (.cells (aV .u64 (List.replicate 8 0)) 32)).heap.size = w.heap.size + 2 by simp] at hZ
  rw [← zeros8]
  generalize ((w.alloc (.cells (aV .u8 ws) 26)).alloc (.cells (aV .u64 (List.replicate 8 0)) 32)).alloc (.cells (aV .u64 (List.replicate 8 0)) 32) = w1 at *
  have HB := Lib.hid hB
  have HR := Lib.hid hR
  have HO := Lib.hid hO
  have HZ := Lib.hid hZ
  clear hB hR hO hZ
  go_wp2_with fail
  go_loopw [5] (fun i wr => ∃ k : Nat, k ≤ 8 ∧ i = .int .i64 k ∧ RowAt .u64 wr (w.heap.size + 2) 32 (wordsN ws k) ∧ RowAt .u8 wr w.heap.size 26 ws ∧ RowAt .u64 wr (w.heap.size + 1) 32 (List.replicate 8 0) ∧ Below w.heap.size w wr) (fun i _ => 8 - (intOf i).toNat)
  case atStart => exact ⟨0, by omega, rfl, HZ.out, HR.out, HO.out, HB.out⟩
  case round =>
    obtain ⟨k, hk, rfl, hz, hr, ho, hb⟩ := hrel
    have HS := Lib.hid (And.intro hz (And.intro hr (And.intro ho hb)))
    clear hz hr ho hb
    by_cases hlt : k < 8
    · have hlt2 : (k : Int) < 8 := by omega
      go_wp2_with (refine wpList_load_row rfl 26 _ rfl w.heap.size rfl 26 _ (0, 0) _ HS.out.2.1 Try.underlying26 rfl (iL HI.out.1) ?_)
      refine (get_c ws HI.out _ _ _ (by omega)).mono ?_
      rintro e w' ⟨rfl, hb'⟩
      have hz' := HS.out.1.low hb'
      have hc := hz'.cell k (by rw [wordsN_len]; omega)
      have hfz := hz'.frozen k
      have HE := Lib.hid (show wordsN ws (k + 1) = (wordsN ws k).set k (Ln.get ws (8 * k : Nat) 8) from rfl)
      have he : ((8 * k : Nat) : Int) = 8 * (k : Int) := by omega
      rw [he] at HE
      clear he
      have HZ' := Lib.hid (hz'.set k (Ln.get ws (8 * k) 8))
      have HR' := Lib.hid ((HS.out.2.1.low hb').far (c := w.heap.size + 2) (i := k) (by omega) (.int .u64 (Ln.get ws (8 * k) 8)))
      have HO' := Lib.hid ((HS.out.2.2.1.low hb').far (c := w.heap.size + 2) (i := k) (by omega) (.int .u64 (Ln.get ws (8 * k) 8)))
      have HB' := Lib.hid ((HS.out.2.2.2.trans (hb'.mono HS.out.2.2.2.size)).setCell (p := ⟨w.heap.size + 2, k, none⟩) (by simp) (.int .u64 (Ln.get ws (8 * k) 8)))
      clear hz' HS hb'
      generalize (wordsN ws k).getD k 0 = z at *
      go_wp2_with fail
      go_roundw
      case rel => exact ⟨k + 1, by omega, by go_num, by rw [HE.out]; exact HZ'.out, HR'.out, HO'.out, HB'.out⟩
      case measure => simp [intOf]; omega
    · obtain rfl : k = 8 := by omega
      have HZ' := Lib.hid HS.out.1
      have HO' := Lib.hid HS.out.2.2.1
      have HB' := Lib.hid HS.out.2.2.2
      clear HS
      go_wp2_with (first | (refine wpList_load_row rfl 32 _ rfl (w.heap.size + 2) rfl 32 _ (0, 0) _ HZ'.out Try.underlying32 rfl (iW HL.out) ?_) | (refine wpList_store_row rfl 32 _ _ rfl (w.heap.size + 1) _ rfl rfl 32 _ HO'.out (iW HL.out) (zeros8_size HL.out) (aV_one _ _) ?_))
      exact bodyPost_ret (results_cell_row Try.results10 _ _ _ _ _ _ _ rfl (HO'.out.row _) Try.underlying32 rfl (iW HL.out)) rfl ⟨rfl, below_setRow HB'.out (by omega) _⟩

theorem fits_c (p n : Int) (w : World) : Calls Try.prog 22 #[.int .i64 p, .int .i64 n] w fun e w' => e = .returned (.bool (Ln.fits p n)) ∧ w = w' := by
  by_cases h1 : n < 1
  · have H := Lib.hid (show Ln.fits p n = false by unfold Ln.fits; simp; omega)
    have g1 : decide (n < 1) = true := by simpa using h1
    go_enter Try.func22, Try.ntmps22
    go_wp2_with fail
    go_ret
    exact ⟨lret_b H.out.symm, rfl⟩
  · have g1 : decide (n < 1) = false := by simpa using h1
    by_cases h2 : 8 < n
    · have H := Lib.hid (show Ln.fits p n = false by unfold Ln.fits; simp; omega)
      have g2 : decide (8 < n) = true := by simpa using h2
      go_enter Try.func22, Try.ntmps22
      go_wp2_with fail
      go_ret
      exact ⟨lret_b H.out.symm, rfl⟩
    · have g2 : decide (8 < n) = false := by simpa using h2
      by_cases h3 : p < 0
      · have H := Lib.hid (show Ln.fits p n = false by unfold Ln.fits; simp; omega)
        have g3 : decide (p < 0) = true := by simpa using h3
        go_enter Try.func22, Try.ntmps22
        go_wp2_with fail
        go_ret
        exact ⟨lret_b H.out.symm, rfl⟩
      · have g3 : decide (p < 0) = false := by simpa using h3
        by_cases h4 : 63 < p
        · have H := Lib.hid (show Ln.fits p n = false by unfold Ln.fits; simp; omega)
          have g4 : decide (63 < p) = true := by simpa using h4
          go_enter Try.func22, Try.ntmps22
          go_wp2_with fail
          go_ret
          exact ⟨lret_b H.out.symm, rfl⟩
        · have g4 : decide (63 < p) = false := by simpa using h4
          have H := Lib.hid (show Ln.fits p n = decide (p + n ≤ 64) by unfold Ln.fits; exact decide_eq_decide.2 (by omega))
          go_enter Try.func22, Try.ntmps22
          go_wp2_with fail
          go_ret
          exact ⟨lret_b H.out.symm, rfl⟩

set_option maxHeartbeats 1000000 in
theorem rget_c (ws : List Int) (h : Ln.Is ws) (p n : Int) (w : World) (hp : -9223372036854775808 ≤ p ∧ p ≤ 9223372036854775807) :
    Calls Try.prog 9 #[.agg (aV .u8 ws), .int .i64 p, .int .i64 n] w fun e w' => e = .returned (.tuple #[.int .u64 (Ln.get ws p n), .bool (Ln.fits p n)]) ∧ Below w.heap.size w w' := by
  have HI := Lib.hid h
  have HB := Lib.hid ((Below.refl w.heap.size w).alloc (Nat.le_refl _) (.cells (aV .u8 ws) 25))
  have HR := Lib.hid (RowAt.new .u8 w 25 ws)
  clear h
  by_cases hf : Ln.fits p n = true
  · have HG := Lib.hid (show Ln.get ws p n = Ln.num ws p.toNat n.toNat by unfold Ln.get; rw [if_pos hf])
    obtain ⟨f1, f2, f3, f4⟩ := Ln.fits_iff.1 hf
    obtain ⟨a, rfl⟩ := Int.eq_ofNat_of_zero_le f3
    obtain ⟨m, rfl⟩ := Int.eq_ofNat_of_zero_le (show 0 ≤ n by omega)
    have hm : m ≤ 8 := by omega
    have ham : a + m ≤ 64 := by omega
    clear f1 f2 f3 f4
    go_enter Try.func9, Try.ntmps9
    go_wp2_with fail
    refine (fits_c _ _ _).mono ?_
    rintro e w1 ⟨rfl, rfl⟩
    rw [hf]
    generalize w.alloc (.cells (aV .u8 ws) 25) = w1 at *
    go_wp2_with fail
    go_loop [8, 9, 10] (fun v f i => ∃ k : Nat, k ≤ m ∧ i = .int .i64 k ∧ f = .int .u64 (IntKind.u64.wrap (256 ^ k)) ∧ v = .int .u64 (Ln.num ws a k)) (fun _ _ i => m - (intOf i).toNat)
    case atStart => exact ⟨0, by omega, rfl, rfl, rfl⟩
    case round =>
      obtain ⟨k, hk, rfl, rfl, rfl⟩ := hrel
      by_cases hlt : k < m
      · have hc := HR.out.cell (a + k) (by rw [HI.out.1]; omega)
        have HE := Lib.hid (Ln.ref_round HI.out a k (by omega))
        have HP := Lib.hid (Ln.ref_pow k)
        rw [← Ln.pow_wrap (show k < 8 by omega)] at HE
        have hb := HI.out.byte (a + k)
        have hn := Ln.num_range HI.out a k
        generalize ws.getD (a + k) 0 = x at *
        generalize IntKind.u64.wrap (256 ^ k) = q at *
        go_wp2_with fail
        go_round
        case rel => exact ⟨k + 1, by omega, by go_num, by rw [← HP.out], by rw [← HE.out]⟩
        case measure => simp [intOf]; omega
      · obtain rfl : k = m := by omega
        go_wp2_with fail
        go_ret2
        exact ⟨lret_nb HG.out.symm rfl, HB.out⟩
  · have hf : Ln.fits p n = false := by simpa using hf
    have HG := Lib.hid (show Ln.get ws p n = 0 by unfold Ln.get; rw [if_neg (by simp [hf])])
    go_enter Try.func9, Try.ntmps9
    go_wp2_with fail
    refine (fits_c _ _ _).mono ?_
    rintro e w1 ⟨rfl, rfl⟩
    rw [hf]
    go_wp2_with fail
    go_ret2
    exact ⟨lret_nb HG.out.symm hf.symm, HB.out⟩
end Go.Proofs.Yteaooopjfmlcbaa
