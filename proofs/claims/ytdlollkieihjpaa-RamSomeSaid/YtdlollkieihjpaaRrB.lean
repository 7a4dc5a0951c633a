/-
  The reference of layer 10: contracts of Load, Store.
-/
import Derived.Test.YtdlollkieihjpaaRrA
namespace Go.Proofs.Ytdlollkieihjpaa
open Go.ChangeShapes Go.WideShapes Go.ChangeAt Go.RowKit Wd

theorem CsAt.farc {w : World} {b : Nat} {t : TypeId} {cs : Array Value} (h : CsAt w b t cs) {c i : Nat} (hne : b ≠ c) (v : Value) : CsAt (w.setCell ⟨c, i, none⟩ v) b t cs := (heap_setCell_other w ⟨c, i, none⟩ b v hne).trans h
theorem rload_round {B : List Int} {n : Nat} (h : Rm.Ok B n) (a m : Nat) (hm : m < 8) : IntKind.u64.wrap (IntKind.u64.wrap (Ln.num B (a + 1) m * 256) + B.getD a 0) = Ln.num B a (m + 1) := by
  have r := Rm.num_rng h (a + 1) m
  have r' := num_u64 h a (m + 1) (by omega)
  have b := h.rng a
  rw [Rm.num_cons] at r' ⊢
  rw [IntKind.wrap_u64, IntKind.wrap_u64]
  omega
theorem rhasN {n : Nat} {x m : Int} (h : m ≤ 8) : hasN n x m = hasB n x m := by unfold hasN; rw [decide_eq_true h, Bool.true_and]
set_option maxHeartbeats 2000000 in
theorem rload_c {w : World} {gb n : Nat} (cap : Nat) {t : TypeId} {B : List Int} (h : RefAt w gb t n B) (x m : Int) (hx : 0 ≤ x ∧ x < 18446744073709551616) (hm : -9223372036854775808 ≤ m ∧ m ≤ 9223372036854775807) :
    Calls Try.prog 31 #[mV gb n cap, .int .u64 x, .int .i64 m] w fun e w' => e = .returned (.tuple #[.int .u64 (ldV B n x m), .bool (hasN n x m)]) ∧ Below w.heap.size w w' := by
  have hB := (Below.refl w.heap.size w).alloc (Nat.le_refl _) (.cells #[.slice (some ⟨gb, 0, none⟩) (64 * n) cap] 34)
  have HH := Lib.hid (h.low hB)
  have HC := Lib.hid (CsAt.new w 34 #[.slice (some ⟨gb, 0, none⟩) (64 * n) cap])
  have HB := Lib.hid hB
  have HX := Lib.hid hx
  have HM := Lib.hid hm
  have hn := h.n1
  clear h hB hx hm
  by_cases h8 : 8 < m
  · have g8 : decide (8 < m) = true := by simpa using h8
    have HE := Lib.hid (show hasN n x m = false by unfold hasN; rw [decide_eq_false (by omega), Bool.false_and])
    have HV := Lib.hid (show ldV B n x m = 0 by unfold ldV; rw [HE.out]; rfl)
    unfold mV
    go_enter Try.func31, Try.ntmps31
    go_wp2_with fail
    go_ret2
    exact ⟨lret_nb HV.out.symm HE.out.symm, HB.out⟩
  · have g8 : decide (8 < m) = false := by simpa using h8
    have HN := Lib.hid (rhasN (n := n) (x := x) (show m ≤ 8 by omega))
    cases hf : hasN n x m
    · have HE := Lib.hid hf
      have HV := Lib.hid (show ldV B n x m = 0 by unfold ldV; rw [hf]; rfl)
      clear hf
      unfold mV
      have c0 := HC.out.cell 0
      go_enter Try.func31, Try.ntmps31
      go_wp2_with fail
      generalize w.alloc (.cells #[.slice (some ⟨gb, 0, none⟩) (64 * n) cap] 34) = w1 at *
      refine (rhas_c gb n cap hn x m HX.out HM.out).mono ?_
      rintro e w2 ⟨rfl, hb⟩
      have HB2 := Lib.hid (HB.out.trans (hb.mono HB.out.size))
      clear hb
      rw [← HN.out, HE.out]
      go_wp2_with fail
      go_ret2
      exact ⟨lret_nb HV.out.symm rfl, HB2.out⟩
    · obtain ⟨i, p, k, hp, hi, hk1, hk8, rfl, rfl, hle⟩ := addr_of hf
      have HE := Lib.hid hf
      have HV := Lib.hid (show ldV B n (2147483648 + ((64 * i + p : Nat) : Int)) (k : Int) = Ln.num B (64 * i + p) k by
        unfold ldV
        rw [hf, show (2147483648 + ((64 * i + p : Nat) : Int) - 2147483648).toNat = 64 * i + p by omega, Int.toNat_natCast]
        rfl)
      obtain ⟨a, ha⟩ : ∃ a, 64 * i + p = a := ⟨_, rfl⟩
      rw [ha] at HV HE hle HN HX ⊢
      clear hf ha hi hp
      unfold mV
      have c0 := HC.out.cell 0
      go_enter Try.func31, Try.ntmps31
      go_wp2_with fail
      generalize w.alloc (.cells #[.slice (some ⟨gb, 0, none⟩) (64 * n) cap] 34) = w1 at *
      refine (rhas_c gb n cap hn _ (k : Int) HX.out HM.out).mono ?_
      rintro e w2 ⟨rfl, hb⟩
      have HB2 := Lib.hid (HB.out.trans (hb.mono HB.out.size))
      have HH2 := Lib.hid (HH.out.low hb)
      have HC2 := Lib.hid (HC.out.low hb)
      clear hb c0 HB HH HC
      have c0 := HC2.out.cell 0
      rw [← HN.out, HE.out]
      go_wp2_with fail
      go_loop [8, 9] (fun v i => ∃ j : Nat, j ≤ k ∧ i = .int .i64 ((j : Int) - 1) ∧ v = .int .u64 (Ln.num B (a + j) (k - j))) (fun _ i => ((intOf i) + 1).toNat)
      case atStart => exact ⟨k, Nat.le_refl _, rfl, by rw [Nat.sub_self]; rfl⟩
      case round =>
        obtain ⟨j, hj, rfl, rfl⟩ := hrel
        rcases j with _ | j
        · go_wp2_with fail
          go_ret2
          exact ⟨lret_nb (by rw [HV.out]) rfl, HB2.out⟩
        · have hc := HH2.out.cell (a + j) (by omega)
          have HR := Lib.hid (rload_round HH2.out.ok (a + j) (k - (j + 1)) (by omega))
          have hb := HH2.out.ok.rng (a + j)
          rw [show a + j + 1 = a + (j + 1) by omega, show k - (j + 1) + 1 = k - j by omega] at HR
          have hi : (((j + 1 : Nat) : Int) - 1) = (j : Int) := by omega
          rw [hi]
          have hjb : (a : Int) + (j : Int) < 64 * (n : Int) := by omega
          generalize B.getD (a + j) 0 = z at *
          generalize Ln.num B (a + (j + 1)) (k - (j + 1)) = q at *
          go_wp2_with fail
          go_round
          case rel => exact ⟨j, by omega, rfl, by rw [← HR.out]⟩
          case measure => simp [intOf]
theorem rstore_round {v : Int} (hv : 0 ≤ v ∧ v < 18446744073709551616) (j : Nat) : (0 ≤ v / 256 ^ j ∧ v / 256 ^ j < 18446744073709551616) ∧ IntKind.u8.wrap (v / 256 ^ j % 256) = v / 256 ^ j % 256 ∧ v / 256 ^ j / 256 = v / 256 ^ (j + 1) := by
  have h1 : 0 ≤ v / 256 ^ j := Int.ediv_nonneg hv.1 (Int.le_of_lt (Int.pow_pos (by decide)))
  have h2 : v / 256 ^ j ≤ v := Int.ediv_le_self _ hv.1
  refine ⟨⟨h1, by omega⟩, by rw [IntKind.wrap_u8]; omega, ?_⟩
  rw [Int.ediv_ediv_of_nonneg (Int.le_of_lt (Int.pow_pos (by decide))), Int.pow_succ]
set_option maxHeartbeats 2000000 in
theorem rstore_c {w : World} {gb n : Nat} (cap : Nat) {t : TypeId} {B : List Int} (h : RefAt w gb t n B) (x m v : Int) (hx : 0 ≤ x ∧ x < 18446744073709551616) (hm : -9223372036854775808 ≤ m ∧ m ≤ 9223372036854775807) (hv : 0 ≤ v ∧ v < 18446744073709551616) :
    Calls Try.prog 27 #[mV gb n cap, .int .u64 x, .int .i64 m, .int .u64 v] w fun e w' => e = .returned (.bool (hasN n x m)) ∧ RefAt w' gb t n (stV B n x m v) ∧ Only gb w w' := by
  have hB := (Below.refl w.heap.size w).alloc (Nat.le_refl _) (.cells #[.slice (some ⟨gb, 0, none⟩) (64 * n) cap] 34)
  have HH := Lib.hid (h.low hB)
  have HC := Lib.hid (CsAt.new w 34 #[.slice (some ⟨gb, 0, none⟩) (64 * n) cap])
  have HB := Lib.hid hB
  have HX := Lib.hid hx
  have HM := Lib.hid hm
  have HVV := Lib.hid hv
  have hn := h.n1
  have hlt := h.lt
  clear h hB hx hm hv
  by_cases h8 : 8 < m
  · have g8 : decide (8 < m) = true := by simpa using h8
    have HE := Lib.hid (show hasN n x m = false by unfold hasN; rw [decide_eq_false (by omega), Bool.false_and])
    have HV := Lib.hid (show B = stV B n x m v by unfold stV; rw [HE.out]; rfl)
    unfold mV
    go_enter Try.func27, Try.ntmps27
    go_wp2_with fail
    go_ret
    exact ⟨lret_b HE.out.symm, HV.out ▸ HH.out, Only.of_below HB.out⟩
  · have g8 : decide (8 < m) = false := by simpa using h8
    have HN := Lib.hid (rhasN (n := n) (x := x) (show m ≤ 8 by omega))
    cases hf : hasN n x m
    · have HE := Lib.hid hf
      have HV := Lib.hid (show B = stV B n x m v by unfold stV; rw [hf]; rfl)
      clear hf
      unfold mV
      have c0 := HC.out.cell 0
      go_enter Try.func27, Try.ntmps27
      go_wp2_with fail
      generalize w.alloc (.cells #[.slice (some ⟨gb, 0, none⟩) (64 * n) cap] 34) = w1 at *
      refine (rhas_c gb n cap hn x m HX.out HM.out).mono ?_
      rintro e w2 ⟨rfl, hb⟩
      have HB2 := Lib.hid (HB.out.trans (hb.mono HB.out.size))
      have HH2 := Lib.hid (HH.out.low hb)
      clear hb
      rw [← HN.out, HE.out]
      go_wp2_with fail
      go_ret
      exact ⟨rfl, HV.out ▸ HH2.out, Only.of_below HB2.out⟩
    · obtain ⟨i, p, k, hp, hi, hk1, hk8, rfl, rfl, hle⟩ := addr_of hf
      have HE := Lib.hid hf
      have HV := Lib.hid (show stV B n (2147483648 + ((64 * i + p : Nat) : Int)) (k : Int) v = Rm.st B (64 * i + p) k v by
        unfold stV
        rw [hf, show (2147483648 + ((64 * i + p : Nat) : Int) - 2147483648).toNat = 64 * i + p by omega, Int.toNat_natCast]
        rfl)
      obtain ⟨a, ha⟩ : ∃ a, 64 * i + p = a := ⟨_, rfl⟩
      rw [ha] at HV HE hle HN HX ⊢
      rw [HV.out]
      clear hf ha hi hp HV
      unfold mV
      have c0 := HC.out.cell 0
      go_enter Try.func27, Try.ntmps27
      go_wp2_with fail
      generalize w.alloc (.cells #[.slice (some ⟨gb, 0, none⟩) (64 * n) cap] 34) = w1 at *
      refine (rhas_c gb n cap hn _ (k : Int) HX.out HM.out).mono ?_
      rintro e w2 ⟨rfl, hb⟩
      have HB2 := Lib.hid (HB.out.trans (hb.mono HB.out.size))
      have HH2 := Lib.hid (HH.out.low hb)
      have HC2 := Lib.hid (HC.out.low hb)
      clear hb c0 HB HH HC
      rw [← HN.out, HE.out]
      have HO2 := Lib.hid (Only.of_below (b := gb) HB2.out)
      have HZ := Lib.hid (show RefAt w2 gb t n (Rm.st B a 0 v) by rw [Rm.st_lay, Rm.lay_zero]; exact HH2.out)
      clear HB2
      go_wp2_with fail
      go_loopw [3, 9] (fun val i wr => ∃ j : Nat, j ≤ k ∧ i = .int .i64 (j : Int) ∧ val = .int .u64 (v / 256 ^ j) ∧ RefAt wr gb t n (Rm.st B a j v) ∧ Only gb w wr ∧ CsAt wr w.heap.size 34 #[.slice (some ⟨gb, 0, none⟩) (64 * n) cap]) (fun _ i _ => k - (intOf i).toNat)
      case atStart => exact ⟨0, Nat.zero_le _, rfl, by simp, HZ.out, HO2.out, HC2.out⟩
      case round =>
        obtain ⟨j, hj, rfl, rfl, hR, hO, hC⟩ := hrel
        have hne : gb ≠ w.heap.size := by omega
        have HR := Lib.hid hR
        have HO := Lib.hid hO
        have HC := Lib.hid hC
        clear hR hO hC
        by_cases hjk : j = k
        · subst hjk
          go_wp2_with fail
          go_ret
          exact ⟨rfl, HR.out, HO.out⟩
        · have hlt2 : (j : Int) < (k : Int) := by omega
          have c0 := HC.out.cell 0
          have hcell := HR.out.cell (a + j) (by omega)
          have hfr := HR.out.frozen (a + j)
          have HQ := Lib.hid (rstore_round HVV.out j)
          generalize hq : v / 256 ^ j = q at *
          have hq0 := HQ.out.1
          have HB := Lib.hid (show (Rm.st B a j v).set (a + j) (q % 256) = Rm.st B a (j + 1) v by
            have := Rm.lay_step B a j (Ln.byteOf v) (by have := HH2.out.ok.len; omega)
            rw [← Rm.st_lay, ← Rm.st_lay] at this
            rw [← this, ← hq]
            rfl)
          have HOK := Lib.hid (show Rm.Ok (Rm.st B a (j + 1) v) n from Rm.st_ok HH2.out.ok _ _ _)
          have HQ2 := Lib.hid (show q / 256 = v / 256 ^ (j + 1) from HQ.out.2.2)
          clear hq HQ
          generalize (Rm.st B a j v).getD (a + j) 0 = z at hcell
          go_wp2_with fail
          go_roundw
          case rel => exact ⟨j + 1, by omega, by go_num, by rw [HQ2.out], HR.out.set (a + j) (by omega) HB.out HOK.out, HO.out.setCell _ _, CsAt.farc HC.out hne.symm _⟩
          case measure => simp [intOf]; omega
end Go.Proofs.Ytdlollkieihjpaa
