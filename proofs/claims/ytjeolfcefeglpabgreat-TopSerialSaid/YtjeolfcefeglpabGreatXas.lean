/-
  The contract of the reference's Times (layer 2): the product of two words, digit by digit. The statement WideProducts (P2.1, P2.2): for all words a, b, roebucklaw02.WideProducts returns true and its arguments read afterwards as before. No condition. Contracts of package alu (layer 7): the functions that long, short and product hand out.
-/
import Derived.Test.YtjeolfcefeglpabGreatXar
import Derived.Deep.QuietTactic
import Derived.BigQuiet
import Derived.Test.YtjeolfcefeglpabGreatXan
import Derived.Test.YtjeolfcefeglpabGreatXal
set_option maxRecDepth 20000
namespace Go.Proofs.YtjeolfcefeglpabGreat
open Go.ChangeShapes Go.WideShapes Go.ChangeAt Go.RowKit Wd

def Lay (G : Nat) (wr : World) (L : List Nat) : Prop := L.length = 8 ∧ (∀ d ∈ L, d < 65536) ∧ wr.ownsRow G 38 1 (.slice (some ⟨G, 0, none⟩) 8 8) 8 (L.map fun (d : Nat) => Value.int .u64 (d : Int))
def St (wm : World) (G : Nat) (wr : World) (T nn A : Nat) : Prop := Below G wm wr ∧ ∃ L, Lay G wr L ∧ val L + nn * 65536 ^ A = T

theorem Lay.cell {G : Nat} {wr : World} {L : List Nat} (h : Lay G wr L) (A : Nat) (hA : A < 8) : wr.cell? ⟨G, A, none⟩ = some (.int .u64 ((L[A]'(by rw [h.1]; exact hA) : Nat) : Int)) := by
  have hl : A < L.length := by rw [h.1]; exact hA
  rw [h.2.2.cellAt A (by omega)]
  simp [hl]
theorem Lay.frozen {G : Nat} {wr : World} {L : List Nat} (h : Lay G wr L) (A : Nat) : wr.frozen? ⟨G, A, none⟩ = false := h.2.2.frozenAt A
theorem St.step {wm wr : World} {G T nn A : Nat} {L : List Nat} {d : Nat} (hA : A < 8) (hb : Below G wm wr) (hL : Lay G wr L) (hv : val L + nn * 65536 ^ A = T) (hd : L[A]'(by rw [hL.1]; exact hA) = d) :
    St wm G (wr.setCell ⟨G, A, none⟩ (.int .u64 (((nn : Int) + (d : Int)) % 65536))) T ((nn + d) / 65536) (A + 1) := by
  have hl : A < L.length := by rw [hL.1]; exact hA
  refine ⟨hb.setCell (by exact Nat.le_refl _) _, L.set A ((nn + d) % 65536), ⟨by rw [List.length_set]; exact hL.1, ?_, ?_⟩, ?_⟩
  · intro e he
    rcases List.mem_or_eq_of_mem_set he with h | h
    · exact hL.2.1 e h
    · rw [h]; exact Nat.mod_lt _ (by decide)
  · have := (hL.2.2.stored A (.int .u64 (((nn : Int) + (d : Int)) % 65536))).1
    rw [List.map_set]
    have e : (((nn + d) % 65536 : Nat) : Int) = ((nn : Int) + (d : Int)) % 65536 := by omega
    rw [e]
    exact this
  · have := carry_step (n := nn) hl
    rw [hd] at this
    omega
theorem St.drewN {wm wr : World} {G T nn A : Nat} (h : St wm G wr T nn A) (n : Nat) : St wm G (wr.drewN n) T nn A := by
  obtain ⟨h1, L, h2, h3⟩ := h
  exact ⟨h1.trans ⟨rfl, rfl, rfl, Nat.le_refl _, fun _ _ => rfl⟩, L, h2, h3⟩
theorem St.start {wm wr : World} {G s : Nat} (h : St wm G wr s 0 0) (nn A : Nat) : St wm G wr (s + nn * 65536 ^ A) nn A := by
  obtain ⟨h1, L, h2, h3⟩ := h
  exact ⟨h1, L, h2, by omega⟩
theorem St.stop {wm wr : World} {G T A : Nat} (h : St wm G wr T 0 A) : St wm G wr T 0 0 := by
  obtain ⟨h1, L, h2, h3⟩ := h
  exact ⟨h1, L, h2, by omega⟩
theorem St.small {wm wr : World} {G T nn : Nat} (h : St wm G wr T nn 8) (hT : T < 65536 ^ 8) : nn = 0 := by
  obtain ⟨h1, L, h2, h3⟩ := h
  have : nn * 65536 ^ 8 < 1 * 65536 ^ 8 := by omega
  have := Nat.lt_of_mul_lt_mul_right this
  omega
theorem prod_words {L : List Nat} {l0 l1 l2 l3 l4 l5 l6 l7 a b : Nat} (hL : L = [l0, l1, l2, l3, l4, l5, l6, l7]) (hd : ∀ d ∈ L, d < 65536) (hv : val L = a * b) :
    wordOf4 l4 l5 l6 l7 = mulHi a b ∧ wordOf4 l0 l1 l2 l3 = mulLo a b := by
  subst hL
  have b0 := hd l0 (by simp)
  have b1 := hd l1 (by simp)
  have b2 := hd l2 (by simp)
  have b3 := hd l3 (by simp)
  simp only [val, Nat.mul_zero, Nat.add_zero] at hv
  unfold wordOf4 mulHi mulLo
  rw [M64.mulN, ← hv]
  clear hd hv
  omega
theorem make_lay {w2 w3 : World} {G : Nat} (h : w3.ownsRow G 38 1 (.slice (some ⟨G, 0, none⟩) 8 8) 8 (madeCells (Value.int .u64 0).cells (8 * 1)).toList) (_hb : Below G w2 w3) : St w3 G w3 0 0 0 := by
  refine ⟨Below.refl _ _, List.replicate 8 0, ⟨by simp, ?_, ?_⟩, ?_⟩
  · intro d hd
    have := List.eq_of_mem_replicate hd
    omega
  · have e : (madeCells (Value.int .u64 0).cells (8 * 1)).toList = List.replicate 8 (.int .u64 0) := by
      rw [show (Value.int .u64 0).cells = #[.int .u64 0] from rfl, toList_madeCells_one]
    rw [e] at h
    simpa using h
  · decide

set_option maxHeartbeats 4000000 in
set_option maxRecDepth 100000 in
theorem refTimes_nat (a b : Nat) (w : World) (ha : a < 18446744073709551616) (hb : b < 18446744073709551616) :
    Calls Tryz.prog 155 #[.int .u64 a, .int .u64 b] w fun e w' => e = .returned (.tuple #[.int .u64 (mulHi a b), .int .u64 (mulLo a b)]) ∧ Below w.heap.size w w' := by
  obtain ⟨i0, hi, hz0, hz1, hz2⟩ := info_parts info_u64
  have ha4 : a < 65536 ^ 4 := by omega
  have hb4 : b < 65536 ^ 4 := by omega
  have HP := Lib.hid (prod_lt ha4 hb4)
  have HA := Lib.hid (And.intro ha4 hb4)
  clear ha4 hb4
  go_enter Tryz.func155, Tryz.ntmps155
  go_wp2_with fail
  refine (digits_c _ _ ha).mono ?_
  rintro e w1 ⟨rfl, rfl⟩
  go_wp2_with fail
  refine (digits_c _ _ hb).mono ?_
  rintro e w2 ⟨rfl, rfl⟩
  obtain ⟨wd, hwd⟩ : ∃ wd : World, wd = (w.alloc (.cells #[.int .u64 (dg a 0), .int .u64 (dg a 1), .int .u64 (dg a 2), .int .u64 (dg a 3)] 38)).alloc (.cells #[.int .u64 (dg b 0), .int .u64 (dg b 1), .int .u64 (dg b 2), .int .u64 (dg b 3)] 38) := ⟨_, rfl⟩
  have hsz : wd.heap.size = w.heap.size + 2 := by rw [hwd]; simp
  have hB0 : Below w.heap.size w wd := by rw [hwd]; exact ((Below.refl _ _).alloc (Nat.le_refl _) _).alloc (by simp) _
  have hX : ∀ j, j < 4 → wd.cell? ⟨w.heap.size, j, none⟩ = some (.int .u64 ((dg a j : Nat) : Int)) := by
    intro j hj
    rw [hwd]
    match j, hj with
    | 0, _ => simp
    | 1, _ => simp
    | 2, _ => simp
    | 3, _ => simp
  have hY : ∀ j, j < 4 → wd.cell? ⟨w.heap.size + 1, j, none⟩ = some (.int .u64 ((dg b j : Nat) : Int)) := by
    intro j hj
    rw [hwd]
    match j, hj with
    | 0, _ => simp
    | 1, _ => simp
    | 2, _ => simp
    | 3, _ => simp
  rw [← hwd]
  have HX := Lib.hid hX
  have HY := Lib.hid hY
  have HZ := Lib.hid hsz
  clear hX hY hwd hsz
  go_wp2_with (at_make; refine wpList_make_full _ rfl _ _ 148 rfl wd.heap.size 38 i0 (.int .u64 0) 1 Tryz.underlying148 hi hz0 hz1 .i64 .i64 8 8 8 rfl rfl rfl rfl (by rw [hz2]; omega) (by unfold maxLen; omega) (Nat.le_refl _) ?_; intro w3 hown hgrow)
  have hB3 : Below wd.heap.size wd w3 := (Below.refl _ _).grown hgrow (Nat.le_refl _) (fun k hk => by cases hk)
  have hst : St w3 wd.heap.size w3 (prodPart a b 0 0) 0 0 := by rw [part_zero]; exact make_lay hown hB3
  have hB4 : Below w.heap.size w w3 := hB0.trans (hB3.mono (by have := HZ.out; omega))
  have hlx : w.heap.size < wd.heap.size := by have := HZ.out; omega
  have hly : w.heap.size + 1 < wd.heap.size := by have := HZ.out; omega
  have HST := Lib.hid hst
  have HB4 := Lib.hid hB4
  have HB3 := Lib.hid hB3
  clear hown hgrow hB3 hB4 hst hB0
  go_loopw [9] (fun i wr => ∃ I : Nat, I ≤ 4 ∧ i = .int .i64 I ∧ St w3 wd.heap.size wr (prodPart a b I 0) 0 0) (fun i _ => 4 - (intOf i).toNat)
  case atStart => exact ⟨0, by omega, rfl, HST.out⟩
  case round =>
    obtain ⟨I, hI, rfl, hst⟩ := hrel
    have HS := Lib.hid hst
    clear hst
    by_cases hIl : I < 4
    · have g1 : decide ((I : Int) < 4) = true := decide_eq_true (by omega)
      go_wp2
      clear g1
      go_loopw [10] (fun k wr => ∃ K : Nat, K ≤ 4 ∧ k = .int .i64 K ∧ St w3 wd.heap.size wr (prodPart a b I K) 0 0) (fun k _ => 4 - (intOf k).toNat)
      case atStart => exact ⟨0, by omega, rfl, HS.out⟩
      case round =>
        obtain ⟨K, hK, rfl, hst⟩ := hrel
        have HS := Lib.hid hst
        clear hst
        by_cases hKl : K < 4
        · have c1 := (HS.out.1.cell (p := ⟨w.heap.size, I, none⟩) hlx).trans ((HB3.out.cell (p := ⟨w.heap.size, I, none⟩) hlx).trans (HX.out I hIl))
          have c2 := (HS.out.1.cell (p := ⟨w.heap.size + 1, K, none⟩) hly).trans ((HB3.out.cell (p := ⟨w.heap.size + 1, K, none⟩) hly).trans (HY.out K hKl))
          have x1 := dg_lt a I
          have y1 := dg_lt b K
          have HPS := Lib.hid (part_step a b I K)
          generalize dg a I = x at *
          generalize dg b K = y at *
          obtain ⟨P, hP⟩ : ∃ P : Nat, P = x * y := ⟨_, rfl⟩
          have hPl : P ≤ 4294836225 := by rw [hP]; exact Nat.mul_le_mul (show x ≤ 65535 by omega) (show y ≤ 65535 by omega)
          have hw : IntKind.u64.wrap ((x : Int) * (y : Int)) = (P : Int) := by
            rw [M64.mulN, ← hP, IntKind.wrap_u64]
            omega
          rw [← hP] at HPS
          have g1 : decide ((K : Int) < 4) = true := decide_eq_true (by omega)
          clear hP
          go_wp2
          go_quiet (fail)
          clear c1 c2 x1 y1
          go_wp2
          clear hw g1
          go_loopw [11, 12] (fun n t wr => ∃ nn A : Nat, nn ≤ 4294901760 ∧ A ≤ 8 ∧ n = .int .u64 nn ∧ t = .int .i64 A ∧ St w3 wd.heap.size wr (prodPart a b I (K + 1)) nn A) (fun _ t _ => 8 - (intOf t).toNat)
          case atStart => exact ⟨P, I + K, by omega, by omega, rfl, by go_num, by rw [← HPS.out]; exact (HS.out.start P (I + K)).drewN _⟩
          case round =>
            obtain ⟨nn, A, hnn, hA, rfl, rfl, hst⟩ := hrel
            by_cases hn0 : nn = 0
            · subst hn0
              have HS := Lib.hid hst.stop
              clear hst
              go_wp2
              go_roundw
              case rel => exact ⟨K + 1, by omega, by go_num, HS.out⟩
              case measure => simp [intOf]; omega
            · have hA8 : A < 8 := by
                rcases Nat.lt_or_ge A 8 with h | h
                · exact h
                · obtain rfl : A = 8 := by omega
                  exact absurd (hst.small (Nat.lt_of_le_of_lt (part_le a b I (K + 1)) HP.out)) hn0
              obtain ⟨hb5, L, hL, hv⟩ := hst
              have hcell := hL.cell A hA8
              have hfz := hL.frozen A
              have hd := hL.2.1 (L[A]'(by rw [hL.1]; exact hA8)) (List.getElem_mem _)
              generalize hdd : L[A]'(by rw [hL.1]; exact hA8) = d at *
              have HN := Lib.hid (St.step hA8 hb5 hL hv hdd)
              clear hb5 hL hv hdd
              have hnp : 0 < (nn : Int) := by omega
              have hA8' : (A : Int) < 8 := by omega
              go_wp2
              go_roundw
              case rel => exact ⟨(nn + d) / 65536, A + 1, by omega, by omega, congrArg (Value.int .u64) (by omega), by go_num, HN.out⟩
              case measure => simp [intOf]; omega
        · obtain rfl : K = 4 := by omega
          have HS2 := Lib.hid (show St w3 wd.heap.size wr (prodPart a b (I + 1) 0) 0 0 from by rw [← part_row HA.out.2]; exact HS.out)
          go_wp2
          go_roundw
          case rel => exact ⟨I + 1, by omega, by go_num, HS2.out⟩
          case measure => simp [intOf]; omega
    · obtain rfl : I = 4 := by omega
      obtain ⟨hb5, L, hL, hv⟩ := HS.out
      rw [part_all HA.out.1] at hv
      obtain ⟨l0, l1, l2, l3, l4, l5, l6, l7, hLe⟩ : ∃ l0 l1 l2 l3 l4 l5 l6 l7, L = [l0, l1, l2, l3, l4, l5, l6, l7] := by
        match L, hL.1 with
        | [l0, l1, l2, l3, l4, l5, l6, l7], _ => exact ⟨_, _, _, _, _, _, _, _, rfl⟩
      have HW := Lib.hid (prod_words hLe hL.2.1 (by omega))
      subst hLe
      have f0 := hL.2.1 l0 (by simp)
      have f1 := hL.2.1 l1 (by simp)
      have f2 := hL.2.1 l2 (by simp)
      have f3 := hL.2.1 l3 (by simp)
      have f4 := hL.2.1 l4 (by simp)
      have f5 := hL.2.1 l5 (by simp)
      have f6 := hL.2.1 l6 (by simp)
      have f7 := hL.2.1 l7 (by simp)
      have HL := Lib.hid hL
      have HBB := Lib.hid hb5
      clear hL hv hb5
      go_wp2_with fail
      refine (wordAt_c l4 l5 l6 l7 _ 4 8 8 _ (by omega) (by omega) (by omega) (by omega) (by omega) (by omega) (by omega) (by omega) (by omega) (by omega) (HL.out.cell 4 (by omega)) (HL.out.cell 5 (by omega)) (HL.out.cell 6 (by omega)) (HL.out.cell 7 (by omega))).mono ?_
      rintro e w' ⟨rfl, rfl⟩
      rw [HW.out.1]
      go_wp2_with fail
      refine (wordAt_c l0 l1 l2 l3 _ 0 8 8 _ (by omega) (by omega) (by omega) (by omega) (by omega) (by omega) (by omega) (by omega) (by omega) (by omega) (HL.out.cell 0 (by omega)) (HL.out.cell 1 (by omega)) (HL.out.cell 2 (by omega)) (HL.out.cell 3 (by omega))).mono ?_
      rintro e w' ⟨rfl, rfl⟩
      rw [HW.out.2]
      go_wp2_with fail
      go_ret2
      exact ⟨rfl, HB4.out.trans (HBB.out.mono (by have := HZ.out; omega))⟩
end Go.Proofs.YtjeolfcefeglpabGreat
set_option maxRecDepth 20000
namespace Go.Proofs.YtjeolfcefeglpabGreat
open Go.ChangeShapes Go.WideShapes Go.ChangeAt Go.RowKit Wd

theorem refTimes_c (a b : Int) (w : World) (ha0 : 0 ≤ a) (ha : a < 18446744073709551616) (hb0 : 0 ≤ b) (hb : b < 18446744073709551616) :
    Calls Tryz.prog 155 #[.int .u64 a, .int .u64 b] w fun e w' => e = .returned (.tuple #[.int .u64 (mulHi a b), .int .u64 (mulLo a b)]) ∧ Below w.heap.size w w' := by
  obtain ⟨x, rfl⟩ := Int.eq_ofNat_of_zero_le ha0
  obtain ⟨y, rfl⟩ := Int.eq_ofNat_of_zero_le hb0
  exact refTimes_nat x y w (by omega) (by omega)
set_option maxHeartbeats 1000000 in
theorem refHigh1_c (a b : Int) (w : World) (ha0 : 0 ≤ a) (ha : a < 18446744073709551616) (hb0 : 0 ≤ b) (hb : b < 18446744073709551616) :
    Calls Tryz.prog 156 #[.int .u64 a, .int .u64 b, .int .i64 1] w fun e w' => e = .returned (.int .u64 (hMix a b)) ∧ Below w.heap.size w w' := by
  by_cases c : 9223372036854775808 ≤ a
  · have g := negB_true c
    have H := Lib.hid (show IntKind.u64.wrap (mulHi a b - b) = hMix a b from by unfold hMix; rw [if_pos c])
    go_enter Tryz.func156, Tryz.ntmps156
    go_wp2_with fail
    refine (refTimes_c _ _ _ ha0 ha hb0 hb).mono ?_
    rintro e w1 ⟨rfl, hB⟩
    go_wp2_with fail
    refine (below_c _ _ ha0 ha).mono ?_
    rintro e w' ⟨rfl, rfl⟩
    go_wp2_with fail
    go_ret
    exact ⟨ret_u H.out, hB⟩
  · have g := negB_false c
    have H := Lib.hid (show mulHi a b = hMix a b from by unfold hMix; rw [if_neg c])
    go_enter Tryz.func156, Tryz.ntmps156
    go_wp2_with fail
    refine (refTimes_c _ _ _ ha0 ha hb0 hb).mono ?_
    rintro e w1 ⟨rfl, hB⟩
    go_wp2_with fail
    refine (below_c _ _ ha0 ha).mono ?_
    rintro e w' ⟨rfl, rfl⟩
    go_wp2_with fail
    go_ret
    exact ⟨ret_u H.out, hB⟩
set_option maxHeartbeats 1000000 in
theorem refHigh2_c (a b : Int) (w : World) (ha0 : 0 ≤ a) (ha : a < 18446744073709551616) (hb0 : 0 ≤ b) (hb : b < 18446744073709551616) :
    Calls Tryz.prog 156 #[.int .u64 a, .int .u64 b, .int .i64 2] w fun e w' => e = .returned (.int .u64 (hSig a b)) ∧ Below w.heap.size w w' := by
  by_cases c : 9223372036854775808 ≤ a
  · have g := negB_true c
    have HM := Lib.hid (show IntKind.u64.wrap (mulHi a b - b) = hMix a b from by unfold hMix; rw [if_pos c])
    by_cases c2 : 9223372036854775808 ≤ b
    · have g2 := negB_true c2
      have H := Lib.hid (show IntKind.u64.wrap (IntKind.u64.wrap (mulHi a b - b) - a) = hSig a b from by rw [HM.out]; unfold hSig; rw [if_pos c2])
      go_enter Tryz.func156, Tryz.ntmps156
      go_wp2_with fail
      refine (refTimes_c _ _ _ ha0 ha hb0 hb).mono ?_
      rintro e w1 ⟨rfl, hB⟩
      go_wp2_with fail
      refine (below_c _ _ ha0 ha).mono ?_
      rintro e w' ⟨rfl, rfl⟩
      go_wp2_with fail
      refine (below_c _ _ hb0 hb).mono ?_
      rintro e w' ⟨rfl, rfl⟩
      go_wp2_with fail
      go_ret
      exact ⟨ret_u H.out, hB⟩
    · have g2 := negB_false c2
      have H := Lib.hid (show IntKind.u64.wrap (mulHi a b - b) = hSig a b from by rw [HM.out]; unfold hSig; rw [if_neg c2])
      go_enter Tryz.func156, Tryz.ntmps156
      go_wp2_with fail
      refine (refTimes_c _ _ _ ha0 ha hb0 hb).mono ?_
      rintro e w1 ⟨rfl, hB⟩
      go_wp2_with fail
      refine (below_c _ _ ha0 ha).mono ?_
      rintro e w' ⟨rfl, rfl⟩
      go_wp2_with fail
      refine (below_c _ _ hb0 hb).mono ?_
      rintro e w' ⟨rfl, rfl⟩
      go_wp2_with fail
      go_ret
      exact ⟨ret_u H.out, hB⟩
  · have g := negB_false c
    have HM := Lib.hid (show mulHi a b = hMix a b from by unfold hMix; rw [if_neg c])
    by_cases c2 : 9223372036854775808 ≤ b
    · have g2 := negB_true c2
      have H := Lib.hid (show IntKind.u64.wrap (mulHi a b - a) = hSig a b from by rw [HM.out]; unfold hSig; rw [if_pos c2])
      go_enter Tryz.func156, Tryz.ntmps156
      go_wp2_with fail
      refine (refTimes_c _ _ _ ha0 ha hb0 hb).mono ?_
      rintro e w1 ⟨rfl, hB⟩
      go_wp2_with fail
      refine (below_c _ _ ha0 ha).mono ?_
      rintro e w' ⟨rfl, rfl⟩
      go_wp2_with fail
      refine (below_c _ _ hb0 hb).mono ?_
      rintro e w' ⟨rfl, rfl⟩
      go_wp2_with fail
      go_ret
      exact ⟨ret_u H.out, hB⟩
    · have g2 := negB_false c2
      have H := Lib.hid (show mulHi a b = hSig a b from by rw [HM.out]; unfold hSig; rw [if_neg c2])
      go_enter Tryz.func156, Tryz.ntmps156
      go_wp2_with fail
      refine (refTimes_c _ _ _ ha0 ha hb0 hb).mono ?_
      rintro e w1 ⟨rfl, hB⟩
      go_wp2_with fail
      refine (below_c _ _ ha0 ha).mono ?_
      rintro e w' ⟨rfl, rfl⟩
      go_wp2_with fail
      refine (below_c _ _ hb0 hb).mono ?_
      rintro e w' ⟨rfl, rfl⟩
      go_wp2_with fail
      go_ret
      exact ⟨ret_u H.out, hB⟩

end Go.Proofs.YtjeolfcefeglpabGreat
set_option maxRecDepth 20000
namespace Go.Proofs.YtjeolfcefeglpabGreat
open Go.ChangeShapes Go.WideShapes Go.ChangeAt Go.RowKit Wd

def lessU (a b : Int) : Bool := decide (a < b)
end Go.Proofs.YtjeolfcefeglpabGreat
