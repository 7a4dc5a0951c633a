/-
  Contracts of slices.Sort at []uint64, of at most 12 numbers that the call owns: its sort by insertion is walked.
-/
import Derived.Test.YtabackklpemhpaaSrtB
namespace Go.Proofs.Ytabackklpemhpaa.U
open Go.ChangeShapes Go.WideShapes Go.ChangeAt Go.RowKit

abbrev uV (xs : List Int) : List Value := xs.map (Value.int .u64)
theorem uV_at (xs : List Int) (j : Nat) (hj : j < xs.length) : (uV xs)[j]? = some (.int .u64 (xs.getD j 0)) := by
  rw [List.getElem?_map, List.getD, List.getElem?_eq_getElem hj]
  rfl
/-- Numbers that the call owns. -/
structure Ints (w : World) (base g cap : Nat) (xs : List Int) : Prop where
  own : w.ownsRow base 23 1 (.slice (some ⟨g, 0, none⟩) xs.length cap) xs.length (uV xs)
theorem Ints.cell {w : World} {base g cap : Nat} {xs : List Int} (h : Ints w base g cap xs) (j : Nat) (hj : j < xs.length) : w.cell? ⟨g, j, none⟩ = some (.int .u64 (xs.getD j 0)) := by
  rw [h.own.cellAt j (by omega), uV_at xs j hj]
theorem Ints.frozen {w : World} {base g cap : Nat} {xs : List Int} (h : Ints w base g cap xs) (j : Nat) : w.frozen? ⟨g, j, none⟩ = false := h.own.frozenAt j
theorem Ints.base {w : World} {base g cap : Nat} {xs : List Int} (h : Ints w base g cap xs) : base ≤ g ∧ g < w.heap.size := h.own.lt g rfl
theorem Ints.set {w : World} {base g cap : Nat} {xs : List Int} (h : Ints w base g cap xs) (j : Nat) (x : Int) : Ints (w.setCell ⟨g, j, none⟩ (.int .u64 x)) base g cap (xs.set j x) := by
  have := (h.own.stored j (.int .u64 x)).1
  constructor
  rw [List.length_set, uV, List.map_set]
  exact this
theorem Ints.low {w w' : World} {base g cap : Nat} {xs : List Int} (h : Ints w base g cap xs) (hb : Below w.heap.size w w') : Ints w' base g cap xs := ⟨own_low h.own hb⟩
theorem Ints.drewN {w : World} {base g cap : Nat} {xs : List Int} (h : Ints w base g cap xs) (n : Nat) : Ints (w.drewN n) base g cap xs := h.low ⟨rfl, rfl, rfl, Nat.le_refl _, fun _ _ => rfl⟩
theorem Ints.drew {w : World} {base g cap : Nat} {xs : List Int} (h : Ints w base g cap xs) : Ints w.drew base g cap xs := h.drewN 1
theorem nan_c (x : Int) (w : World) : Calls Try.prog 120 #[.int .u64 x] w fun e w' => e = .returned (.bool false) ∧ w' = w := by
  go_enter Try.func120, Try.ntmps120
  go_wp2_with fail
  go_ret
  exact ⟨by simp, rfl⟩
theorem cless_c (x y : Int) (w : World) : Calls Try.prog 85 #[.int .u64 x, .int .u64 y] w fun e w' => e = .returned (.bool (decide (x < y))) ∧ w' = w := by
  go_enter Try.func85, Try.ntmps85
  go_wp2_with fail
  refine (nan_c _ _).mono ?_
  rintro e w' ⟨rfl, rfl⟩
  go_wp2_with fail
  go_ret
  exact ⟨rfl, rfl⟩
set_option maxRecDepth 100000 in
theorem slen64_c (x : Int) (w : World) (h0 : 0 ≤ x) (h1 : x ≤ 12) : Calls Try.prog 89 #[.int .u64 x] w fun e w' => (∃ k, e = .returned (.int .i64 k)) ∧ w' = w := by
  have hu := Try.underlying9
  have l1 := Lib.bitLen_le8' x h0 (by omega)
  have l2 := Lib.len8_of x h0 (by omega)
  have l3 : 0 ≤ Lib.len8 x := by rw [l2]; omega
  have l4 : Lib.len8 x ≤ 8 := by rw [l2]; omega
  clear l1 l2
  go_enter Try.func89, Try.ntmps89
  go_wp2_with fail
  go_ret
  exact ⟨⟨_, rfl⟩, rfl⟩
theorem slen_c (x : Int) (w : World) (h0 : 0 ≤ x) (h1 : x ≤ 12) : Calls Try.prog 51 #[.int .u64 x] w fun e w' => (∃ k, e = .returned (.int .i64 k)) ∧ w' = w := by
  go_enter Try.func51, Try.ntmps51
  go_wp2_with fail
  refine (slen64_c _ _ h0 h1).mono ?_
  rintro e w' ⟨⟨k, rfl⟩, rfl⟩
  go_wp2_with fail
  go_ret
  exact ⟨⟨_, rfl⟩, rfl⟩
theorem insert_none (p : Option Addr) (cap : Nat) (w : World) : Calls Try.prog 79 #[.slice p 0 cap, .int .i64 0, .int .i64 0] w fun e w' => e = .returned (.tuple #[]) ∧ w' = w := by
  go_enter Try.func79, Try.ntmps79
  go_wp2_with fail
  go_loopw [6] (fun i wr => i = .int .i64 1 ∧ wr = w) (fun _ _ => 0)
  case atStart => exact ⟨rfl, rfl⟩
  case round =>
    obtain ⟨rfl, rfl⟩ := hrel
    go_wp2_with fail
    go_end0
    exact ⟨rfl, rfl⟩
/-- Between two rounds of the outer loop. -/
structure SoAt (w W : World) (base g cap : Nat) (xs ys : List Int) : Prop where
  bel : Below base w W
  row : Ints W base g cap ys
  len : ys.length = xs.length
theorem SoAt.drewN {w W : World} {base g cap : Nat} {xs ys : List Int} (h : SoAt w W base g cap xs ys) (n : Nat) : SoAt w (W.drewN n) base g cap xs ys := ⟨below_dnS h.bel n, h.row.drewN n, h.len⟩
set_option maxHeartbeats 4000000 in
theorem insert_c (base g cap : Nat) (xs : List Int) (w : World) (hI : Ints w base g cap xs) (hpos : 0 < xs.length) (hlen : xs.length ≤ 12) :
    Calls Try.prog 79 #[.slice (some ⟨g, 0, none⟩) xs.length cap, .int .i64 0, .int .i64 ((xs.length : Nat) : Int)] w fun e w' => e = .returned (.tuple #[]) ∧ SoAt w w' base g cap xs (Srt.sorted xs xs.length) := by
  have H0 := Lib.hid (show SoAt w w base g cap xs (Srt.sorted xs 1 ++ xs.drop 1) from ⟨Below.refl _ _, by
    have e : Srt.sorted xs 1 ++ xs.drop 1 = xs := by
      show [] ++ xs.getD 0 0 :: [] ++ xs.drop 1 = xs
      have h1 := List.drop_eq_getElem_cons hpos
      rw [List.drop_zero] at h1
      rw [List.getD, List.getElem?_eq_getElem hpos]
      exact h1.symm
    rw [e]
    exact hI, by simp [Srt.sorted_len]; omega⟩)
  clear hI
  go_enter Try.func79, Try.ntmps79
  go_wp2_with fail
  go_loopw [6] (fun i wr => ∃ k : Nat, 1 ≤ k ∧ k ≤ xs.length ∧ i = .int .i64 k ∧ SoAt w wr base g cap xs (Srt.sorted xs k ++ xs.drop k)) (fun i _ => xs.length - (intOf i).toNat)
  case atStart => exact ⟨1, Nat.le_refl _, by omega, rfl, H0.out⟩
  case round =>
    obtain ⟨k, hk1, hk, rfl, hr⟩ := hrel
    have HR := Lib.hid hr
    clear hr H0
    by_cases hlt : k < xs.length
    · have hsl := Srt.sorted_len xs k
      have HW := Lib.hid (Srt.way_top xs k hlt)
      rw [HW.out] at HR
      have HSL := Lib.hid hsl
      clear hsl
      generalize hx : xs.getD k 0 = x at *
      clear HW
      go_wp2_with fail
      go_loopw [7] (fun j ws => ∃ m : Nat, m ≤ k ∧ j = .int .i64 m ∧ SoAt w ws base g cap xs (Srt.way (Srt.sorted xs k) (xs.drop (k + 1)) x m) ∧ Srt.place (Srt.sorted xs k) x m = Srt.place (Srt.sorted xs k) x k) (fun j _ => (intOf j).toNat)
      case atStart => exact ⟨k, Nat.le_refl _, rfl, HR.out, rfl⟩
      case round =>
        obtain ⟨m, hm, rfl, hs, hp⟩ := hrel
        have HS := Lib.hid hs
        have HP := Lib.hid hp
        clear hs hp HR
        rcases m with _ | m
        · have HE := Lib.hid (show Srt.way (Srt.sorted xs k) (xs.drop (k + 1)) x 0 = Srt.sorted xs (k + 1) ++ xs.drop (k + 1) by
            rw [← hx]; exact Srt.way_end xs k 0 (by rw [hx, ← HP.out]; rfl))
          rw [HE.out] at HS
          have gd : decide ((0 : Int) < ((0 : Nat) : Int)) = false := rfl
          have gd2 : decide ((0 : Int) < 0) = false := rfl
          rw [show ((0 : Nat) : Int) = 0 from rfl]
          go_wp2_with fail
          go_quiet (fail)
          have HS' := Lib.hid (HS.out.drewN nq)
          go_wp2_with fail
          go_roundw
          case rel => exact ⟨k + 1, by omega, by omega, by go_num, HS'.out⟩
          case measure => simp [intOf]; omega
        · have hml : (m : Int) < xs.length := by omega
          have hml1 : (m : Int) + 1 < xs.length := by omega
          have c1 := HS.out.row.cell (m + 1) (by rw [HS.out.len]; omega)
          have c0 := HS.out.row.cell m (by rw [HS.out.len]; omega)
          rw [Srt.way_at _ _ _ _ (by rw [HSL.out]; omega)] at c1
          have e0 : (Srt.way (Srt.sorted xs k) (xs.drop (k + 1)) x (m + 1)).getD m 0 = (Srt.sorted xs k).getD m 0 := Srt.way_before _ _ _ _ (by rw [HSL.out]; omega)
          rw [e0] at c0
          clear e0
          have HPL := Lib.hid (show Srt.place (Srt.sorted xs k) x (m + 1) = if x < (Srt.sorted xs k).getD m 0 then Srt.place (Srt.sorted xs k) x m else m + 1 from rfl)
          have HSW := Lib.hid (Srt.way_swap (Srt.sorted xs k) (xs.drop (k + 1)) x m (by rw [HSL.out]; omega))
          generalize hy : (Srt.sorted xs k).getD m 0 = y at *
          clear hy
          have gd : decide ((0 : Int) < (((m + 1 : Nat)) : Int)) = true := by simp
          rw [show (((m + 1 : Nat)) : Int) = (m : Int) + 1 by omega] at gd ⊢
          have gw : IntKind.i64.wrap ((m : Int) + 1 - 1) = m := by rw [IntKind.wrap_i64]; omega
          have gs : IntKind.i64.wrap ((m : Int) + 1) = (m : Int) + 1 := by rw [IntKind.wrap_i64]; omega
          have gt : ((m : Int) + 1).toNat = m + 1 := by omega
          have g0 : (0 : Int) ≤ (m : Int) + 1 := by omega
          go_wp2_with fail
          go_quiet ((go_at_call 85; refine Calls.quiet_of_same (cless_c _ _ _)))
          have HSQ := Lib.hid (HS.out.drewN nq)
          have HC := Lib.hid (show (wr.drewN nq).cell? ⟨g, m + 1, none⟩ = some (.int .u64 x) ∧ (wr.drewN nq).cell? ⟨g, m, none⟩ = some (.int .u64 y) from ⟨c1, c0⟩)
          clear HS c0 c1
          by_cases hxy : x < y
          · have gx : decide (x < y) = true := by simpa using hxy
            have HP2 := Lib.hid (show Srt.place (Srt.sorted xs k) x m = Srt.place (Srt.sorted xs k) x k by rw [← HP.out, HPL.out, if_pos hxy])
            clear HPL HP
            generalize wr.drewN nq = w5 at *
            go_upto_region 6 with (fail)
            have HX := Lib.hid hxy
            clear hxy gx
            obtain ⟨c1, c0⟩ := HC.out
            have f1 := HSQ.out.row.frozen (m + 1)
            have f0 := HSQ.out.row.frozen m
            have wm : IntKind.i64.wrap (m : Int) = m := by rw [IntKind.wrap_i64]; omega
            go_region
            all_goals go_wp2_with fail
            have hbg := HSQ.out.row.base
            refine ⟨⟨m, by omega, rfl, ⟨?_, ?_, ?_⟩, HP2.out⟩, by simp [intOf]⟩
            · exact below_dnS ((HSQ.out.bel.setCell (p := ⟨g, m + 1, none⟩) hbg.1 _).setCell (p := ⟨g, m, none⟩) hbg.1 _) 1
            · have := ((HSQ.out.row.set (m + 1) y).set m x).drew
              rw [HSW.out] at this
              exact this
            · rw [← HSW.out, List.length_set, List.length_set]
              exact HSQ.out.len
          · have gx : decide (x < y) = false := by simpa using hxy
            have HE := Lib.hid (show Srt.way (Srt.sorted xs k) (xs.drop (k + 1)) x (m + 1) = Srt.sorted xs (k + 1) ++ xs.drop (k + 1) by
              rw [← hx]; exact Srt.way_end xs k (m + 1) (by rw [hx, ← HP.out, HPL.out, if_neg hxy]))
            clear HPL HP
            rw [HE.out] at HSQ
            go_wp2_with fail
            go_roundw
            case rel => exact ⟨k + 1, by omega, by omega, by go_num, HSQ.out⟩
            case measure => simp [intOf]; omega
    · obtain rfl : k = xs.length := by omega
      have HE := Lib.hid (show Srt.sorted xs xs.length ++ xs.drop xs.length = Srt.sorted xs xs.length by simp)
      rw [HE.out] at HR
      go_wp2_with fail
      go_end0
      exact ⟨rfl, HR.out⟩
theorem pdq_none (p : Option Addr) (cap : Nat) (k : Int) (w : World) : Calls Try.prog 50 #[.slice p 0 cap, .int .i64 0, .int .i64 0, .int .i64 k] w fun e w' => e = .returned (.tuple #[]) ∧ w' = w := by
  go_enter Try.func50, Try.ntmps50
  go_wp2_with fail
  go_loopw [1, 2, 3, 8, 9] (fun x y z a b wr => x = .int .i64 0 ∧ y = .int .i64 0 ∧ z = .int .i64 k ∧ a = .bool true ∧ b = .bool true ∧ wr = w) (fun _ _ _ _ _ _ => 0)
  case atStart => exact ⟨rfl, rfl, rfl, rfl, rfl, rfl⟩
  case round =>
    obtain ⟨rfl, rfl, rfl, rfl, rfl, rfl⟩ := hrel
    go_wp2_with fail
    refine (insert_none _ _ _).mono ?_
    rintro e w' ⟨rfl, rfl⟩
    go_wp2_with fail
    refine bodyPost_ret (results_none rfl _ _ _) rfl ?_
    exact ⟨rfl, rfl⟩
theorem pdq_c (base g cap : Nat) (xs : List Int) (k : Int) (w : World) (hI : Ints w base g cap xs) (hpos : 0 < xs.length) (hlen : xs.length ≤ 12) :
    Calls Try.prog 50 #[.slice (some ⟨g, 0, none⟩) xs.length cap, .int .i64 0, .int .i64 ((xs.length : Nat) : Int), .int .i64 k] w fun e w' => e = .returned (.tuple #[]) ∧ SoAt w w' base g cap xs (Srt.sorted xs xs.length) := by
  have HI := Lib.hid hI
  clear hI
  have hl : ((xs.length : Nat) : Int) ≤ 12 := by omega
  go_enter Try.func50, Try.ntmps50
  go_wp2_with fail
  go_loopw [1, 2, 3, 8, 9] (fun x y z a b wr => x = .int .i64 0 ∧ y = .int .i64 ((xs.length : Nat) : Int) ∧ z = .int .i64 k ∧ a = .bool true ∧ b = .bool true ∧ wr = w) (fun _ _ _ _ _ _ => 0)
  case atStart => exact ⟨rfl, rfl, rfl, rfl, rfl, rfl⟩
  case round =>
    obtain ⟨rfl, rfl, rfl, rfl, rfl, rfl⟩ := hrel
    go_wp2_with fail
    refine (insert_c base g cap xs _ HI.out hpos hlen).mono ?_
    rintro e w' ⟨rfl, hs⟩
    have HS := Lib.hid hs
    clear hs
    go_wp2_with fail
    refine bodyPost_ret (results_none rfl _ _ _) rfl ?_
    exact ⟨rfl, HS.out⟩
theorem sort_none (p : Option Addr) (cap : Nat) (w : World) : Calls Try.prog 22 #[.slice p 0 cap] w fun e w' => e = .returned (.tuple #[]) ∧ w' = w := by
  go_enter Try.func22, Try.ntmps22
  go_wp2_with fail
  refine (slen_c _ _ (by omega) (by omega)).mono ?_
  rintro e w' ⟨⟨k, rfl⟩, rfl⟩
  go_wp2_with fail
  refine (pdq_none _ _ _ _).mono ?_
  rintro e w' ⟨rfl, rfl⟩
  go_wp2_with fail
  go_end0
  exact ⟨rfl, rfl⟩
theorem sort_c (base g cap : Nat) (xs : List Int) (w : World) (hI : Ints w base g cap xs) (hpos : 0 < xs.length) (hlen : xs.length ≤ 12) :
    Calls Try.prog 22 #[.slice (some ⟨g, 0, none⟩) xs.length cap] w fun e w' => e = .returned (.tuple #[]) ∧ SoAt w w' base g cap xs (Srt.sorted xs xs.length) := by
  have HI := Lib.hid hI
  clear hI
  have hw : IntKind.u64.wrap ((xs.length : Nat) : Int) = ((xs.length : Nat) : Int) := by rw [IntKind.wrap_u64]; omega
  go_enter Try.func22, Try.ntmps22
  go_wp2_with fail
  refine (slen_c _ _ (by omega) (by omega)).mono ?_
  rintro e w' ⟨⟨k, rfl⟩, rfl⟩
  go_wp2_with fail
  refine (pdq_c base g cap xs k _ HI.out hpos hlen).mono ?_
  rintro e w' ⟨rfl, hs⟩
  have HS := Lib.hid hs
  clear hs
  go_wp2_with fail
  go_end0
  exact ⟨rfl, HS.out⟩
end Go.Proofs.Ytabackklpemhpaa.U
