/-
  Contracts of slices.Sort at []int, of at most 12 numbers that the call owns: its sort by insertion is walked. Contract of slices.Compact at []int, of numbers that the call owns. Contract of split.Stripes (layer 11).
-/
import Derived.Test.YtjeolfcefeglpabGreatXaw
import Derived.Lib.SliceRun
import Derived.Test.YtjeolfcefeglpabGreatXae
set_option maxRecDepth 20000
namespace Go.Proofs.YtjeolfcefeglpabGreat
open Go.ChangeShapes Go.WideShapes Go.ChangeAt Go.RowKit

theorem insert_none (p : Option Addr) (cap : Nat) (w : World) : Calls Tryz.prog 99 #[.slice p 0 cap, .int .i64 0, .int .i64 0] w fun e w' => e = .returned (.tuple #[]) ∧ w' = w := by
  go_enter Tryz.func99, Tryz.ntmps99
  go_wp2_with fail
  go_loopw [6] (fun i wr => i = .int .i64 1 ∧ wr = w) (fun _ _ => 0)
  case atStart => exact ⟨rfl, rfl⟩
  case round =>
    obtain ⟨rfl, rfl⟩ := hrel
    go_wp2_with fail
    go_end0
    exact ⟨rfl, rfl⟩
/-- Between two rounds of the outer loop. -/
structure SoAt (w W : World) (base g cap : Nat) (xs ys : List Int) : Prop where
  bel : Below base w W
  row : Ints W base g cap ys
  len : ys.length = xs.length
theorem SoAt.drewN {w W : World} {base g cap : Nat} {xs ys : List Int} (h : SoAt w W base g cap xs ys) (n : Nat) : SoAt w (W.drewN n) base g cap xs ys := ⟨below_dnS h.bel n, h.row.drewN n, h.len⟩
set_option maxHeartbeats 4000000 in
theorem insert_c (base g cap : Nat) (xs : List Int) (w : World) (hI : Ints w base g cap xs) (hpos : 0 < xs.length) (hlen : xs.length ≤ 12) :
    Calls Tryz.prog 99 #[.slice (some ⟨g, 0, none⟩) xs.length cap, .int .i64 0, .int .i64 ((xs.length : Nat) : Int)] w fun e w' => e = .returned (.tuple #[]) ∧ SoAt w w' base g cap xs (Srt.sorted xs xs.length) := by
  have H0 := Lib.hid (show SoAt w w base g cap xs (Srt.sorted xs 1 ++ xs.drop 1) from ⟨Below.refl _ _, by
    have e : Srt.sorted xs 1 ++ xs.drop 1 = xs := by
      show [] ++ xs.getD 0 0 :: [] ++ xs.drop 1 = xs
      have h1 := List.drop_eq_getElem_cons hpos
      rw [List.drop_zero] at h1
      rw [List.getD, List.getElem?_eq_getElem hpos]
      exact h1.symm
    rw [e]
    exact hI, by simp [Srt.sorted_len]; omega⟩)
  clear hI
  go_enter Tryz.func99, Tryz.ntmps99
  go_wp2_with fail
  go_loopw [6] (fun i wr => ∃ k : Nat, 1 ≤ k ∧ k ≤ xs.length ∧ i = .int .i64 k ∧ SoAt w wr base g cap xs (Srt.sorted xs k ++ xs.drop k)) (fun i _ => xs.length - (intOf i).toNat)
  case atStart => exact ⟨1, Nat.le_refl _, by omega, rfl, H0.out⟩
  case round =>
    obtain ⟨k, hk1, hk, rfl, hr⟩ := hrel
    have HR := Lib.hid hr
    clear hr H0
    by_cases hlt : k < xs.length
    · have hsl := Srt.sorted_len xs k
      have HW := Lib.hid (Srt.way_top xs k hlt)
      rw [HW.out] at HR
      have HSL := Lib.hid hsl
      clear hsl
      generalize hx : xs.getD k 0 = x at *
      clear HW
      go_wp2_with fail
      go_loopw [7] (fun j ws => ∃ m : Nat, m ≤ k ∧ j = .int .i64 m ∧ SoAt w ws base g cap xs (Srt.way (Srt.sorted xs k) (xs.drop (k + 1)) x m) ∧ Srt.place (Srt.sorted xs k) x m = Srt.place (Srt.sorted xs k) x k) (fun j _ => (intOf j).toNat)
      case atStart => exact ⟨k, Nat.le_refl _, rfl, HR.out, rfl⟩
      case round =>
        obtain ⟨m, hm, rfl, hs, hp⟩ := hrel
        have HS := Lib.hid hs
        have HP := Lib.hid hp
        clear hs hp HR
        rcases m with _ | m
        · have HE := Lib.hid (show Srt.way (Srt.sorted xs k) (xs.drop (k + 1)) x 0 = Srt.sorted xs (k + 1) ++ xs.drop (k + 1) by
            rw [← hx]; exact Srt.way_end xs k 0 (by rw [hx, ← HP.out]; rfl))
          rw [HE.out] at HS
          have gd : decide ((0 : Int) < ((0 : Nat) : Int)) = false := rfl
          have gd2 : decide ((0 : Int) < 0) = false := rfl
          rw [show ((0 : Nat) : Int) = 0 from rfl]
          go_wp2_with fail
          go_quiet (fail)
          have HS' := Lib.hid (HS.out.drewN nq)
          go_wp2_with fail
          go_roundw
          case rel => exact ⟨k + 1, by omega, by omega, by go_num, HS'.out⟩
          case measure => simp [intOf]; omega
        · have hml : (m : Int) < xs.length := by omega
          have hml1 : (m : Int) + 1 < xs.length := by omega
          have c1 := HS.out.row.cell (m + 1) (by rw [HS.out.len]; omega)
          have c0 := HS.out.row.cell m (by rw [HS.out.len]; omega)
          rw [Srt.way_at _ _ _ _ (by rw [HSL.out]; omega)] at c1
          have e0 : (Srt.way (Srt.sorted xs k) (xs.drop (k + 1)) x (m + 1)).getD m 0 = (Srt.sorted xs k).getD m 0 := Srt.way_before _ _ _ _ (by rw [HSL.out]; omega)
          rw [e0] at c0
          clear e0
          have HPL := Lib.hid (show Srt.place (Srt.sorted xs k) x (m + 1) = if x < (Srt.sorted xs k).getD m 0 then Srt.place (Srt.sorted xs k) x m else m + 1 from rfl)
          have HSW := Lib.hid (Srt.way_swap (Srt.sorted xs k) (xs.drop (k + 1)) x m (by rw [HSL.out]; omega))
          generalize hy : (Srt.sorted xs k).getD m 0 = y at *
          clear hy
          have gd : decide ((0 : Int) < (((m + 1 : Nat)) : Int)) = true := by simp
          rw [show (((m + 1 : Nat)) : Int) = (m : Int) + 1 by omega] at gd ⊢
          have gw : IntKind.i64.wrap ((m : Int) + 1 - 1) = m := by rw [IntKind.wrap_i64]; omega
          have gs : IntKind.i64.wrap ((m : Int) + 1) = (m : Int) + 1 := by rw [IntKind.wrap_i64]; omega
          have gt : ((m : Int) + 1).toNat = m + 1 := by omega
          have g0 : (0 : Int) ≤ (m : Int) + 1 := by omega
          go_wp2_with fail
          go_quiet ((go_at_call 105; refine Calls.quiet_of_same (cless_c _ _ _)))
          have HSQ := Lib.hid (HS.out.drewN nq)
          have HC := Lib.hid (show (wr.drewN nq).cell? ⟨g, m + 1, none⟩ = some (.int .i64 x) ∧ (wr.drewN nq).cell? ⟨g, m, none⟩ = some (.int .i64 y) from ⟨c1, c0⟩)
          clear HS c0 c1
          by_cases hxy : x < y
          · have gx : decide (x < y) = true := by simpa using hxy
            have HP2 := Lib.hid (show Srt.place (Srt.sorted xs k) x m = Srt.place (Srt.sorted xs k) x k by rw [← HP.out, HPL.out, if_pos hxy])
            clear HPL HP
            generalize wr.drewN nq = w5 at *
            go_upto_region 6 with (fail)
            have HX := Lib.hid hxy
            clear hxy gx
            obtain ⟨c1, c0⟩ := HC.out
            have f1 := HSQ.out.row.frozen (m + 1)
            have f0 := HSQ.out.row.frozen m
            have wm : IntKind.i64.wrap (m : Int) = m := by rw [IntKind.wrap_i64]; omega
            go_region
            all_goals go_wp2_with fail
            have hbg := HSQ.out.row.base
            refine ⟨⟨m, by omega, rfl, ⟨?_, ?_, ?_⟩, HP2.out⟩, by simp [intOf]⟩
            · exact below_dnS ((HSQ.out.bel.setCell (p := ⟨g, m + 1, none⟩) hbg.1 _).setCell (p := ⟨g, m, none⟩) hbg.1 _) 1
            · have := ((HSQ.out.row.set (m + 1) y).set m x).drew
              rw [HSW.out] at this
              exact this
            · rw [← HSW.out, List.length_set, List.length_set]
              exact HSQ.out.len
          · have gx : decide (x < y) = false := by simpa using hxy
            have HE := Lib.hid (show Srt.way (Srt.sorted xs k) (xs.drop (k + 1)) x (m + 1) = Srt.sorted xs (k + 1) ++ xs.drop (k + 1) by
              rw [← hx]; exact Srt.way_end xs k (m + 1) (by rw [hx, ← HP.out, HPL.out, if_neg hxy]))
            clear HPL HP
            rw [HE.out] at HSQ
            go_wp2_with fail
            go_roundw
            case rel => exact ⟨k + 1, by omega, by omega, by go_num, HSQ.out⟩
            case measure => simp [intOf]; omega
    · obtain rfl : k = xs.length := by omega
      have HE := Lib.hid (show Srt.sorted xs xs.length ++ xs.drop xs.length = Srt.sorted xs xs.length by simp)
      rw [HE.out] at HR
      go_wp2_with fail
      go_end0
      exact ⟨rfl, HR.out⟩
theorem pdq_none (p : Option Addr) (cap : Nat) (k : Int) (w : World) : Calls Tryz.prog 57 #[.slice p 0 cap, .int .i64 0, .int .i64 0, .int .i64 k] w fun e w' => e = .returned (.tuple #[]) ∧ w' = w := by
  go_enter Tryz.func57, Tryz.ntmps57
  go_wp2_with fail
  go_loopw [1, 2, 3, 8, 9] (fun x y z a b wr => x = .int .i64 0 ∧ y = .int .i64 0 ∧ z = .int .i64 k ∧ a = .bool true ∧ b = .bool true ∧ wr = w) (fun _ _ _ _ _ _ => 0)
  case atStart => exact ⟨rfl, rfl, rfl, rfl, rfl, rfl⟩
  case round =>
    obtain ⟨rfl, rfl, rfl, rfl, rfl, rfl⟩ := hrel
    go_wp2_with fail
    refine (insert_none _ _ _).mono ?_
    rintro e w' ⟨rfl, rfl⟩
    go_wp2_with fail
    refine bodyPost_ret (results_none rfl _ _ _) rfl ?_
    exact ⟨rfl, rfl⟩
theorem pdq_c (base g cap : Nat) (xs : List Int) (k : Int) (w : World) (hI : Ints w base g cap xs) (hpos : 0 < xs.length) (hlen : xs.length ≤ 12) :
    Calls Tryz.prog 57 #[.slice (some ⟨g, 0, none⟩) xs.length cap, .int .i64 0, .int .i64 ((xs.length : Nat) : Int), .int .i64 k] w fun e w' => e = .returned (.tuple #[]) ∧ SoAt w w' base g cap xs (Srt.sorted xs xs.length) := by
  have HI := Lib.hid hI
  clear hI
  have hl : ((xs.length : Nat) : Int) ≤ 12 := by omega
  go_enter Tryz.func57, Tryz.ntmps57
  go_wp2_with fail
  go_loopw [1, 2, 3, 8, 9] (fun x y z a b wr => x = .int .i64 0 ∧ y = .int .i64 ((xs.length : Nat) : Int) ∧ z = .int .i64 k ∧ a = .bool true ∧ b = .bool true ∧ wr = w) (fun _ _ _ _ _ _ => 0)
  case atStart => exact ⟨rfl, rfl, rfl, rfl, rfl, rfl⟩
  case round =>
    obtain ⟨rfl, rfl, rfl, rfl, rfl, rfl⟩ := hrel
    go_wp2_with fail
    refine (insert_c base g cap xs _ HI.out hpos hlen).mono ?_
    rintro e w' ⟨rfl, hs⟩
    have HS := Lib.hid hs
    clear hs
    go_wp2_with fail
    refine bodyPost_ret (results_none rfl _ _ _) rfl ?_
    exact ⟨rfl, HS.out⟩
theorem sort_none (p : Option Addr) (cap : Nat) (w : World) : Calls Tryz.prog 26 #[.slice p 0 cap] w fun e w' => e = .returned (.tuple #[]) ∧ w' = w := by
  go_enter Tryz.func26, Tryz.ntmps26
  go_wp2_with fail
  refine (slen_c _ _ (by omega) (by omega)).mono ?_
  rintro e w' ⟨⟨k, rfl⟩, rfl⟩
  go_wp2_with fail
  refine (pdq_none _ _ _ _).mono ?_
  rintro e w' ⟨rfl, rfl⟩
  go_wp2_with fail
  go_end0
  exact ⟨rfl, rfl⟩
theorem sort_c (base g cap : Nat) (xs : List Int) (w : World) (hI : Ints w base g cap xs) (hpos : 0 < xs.length) (hlen : xs.length ≤ 12) :
    Calls Tryz.prog 26 #[.slice (some ⟨g, 0, none⟩) xs.length cap] w fun e w' => e = .returned (.tuple #[]) ∧ SoAt w w' base g cap xs (Srt.sorted xs xs.length) := by
  have HI := Lib.hid hI
  clear hI
  have hw : IntKind.u64.wrap ((xs.length : Nat) : Int) = ((xs.length : Nat) : Int) := by rw [IntKind.wrap_u64]; omega
  go_enter Tryz.func26, Tryz.ntmps26
  go_wp2_with fail
  refine (slen_c _ _ (by omega) (by omega)).mono ?_
  rintro e w' ⟨⟨k, rfl⟩, rfl⟩
  go_wp2_with fail
  refine (pdq_c base g cap xs k _ HI.out hpos hlen).mono ?_
  rintro e w' ⟨rfl, hs⟩
  have HS := Lib.hid hs
  clear hs
  go_wp2_with fail
  go_end0
  exact ⟨rfl, HS.out⟩
end Go.Proofs.YtjeolfcefeglpabGreat
set_option maxRecDepth 20000
namespace Go.Proofs.YtjeolfcefeglpabGreat
open Go.ChangeShapes Go.WideShapes Go.ChangeAt Go.RowKit

theorem own_trim {w : World} {base : Nat} {e : TypeId} {g n cap : Nat} {xs : List Value} (h : w.ownsRow base e 1 (.slice (some ⟨g, 0, none⟩) n cap) n xs) (k : Nat) (hk : k ≤ n) : w.ownsRow base e 1 (.slice (some ⟨g, 0, none⟩) k cap) k (xs.take k) := by
  have hl := h.1
  refine ⟨by rw [List.length_take]; omega, .inr ?_⟩
  rcases h.2 with ⟨h', _⟩ | ⟨g', cap', cur, h', hb, hg, hc, hm, hs, ht⟩
  · simp at h'
  · simp only [Value.slice.injEq, Option.some.injEq, Addr.mk.injEq, and_true, true_and] at h'
    obtain ⟨rfl, rfl⟩ := h'
    refine ⟨g, cap, cur, rfl, hb, hg, by omega, hm, hs, ?_⟩
    rw [← ht, List.take_take, Nat.mul_one, Nat.mul_one, Nat.min_eq_left hk]
theorem own_setCells {base : Nat} {e : TypeId} {g n cap : Nat} : ∀ (vs : List Value) (o : Nat) (w : World) (xs : List Value), w.ownsRow base e 1 (.slice (some ⟨g, 0, none⟩) n cap) n xs →
    ∃ ys, (w.setCells g o vs).ownsRow base e 1 (.slice (some ⟨g, 0, none⟩) n cap) n ys ∧ ys.take o = xs.take o
  | [], o, w, xs, h => ⟨xs, h, rfl⟩
  | v :: vs, o, w, xs, h => by
    obtain ⟨ys, h1, h2⟩ := own_setCells vs (o + 1) (w.setCell ⟨g, o, none⟩ v) (xs.set o v) (h.stored o v).1
    refine ⟨ys, h1, ?_⟩
    have := congrArg (List.take o) h2
    rw [List.take_take, List.take_take, Nat.min_eq_left (Nat.le_succ o), List.take_set, List.set_eq_of_length_le (by rw [List.length_take]; omega)] at this
    exact this
theorem below_setCells {B : Nat} {g : Nat} (hg : B ≤ g) : ∀ (vs : List Value) (o : Nat) (a w : World), Below B a w → Below B a (w.setCells g o vs)
  | [], _, _, _, h => h
  | v :: vs, o, a, _, h => below_setCells hg vs (o + 1) a _ (h.setCell (p := ⟨g, o, none⟩) hg v)
/-- While the repetitions are taken out: k numbers stand, of the first p ones; from the one ahead of p on all is as it was. -/
structure CoAt (w W : World) (base g cap : Nat) (xs : List Int) (k p : Nat) (ys : List Int) : Prop where
  bel : Below base w W
  row : Ints W base g cap ys
  len : ys.length = xs.length
  low : ys.take k = Srt.comp xs p
  high : ∀ i, p ≤ i + 1 → ys.getD i 0 = xs.getD i 0
  cnt : (Srt.comp xs p).length = k
  lt : k < p
theorem CoAt.drewN {w W : World} {base g cap : Nat} {xs ys : List Int} {k p : Nat} (h : CoAt w W base g cap xs k p ys) (n : Nat) : CoAt w (W.drewN n) base g cap xs k p ys := ⟨below_dnS h.bel n, h.row.drewN n, h.len, h.low, h.high, h.cnt, h.lt⟩
theorem CoAt.skip {w W : World} {base g cap : Nat} {xs ys : List Int} {k p : Nat} (h : CoAt w W base g cap xs k p ys) (hp : 0 < p) (he : xs.getD p 0 = xs.getD (p - 1) 0) : CoAt w W base g cap xs k (p + 1) ys := by
  have e : Srt.comp xs (p + 1) = Srt.comp xs p := by
    show (if p = 0 ∨ xs.getD p 0 ≠ xs.getD (p - 1) 0 then _ else _) = _
    rw [if_neg (by simp only [not_or, Decidable.not_not]; exact ⟨by omega, he⟩)]
  exact ⟨h.bel, h.row, h.len, by rw [e]; exact h.low, fun i hi => h.high i (by omega), by rw [e]; exact h.cnt, by have := h.lt; omega⟩
theorem CoAt.keep {w W : World} {base g cap : Nat} {xs ys : List Int} {k p : Nat} (h : CoAt w W base g cap xs k p ys) (hp : p < xs.length) (he : xs.getD p 0 ≠ xs.getD (p - 1) 0) :
    CoAt w (W.setCell ⟨g, k, none⟩ (.int .i64 (xs.getD p 0))) base g cap xs (k + 1) (p + 1) (ys.set k (xs.getD p 0)) := by
  have hk := h.lt
  have e : Srt.comp xs (p + 1) = Srt.comp xs p ++ [xs.getD p 0] := by
    show (if p = 0 ∨ xs.getD p 0 ≠ xs.getD (p - 1) 0 then _ else _) = _
    rw [if_pos (.inr he)]
  have hlen := h.len
  refine ⟨h.bel.setCell (p := ⟨g, k, none⟩) h.row.base.1 _, h.row.set k _, by rw [List.length_set]; exact hlen, ?_, fun i hi => ?_, by rw [e, List.length_append, h.cnt]; rfl, by omega⟩
  · rw [e, ← h.low, List.take_succ_eq_append_getElem (by rw [List.length_set]; omega), List.take_set, List.set_eq_of_length_le (by rw [List.length_take]; omega), List.getElem_set_self]
  · rw [← h.high i (by omega), List.getD, List.getElem?_set_ne (by omega)]
    rfl
theorem zv_int (w : World) : (zeroValue 3).run Tryz.prog w = .ok (.int .i64 0) w := by
  have h : (Tryz.prog.info? 3).map (·.zero) = some (some (.int .i64 0)) := by kernel_rfl
  obtain ⟨i, hi, hz⟩ := Option.map_eq_some_iff.1 h
  simp [zeroValue, typeInfo, hi, hz]
set_option maxHeartbeats 4000000 in
theorem compact_c (base g cap : Nat) (xs : List Int) (w : World) (hI : Ints w base g cap xs) (hpos : 0 < xs.length) (hbig : xs.length ≤ 1000000) :
    Calls Tryz.prog 27 #[.slice (some ⟨g, 0, none⟩) xs.length cap] w fun e w' => e = .returned (.slice (some ⟨g, 0, none⟩) (Srt.comp xs xs.length).length cap) ∧ Ints w' base g cap (Srt.comp xs xs.length) ∧ Below base w w' := by
  have HI := Lib.hid hI
  obtain ⟨_, _, hcv, -, -, hcap⟩ := own_pos hI.own hpos
  obtain ⟨-, rfl⟩ : _ ∧ cap = _ := by simpa using hcv
  clear hcv hI
  by_cases h2 : xs.length < 2
  · have HE := Lib.hid (show Srt.comp xs xs.length = xs by
      have e1 : xs.length = 1 := by omega
      rw [Srt.comp_all xs xs.length (Nat.le_refl _) (fun i h1 h2 => by omega), List.take_length])
    go_enter Tryz.func27, Tryz.ntmps27
    go_wp2_with fail
    go_ret
    exact ⟨by rw [HE.out]; rfl, by rw [HE.out]; exact HI.out, Below.refl _ _⟩
  · go_enter Tryz.func27, Tryz.ntmps27
    go_wp2_with fail
    go_loopw [3] (fun kv wr => ∃ k : Nat, 1 ≤ k ∧ k ≤ xs.length ∧ kv = .int .i64 k ∧ (∀ i, 0 < i → i < k → xs.getD i 0 ≠ xs.getD (i - 1) 0) ∧ Ints wr base g cap xs ∧ Below base w wr) (fun kv _ => xs.length - (intOf kv).toNat)
    case atStart => exact ⟨1, Nat.le_refl _, by omega, rfl, fun i h1 h2 => by omega, HI.out, Below.refl _ _⟩
    case round =>
      obtain ⟨k, hk1, hk, rfl, hd, hr, hb⟩ := hrel
      have HD := Lib.hid hd
      have HR := Lib.hid hr
      have HB := Lib.hid hb
      by_cases hlt : k < xs.length
      · have c1 := hr.cell k hlt
        have c0 := hr.cell (k - 1) (by omega)
        clear hd hr hb
        have g0 : IntKind.i64.wrap ((k : Int) - 1) = ((k - 1 : Nat) : Int) := by rw [IntKind.wrap_i64]; omega
        have g1 : (((k - 1 : Nat) : Int)) < xs.length := by omega
        have g2 : (k : Int) < xs.length := by omega
        by_cases he : xs.getD k 0 = xs.getD (k - 1) 0
        · have HE := Lib.hid he
          rw [he] at c1
          generalize xs.getD (k - 1) 0 = y at c0 c1
          clear he
          go_wp2_with fail
          go_quiet (fail)
          have H0 := Lib.hid (show CoAt w (wr.drewN nq) base g cap xs k (k + 1) xs from CoAt.drewN ⟨HB.out, HR.out, rfl, by
              show xs.take k = if k = 0 ∨ xs.getD k 0 ≠ xs.getD (k - 1) 0 then _ else _
              rw [if_neg (by simp only [not_or, Decidable.not_not]; exact ⟨by omega, HE.out⟩), Srt.comp_all xs k (by omega) HD.out], fun _ _ => rfl, by
              show (if k = 0 ∨ xs.getD k 0 ≠ xs.getD (k - 1) 0 then _ else Srt.comp xs k).length = k
              rw [if_neg (by simp only [not_or, Decidable.not_not]; exact ⟨by omega, HE.out⟩), Srt.comp_all xs k (by omega) HD.out, List.length_take]; omega, by omega⟩ nq)
          generalize wr.drewN nq = w5 at *
          clear c0 c1 HD HR HB HE g0 g1
          go_wp2_with fail
          go_loopw [3, 5] (fun kv qv ws => ∃ (m q : Nat) (ys : List Int), kv = .int .i64 m ∧ qv = .int .i64 q ∧ 1 ≤ q ∧ k + q ≤ xs.length ∧ CoAt w ws base g cap xs m (k + q) ys) (fun _ qv _ => xs.length - k - (intOf qv).toNat)
          case atStart => exact ⟨k, 1, xs, rfl, rfl, Nat.le_refl _, by omega, H0.out⟩
          case round =>
            obtain ⟨m, q, ys, rfl, rfl, hq1, hq, hc⟩ := hrel
            have HC := Lib.hid hc
            clear H0
            have hmn : (m : Int) < xs.length := by have := hc.lt; omega
            by_cases hlt2 : k + q < xs.length
            · have c1 := hc.row.cell (k + q) (by rw [hc.len]; exact hlt2)
              have c0 := hc.row.cell (k + q - 1) (by rw [hc.len]; omega)
              rw [hc.high (k + q) (by omega)] at c1
              rw [hc.high (k + q - 1) (by omega)] at c0
              have cm := hc.row.cell m (by rw [hc.len]; omega)
              have fm := hc.row.frozen m
              clear hc
              have g0 : IntKind.i64.wrap ((q : Int) - 1) = ((q - 1 : Nat) : Int) := by rw [IntKind.wrap_i64]; omega
              have g3 : (q : Int) < ((xs.length - k : Nat) : Int) := by omega
              have g4 : (((q - 1 : Nat)) : Int) < ((xs.length - k : Nat) : Int) := by omega
              generalize ys.getD m 0 = old at cm
              by_cases he2 : xs.getD (k + q) 0 = xs.getD (k + q - 1) 0
              · have HC2 := Lib.hid (HC.out.skip (by omega) he2)
                rw [he2] at c1
                clear he2 HC
                generalize xs.getD (k + q - 1) 0 = y at c0 c1
                rw [show k + q - 1 = k + (q - 1) by omega] at c0
                go_wp2_with fail
                go_quiet (fail)
                have HC3 := Lib.hid (HC2.out.drewN nq)
                go_wp2_with fail
                go_roundw
                case rel => exact ⟨m, q + 1, ys, rfl, by go_num, by omega, by omega, HC3.out⟩
                case measure => simp [intOf]; omega
              · have HE2 := Lib.hid he2
                have gx : (xs.getD (k + q) 0 != xs.getD (k + q - 1) 0) = true := by simpa using he2
                generalize hx : xs.getD (k + q) 0 = x at *
                generalize xs.getD (k + q - 1) 0 = y at c0 he2 gx
                rw [show k + q - 1 = k + (q - 1) by omega] at c0
                go_wp2_with fail
                go_quiet (fail)
                have HC3 := Lib.hid ((HC.out.drewN nq).keep hlt2 (by rw [hx]; exact HE2.out))
                rw [hx] at HC3
                go_wp2_with fail
                refine ⟨⟨m + 1, q + 1, _, by go_num, by go_num, by omega, by omega, HC3.out⟩, by simp [intOf]; omega⟩
            · have hend : k + q = xs.length := by omega
              have hml := hc.lt
              have hcn := hc.cnt
              rw [hend] at hcn HC
              have hcl : ∀ ty, (Builtin.clear_ #[45] ty #[.slice (some ⟨g, m, none⟩) (xs.length - m) (cap - m)]).run Tryz.prog wr = .ok (.tuple #[]) (wr.setCells g m (List.replicate (xs.length - m) (.int .i64 0))) := fun ty =>
                Lib.run_clear_slice wr _ _ ty _ Tryz.underlying45 zv_int rfl rfl g m _ _ (by omega) (fun j hj => by rw [hc.row.cell (m + j) (by rw [hc.len]; omega)]; rfl) (fun j hj => hc.row.frozen (m + j))
              have HF := Lib.hid (show Ints (wr.setCells g m (List.replicate (xs.length - m) (.int .i64 0))) base g cap (Srt.comp xs xs.length) from by
                obtain ⟨zs, hz, hz2⟩ := own_setCells (List.replicate (xs.length - m) (Value.int .i64 0)) m wr _ HC.out.row.own
                have hm2 : m ≤ ys.length := by rw [HC.out.len]; omega
                have ht := own_trim hz m hm2
                constructor
                rw [hz2] at ht
                rw [hcn, ← HC.out.low, iV, List.map_take]
                exact ht)
              have HFB := Lib.hid (below_setCells HC.out.row.base.1 (List.replicate (xs.length - m) (Value.int .i64 0)) m w wr HC.out.bel)
              have HN := Lib.hid hcn
              clear hc hml hcn HC
              have hcm : m ≤ cap := by omega
              go_wp2_with fail
              go_ret
              exact ⟨by rw [HN.out]; rfl, HF.out, HFB.out⟩
        · have gx : (xs.getD k 0 == xs.getD (k - 1) 0) = false := by simpa using he
          have HN := Lib.hid (show ∀ i, 0 < i → i < k + 1 → xs.getD i 0 ≠ xs.getD (i - 1) 0 from fun i h1 h2 => by
            by_cases e : i = k
            · subst e; exact he
            · exact HD.out i h1 (by omega))
          generalize xs.getD (k - 1) 0 = y at c0 he gx
          generalize xs.getD k 0 = x at c1 he gx
          go_wp2_with fail
          go_quiet (fail)
          have HR' := Lib.hid (HR.out.drewN nq)
          have HB' := Lib.hid (below_dnS HB.out nq)
          go_wp2_with fail
          go_roundw
          case rel => exact ⟨k + 1, by omega, by omega, by go_num, HN.out, HR'.out, HB'.out⟩
          case measure => simp [intOf]; omega
      · obtain rfl : k = xs.length := by omega
        have HE := Lib.hid (show Srt.comp xs xs.length = xs by rw [Srt.comp_all xs xs.length (Nat.le_refl _) HD.out, List.take_length])
        clear hd hr hb
        go_wp2_with fail
        go_ret
        exact ⟨by rw [HE.out]; rfl, by rw [HE.out]; exact HR.out, HB.out⟩
end Go.Proofs.YtjeolfcefeglpabGreat
set_option maxRecDepth 20000
namespace Go.Proofs.YtjeolfcefeglpabGreat
open Go.ChangeShapes Go.WideShapes Go.ChangeAt Go.RowKit Wd

theorem info_int : (Tryz.prog.info? 3).map (fun i => (i.zero, i.size, i.bytes)) = some (some (.int .i64 0), 1, 8) := by kernel_rfl
theorem compact_none (p : Option Addr) (cap : Nat) (w : World) : Calls Tryz.prog 27 #[.slice p 0 cap] w fun e w' => e = .returned (.slice p 0 cap) ∧ w' = w := by
  go_enter Tryz.func27, Tryz.ntmps27
  go_wp2_with fail
  go_ret
  exact ⟨rfl, rfl⟩
/-- The stripes of pieces. -/
def stL (l : List Sp.P) (n : Int) : List Int := l.map fun p => Sp.stripe p.a n
theorem stL_len (l : List Sp.P) (n : Int) : (stL l n).length = l.length := by simp [stL]
theorem stL_take (l : List Sp.P) (n : Int) (k : Nat) (hk : k < l.length) : (stL l n).take (k + 1) = (stL l n).take k ++ [Sp.stripe (l.getD k Sp.p0).a n] := by
  rw [List.take_succ_eq_append_getElem (by rw [stL_len]; exact hk)]
  congr 2
  simp [stL, List.getD, List.getElem?_eq_getElem hk]
set_option maxHeartbeats 2000000 in
theorem stripes_c (a b c n s : Int) (w : World) (ha : 0 ≤ a ∧ a < 18446744073709551616) (hb : 0 ≤ b ∧ b < 18446744073709551616) (hs : s ≤ 9223372036854775807) :
    Calls Tryz.prog 29 #[.agg (axV a b c n), .int .i64 s] w fun e w' => ∃ v, e = .returned v ∧ w'.ownsRow w.heap.size 3 1 v (Srt.set (stL (Sp.pieces a b c n) s)).length (iV (Srt.set (stL (Sp.pieces a b c n) s))) ∧ Below w.heap.size w w' := by
  have HB := Lib.hid ((Below.refl w.heap.size w).alloc (Nat.le_refl _) (.cells (axV a b c n) 104))
  have HC := Lib.hid (CsAt.new w 104 (axV a b c n))
  go_enter Tryz.func29, Tryz.ntmps29
  go_upto_region 2 with (fail)
  generalize w.alloc (.cells (axV a b c n) 104) = w1 at *
  go_wp2_with (refine wpList_load_row rfl 104 _ rfl w.heap.size rfl 104 _ (0, 0) _ HC.out Tryz.underlying104 rfl (by kernel_rfl) ?_)
  refine (pieces_c _ _ _ _ _ ha hb).mono ?_
  rintro e w3 ⟨v3, rfl, hown, hb3⟩
  have HB3 := Lib.hid (HB.out.trans (hb3.mono HB.out.size))
  have HOK := Lib.hid (Sp.pieces_ok (c := c) (n := n) ha hb)
  have hpl := Sp.pieces_len a b c n
  generalize hlq : Sp.pieces a b c n = l at *
  have HLQ := Lib.hid hlq
  clear hlq
  have HO := Lib.hid hown
  obtain ⟨p, cap, rfl, hv, -, -⟩ := own_form hown
  clear hv hown hb3 HB HC
  have HL := Lib.hid hpl
  clear hpl
  go_wp2_with fail
  go_loopw [5, 11] (fun lv iv wr => ∃ k : Nat, k ≤ l.length ∧ iv = .int .i64 k ∧ wr.ownsRow w3.heap.size 3 1 lv k (iV ((stL l s).take k)) ∧ Below w3.heap.size w3 wr) (fun _ iv _ => l.length - (intOf iv).toNat)
  case atStart => exact ⟨0, Nat.zero_le _, rfl, World.ownsRow_nil _ _ _ _, Below.refl _ _⟩
  case round =>
    obtain ⟨k, hk, rfl, hr, hbr⟩ := hrel
    have HR := Lib.hid hr
    have HBR := Lib.hid hbr
    clear hr hbr
    by_cases hlt : k < l.length
    · have hown := own_low HO.out HBR.out
      obtain ⟨g, cap', hp, -, -, -⟩ := own_pos hown (by omega)
      obtain ⟨rfl, rfl⟩ : p = some ⟨g, 0, none⟩ ∧ cap = cap' := by simpa using hp
      clear hp
      have HRP := Lib.hid (range_pc hown k hlt)
      have hq := HOK.out (l.getD k Sp.p0) (by rw [List.getD, List.getElem?_eq_getElem hlt]; exact List.getElem_mem _)
      have HT := Lib.hid (stL_take l s k hlt)
      generalize l.getD k Sp.p0 = q at *
      obtain ⟨qa, qn, qs⟩ := q
      have q0 : 0 ≤ qa := hq.a0
      have q1 : qa < 18446744073709551616 := hq.a1
      clear hq hown
      have HCN := CsAt.new wr 142 #[.int .u64 qa, .int .i64 qn, .int .i64 qs]
      have d0 := HCN.cell 0
      clear HCN
      go_wp2_with (first
        | (refine wpList_load_mid rfl 142 _ rfl g (k * 3) rfl _ _ HRP.out Tryz.underlying142 rfl (by kernel_rfl) ?_)
        | (refine wpList_storeNew rfl 142 _ _ rfl #[.int .u64 0, .int .i64 0, .int .i64 0] #[.int .u64 qa, .int .i64 qn, .int .i64 qs] 142 rfl rfl (by kernel_rfl) rfl (pc_one _ _ _) ?_))
      refine (stripe_c _ _ _ q0 q1 hs).mono ?_
      rintro e w5 ⟨rfl, rfl⟩
      have HR5 := Lib.hid (HR.out.alloc (.cells #[.int .u64 qa, .int .i64 qn, .int .i64 qs] 142))
      have HB5 := Lib.hid (HBR.out.alloc HBR.out.size (.cells #[.int .u64 qa, .int .i64 qn, .int .i64 qs] 142))
      have hs5 := HB5.out.size
      have HS5 := Lib.hid hs5
      have HLL := HL.out
      clear hs5 HR HBR d0
      generalize wr.alloc (.cells #[.int .u64 qa, .int .i64 qn, .int .i64 qs] 142) = w5 at *
      go_wp2_with (at_builtin; refine wpList_push rfl _ _ 45 rfl w3.heap.size 3 _ 1 8 Tryz.underlying45 info_int rfl (by omega) (by omega) _ _ _ rfl HR5.out #[.int .i64 (Sp.stripe qa s)] rfl (by simp [Value.oneCell']) _ rfl rfl (by omega) HS5.out ?_)
      intro v' w' hown hbw
      have HR6 := Lib.hid (show w'.ownsRow w3.heap.size 3 1 v' (k + 1) (iV ((stL l s).take (k + 1))) by rw [HT.out]; simpa only [iV, List.map_take, List.map_append, List.map_cons, List.map_nil] using hown)
      have HB6 := Lib.hid (HB5.out.trans hbw)
      clear hown hbw HR5 HB5
      go_wp2_with fail
      go_roundw
      case rel => exact ⟨k + 1, by omega, by go_num, HR6.out, HB6.out⟩
      case measure => simp [intOf]; omega
    · obtain rfl : k = l.length := by omega
      have hr := HR.out
      have hsl := stL_len l s
      rw [List.take_of_length_le (by omega)] at hr
      have HW := Lib.hid (HB3.out.trans (HBR.out.mono HB3.out.size))
      have hl4 := HL.out
      by_cases h0 : l.length = 0
      · obtain ⟨p5, cap5, rfl, -, -, -⟩ := own_form hr
        have HE := Lib.hid (show Srt.set (stL l s) = [] by
          have : stL l s = [] := List.eq_nil_of_length_eq_zero (by omega)
          rw [this]; rfl)
        rw [h0] at *
        have HR0 := Lib.hid hr
        clear hr hl4 hsl
        go_wp2_with fail
        refine (sort_none _ _ _).mono ?_
        rintro e w6 ⟨rfl, rfl⟩
        go_wp2_with fail
        refine (compact_none _ _ _).mono ?_
        rintro e w6 ⟨rfl, rfl⟩
        go_wp2_with fail
        go_ret
        refine ⟨_, rfl, ?_, HW.out⟩
        rw [HLQ.out, HE.out]
        have hx := List.eq_nil_of_length_eq_zero (l := iV (stL l s)) (by rw [List.length_map]; have := HR0.out.1; simpa using this)
        rw [hx] at HR0
        exact own_mono HR0.out HB3.out.size
      · obtain ⟨g5, cap5, rfl, -, -, -⟩ := own_pos hr (by omega)
        rw [← hsl] at hr ⊢
        have HI := Lib.hid (show Ints wr w3.heap.size g5 cap5 (stL l s) from ⟨hr⟩)
        have hp0 : 0 < (stL l s).length := by omega
        have hp12 : (stL l s).length ≤ 12 := by omega
        have HSE := Lib.hid (show Srt.comp (Srt.sorted (stL l s) (stL l s).length) (stL l s).length = Srt.set (stL l s) from rfl)
        generalize hxq : stL l s = xs at *
        have HXQ := Lib.hid hxq
        clear hxq
        clear hr hl4 hsl h0
        go_wp2_with fail
        refine (sort_c _ _ _ xs _ HI.out hp0 hp12).mono ?_
        rintro e w6 ⟨rfl, h6⟩
        have hl6 := Srt.sorted_len xs xs.length
        have H6 := Lib.hid h6
        go_wp2_with fail
        have hcc := compact_c _ _ _ (Srt.sorted xs xs.length) w6 H6.out.row (by omega) (by omega)
        rw [hl6] at hcc
        refine hcc.mono ?_
        rintro e w7 ⟨rfl, h7, hb7⟩
        rw [HSE.out] at h7
        rw [HSE.out]
        have H7 := Lib.hid h7
        have HB7 := Lib.hid (HW.out.trans ((h6.bel.trans hb7).mono HB3.out.size))
        clear h7 hb7 h6 hcc
        go_wp2_with fail
        go_ret
        rw [HLQ.out, HXQ.out]
        exact ⟨_, rfl, own_mono H7.out.own HB3.out.size, HB7.out⟩
end Go.Proofs.YtjeolfcefeglpabGreat
