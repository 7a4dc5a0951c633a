/-
  Contract of slices.Compact at []int, of numbers that the call owns.
-/
import Derived.Test.YtgegahnjhaldeaaSrtC
import Derived.Lib.SliceRun
namespace Go.Proofs.Ytgegahnjhaldeaa
open Go.ChangeShapes Go.WideShapes Go.ChangeAt Go.RowKit

theorem own_trim {w : World} {base : Nat} {e : TypeId} {g n cap : Nat} {xs : List Value} (h : w.ownsRow base e 1 (.slice (some ⟨g, 0, none⟩) n cap) n xs) (k : Nat) (hk : k ≤ n) : w.ownsRow base e 1 (.slice (some ⟨g, 0, none⟩) k cap) k (xs.take k) := by
  have hl := h.1
  refine ⟨by rw [List.length_take]; omega, .inr ?_⟩
  rcases h.2 with ⟨h', _⟩ | ⟨g', cap', cur, h', hb, hg, hc, hm, hs, ht⟩
  · simp at h'
  · simp only [Value.slice.injEq, Option.some.injEq, Addr.mk.injEq, and_true, true_and] at h'
    obtain ⟨rfl, rfl⟩ := h'
    refine ⟨g, cap, cur, rfl, hb, hg, by omega, hm, hs, ?_⟩
    rw [← ht, List.take_take, Nat.mul_one, Nat.mul_one, Nat.min_eq_left hk]
theorem own_setCells {base : Nat} {e : TypeId} {g n cap : Nat} : ∀ (vs : List Value) (o : Nat) (w : World) (xs : List Value), w.ownsRow base e 1 (.slice (some ⟨g, 0, none⟩) n cap) n xs →
    ∃ ys, (w.setCells g o vs).ownsRow base e 1 (.slice (some ⟨g, 0, none⟩) n cap) n ys ∧ ys.take o = xs.take o
  | [], o, w, xs, h => ⟨xs, h, rfl⟩
  | v :: vs, o, w, xs, h => by
    obtain ⟨ys, h1, h2⟩ := own_setCells vs (o + 1) (w.setCell ⟨g, o, none⟩ v) (xs.set o v) (h.stored o v).1
    refine ⟨ys, h1, ?_⟩
    have := congrArg (List.take o) h2
    rw [List.take_take, List.take_take, Nat.min_eq_left (Nat.le_succ o), List.take_set, List.set_eq_of_length_le (by rw [List.length_take]; omega)] at this
    exact this
theorem below_setCells {B : Nat} {g : Nat} (hg : B ≤ g) : ∀ (vs : List Value) (o : Nat) (a w : World), Below B a w → Below B a (w.setCells g o vs)
  | [], _, _, _, h => h
  | v :: vs, o, a, _, h => below_setCells hg vs (o + 1) a _ (h.setCell (p := ⟨g, o, none⟩) hg v)
/-- While the repetitions are taken out: k numbers stand, of the first p ones; from the one ahead of p on all is as it was. -/
structure CoAt (w W : World) (base g cap : Nat) (xs : List Int) (k p : Nat) (ys : List Int) : Prop where
  bel : Below base w W
  row : Ints W base g cap ys
  len : ys.length = xs.length
  low : ys.take k = Srt.comp xs p
  high : ∀ i, p ≤ i + 1 → ys.getD i 0 = xs.getD i 0
  cnt : (Srt.comp xs p).length = k
  lt : k < p
theorem CoAt.drewN {w W : World} {base g cap : Nat} {xs ys : List Int} {k p : Nat} (h : CoAt w W base g cap xs k p ys) (n : Nat) : CoAt w (W.drewN n) base g cap xs k p ys := ⟨below_dnS h.bel n, h.row.drewN n, h.len, h.low, h.high, h.cnt, h.lt⟩
theorem CoAt.skip {w W : World} {base g cap : Nat} {xs ys : List Int} {k p : Nat} (h : CoAt w W base g cap xs k p ys) (hp : 0 < p) (he : xs.getD p 0 = xs.getD (p - 1) 0) : CoAt w W base g cap xs k (p + 1) ys := by
  have e : Srt.comp xs (p + 1) = Srt.comp xs p := by
    show (if p = 0 ∨ xs.getD p 0 ≠ xs.getD (p - 1) 0 then _ else _) = _
    rw [if_neg (by simp only [not_or, Decidable.not_not]; exact ⟨by omega, he⟩)]
  exact ⟨h.bel, h.row, h.len, by rw [e]; exact h.low, fun i hi => h.high i (by omega), by rw [e]; exact h.cnt, by have := h.lt; omega⟩
theorem CoAt.keep {w W : World} {base g cap : Nat} {xs ys : List Int} {k p : Nat} (h : CoAt w W base g cap xs k p ys) (hp : p < xs.length) (he : xs.getD p 0 ≠ xs.getD (p - 1) 0) :
    CoAt w (W.setCell ⟨g, k, none⟩ (.int .i64 (xs.getD p 0))) base g cap xs (k + 1) (p + 1) (ys.set k (xs.getD p 0)) := by
  have hk := h.lt
  have e : Srt.comp xs (p + 1) = Srt.comp xs p ++ [xs.getD p 0] := by
    show (if p = 0 ∨ xs.getD p 0 ≠ xs.getD (p - 1) 0 then _ else _) = _
    rw [if_pos (.inr he)]
  have hlen := h.len
  refine ⟨h.bel.setCell (p := ⟨g, k, none⟩) h.row.base.1 _, h.row.set k _, by rw [List.length_set]; exact hlen, ?_, fun i hi => ?_, by rw [e, List.length_append, h.cnt]; rfl, by omega⟩
  · rw [e, ← h.low, List.take_succ_eq_append_getElem (by rw [List.length_set]; omega), List.take_set, List.set_eq_of_length_le (by rw [List.length_take]; omega), List.getElem_set_self]
  · rw [← h.high i (by omega), List.getD, List.getElem?_set_ne (by omega)]
    rfl
theorem zv_int (w : World) : (zeroValue 3).run Try.prog w = .ok (.int .i64 0) w := by
  have h : (Try.prog.info? 3).map (·.zero) = some (some (.int .i64 0)) := by kernel_rfl
  obtain ⟨i, hi, hz⟩ := Option.map_eq_some_iff.1 h
  simp [zeroValue, typeInfo, hi, hz]
set_option maxHeartbeats 4000000 in
theorem compact_c (base g cap : Nat) (xs : List Int) (w : World) (hI : Ints w base g cap xs) (hpos : 0 < xs.length) (hbig : xs.length ≤ 1000000) :
    Calls Try.prog 52 #[.slice (some ⟨g, 0, none⟩) xs.length cap] w fun e w' => e = .returned (.slice (some ⟨g, 0, none⟩) (Srt.comp xs xs.length).length cap) ∧ Ints w' base g cap (Srt.comp xs xs.length) ∧ Below base w w' := by
  have HI := Lib.hid hI
  obtain ⟨_, _, hcv, -, -, hcap⟩ := own_pos hI.own hpos
  obtain ⟨-, rfl⟩ : _ ∧ cap = _ := by simpa using hcv
  clear hcv hI
  by_cases h2 : xs.length < 2
  · have HE := Lib.hid (show Srt.comp xs xs.length = xs by
      have e1 : xs.length = 1 := by omega
      rw [Srt.comp_all xs xs.length (Nat.le_refl _) (fun i h1 h2 => by omega), List.take_length])
    go_enter Try.func52, Try.ntmps52
    go_wp2_with fail
    go_ret
    exact ⟨by rw [HE.out]; rfl, by rw [HE.out]; exact HI.out, Below.refl _ _⟩
  · go_enter Try.func52, Try.ntmps52
    go_wp2_with fail
    go_loopw [3] (fun kv wr => ∃ k : Nat, 1 ≤ k ∧ k ≤ xs.length ∧ kv = .int .i64 k ∧ (∀ i, 0 < i → i < k → xs.getD i 0 ≠ xs.getD (i - 1) 0) ∧ Ints wr base g cap xs ∧ Below base w wr) (fun kv _ => xs.length - (intOf kv).toNat)
    case atStart => exact ⟨1, Nat.le_refl _, by omega, rfl, fun i h1 h2 => by omega, HI.out, Below.refl _ _⟩
    case round =>
      obtain ⟨k, hk1, hk, rfl, hd, hr, hb⟩ := hrel
      have HD := Lib.hid hd
      have HR := Lib.hid hr
      have HB := Lib.hid hb
      by_cases hlt : k < xs.length
      · have c1 := hr.cell k hlt
        have c0 := hr.cell (k - 1) (by omega)
        clear hd hr hb
        have g0 : IntKind.i64.wrap ((k : Int) - 1) = ((k - 1 : Nat) : Int) := by rw [IntKind.wrap_i64]; omega
        have g1 : (((k - 1 : Nat) : Int)) < xs.length := by omega
        have g2 : (k : Int) < xs.length := by omega
        by_cases he : xs.getD k 0 = xs.getD (k - 1) 0
        · have HE := Lib.hid he
          rw [he] at c1
          generalize xs.getD (k - 1) 0 = y at c0 c1
          clear he
          go_wp2_with fail
          go_quiet (fail)
          have H0 := Lib.hid (show CoAt w (wr.drewN nq) base g cap xs k (k + 1) xs from CoAt.drewN ⟨HB.out, HR.out, rfl, by
              show xs.take k = if k = 0 ∨ xs.getD k 0 ≠ xs.getD (k - 1) 0 then _ else _
              rw [if_neg (by simp only [not_or, Decidable.not_not]; exact ⟨by omega, HE.out⟩), Srt.comp_all xs k (by omega) HD.out], fun _ _ => rfl, by
              show (if k = 0 ∨ xs.getD k 0 ≠ xs.getD (k - 1) 0 then _ else Srt.comp xs k).length = k
              rw [if_neg (by simp only [not_or, Decidable.not_not]; exact ⟨by omega, HE.out⟩), Srt.comp_all xs k (by omega) HD.out, List.length_take]; omega, by omega⟩ nq)
          generalize wr.drewN nq = w5 at *
          clear c0 c1 HD HR HB HE g0 g1
          go_wp2_with fail
          go_loopw [3, 5] (fun kv qv ws => ∃ (m q : Nat) (ys : List Int), kv = .int .i64 m ∧ qv = .int .i64 q ∧ 1 ≤ q ∧ k + q ≤ xs.length ∧ CoAt w ws base g cap xs m (k + q) ys) (fun _ qv _ => xs.length - k - (intOf qv).toNat)
          case atStart => exact ⟨k, 1, xs, rfl, rfl, Nat.le_refl _, by omega, H0.out⟩
          case round =>
            obtain ⟨m, q, ys, rfl, rfl, hq1, hq, hc⟩ := hrel
            have HC := Lib.hid hc
            clear H0
            have hmn : (m : Int) < xs.length := by have := hc.lt; omega
            by_cases hlt2 : k + q < xs.length
            · have c1 := hc.row.cell (k + q) (by rw [hc.len]; exact hlt2)
              have c0 := hc.row.cell (k + q - 1) (by rw [hc.len]; omega)
              rw [hc.high (k + q) (by omega)] at c1
              rw [hc.high (k + q - 1) (by omega)] at c0
              have cm := hc.row.cell m (by rw [hc.len]; omega)
              have fm := hc.row.frozen m
              clear hc
              have g0 : IntKind.i64.wrap ((q : Int) - 1) = ((q - 1 : Nat) : Int) := by rw [IntKind.wrap_i64]; omega
              have g3 : (q : Int) < ((xs.length - k : Nat) : Int) := by omega
              have g4 : (((q - 1 : Nat)) : Int) < ((xs.length - k : Nat) : Int) := by omega
              generalize ys.getD m 0 = old at cm
              by_cases he2 : xs.getD (k + q) 0 = xs.getD (k + q - 1) 0
              · have HC2 := Lib.hid (HC.out.skip (by omega) he2)
                rw [he2] at c1
                clear he2 HC
                generalize xs.getD (k + q - 1) 0 = y at c0 c1
                rw [show k + q - 1 = k + (q - 1) by omega] at c0
                go_wp2_with fail
                go_quiet (fail)
                have HC3 := Lib.hid (HC2.out.drewN nq)
                go_wp2_with fail
                go_roundw
                case rel => exact ⟨m, q + 1, ys, rfl, by go_num, by omega, by omega, HC3.out⟩
                case measure => simp [intOf]; omega
              · have HE2 := Lib.hid he2
                have gx : (xs.getD (k + q) 0 != xs.getD (k + q - 1) 0) = true := by simpa using he2
                generalize hx : xs.getD (k + q) 0 = x at *
                generalize xs.getD (k + q - 1) 0 = y at c0 he2 gx
                rw [show k + q - 1 = k + (q - 1) by omega] at c0
                go_wp2_with fail
                go_quiet (fail)
                have HC3 := Lib.hid ((HC.out.drewN nq).keep hlt2 (by rw [hx]; exact HE2.out))
                rw [hx] at HC3
                go_wp2_with fail
                refine ⟨⟨m + 1, q + 1, _, by go_num, by go_num, by omega, by omega, HC3.out⟩, by simp [intOf]; omega⟩
            · have hend : k + q = xs.length := by omega
              have hml := hc.lt
              have hcn := hc.cnt
              rw [hend] at hcn HC
              have hcl : ∀ ty, (Builtin.clear_ #[36] ty #[.slice (some ⟨g, m, none⟩) (xs.length - m) (cap - m)]).run Try.prog wr = .ok (.tuple #[]) (wr.setCells g m (List.replicate (xs.length - m) (.int .i64 0))) := fun ty =>
                Lib.run_clear_slice wr _ _ ty _ Try.underlying36 zv_int rfl rfl g m _ _ (by omega) (fun j hj => by rw [hc.row.cell (m + j) (by rw [hc.len]; omega)]; rfl) (fun j hj => hc.row.frozen (m + j))
              have HF := Lib.hid (show Ints (wr.setCells g m (List.replicate (xs.length - m) (.int .i64 0))) base g cap (Srt.comp xs xs.length) from by
                obtain ⟨zs, hz, hz2⟩ := own_setCells (List.replicate (xs.length - m) (Value.int .i64 0)) m wr _ HC.out.row.own
                have hm2 : m ≤ ys.length := by rw [HC.out.len]; omega
                have ht := own_trim hz m hm2
                constructor
                rw [hz2] at ht
                rw [hcn, ← HC.out.low, iV, List.map_take]
                exact ht)
              have HFB := Lib.hid (below_setCells HC.out.row.base.1 (List.replicate (xs.length - m) (Value.int .i64 0)) m w wr HC.out.bel)
              have HN := Lib.hid hcn
              clear hc hml hcn HC
              have hcm : m ≤ cap := by omega
              go_wp2_with fail
              go_ret
              exact ⟨by rw [HN.out]; rfl, HF.out, HFB.out⟩
        · have gx : (xs.getD k 0 == xs.getD (k - 1) 0) = false := by simpa using he
          have HN := Lib.hid (show ∀ i, 0 < i → i < k + 1 → xs.getD i 0 ≠ xs.getD (i - 1) 0 from fun i h1 h2 => by
            by_cases e : i = k
            · subst e; exact he
            · exact HD.out i h1 (by omega))
          generalize xs.getD (k - 1) 0 = y at c0 he gx
          generalize xs.getD k 0 = x at c1 he gx
          go_wp2_with fail
          go_quiet (fail)
          have HR' := Lib.hid (HR.out.drewN nq)
          have HB' := Lib.hid (below_dnS HB.out nq)
          go_wp2_with fail
          go_roundw
          case rel => exact ⟨k + 1, by omega, by omega, by go_num, HN.out, HR'.out, HB'.out⟩
          case measure => simp [intOf]; omega
      · obtain rfl : k = xs.length := by omega
        have HE := Lib.hid (show Srt.comp xs xs.length = xs by rw [Srt.comp_all xs xs.length (Nat.le_refl _) HD.out, List.take_length])
        clear hd hr hb
        go_wp2_with fail
        go_ret
        exact ⟨by rw [HE.out]; rfl, by rw [HE.out]; exact HR.out, HB.out⟩
end Go.Proofs.Ytgegahnjhaldeaa
