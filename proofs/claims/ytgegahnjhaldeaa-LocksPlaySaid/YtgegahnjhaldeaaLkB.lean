/-
  Contract of slices.DeleteFunc at []int, of numbers that the call owns.
-/
import Derived.Test.YtgegahnjhaldeaaLkA
namespace Go.Proofs.Ytgegahnjhaldeaa
open Go.ChangeShapes Go.WideShapes Go.ChangeAt Go.RowKit

namespace Lk
/-- What is left of the first n when those are taken out of which f is so. -/
def left (f : Int → Bool) (xs : List Int) (n : Nat) : List Int := (xs.take n).filter fun x => !f x
theorem left_succ (f : Int → Bool) (xs : List Int) (n : Nat) (h : n < xs.length) : left f xs (n + 1) = left f xs n ++ (if f (xs.getD n 0) then [] else [xs.getD n 0]) := by
  unfold left
  rw [List.take_succ_eq_append_getElem h, List.filter_append]
  have : xs.getD n 0 = xs[n] := by simp [List.getD, h]
  rw [this]
  cases h2 : f xs[n] <;> simp [h2]
theorem left_le (f : Int → Bool) (xs : List Int) (n : Nat) (h : n ≤ xs.length) : (left f xs n).length ≤ n := by
  unfold left
  refine Nat.le_trans (List.length_filter_le _ _) ?_
  rw [List.length_take]
  omega
theorem left_full (f : Int → Bool) (xs : List Int) : ∀ n, n ≤ xs.length → (∀ i, i < n → f (xs.getD i 0) = false) → left f xs n = xs.take n
  | 0, _, _ => by simp [left]
  | n + 1, h, hf => by
    rw [left_succ f xs n (by omega), left_full f xs n (by omega) (fun i hi => hf i (by omega)), hf n (by omega), List.take_succ_eq_append_getElem (by omega)]
    have : xs.getD n 0 = xs[n] := by simp [List.getD, show n < xs.length by omega]
    simp only [Bool.false_eq_true, if_false, this]
theorem first (f : Int → Bool) (xs : List Int) : ∀ n, (∀ i, i < n → f (xs.getD i 0) = false) ∨ ∃ k, k < n ∧ f (xs.getD k 0) = true ∧ ∀ i, i < k → f (xs.getD i 0) = false
  | 0 => .inl fun i h => by omega
  | n + 1 => by
    rcases first f xs n with h | ⟨k, h1, h2, h3⟩
    · cases e : f (xs.getD n 0)
      · exact .inl fun i hi => if c : i = n then c ▸ e else h i (by omega)
      · exact .inr ⟨n, by omega, e, h⟩
    · exact .inr ⟨k, by omega, h2, h3⟩
end Lk
/-- While some are taken out: k numbers stand, of the first p ones; from p on all is as it was. -/
structure DelAt (w W : World) (base g cap : Nat) (f : Int → Bool) (xs : List Int) (k p : Nat) (ys : List Int) : Prop where
  bel : Below base w W
  row : Ints W base g cap ys
  len : ys.length = xs.length
  low : ys.take k = Lk.left f xs p
  high : ∀ i, p ≤ i → ys.getD i 0 = xs.getD i 0
  cnt : (Lk.left f xs p).length = k
  lt : k < p
theorem DelAt.low' {w W W' : World} {base g cap : Nat} {f : Int → Bool} {xs ys : List Int} {k p : Nat} (h : DelAt w W base g cap f xs k p ys) (hb : Below W.heap.size W W') (hs : base ≤ W.heap.size) : DelAt w W' base g cap f xs k p ys := ⟨h.bel.trans (hb.mono hs), h.row.low hb, h.len, h.low, h.high, h.cnt, h.lt⟩
theorem DelAt.skip {w W : World} {base g cap : Nat} {f : Int → Bool} {xs ys : List Int} {k p : Nat} (h : DelAt w W base g cap f xs k p ys) (hp : p < xs.length) (hf : f (xs.getD p 0) = true) : DelAt w W base g cap f xs k (p + 1) ys := by
  have e : Lk.left f xs (p + 1) = Lk.left f xs p := by rw [Lk.left_succ f xs p hp, hf]; simp
  exact ⟨h.bel, h.row, h.len, by rw [e]; exact h.low, fun i hi => h.high i (by omega), by rw [e]; exact h.cnt, by have := h.lt; omega⟩
theorem DelAt.keep {w W : World} {base g cap : Nat} {f : Int → Bool} {xs ys : List Int} {k p : Nat} (h : DelAt w W base g cap f xs k p ys) (hp : p < xs.length) (hf : f (xs.getD p 0) = false) :
    DelAt w (W.setCell ⟨g, k, none⟩ (.int .i64 (xs.getD p 0))) base g cap f xs (k + 1) (p + 1) (ys.set k (xs.getD p 0)) := by
  have hk := h.lt
  have e : Lk.left f xs (p + 1) = Lk.left f xs p ++ [xs.getD p 0] := by rw [Lk.left_succ f xs p hp, hf]; simp
  have hlen := h.len
  refine ⟨h.bel.setCell (p := ⟨g, k, none⟩) h.row.base.1 _, h.row.set k _, by rw [List.length_set]; exact hlen, ?_, fun i hi => ?_, by rw [e, List.length_append, h.cnt]; rfl, by omega⟩
  · rw [e, ← h.low, List.take_succ_eq_append_getElem (by rw [List.length_set]; omega), List.take_set, List.set_eq_of_length_le (by rw [List.length_take]; omega), List.getElem_set_self]
  · rw [← h.high i (by omega), List.getD, List.getElem?_set_ne (by omega)]
    rfl
set_option maxHeartbeats 4000000 in
theorem delete_c (base g cap : Nat) (S : World → Prop) (F : FuncId) (cs : Array Value) (f : Int → Bool) (hT : Tells base S F cs f) (xs : List Int) (w : World) (hS : S w) (hbs : base ≤ w.heap.size) (hI : Ints w base g cap xs) (hcap : xs.length ≤ cap) (hi : ∀ j, j < xs.length → InI (xs.getD j 0)) (hbig : xs.length ≤ 1000000) :
    Calls Try.prog 39 #[.slice (some ⟨g, 0, none⟩) xs.length cap, .func (.func F) #[] cs] w fun e w' => e = .returned (.slice (some ⟨g, 0, none⟩) (xs.filter fun x => !f x).length cap) ∧ Ints w' base g cap (xs.filter fun x => !f x) ∧ Below base w w' := by
  have HS := Lib.hid hS
  have HT := Lib.hid hT
  have HI := Lib.hid hI
  have HV := Lib.hid (show Vw w (some ⟨g, 0, none⟩) (iV xs) from .inr ⟨g, 0, rfl, hI.base.2, fun j u hj => by
    have hl : j < xs.length := by
      have := (List.getElem?_eq_some_iff.1 hj).1
      rwa [iV_len] at this
    rw [Nat.zero_add, hI.cell j hl, ← hj, iV_at xs j hl]⟩)
  have HX := Lib.hid (indexF_c base S F cs f hT (some ⟨g, 0, none⟩) cap xs w hS hbs HV.out hi hbig)
  clear hS hT hI
  go_enter Try.func39, Try.ntmps39
  go_wp2_with fail
  refine HX.out.mono ?_
  rintro e w1 ⟨rfl, hb1⟩
  have HB1 := Lib.hid hb1
  clear hb1 HX
  rcases Lk.first f xs xs.length with hall | ⟨k, hk, hfk, hlow⟩
  · have HE := Lib.hid (show Lk.idx f xs = -1 from Lk.idx_no hall)
    have HF := Lib.hid (show (xs.filter fun x => !f x) = xs by
      have := Lk.left_full f xs xs.length (Nat.le_refl _) hall
      unfold Lk.left at this
      rwa [List.take_length] at this)
    rw [HE.out]
    go_wp2_with fail
    go_ret
    exact ⟨by rw [HF.out]; rfl, by rw [HF.out]; exact HI.out.low HB1.out, HB1.out.mono hbs⟩
  · have HE := Lib.hid (show Lk.idx f xs = k from Lk.idx_at hk hlow hfk)
    have hcl : (Lk.left f xs (k + 1)) = xs.take k := by
      rw [Lk.left_succ f xs k hk, hfk, Lk.left_full f xs k (by omega) hlow]
      simp
    have HD := Lib.hid (show DelAt w w1 base g cap f xs k (k + 1) xs from ⟨HB1.out.mono hbs, HI.out.low HB1.out, rfl, hcl.symm, fun _ _ => rfl, by rw [hcl, List.length_take]; omega, by omega⟩)
    rw [HE.out]
    have gk : ((k : Int) == -1) = false := by
      simp
    clear hfk hlow hcl HB1 HE HV
    go_wp2_with fail
    go_loopw [5, 6, 7] (fun kv pv _ wr => ∃ (m p : Nat) (ys : List Int), kv = .int .i64 m ∧ pv = .int .i64 p ∧ p ≤ xs.length ∧ DelAt w wr base g cap f xs m p ys) (fun _ pv _ _ => xs.length - (intOf pv).toNat)
    case atStart => exact ⟨k, k + 1, xs, rfl, by go_num, by omega, HD.out⟩
    case round =>
      obtain ⟨m, p, ys, rfl, rfl, hp, hd⟩ := hrel
      have HD2 := Lib.hid hd
      clear HD
      by_cases hlt : p < xs.length
      · have c := hd.row.cell p (by rw [hd.len]; exact hlt)
        rw [hd.high p (Nat.le_refl _)] at c
        have hs := Nat.le_trans hbs hd.bel.size
        have HR := Lib.hid (HT.out.run (xs.getD p 0) wr (hi p hlt) (HT.out.low w wr HS.out hd.bel) hs)
        have g1 : (p : Int) < xs.length := by omega
        have g2 : (m : Int) < xs.length := by have := hd.lt; omega
        have HSZ := Lib.hid hs
        clear hd hs
        cases hf : f (xs.getD p 0)
        · have HF := Lib.hid hf
          generalize hx : xs.getD p 0 = x at *
          rw [hf] at HR
          clear hf
          go_wp2_with fail
          rw [HT.out.enters]
          refine HR.out.mono ?_
          rintro e w2 ⟨rfl, hb2⟩
          have HD3 := Lib.hid (HD2.out.low' hb2 HSZ.out)
          have HD4 := Lib.hid (HD3.out.keep hlt (by rw [hx]; exact HF.out))
          rw [hx] at HD4
          have cm := HD3.out.row.cell m (by rw [HD3.out.len]; omega)
          have fm := HD3.out.row.frozen m
          generalize ys.getD m 0 = old at cm
          clear hb2 HD3 c
          go_wp2_with fail
          go_roundw
          case rel => exact ⟨m + 1, p + 1, _, by go_num, by go_num, by omega, HD4.out⟩
          case measure => simp [intOf]; omega
        · have HF := Lib.hid hf
          generalize hx : xs.getD p 0 = x at *
          rw [hf] at HR
          clear hf
          go_wp2_with fail
          rw [HT.out.enters]
          refine HR.out.mono ?_
          rintro e w2 ⟨rfl, hb2⟩
          have HD3 := Lib.hid ((HD2.out.low' hb2 HSZ.out).skip hlt (by rw [hx]; exact HF.out))
          clear hb2 c
          go_wp2_with fail
          go_roundw
          case rel => exact ⟨m, p + 1, ys, rfl, by go_num, by omega, HD3.out⟩
          case measure => simp [intOf]; omega
      · obtain rfl : p = xs.length := by omega
        have hml := hd.lt
        have hcn := hd.cnt
        have hlen := hd.len
        have hcl : ∀ ty, (Builtin.clear_ #[36] ty #[.slice (some ⟨g, m, none⟩) (xs.length - m) (cap - m)]).run Try.prog wr = .ok (.tuple #[]) (wr.setCells g m (List.replicate (xs.length - m) (.int .i64 0))) := fun ty =>
          Lib.run_clear_slice wr _ _ ty _ Try.underlying36 zv_int rfl rfl g m _ _ (by omega) (fun j hj => by rw [HD2.out.row.cell (m + j) (by rw [HD2.out.len]; omega)]; rfl) (fun j hj => HD2.out.row.frozen (m + j))
        have he : Lk.left f xs xs.length = xs.filter fun x => !f x := by unfold Lk.left; rw [List.take_length]
        have HF := Lib.hid (show Ints (wr.setCells g m (List.replicate (xs.length - m) (.int .i64 0))) base g cap (xs.filter fun x => !f x) from by
          obtain ⟨zs, hz, hz2⟩ := own_setCells (List.replicate (xs.length - m) (Value.int .i64 0)) m wr _ HD2.out.row.own
          have hm2 : m ≤ ys.length := by rw [HD2.out.len]; omega
          have ht := own_trim hz m hm2
          constructor
          rw [hz2] at ht
          rw [← he, hcn, ← HD2.out.low, iV, List.map_take]
          exact ht)
        have HFB := Lib.hid (below_setCells HD2.out.row.base.1 (List.replicate (xs.length - m) (Value.int .i64 0)) m w wr HD2.out.bel)
        have HN := Lib.hid (show (xs.filter fun x => !f x).length = m by rw [← he]; exact hcn)
        have hcm : m ≤ cap := by omega
        clear hd hcn he HD2
        go_wp2_with fail
        go_ret
        exact ⟨by rw [HN.out]; rfl, HF.out, HFB.out⟩
end Go.Proofs.Ytgegahnjhaldeaa
