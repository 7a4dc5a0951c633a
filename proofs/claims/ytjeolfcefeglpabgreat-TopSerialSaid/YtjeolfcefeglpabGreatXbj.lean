/-
  Contract of slices.DeleteFunc at []int, of numbers that the call owns. The locks of layer 12 in the program's memory: their struct, their map from locks to rows, the rows; looked up. Contracts of locks.has, Holder, Queue, which, Held, waited, Waits.
-/
import Derived.Test.YtjeolfcefeglpabGreatXbi
import Derived.Maps.OwnSet
import Derived.Maps.Views
import Derived.ArgAppend
set_option maxRecDepth 20000
namespace Go.Proofs.YtjeolfcefeglpabGreat
open Go.ChangeShapes Go.WideShapes Go.ChangeAt Go.RowKit

namespace Lk
/-- What is left of the first n when those are taken out of which f is so. -/
def left (f : Int → Bool) (xs : List Int) (n : Nat) : List Int := (xs.take n).filter fun x => !f x
theorem left_succ (f : Int → Bool) (xs : List Int) (n : Nat) (h : n < xs.length) : left f xs (n + 1) = left f xs n ++ (if f (xs.getD n 0) then [] else [xs.getD n 0]) := by
  unfold left
  rw [List.take_succ_eq_append_getElem h, List.filter_append]
  have : xs.getD n 0 = xs[n] := by simp [List.getD, h]
  rw [this]
  cases h2 : f xs[n] <;> simp [h2]
theorem left_le (f : Int → Bool) (xs : List Int) (n : Nat) (h : n ≤ xs.length) : (left f xs n).length ≤ n := by
  unfold left
  refine Nat.le_trans (List.length_filter_le _ _) ?_
  rw [List.length_take]
  omega
theorem left_full (f : Int → Bool) (xs : List Int) : ∀ n, n ≤ xs.length → (∀ i, i < n → f (xs.getD i 0) = false) → left f xs n = xs.take n
  | 0, _, _ => by simp [left]
  | n + 1, h, hf => by
    rw [left_succ f xs n (by omega), left_full f xs n (by omega) (fun i hi => hf i (by omega)), hf n (by omega), List.take_succ_eq_append_getElem (by omega)]
    have : xs.getD n 0 = xs[n] := by simp [List.getD, show n < xs.length by omega]
    simp only [Bool.false_eq_true, if_false, this]
theorem first (f : Int → Bool) (xs : List Int) : ∀ n, (∀ i, i < n → f (xs.getD i 0) = false) ∨ ∃ k, k < n ∧ f (xs.getD k 0) = true ∧ ∀ i, i < k → f (xs.getD i 0) = false
  | 0 => .inl fun i h => by omega
  | n + 1 => by
    rcases first f xs n with h | ⟨k, h1, h2, h3⟩
    · cases e : f (xs.getD n 0)
      · exact .inl fun i hi => if c : i = n then c ▸ e else h i (by omega)
      · exact .inr ⟨n, by omega, e, h⟩
    · exact .inr ⟨k, by omega, h2, h3⟩
end Lk
/-- While some are taken out: k numbers stand, of the first p ones; from p on all is as it was. -/
structure DelAt (w W : World) (base g cap : Nat) (f : Int → Bool) (xs : List Int) (k p : Nat) (ys : List Int) : Prop where
  bel : Below base w W
  row : Ints W base g cap ys
  len : ys.length = xs.length
  low : ys.take k = Lk.left f xs p
  high : ∀ i, p ≤ i → ys.getD i 0 = xs.getD i 0
  cnt : (Lk.left f xs p).length = k
  lt : k < p
theorem DelAt.low' {w W W' : World} {base g cap : Nat} {f : Int → Bool} {xs ys : List Int} {k p : Nat} (h : DelAt w W base g cap f xs k p ys) (hb : Below W.heap.size W W') (hs : base ≤ W.heap.size) : DelAt w W' base g cap f xs k p ys := ⟨h.bel.trans (hb.mono hs), h.row.low hb, h.len, h.low, h.high, h.cnt, h.lt⟩
theorem DelAt.skip {w W : World} {base g cap : Nat} {f : Int → Bool} {xs ys : List Int} {k p : Nat} (h : DelAt w W base g cap f xs k p ys) (hp : p < xs.length) (hf : f (xs.getD p 0) = true) : DelAt w W base g cap f xs k (p + 1) ys := by
  have e : Lk.left f xs (p + 1) = Lk.left f xs p := by rw [Lk.left_succ f xs p hp, hf]; simp
  exact ⟨h.bel, h.row, h.len, by rw [e]; exact h.low, fun i hi => h.high i (by omega), by rw [e]; exact h.cnt, by have := h.lt; omega⟩
theorem DelAt.keep {w W : World} {base g cap : Nat} {f : Int → Bool} {xs ys : List Int} {k p : Nat} (h : DelAt w W base g cap f xs k p ys) (hp : p < xs.length) (hf : f (xs.getD p 0) = false) :
    DelAt w (W.setCell ⟨g, k, none⟩ (.int .i64 (xs.getD p 0))) base g cap f xs (k + 1) (p + 1) (ys.set k (xs.getD p 0)) := by
  have hk := h.lt
  have e : Lk.left f xs (p + 1) = Lk.left f xs p ++ [xs.getD p 0] := by rw [Lk.left_succ f xs p hp, hf]; simp
  have hlen := h.len
  refine ⟨h.bel.setCell (p := ⟨g, k, none⟩) h.row.base.1 _, h.row.set k _, by rw [List.length_set]; exact hlen, ?_, fun i hi => ?_, by rw [e, List.length_append, h.cnt]; rfl, by omega⟩
  · rw [e, ← h.low, List.take_succ_eq_append_getElem (by rw [List.length_set]; omega), List.take_set, List.set_eq_of_length_le (by rw [List.length_take]; omega), List.getElem_set_self]
  · rw [← h.high i (by omega), List.getD, List.getElem?_set_ne (by omega)]
    rfl
set_option maxHeartbeats 4000000 in
theorem delete_c (base g cap : Nat) (S : World → Prop) (F : FuncId) (cs : Array Value) (f : Int → Bool) (hT : Tells base S F cs f) (xs : List Int) (w : World) (hS : S w) (hbs : base ≤ w.heap.size) (hI : Ints w base g cap xs) (hcap : xs.length ≤ cap) (hi : ∀ j, j < xs.length → InI (xs.getD j 0)) (hbig : xs.length ≤ 1000000) :
    Calls Tryz.prog 51 #[.slice (some ⟨g, 0, none⟩) xs.length cap, .func (.func F) #[] cs] w fun e w' => e = .returned (.slice (some ⟨g, 0, none⟩) (xs.filter fun x => !f x).length cap) ∧ Ints w' base g cap (xs.filter fun x => !f x) ∧ Below base w w' := by
  have HS := Lib.hid hS
  have HT := Lib.hid hT
  have HI := Lib.hid hI
  have HV := Lib.hid (show Vw w (some ⟨g, 0, none⟩) (iV xs) from .inr ⟨g, 0, rfl, hI.base.2, fun j u hj => by
    have hl : j < xs.length := by
      have := (List.getElem?_eq_some_iff.1 hj).1
      rwa [iV_len] at this
    rw [Nat.zero_add, hI.cell j hl, ← hj, iV_at xs j hl]⟩)
  have HX := Lib.hid (indexF_c base S F cs f hT (some ⟨g, 0, none⟩) cap xs w hS hbs HV.out hi hbig)
  clear hS hT hI
  go_enter Tryz.func51, Tryz.ntmps51
  go_wp2_with fail
  refine HX.out.mono ?_
  rintro e w1 ⟨rfl, hb1⟩
  have HB1 := Lib.hid hb1
  clear hb1 HX
  rcases Lk.first f xs xs.length with hall | ⟨k, hk, hfk, hlow⟩
  · have HE := Lib.hid (show Lk.idx f xs = -1 from Lk.idx_no hall)
    have HF := Lib.hid (show (xs.filter fun x => !f x) = xs by
      have := Lk.left_full f xs xs.length (Nat.le_refl _) hall
      unfold Lk.left at this
      rwa [List.take_length] at this)
    rw [HE.out]
    go_wp2_with fail
    go_ret
    exact ⟨by rw [HF.out]; rfl, by rw [HF.out]; exact HI.out.low HB1.out, HB1.out.mono hbs⟩
  · have HE := Lib.hid (show Lk.idx f xs = k from Lk.idx_at hk hlow hfk)
    have hcl : (Lk.left f xs (k + 1)) = xs.take k := by
      rw [Lk.left_succ f xs k hk, hfk, Lk.left_full f xs k (by omega) hlow]
      simp
    have HD := Lib.hid (show DelAt w w1 base g cap f xs k (k + 1) xs from ⟨HB1.out.mono hbs, HI.out.low HB1.out, rfl, hcl.symm, fun _ _ => rfl, by rw [hcl, List.length_take]; omega, by omega⟩)
    rw [HE.out]
    have gk : ((k : Int) == -1) = false := by
      simp
    clear hfk hlow hcl HB1 HE HV
    go_wp2_with fail
    go_loopw [5, 6, 7] (fun kv pv _ wr => ∃ (m p : Nat) (ys : List Int), kv = .int .i64 m ∧ pv = .int .i64 p ∧ p ≤ xs.length ∧ DelAt w wr base g cap f xs m p ys) (fun _ pv _ _ => xs.length - (intOf pv).toNat)
    case atStart => exact ⟨k, k + 1, xs, rfl, by go_num, by omega, HD.out⟩
    case round =>
      obtain ⟨m, p, ys, rfl, rfl, hp, hd⟩ := hrel
      have HD2 := Lib.hid hd
      clear HD
      by_cases hlt : p < xs.length
      · have c := hd.row.cell p (by rw [hd.len]; exact hlt)
        rw [hd.high p (Nat.le_refl _)] at c
        have hs := Nat.le_trans hbs hd.bel.size
        have HR := Lib.hid (HT.out.run (xs.getD p 0) wr (hi p hlt) (HT.out.low w wr HS.out hd.bel) hs)
        have g1 : (p : Int) < xs.length := by omega
        have g2 : (m : Int) < xs.length := by have := hd.lt; omega
        have HSZ := Lib.hid hs
        clear hd hs
        cases hf : f (xs.getD p 0)
        · have HF := Lib.hid hf
          generalize hx : xs.getD p 0 = x at *
          rw [hf] at HR
          clear hf
          go_wp2_with fail
          rw [HT.out.enters]
          refine HR.out.mono ?_
          rintro e w2 ⟨rfl, hb2⟩
          have HD3 := Lib.hid (HD2.out.low' hb2 HSZ.out)
          have HD4 := Lib.hid (HD3.out.keep hlt (by rw [hx]; exact HF.out))
          rw [hx] at HD4
          have cm := HD3.out.row.cell m (by rw [HD3.out.len]; omega)
          have fm := HD3.out.row.frozen m
          generalize ys.getD m 0 = old at cm
          clear hb2 HD3 c
          go_wp2_with fail
          go_roundw
          case rel => exact ⟨m + 1, p + 1, _, by go_num, by go_num, by omega, HD4.out⟩
          case measure => simp [intOf]; omega
        · have HF := Lib.hid hf
          generalize hx : xs.getD p 0 = x at *
          rw [hf] at HR
          clear hf
          go_wp2_with fail
          rw [HT.out.enters]
          refine HR.out.mono ?_
          rintro e w2 ⟨rfl, hb2⟩
          have HD3 := Lib.hid ((HD2.out.low' hb2 HSZ.out).skip hlt (by rw [hx]; exact HF.out))
          clear hb2 c
          go_wp2_with fail
          go_roundw
          case rel => exact ⟨m, p + 1, ys, rfl, by go_num, by omega, HD3.out⟩
          case measure => simp [intOf]; omega
      · obtain rfl : p = xs.length := by omega
        have hml := hd.lt
        have hcn := hd.cnt
        have hlen := hd.len
        have hcl : ∀ ty, (Builtin.clear_ #[45] ty #[.slice (some ⟨g, m, none⟩) (xs.length - m) (cap - m)]).run Tryz.prog wr = .ok (.tuple #[]) (wr.setCells g m (List.replicate (xs.length - m) (.int .i64 0))) := fun ty =>
          Lib.run_clear_slice wr _ _ ty _ Tryz.underlying45 zv_int rfl rfl g m _ _ (by omega) (fun j hj => by rw [HD2.out.row.cell (m + j) (by rw [HD2.out.len]; omega)]; rfl) (fun j hj => HD2.out.row.frozen (m + j))
        have he : Lk.left f xs xs.length = xs.filter fun x => !f x := by unfold Lk.left; rw [List.take_length]
        have HF := Lib.hid (show Ints (wr.setCells g m (List.replicate (xs.length - m) (.int .i64 0))) base g cap (xs.filter fun x => !f x) from by
          obtain ⟨zs, hz, hz2⟩ := own_setCells (List.replicate (xs.length - m) (Value.int .i64 0)) m wr _ HD2.out.row.own
          have hm2 : m ≤ ys.length := by rw [HD2.out.len]; omega
          have ht := own_trim hz m hm2
          constructor
          rw [hz2] at ht
          rw [← he, hcn, ← HD2.out.low, iV, List.map_take]
          exact ht)
        have HFB := Lib.hid (below_setCells HD2.out.row.base.1 (List.replicate (xs.length - m) (Value.int .i64 0)) m w wr HD2.out.bel)
        have HN := Lib.hid (show (xs.filter fun x => !f x).length = m by rw [← he]; exact hcn)
        have hcm : m ≤ cap := by omega
        clear hd hcn he HD2
        go_wp2_with fail
        go_ret
        exact ⟨by rw [HN.out]; rfl, HF.out, HFB.out⟩
end Go.Proofs.YtjeolfcefeglpabGreat
set_option maxRecDepth 20000
namespace Go.Proofs.YtjeolfcefeglpabGreat
open Go.ChangeShapes Go.WideShapes Go.ChangeAt Go.RowKit
variable {Z : Nat → Prop}

namespace Lk
/-! Plain lists: the rows of locks. -/
def upd (R : Int → List Int) (i : Int) (l : List Int) : Int → List Int := fun j => if j = i then l else R j
theorem upd_same (R : Int → List Int) (i : Int) (l : List Int) : upd R i l i = l := by simp [upd]
theorem upd_other (R : Int → List Int) {i j : Int} (l : List Int) (h : j ≠ i) : upd R i l j = R j := by simp [upd, h]
theorem short : ∀ (n : Nat) (xs : List Int), xs.Nodup → (∀ x ∈ xs, 0 ≤ x ∧ x < n) → xs.length ≤ n
  | 0, xs, _, h => by
    cases xs with
    | nil => simp
    | cons x l => have := h x (by simp); omega
  | n + 1, xs, hd, h => by
    by_cases hm : (n : Int) ∈ xs
    · have := short n (xs.erase (n : Int)) (hd.erase _) fun x hx => by
        rw [hd.mem_erase_iff] at hx
        have := h x hx.2
        have := hx.1
        omega
      rw [List.length_erase_of_mem hm] at this
      omega
    · have := short n xs hd fun x hx => by
        have h1 := h x hx
        have h2 : x ≠ n := fun e => hm (e ▸ hx)
        omega
      omega
/-- The rows of n locks. -/
structure Ok (R : Int → List Int) (n : Nat) : Prop where
  out : ∀ i : Int, ¬ (0 ≤ i ∧ i < (n : Int)) → R i = []
  who : ∀ i x, x ∈ R i → 0 ≤ x ∧ x < 8
  nod : ∀ i, (R i).Nodup
theorem Ok.len {R : Int → List Int} {n : Nat} (h : Ok R n) (i : Int) : (R i).length ≤ 8 := short 8 (R i) (h.nod i) (h.who i)
def cnt (R : Int → List Int) : Nat → Nat
  | 0 => 0
  | k + 1 => cnt R k + (if R k = [] then 0 else 1)
theorem cnt_le (R : Int → List Int) : ∀ k, cnt R k ≤ k
  | 0 => Nat.le_refl _
  | k + 1 => by
    have := cnt_le R k
    simp only [cnt]
    split <;> omega
theorem cnt_congr {R T : Int → List Int} : ∀ k : Nat, (∀ i : Nat, i < k → R i = T i) → cnt R k = cnt T k
  | 0, _ => rfl
  | k + 1, h => by simp only [cnt]; rw [cnt_congr k (fun i hi => h i (by omega)), h k (by omega)]
theorem cnt_upd (R : Int → List Int) (i : Nat) (l : List Int) : ∀ k, i < k → cnt (upd R i l) k + (if R i = [] then 0 else 1) = cnt R k + (if l = [] then 0 else 1)
  | 0, h => by omega
  | k + 1, h => by
    simp only [cnt]
    by_cases e : i = k
    · subst e
      rw [cnt_congr (T := R) i (fun j hj => upd_other R l (by omega)), upd_same]
      omega
    · have := cnt_upd R i l k (by omega)
      rw [upd_other R l (show (k : Int) ≠ (i : Int) by omega)]
      omega
end Lk

/-! A row's slice. -/
abbrev Hdr := Option (Nat × Nat × Nat × Nat)
def hdV : Hdr → Value
  | none => .slice none 0 0
  | some (b, o, n, c) => .slice (some ⟨b, o, none⟩) n c
def hdD : Hdr → DataW Unit
  | none => .agg []
  | some (b, o, n, c) => .agg [.lit (.int .i64 b), .lit (.int .i64 o), .lit (.int .i64 n), .lit (.int .i64 c)]
theorem hdV_inj {x y : Hdr} (h : hdV x = hdV y) : x = y := by
  rcases x with _ | ⟨a, b, c, d⟩ <;> rcases y with _ | ⟨a', b', c', d'⟩ <;> simp [hdV] at h ⊢
  obtain ⟨⟨rfl, rfl⟩, rfl, rfl⟩ := h
  simp
theorem hdD_inj {x y : Hdr} (h : hdD x = hdD y) : x = y := by
  rcases x with _ | ⟨a, b, c, d⟩ <;> rcases y with _ | ⟨a', b', c', d'⟩ <;> simp [hdD] at h ⊢
  omega
open Classical in
/-- How a row in the map reads. -/
noncomputable def rowElem (v : Value) : Option (DataW Unit × List MemPlace) := if h : ∃ x : Hdr, v = hdV x then some (hdD h.choose, []) else none
theorem rowElem_mk (x : Hdr) : rowElem (hdV x) = some (hdD x, []) := by
  have h : ∃ y : Hdr, hdV x = hdV y := ⟨x, rfl⟩
  have e : x = h.choose := hdV_inj h.choose_spec
  unfold rowElem
  rw [dif_pos h, ← e]
theorem rowElem_inv {v : Value} {x : Hdr} {ps : List MemPlace} (h : rowElem v = some (hdD x, ps)) : v = hdV x := by
  unfold rowElem at h
  split at h
  · rename_i hx
    simp only [Option.some.injEq, Prod.mk.injEq] at h
    rw [hx.choose_spec, hdD_inj h.1]
  · cases h
theorem zero_row (w : World) : (zeroValue 45).run Tryz.prog w = .ok (hdV none) w := by kernel_rfl

/-- A row of numbers that isn't empty: from place o of block b on, with room for c. -/
structure RwS (w : World) (base b o c : Nat) (xs : List Int) : Prop where
  pos : 0 < xs.length
  le : xs.length ≤ c
  max : c ≤ maxLen
  base : base ≤ b
  lt : b < w.heap.size
  cell : ∀ j, j < xs.length → w.cell? ⟨b, o + j, none⟩ = some (.int .i64 (xs.getD j 0))
  spare : ∀ j, j < c → (w.cell? ⟨b, o + j, none⟩).isSome = true
  froz : ∀ j, j < c → w.frozen? ⟨b, o + j, none⟩ = false
  ty : ∃ cur, CsAt w b 3 cur
def Rw (w : World) (base : Nat) (h : Hdr) (xs : List Int) : Prop := (h = none ∧ xs = []) ∨ ∃ b o c, h = some (b, o, xs.length, c) ∧ RwS w base b o c xs
/-- Nothing of what is told of a block changes where the block doesn't. -/
theorem RwS.keep {w w' : World} {base b o c : Nat} {xs : List Int} (h : RwS w base b o c xs) (hb : w'.heap[b]? = w.heap[b]?) : RwS w' base b o c xs :=
  ⟨h.pos, h.le, h.max, h.base, by
    have h1 : w.heap[b]? ≠ none := by rw [ne_eq, Array.getElem?_eq_none_iff]; have := h.lt; omega
    rw [← hb, ne_eq, Array.getElem?_eq_none_iff] at h1
    omega, fun j hj => (World.cell?_of_block (w := w) (a := ⟨b, o + j, none⟩) hb).trans (h.cell j hj), fun j hj => by rw [World.cell?_of_block (w := w) (a := ⟨b, o + j, none⟩) hb]; exact h.spare j hj, fun j hj => by rw [World.frozen?_of_block (w := w) (a := ⟨b, o + j, none⟩) hb]; exact h.froz j hj, h.ty.imp fun _ hc => hb.trans hc⟩
theorem Rw.keep {w w' : World} {base : Nat} {h : Hdr} {xs : List Int} (hr : Rw w base h xs) (hb : ∀ b o n c, h = some (b, o, n, c) → w'.heap[b]? = w.heap[b]?) : Rw w' base h xs :=
  hr.imp id fun ⟨b, o, c, e, hs⟩ => ⟨b, o, c, e, hs.keep (hb _ _ _ _ e)⟩
theorem Rw.low {w w' : World} {base : Nat} {h : Hdr} {xs : List Int} (hr : Rw w base h xs) (hb : Below w.heap.size w w') : Rw w' base h xs := by
  rcases hr with hr | ⟨b, o, c, e, hs⟩
  · exact .inl hr
  · exact .inr ⟨b, o, c, e, hs.keep (hb.block b hs.lt)⟩
theorem Rw.form {w : World} {base : Nat} {h : Hdr} {xs : List Int} (hr : Rw w base h xs) : ∃ p cap, hdV h = .slice p xs.length cap ∧ Vw w p (iV xs) ∧ (p = none ∧ cap = 0 ∨ ∃ b off, p = some ⟨b, off, none⟩) ∧ xs.length ≤ cap := by
  rcases hr with ⟨rfl, rfl⟩ | ⟨b, o, c, rfl, hs⟩
  · exact ⟨none, 0, rfl, .inl rfl, .inl ⟨rfl, rfl⟩, Nat.le_refl _⟩
  · refine ⟨_, c, rfl, .inr ⟨b, o, rfl, hs.lt, fun j u hj => ?_⟩, .inr ⟨b, o, rfl⟩, hs.le⟩
    have hl : j < xs.length := by
      have := (List.getElem?_eq_some_iff.1 hj).1
      rwa [iV_len] at this
    rw [hs.cell j hl, ← hj, iV_at xs j hl]

/-! The locks. -/
abbrev KI : TypeId := 3
theorem int_law : Maps.Keyed Tryz.prog KI := Maps.int_keyed Tryz.underlying3
def kL (i : Int) : Lit := .int .i64 i
theorem key_int {i : Int} (h : InI i) : keyOf Tryz.prog KI (.int .i64 i) = some (kL i) := Maps.keyOf_int_mk Tryz.underlying3 (WalkArith.wf_i64 h)
theorem kL_inj {i j : Int} (h : kL i = kL j) : i = j := by simpa [kL] using h
theorem kL_key (i : Int) (h : InI i) : WideAt.IsKeyLit (kL i) := int_law.key (key_int h)
/-- What the map holds. -/
structure FitsL (D : DataW Unit) (n : Nat) (hs : Int → Hdr) (R : Int → List Int) : Prop where
  at_ : ∀ i, InI i → D.atKey (kL i) (hdD none) = hdD (hs i)
  has : ∀ i, InI i → Maps.has D (kL i) = decide (R i ≠ [])
  size : Maps.size D = Lk.cnt R n
/-- n locks with these rows: their struct at block lp, their map at block mb. -/
structure LkAt (Z : Nat → Prop) (w : World) (base lp mb n : Nat) (R : Int → List Int) : Prop where
  ok : Lk.Ok R n
  n0 : 1 ≤ n
  n1 : n ≤ 128
  c0 : w.cell? ⟨lp, 0, none⟩ = some (.int .i64 (n : Int))
  c1 : w.cell? ⟨lp, 1, none⟩ = some (.map (some mb))
  b0 : base ≤ lp
  b1 : base ≤ mb
  lt : lp < w.heap.size
  ne : lp ≠ mb
  flt : ∀ k, Z k → k < w.heap.size ∧ k ≠ mb
  own : ∃ D hs, w.ownsMap Tryz.prog KI rowElem mb (Maps.size D) D ∧ FitsL D n hs R ∧ (∀ i, InI i → Rw w base (hs i) (R i)) ∧ (∀ i b o m c, InI i → hs i = some (b, o, m, c) → b ≠ lp ∧ b ≠ mb ∧ ¬ Z b) ∧
    ∀ i j b o m c o' m' c', InI i → InI j → hs i = some (b, o, m, c) → hs j = some (b, o', m', c') → i = j
/-- What is none of theirs is as it was. -/
def KeptZ (Z : Nat → Prop) (w w' : World) : Prop := ∀ k, Z k → w'.heap[k]? = w.heap[k]?
theorem KeptZ.refl (w : World) : KeptZ Z w w := fun _ _ => rfl
/-- A cell of a block that is none of theirs changes nothing of the locks. -/
theorem LkAt.far {w : World} {base lp mb n : Nat} {R : Int → List Int} (h : LkAt Z w base lp mb n R) {b i : Nat} (hz : Z b) (hl : b ≠ lp) (v : Value) : LkAt Z (w.setCell ⟨b, i, none⟩ v) base lp mb n R := by
  obtain ⟨D, hs, hD, hF, hR, hX, hY⟩ := h.own
  have hblk : ∀ k, k ≠ b → (w.setCell ⟨b, i, none⟩ v).heap[k]? = w.heap[k]? := fun k hk => heap_setCell_other w ⟨b, i, none⟩ k v hk
  have hm : mb ≠ b := fun e => (h.flt b hz).2 e.symm
  refine ⟨h.ok, h.n0, h.n1, (World.cell?_of_block (w := w) (a := ⟨lp, 0, none⟩) (hblk lp (by omega))).trans h.c0, (World.cell?_of_block (w := w) (a := ⟨lp, 1, none⟩) (hblk lp (by omega))).trans h.c1, h.b0, h.b1, by rw [World.size_setCell]; exact h.lt, h.ne, fun k hk => by rw [World.size_setCell]; exact h.flt k hk, D, hs, hD.setCell (a := ⟨b, i, none⟩) hm v, hF, fun j hj => ?_, hX, hY⟩
  rcases hR j hj with hn | ⟨b', o, c, e, hS⟩
  · exact .inl hn
  · exact .inr ⟨b', o, c, e, hS.keep (hblk b' (fun e2 => (hX j b' o _ c hj e).2.2 (e2 ▸ hz)))⟩
theorem LkAt.mlt {w : World} {base lp mb n : Nat} {R : Int → List Int} (h : LkAt Z w base lp mb n R) : mb < w.heap.size := by obtain ⟨D, hs, hD, -⟩ := h.own; exact hD.lt
theorem LkAt.low {w w' : World} {base lp mb n : Nat} {R : Int → List Int} (h : LkAt Z w base lp mb n R) (hb : Below w.heap.size w w') : LkAt Z w' base lp mb n R := by
  obtain ⟨D, hs, hD, hF, hR, hX, hY⟩ := h.own
  exact ⟨h.ok, h.n0, h.n1, (hb.cell (p := ⟨lp, 0, none⟩) h.lt).trans h.c0, (hb.cell (p := ⟨lp, 1, none⟩) h.lt).trans h.c1, h.b0, h.b1, Nat.lt_of_lt_of_le h.lt hb.size, h.ne, fun k hk => ⟨Nat.lt_of_lt_of_le (h.flt k hk).1 hb.size, (h.flt k hk).2⟩, D, hs, hD.kept (row := none) ⟨hb.os, hb.tape, hb.output, hb.size, fun i hi _ => hb.block i hi⟩ (by simp), hF, fun i hi => (hR i hi).low hb, hX, hY⟩
/-- More is none of theirs: blocks that were made since. -/
theorem LkAt.more {w w' : World} {base lp mb n : Nat} {R : Int → List Int} (h : LkAt Z w base lp mb n R) (hb : Below w.heap.size w w') {Y : Nat → Prop} (hy : ∀ k, Y k → Z k ∨ (w.heap.size ≤ k ∧ k < w'.heap.size)) : LkAt Y w' base lp mb n R := by
  have hm : mb < w.heap.size := by obtain ⟨D, hs, hD, -⟩ := h.own; exact hD.lt
  have hl := h.low hb
  obtain ⟨D, hs, hD, hF, hR, hX, hY⟩ := h.own
  obtain ⟨D, hs, hD, hF, hR, hX, hY⟩ : ∃ D hs, w'.ownsMap Tryz.prog KI rowElem mb (Maps.size D) D ∧ FitsL D n hs R ∧ (∀ i, InI i → Rw w' base (hs i) (R i)) ∧ (∀ i b o m c, InI i → hs i = some (b, o, m, c) → b ≠ lp ∧ b ≠ mb ∧ ¬ Y b) ∧
      ∀ i j b o m c o' m' c', InI i → InI j → hs i = some (b, o, m, c) → hs j = some (b, o', m', c') → i = j :=
    ⟨D, hs, hD.kept (row := none) ⟨hb.os, hb.tape, hb.output, hb.size, fun i hi _ => hb.block i hi⟩ (by simp), hF, fun i hi => (hR i hi).low hb, fun i b o m c hi e => by
      obtain ⟨x1, x2, x3⟩ := hX i b o m c hi e
      refine ⟨x1, x2, fun hyb => ?_⟩
      rcases hy b hyb with hz | hz
      · exact x3 hz
      · rcases hR i hi with ⟨e2, -⟩ | ⟨b', o', c', e2, hS⟩
        · rw [e2] at e; cases e
        · rw [e2] at e; cases e; have := hS.lt; omega, hY⟩
  exact ⟨hl.ok, hl.n0, hl.n1, hl.c0, hl.c1, hl.b0, hl.b1, hl.lt, hl.ne, fun k hk => by
    rcases hy k hk with hz | hz
    · exact hl.flt k hz
    · exact ⟨hz.2, by omega⟩, D, hs, hD, hF, hR, hX, hY⟩
theorem own_resetL {w : World} {b n : Nat} {D : DataW Unit} {R : Value → Option (DataW Unit × List MemPlace)} (h : w.ownsMap Tryz.prog KI R b n D) : w.ownsMap Tryz.prog KI R b (Maps.size D) D := by
  obtain ⟨es, clock, hb, F, hs, rfl⟩ := h
  refine ⟨es, clock, hb, F, ?_, rfl⟩
  simp [Maps.size, length_sorted]
/-- Locks, or none. -/
def LkV (w : World) (lv : Value) (n : Nat) (R : Int → List Int) : Prop := (lv = .pointer none ∧ n = 0 ∧ R = fun _ => []) ∨ ∃ (Z : Nat → Prop) (base lp mb : Nat), lv = .pointer (some ⟨lp, 0, none⟩) ∧ LkAt Z w base lp mb n R
theorem LkV.low {w w' : World} {lv : Value} {n : Nat} {R : Int → List Int} (h : LkV w lv n R) (hb : Below w.heap.size w w') : LkV w' lv n R :=
  h.imp id fun ⟨Z, base, lp, mb, e, hL⟩ => ⟨Z, base, lp, mb, e, hL.low hb⟩
theorem LkV.ok {w : World} {lv : Value} {n : Nat} {R : Int → List Int} (h : LkV w lv n R) : Lk.Ok R n := by
  rcases h with ⟨-, rfl, rfl⟩ | ⟨_, _, _, _, -, hL⟩
  · exact ⟨fun _ _ => rfl, fun _ _ h => by simp at h, fun _ => List.nodup_nil⟩
  · exact hL.ok
theorem LkV.le {w : World} {lv : Value} {n : Nat} {R : Int → List Int} (h : LkV w lv n R) : n ≤ 128 := by
  rcases h with ⟨-, rfl, rfl⟩ | ⟨_, _, _, _, -, hL⟩
  · omega
  · exact hL.n1
set_option maxHeartbeats 1000000 in
theorem row_c (lv : Value) (i : Int) (n : Nat) (R : Int → List Int) (w : World) (h : LkV w lv n R) (hi : InI i) :
    Calls Tryz.prog 34 #[lv, .int .i64 i] w fun e w' => (∃ p cap, e = .returned (.slice p (R i).length cap) ∧ Vw w p (iV (R i)) ∧ (p = none ∧ cap = 0 ∨ ∃ b off, p = some ⟨b, off, none⟩) ∧ (R i).length ≤ cap) ∧ w = w' := by
  rcases h with ⟨rfl, -, rfl⟩ | ⟨Z, base, lp, mb, rfl, hL⟩
  · go_enter Tryz.func34, Tryz.ntmps34
    go_wp2_with fail
    go_ret
    exact ⟨⟨none, 0, rfl, .inl rfl, .inl ⟨rfl, rfl⟩, Nat.le_refl _⟩, rfl⟩
  · have c1 := hL.c1
    obtain ⟨D, hs, hD, hF, hR, -, -⟩ := hL.own
    obtain ⟨v, ps, hrun, hv⟩ := hD.lookup int_law Tryz.underlying95 (zero_row w) (rowElem_mk none) (key_int hi)
    rw [hF.at_ i hi] at hv
    obtain rfl := rowElem_inv hv
    obtain ⟨p, cap, he, hvw, hp⟩ := (hR i hi).form
    have HE := Lib.hid (show (∃ p cap, Ending.returned (hdV (hs i)) = .returned (.slice p (R i).length cap) ∧ Vw w p (iV (R i)) ∧ (p = none ∧ cap = 0 ∨ ∃ b off, p = some ⟨b, off, none⟩) ∧ (R i).length ≤ cap) from ⟨p, cap, by rw [he], hvw, hp⟩)
    generalize hdV (hs i) = rv at *
    clear he hvw hp hD hF hR hv
    go_enter Tryz.func34, Tryz.ntmps34
    go_wp2_with fail
    go_ret
    exact ⟨HE.out, rfl⟩
set_option maxHeartbeats 1000000 in
theorem rowH_c (i : Int) (base lp mb n : Nat) (R : Int → List Int) (w : World) (hL : LkAt Z w base lp mb n R) {D : DataW Unit} {hs : Int → Hdr} (hD : w.ownsMap Tryz.prog KI rowElem mb (Maps.size D) D) (hF : FitsL D n hs R) (hi : InI i) :
    Calls Tryz.prog 34 #[.pointer (some ⟨lp, 0, none⟩), .int .i64 i] w fun e w' => e = .returned (hdV (hs i)) ∧ w = w' := by
  have c1 := hL.c1
  obtain ⟨v, ps, hrun, hv⟩ := hD.lookup int_law Tryz.underlying95 (zero_row w) (rowElem_mk none) (key_int hi)
  rw [hF.at_ i hi] at hv
  obtain rfl := rowElem_inv hv
  generalize hdV (hs i) = rv at *
  clear hD hF hv hL
  go_enter Tryz.func34, Tryz.ntmps34
  go_wp2_with fail
  go_ret
  exact ⟨rfl, rfl⟩
end Go.Proofs.YtjeolfcefeglpabGreat
set_option maxRecDepth 20000
namespace Go.Proofs.YtjeolfcefeglpabGreat
open Go.ChangeShapes Go.WideShapes Go.ChangeAt Go.RowKit
variable {Z : Nat → Prop}

namespace Lk
/-- The locks below k whose rows are such. -/
def which (q : List Int → Bool) (R : Int → List Int) : Nat → List Int
  | 0 => []
  | k + 1 => which q R k ++ (if q (R k) then [(k : Int)] else [])
theorem which_len (q : List Int → Bool) (R : Int → List Int) : ∀ k, (which q R k).length ≤ k
  | 0 => Nat.le_refl _
  | k + 1 => by
    have := which_len q R k
    simp only [which, List.length_append]
    split <;> simp <;> omega
theorem which_none (q : List Int → Bool) (hq : q [] = false) : ∀ k, which q (fun _ => []) k = []
  | 0 => rfl
  | k + 1 => by simp [which, hq, which_none q hq k]
theorem which_mem (q : List Int → Bool) (R : Int → List Int) : ∀ (k : Nat) (x : Int), x ∈ which q R k ↔ 0 ≤ x ∧ x < k ∧ q (R x) = true
  | 0, x => by simp [which]; omega
  | k + 1, x => by
    simp only [which, List.mem_append, which_mem q R k x]
    constructor
    · rintro (⟨h0, h1, h2⟩ | h)
      · exact ⟨h0, by omega, h2⟩
      · split at h
        · rename_i hq
          obtain rfl : x = k := by simpa using h
          exact ⟨by omega, by omega, hq⟩
        · simp at h
    · rintro ⟨h0, h1, h2⟩
      by_cases e : x = k
      · subst e
        right
        rw [if_pos h2]
        simp
      · exact .inl ⟨h0, by omega, h2⟩
/-- Is there such a one, and such a lock? -/
def has (who at_ : Int) (n : Nat) : Bool := decide (0 ≤ who ∧ who < 8 ∧ 0 ≤ at_ ∧ at_ < (n : Int))
theorem has_iff {who at_ : Int} {n : Nat} : has who at_ n = true ↔ 0 ≤ who ∧ who < 8 ∧ 0 ≤ at_ ∧ at_ < (n : Int) := by simp [has]
theorem has_no {who at_ : Int} {n : Nat} (h : ¬ (0 ≤ who ∧ who < 8 ∧ 0 ≤ at_ ∧ at_ < (n : Int))) : has who at_ n = false := by unfold has; simpa using h
def holds (who : Int) (row : List Int) : Bool := idx (fun y => who == y) row == 0
def waits (who : Int) (row : List Int) : Bool := decide (idx (fun y => who == y) row > 0)
end Lk
theorem InI.lock {k n : Nat} (h : k < n) (hn : n ≤ 128) : InI (k : Int) := by unfold InI; omega

set_option maxHeartbeats 1000000 in
theorem lhas_c (lv : Value) (who at_ : Int) (n : Nat) (R : Int → List Int) (w : World) (h : LkV w lv n R) :
    Calls Tryz.prog 113 #[lv, .int .i64 who, .int .i64 at_] w fun e w' => e = .returned (.bool (Lk.has who at_ n)) ∧ w = w' := by
  rcases h with ⟨rfl, rfl, rfl⟩ | ⟨Z, base, lp, mb, rfl, hL⟩
  · have HE := Lib.hid (show Lk.has who at_ 0 = false from Lk.has_no (by omega))
    go_enter Tryz.func113, Tryz.ntmps113
    go_wp2_with fail
    go_ret
    exact ⟨by rw [HE.out]; rfl, rfl⟩
  · have c0 := hL.c0
    clear hL
    by_cases h1 : 0 ≤ who
    · by_cases h2 : who < 8
      · by_cases h3 : 0 ≤ at_
        · by_cases h4 : at_ < n
          · have HE := Lib.hid (show Lk.has who at_ n = true from Lk.has_iff.2 (by omega))
            go_enter Tryz.func113, Tryz.ntmps113
            go_wp2_with fail
            go_ret
            exact ⟨by rw [HE.out]; rfl, rfl⟩
          · have HE := Lib.hid (show Lk.has who at_ n = false from Lk.has_no (by omega))
            go_enter Tryz.func113, Tryz.ntmps113
            go_wp2_with fail
            go_ret
            exact ⟨by rw [HE.out]; rfl, rfl⟩
        · have HE := Lib.hid (show Lk.has who at_ n = false from Lk.has_no (by omega))
          go_enter Tryz.func113, Tryz.ntmps113
          go_wp2_with fail
          go_ret
          exact ⟨by rw [HE.out]; rfl, rfl⟩
      · have HE := Lib.hid (show Lk.has who at_ n = false from Lk.has_no (by omega))
        go_enter Tryz.func113, Tryz.ntmps113
        go_wp2_with fail
        go_ret
        exact ⟨by rw [HE.out]; rfl, rfl⟩
    · have HE := Lib.hid (show Lk.has who at_ n = false from Lk.has_no (by omega))
      go_enter Tryz.func113, Tryz.ntmps113
      go_wp2_with fail
      go_ret
      exact ⟨by rw [HE.out]; rfl, rfl⟩
set_option maxHeartbeats 1000000 in
theorem holder_c (lv : Value) (i : Int) (n : Nat) (R : Int → List Int) (w : World) (h : LkV w lv n R) (hi : InI i) :
    Calls Tryz.prog 13 #[lv, .int .i64 i] w fun e w' => e = .returned (.tuple #[.int .i64 ((R i).getD 0 0), .bool (decide (R i ≠ []))]) ∧ w = w' := by
  have HX := Lib.hid (row_c lv i n R w h hi)
  have hlen := h.ok.len i
  clear h
  generalize R i = xs at *
  obtain ⟨y, hy⟩ : ∃ y, xs.getD 0 0 = y := ⟨_, rfl⟩
  have HY := Lib.hid hy
  go_enter Tryz.func13, Tryz.ntmps13
  go_wp2_with fail
  refine HX.out.mono ?_
  rintro e w' ⟨⟨p, cap, rfl, hv, -⟩, rfl⟩
  by_cases hp : 0 < xs.length
  · obtain ⟨b, off, rfl, -, hc⟩ := hv.cells hp
    have c := hc 0 hp
    have g : (0 : Int) < xs.length := by omega
    have g2 : ((xs.length : Int) == 0) = false := beq_eq_false_iff_ne.2 (by omega)
    have HE := Lib.hid (show decide (xs ≠ []) = true by simp; exact fun e => by simp [e] at hp)
    rw [Nat.add_zero, hy] at c
    clear hc hv hy
    go_wp2_with fail
    go_ret2
    exact ⟨by rw [HE.out, HY.out]; rfl, rfl⟩
  · obtain rfl := len_zero hp
    go_wp2_with fail
    go_ret2
    exact ⟨rfl, rfl⟩
theorem one_int (k : Int) : (#[Value.int .i64 k] : Array Value).all (·.oneCell') = true := by simp [Value.oneCell']
/-- A function value that tells q of rows, as long as nothing below N changes. -/
def TellsR (N : Nat) (w0 : World) (F : FuncId) (cs : Array Value) (q : List Int → Bool) : Prop :=
  ∀ (p : Option Addr) (cap : Nat) (xs : List Int) (W : World), Below N w0 W → Vw W p (iV xs) → xs.length ≤ 8 → Calls Tryz.prog F (#[.slice p xs.length cap] ++ cs) W fun e W' => e = .returned (.bool (q xs)) ∧ W = W'
set_option maxHeartbeats 2000000 in
theorem which_nil (F : FuncId) (cs : Array Value) (w : World) :
    Calls Tryz.prog 142 #[.pointer none, .func (.func F) #[] cs] w fun e w' => e = .returned (.slice none 0 0) ∧ w = w' := by
  go_enter Tryz.func142, Tryz.ntmps142
  go_wp2_with fail
  go_ret
  exact ⟨rfl, rfl⟩
set_option maxHeartbeats 4000000 in
theorem which_some (F : FuncId) (cs : Array Value) (q : List Int → Bool) (base lp mb n : Nat) (R : Int → List Int) (w : World) (h : LkAt Z w base lp mb n R) (hT : TellsR w.heap.size w F cs q) (hE : Go.Proofs.Enters Tryz.prog F) :
    Calls Tryz.prog 142 #[.pointer (some ⟨lp, 0, none⟩), .func (.func F) #[] cs] w fun e w' => ∃ v, e = .returned v ∧ w'.ownsRow w.heap.size 3 1 v (Lk.which q R n).length (iV (Lk.which q R n)) ∧ Below w.heap.size w w' := by
  have HH := Lib.hid h
  have HT := Lib.hid hT
  have HE := Lib.hid hE
  have hn := h.n1
  have c0 := h.c0
  clear h hT hE
  go_enter Tryz.func142, Tryz.ntmps142
  go_wp2_with fail
  go_loopw [5, 6, 13] (fun lv _ iv wr => ∃ k : Nat, k ≤ n ∧ iv = .int .i64 k ∧ wr.ownsRow w.heap.size 3 1 lv (Lk.which q R k).length (iV (Lk.which q R k)) ∧ Below w.heap.size w wr) (fun _ _ iv _ => n - (intOf iv).toNat)
  case atStart => exact ⟨0, Nat.zero_le _, rfl, World.ownsRow_nil _ _ _ _, Below.refl _ _⟩
  case round =>
    obtain ⟨k, hk, rfl, hown, hb⟩ := hrel
    have HO := Lib.hid hown
    have HB := Lib.hid hb
    clear hown hb c0
    by_cases hlt : k < n
    · have HL := Lib.hid (show LkV wr (.pointer (some ⟨lp, 0, none⟩)) n R from .inr ⟨_, base, lp, mb, rfl, HH.out.low HB.out⟩)
      have hl8 := HH.out.ok.len k
      have g : (k : Int) < n := by omega
      go_wp2_with fail
      refine (row_c _ _ _ _ _ HL.out (InI.lock hlt hn)).mono ?_
      rintro e w1 ⟨⟨p, cap, rfl, hv, -⟩, rfl⟩
      have HQ := Lib.hid (HT.out p cap (R k) wr HB.out hv hl8)
      have HW := Lib.hid (show Lk.which q R (k + 1) = Lk.which q R k ++ (if q (R k) then [(k : Int)] else []) from rfl)
      have hwl := Lk.which_len q R k
      have HV := Lib.hid hv
      clear hv
      cases hq : q (R k)
      · rw [hq] at HQ HW
        go_wp2_with fail
        rw [HE.out]
        refine HQ.out.mono ?_
        rintro e w2 ⟨rfl, rfl⟩
        go_wp2_with fail
        go_roundw
        case rel => exact ⟨k + 1, by omega, by go_num, by rw [HW.out]; simpa using HO.out, HB.out⟩
        case measure => simp [intOf]; omega
      · rw [hq] at HQ HW
        go_wp2_with fail
        rw [HE.out]
        refine HQ.out.mono ?_
        rintro e w2 ⟨rfl, rfl⟩
        have hsz := HB.out.size
        have hwl2 : (Lk.which q R k).length < 1000000 := by omega
        go_wp2_with (at_builtin; refine wpList_push rfl _ _ 45 rfl w.heap.size 3 _ 1 8 Tryz.underlying45 info_intL rfl (by omega) (by omega) _ (Lk.which q R k).length _ rfl HO.out #[.int .i64 k] rfl (one_int k) _ rfl (by simp) hwl2 hsz ?_)
        intro v' w' hown' hb'
        have HO2 := Lib.hid (show w'.ownsRow w.heap.size 3 1 v' (Lk.which q R (k + 1)).length (iV (Lk.which q R (k + 1))) by rw [HW.out]; simpa using hown')
        have HB2 := Lib.hid (HB.out.trans hb')
        clear hown' hb'
        go_wp2_with fail
        go_roundw
        case rel => exact ⟨k + 1, by omega, by go_num, HO2.out, HB2.out⟩
        case measure => simp [intOf]; omega
    · obtain rfl : k = n := by omega
      go_wp2_with fail
      go_ret
      exact ⟨_, rfl, HO.out, HB.out⟩
end Go.Proofs.YtjeolfcefeglpabGreat
