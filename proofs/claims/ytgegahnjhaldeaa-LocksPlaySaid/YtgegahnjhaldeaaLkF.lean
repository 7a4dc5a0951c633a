/-
  Contract of locks.Stuck.
-/
import Derived.Test.YtgegahnjhaldeaaLkE
namespace Go.Proofs.Ytgegahnjhaldeaa
open Go.ChangeShapes Go.WideShapes Go.ChangeAt Go.RowKit

theorem own_far {w : World} {base : Nat} {e : TypeId} {size : Nat} {v : Value} {n : Nat} {xs : List Value} (h : w.ownsRow base e size v n xs) {c i : Nat} (hc : c < base) (u : Value) : (w.setCell ⟨c, i, none⟩ u).ownsRow base e size v n xs := by
  refine ⟨h.1, h.2.imp id ?_⟩
  rintro ⟨g, cap, cur, rfl, h1, h2, h3⟩
  exact ⟨g, cap, cur, rfl, h1, (heap_setCell_other w ⟨c, i, none⟩ g u (show g ≠ c by omega)).trans h2, h3⟩
theorem own_form2 {w : World} {base : Nat} {e : TypeId} {size : Nat} {v : Value} {n : Nat} {xs : List Value} (h : w.ownsRow base e size v n xs) : ∃ p cap, v = .slice p n cap ∧ Vw w p xs ∧ n ≤ cap ∧ (p = none ∧ cap = 0 ∨ ∃ b off, p = some ⟨b, off, none⟩) := by
  obtain ⟨p, cap, rfl, hv, hle, -⟩ := own_form h
  refine ⟨p, cap, rfl, hv, hle, ?_⟩
  rcases h.2 with ⟨h', -⟩ | ⟨g, cap', cur, h', -⟩
  · simp only [Value.slice.injEq] at h'
    exact .inl ⟨h'.1, h'.2.2⟩
  · simp only [Value.slice.injEq] at h'
    exact .inr ⟨g, 0, h'.1⟩
theorem delete_nil (F : FuncId) (cs : Array Value) (w : World) : Calls Try.prog 39 #[.slice none 0 0, .func (.func F) #[] cs] w fun e w' => e = .returned (.slice none 0 0) ∧ Below w.heap.size w w' := by
  have HX := Lib.hid (show Calls Try.prog 54 #[.slice none 0 0, .func (.func F) #[] cs] w fun e w' => e = .returned (.int .i64 (-1)) ∧ Below w.heap.size w w' by
    go_enter Try.func54, Try.ntmps54
    go_wp2_with fail
    go_loop [5, 8] (fun _ iv => iv = .int .i64 0) (fun _ _ => 0)
    case atStart => rfl
    case round =>
      subst hrel
      go_wp2_with fail
      go_ret
      exact ⟨rfl, Below.refl _ _⟩)
  go_enter Try.func39, Try.ntmps39
  go_wp2_with fail
  refine HX.out.mono ?_
  rintro e w' ⟨rfl, hb⟩
  have HB := Lib.hid hb
  clear hb
  go_wp2_with fail
  go_ret
  exact ⟨rfl, HB.out⟩
/-- DeleteFunc of numbers that the call owns. -/
theorem deleteO_c (base : Nat) (S : World → Prop) (F : FuncId) (cs : Array Value) (f : Int → Bool) (hT : Tells base S F cs f) (v : Value) (xs : List Int) (w : World) (hS : S w) (hbs : base ≤ w.heap.size) (hI : w.ownsRow base 3 1 v xs.length (iV xs)) (hi : ∀ j, j < xs.length → InI (xs.getD j 0)) (hbig : xs.length ≤ 1000000) :
    Calls Try.prog 39 #[v, .func (.func F) #[] cs] w fun e w' => ∃ v', e = .returned v' ∧ w'.ownsRow base 3 1 v' (xs.filter fun x => !f x).length (iV (xs.filter fun x => !f x)) ∧ Below base w w' := by
  obtain ⟨p, cap, rfl, hv, hle, hp⟩ := own_form2 hI
  rcases hI.2 with ⟨h', -⟩ | ⟨g, cap', cur, h', -⟩
  · simp only [Value.slice.injEq] at h'
    obtain ⟨rfl, h2, rfl⟩ := h'
    obtain rfl : xs = [] := List.length_eq_zero_iff.1 h2
    refine (delete_nil F cs w).mono ?_
    rintro e w' ⟨rfl, hb⟩
    exact ⟨_, rfl, World.ownsRow_nil _ _ _ _, hb.mono hbs⟩
  · simp only [Value.slice.injEq] at h'
    obtain ⟨rfl, -, rfl⟩ := h'
    refine (delete_c base g cap S F cs f hT xs w hS hbs ⟨hI⟩ hle hi hbig).mono ?_
    rintro e w' ⟨rfl, h1, h2⟩
    exact ⟨_, rfl, h1.own, h2⟩

namespace Lk
def iota (k : Nat) : List Int := (List.range k).map Int.ofNat
theorem iota_succ (k : Nat) : iota (k + 1) = iota k ++ [(k : Int)] := by
  unfold iota
  rw [List.range_succ, List.map_append]
  rfl
theorem iota_len (k : Nat) : (iota k).length = k := by simp [iota]
def step (R : Int → List Int) (n : Nat) (ss : List Int) : List Int := ss.filter fun x => !(!waitsFor R n x ss)
theorem step_le (R : Int → List Int) (n : Nat) (ss : List Int) : (step R n ss).length ≤ ss.length := List.length_filter_le _ _
def stuckF (R : Int → List Int) (n : Nat) : Nat → List Int → List Int
  | 0, ss => ss
  | k + 1, ss => if (step R n ss).length = ss.length then step R n ss else stuckF R n k (step R n ss)
/-- Who can never go on. -/
def stuck (R : Int → List Int) (n : Nat) : List Int := stuckF R n 9 (iota 8)
end Lk
theorem CsAt.set1 {w : World} {b : Nat} {t : TypeId} {u : Value} (h : CsAt w b t #[u]) (v : Value) : CsAt (w.setCell ⟨b, 0, none⟩ v) b t #[v] := by
  unfold CsAt
  rw [heap_setCell_same w b 0 _ t _ h]
  rfl
/-- What stands while Stuck looks. -/
structure StAt (w W : World) (lq : Option Addr) (v : Value) (ss : List Int) : Prop where
  bel : Below w.heap.size w W
  cl : CsAt W w.heap.size 25 #[.pointer lq]
  cs : CsAt W (w.heap.size + 1) 36 #[v]
  row : W.ownsRow (w.heap.size + 2) 3 1 v ss.length (iV ss)
theorem StAt.sz {w W : World} {lq : Option Addr} {v : Value} {ss : List Int} (h : StAt w W lq v ss) : w.heap.size + 2 ≤ W.heap.size := h.cs.lt
theorem StAt.on {w W W' : World} {lq : Option Addr} {v : Value} {ss : List Int} (h : StAt w W lq v ss) (hb : Below W.heap.size W W') : StAt w W' lq v ss :=
  ⟨h.bel.trans (hb.mono h.bel.size), h.cl.low hb, h.cs.low hb, own_low h.row hb⟩
/-- Another slice is laid in the cell. -/
theorem StAt.lay {w W W' : World} {lq : Option Addr} {v v' : Value} {ss ts : List Int} (h : StAt w W lq v ss) (hb : Below (w.heap.size + 2) W W') (hr : W'.ownsRow (w.heap.size + 2) 3 1 v' ts.length (iV ts)) : StAt w (W'.setCell ⟨w.heap.size + 1, 0, none⟩ v') lq v' ts :=
  ⟨(h.bel.trans (hb.mono (by omega))).setCell (p := ⟨w.heap.size + 1, 0, none⟩) (show w.heap.size ≤ w.heap.size + 1 by omega) _, (h.cl.on hb (by omega)).far (by omega) _, (h.cs.on hb (by omega)).set1 v', own_far hr (by omega) _⟩
theorem stuck1_c (lq : Option Addr) (n : Nat) (R : Int → List Int) (x : Int) (v : Value) (ss : List Int) (w W : World) (hS : StAt w W lq v ss) (h : LkV W (.pointer lq) n R) (hl : ss.length ≤ 8) :
    Calls Try.prog 41 #[.int .i64 x, .pointer (some ⟨w.heap.size, 0, none⟩), .pointer (some ⟨w.heap.size + 1, 0, none⟩)] W fun e W' => e = .returned (.bool (!Lk.waitsFor R n x ss)) ∧ Below W.heap.size W W' := by
  obtain ⟨p, cap, rfl, hv, -, -⟩ := own_form2 hS.row
  have HX := Lib.hid (waitsFor_c lq x n R p cap ss W h hv hl)
  have c1 := hS.cl.cell 0
  have c2 := hS.cs.cell 0
  clear hS h hv
  generalize Lk.waitsFor R n x ss = d at *
  go_enter Try.func41, Try.ntmps41
  go_wp2_with fail
  refine HX.out.mono ?_
  rintro e w' ⟨rfl, hb⟩
  have HB := Lib.hid hb
  clear hb
  go_wp2_with fail
  go_ret
  exact ⟨rfl, HB.out⟩
theorem stuck1_en : Go.Proofs.Enters Try.prog 41 := enters_of Try.func41 rfl rfl
theorem step_in {R : Int → List Int} {n : Nat} {ss : List Int} (h : ∀ j, j < ss.length → InI (ss.getD j 0)) (j : Nat) (hj : j < (Lk.step R n ss).length) : InI ((Lk.step R n ss).getD j 0) := by
  have hm : (Lk.step R n ss).getD j 0 ∈ ss := by
    rw [List.getD, List.getElem?_eq_getElem hj]
    exact (List.mem_filter.1 (List.getElem_mem hj)).1
  obtain ⟨i, hi, he⟩ := List.getElem_of_mem hm
  rw [← he]
  have := h i hi
  rwa [List.getD, List.getElem?_eq_getElem hi] at this
theorem iota8_in (j : Nat) (hj : j < (Lk.iota 8).length) : InI ((Lk.iota 8).getD j 0) := by
  have : j = 0 ∨ j = 1 ∨ j = 2 ∨ j = 3 ∨ j = 4 ∨ j = 5 ∨ j = 6 ∨ j = 7 := by rw [Lk.iota_len] at hj; omega
  unfold InI
  rcases this with rfl | rfl | rfl | rfl | rfl | rfl | rfl | rfl <;> decide
/-- How long the slice is that lies in a cell. -/
def lenAt (W : World) (b : Nat) : Nat := match W.cell? ⟨b, 0, none⟩ with | some (.slice _ m _) => m | _ => 0
theorem lenAt_eq {W : World} {b : Nat} {p : Option Addr} {m c : Nat} (h : W.cell? ⟨b, 0, none⟩ = some (.slice p m c)) : lenAt W b = m := by
  unfold lenAt
  rw [h]
set_option maxHeartbeats 4000000 in
theorem stuck_c (lq : Option Addr) (n : Nat) (R : Int → List Int) (w : World) (h : LkV w (.pointer lq) n R) :
    Calls Try.prog 16 #[.pointer lq] w fun e w' => ∃ v, e = .returned v ∧ w'.ownsRow w.heap.size 3 1 v (Lk.stuck R n).length (iV (Lk.stuck R n)) ∧ Below w.heap.size w w' := by
  have hb1 := (Below.refl w.heap.size w).alloc (Nat.le_refl _) (.cells #[.pointer lq] 25)
  have hb2 := (Below.refl (w.alloc (.cells #[.pointer lq] 25)).heap.size (w.alloc (.cells #[.pointer lq] 25))).alloc (Nat.le_refl _) (.cells #[.slice none 0 0] 36)
  have hs1 : (w.alloc (.cells #[.pointer lq] 25)).heap.size = w.heap.size + 1 := by simp
  have H0 := Lib.hid (show StAt w ((w.alloc (.cells #[.pointer lq] 25)).alloc (.cells #[.slice none 0 0] 36)) lq (.slice none 0 0) [] from
    ⟨hb1.trans (hb2.mono hb1.size), (CsAt.new w 25 #[.pointer lq]).alloc _, hs1 ▸ CsAt.new (w.alloc (.cells #[.pointer lq] 25)) 36 #[.slice none 0 0], World.ownsRow_nil _ _ _ _⟩)
  have HL := Lib.hid h
  clear hb1 hb2 hs1 h
  go_enter Try.func16, Try.ntmps16
  go_upto_region 2 with (fail)
  generalize ((w.alloc (.cells #[.pointer lq] 25)).alloc (.cells #[.slice none 0 0] 36)) = w1 at *
  go_wp2_with fail
  go_loopw [4, 6] (fun _ iv wr => ∃ (k : Nat) (v : Value), k ≤ 8 ∧ iv = .int .i64 k ∧ StAt w wr lq v (Lk.iota k)) (fun _ iv _ => 8 - (intOf iv).toNat)
  case atStart => exact ⟨0, _, by omega, rfl, H0.out⟩
  case round =>
    obtain ⟨k, v, hk, rfl, hS⟩ := hrel
    have HS := Lib.hid hS
    have hsz := hS.sz
    have c2 := hS.cs.cell 0
    have f2 := hS.cs.frozen 0
    clear hS H0
    by_cases hlt : k < 8
    · have g : (k : Int) < 8 := by omega
      have HK := Lib.hid (Lk.iota_len k)
      have HK2 := Lib.hid (Lk.iota_len (k + 1))
      go_wp2_with (at_builtin; refine wpList_push rfl _ _ 36 rfl (w.heap.size + 2) 3 _ 1 8 Try.underlying36 info_intL rfl (by omega) (by omega) _ (Lk.iota k).length _ rfl HS.out.row #[.int .i64 k] rfl (one_int k) _ rfl (by simp) (by have := HK.out; omega) hsz ?_)
      intro v' w' hown' hb'
      obtain ⟨p', cap', rfl, -⟩ := own_form hown'
      have c3 := (hb'.cell (p := ⟨w.heap.size + 1, 0, none⟩) (show w.heap.size + 1 < w.heap.size + 2 by omega)).trans c2
      have f3 := (World.frozen?_of_block (a := ⟨w.heap.size + 1, 0, none⟩) (hb'.block (w.heap.size + 1) (by omega))).trans f2
      have HS2 := Lib.hid (HS.out.lay (ts := Lk.iota (k + 1)) hb' (by rw [Lk.iota_succ]; simpa using hown'))
      clear hown' hb' c2 f2
      go_wp2_with fail
      go_roundw
      case rel => exact ⟨k + 1, _, by omega, by go_num, HS2.out⟩
      case measure => simp [intOf]; omega
    · rw [show ((k : Nat) : Int) = 8 by omega]
      obtain rfl : k = 8 := by omega
      clear c2 f2 hsz
      go_wp2_with fail
      go_loopw [5] (fun _ ws => ∃ (k : Nat) (v : Value) (ss : List Int), ss.length < k ∧ ss.length ≤ 8 ∧ (∀ j, j < ss.length → InI (ss.getD j 0)) ∧ Lk.stuckF R n k ss = Lk.stuck R n ∧ StAt w ws lq v ss) (fun _ ws => lenAt ws (w.heap.size + 1))
      case atStart => exact ⟨9, v, Lk.iota 8, by decide, by decide, iota8_in, rfl, HS.out⟩
      case round =>
        obtain ⟨k, v2, ss, hk, h8, hi, hst, hS⟩ := hrel
        clear HS
        have HS := Lib.hid hS
        have c2 := hS.cs.cell 0
        obtain ⟨p2, cap2, rfl, hv2, -, hp2⟩ := own_form2 hS.row
        have hsz := hS.sz
        have HC := Lib.hid (clone_c _ p2 cap2 ss wr rfl hv2 hp2 (by omega))
        have HI := Lib.hid hi
        have HST := Lib.hid hst
        have HSZ := Lib.hid hsz
        clear hS hv2 hp2 hi hst hsz
        go_wp2_with fail
        refine HC.out.mono ?_
        rintro e w2 ⟨v3, rfl, hown, hb2⟩
        have HS2 := Lib.hid (HS.out.on hb2)
        have HT := Lib.hid (show Tells wr.heap.size (fun W => Below wr.heap.size wr W) 41 #[.pointer (some ⟨w.heap.size, 0, none⟩), .pointer (some ⟨w.heap.size + 1, 0, none⟩)] (fun x => !Lk.waitsFor R n x ss) from
          ⟨fun x W _ hSW _ => stuck1_c lq n R x _ ss w W (HS.out.on hSW) (HL.out.low ((HS.out.on hSW).bel)) h8, fun W W' hSW hb => hSW.trans hb, stuck1_en⟩)
        have HD := Lib.hid (deleteO_c wr.heap.size _ _ _ _ HT.out v3 ss w2 hb2 hb2.size hown HI.out (by omega))
        have HB2 := Lib.hid hb2
        have c3 := HS2.out.cs.cell 0
        clear hown hb2 c2 HC HT
        go_wp2_with fail
        refine HD.out.mono ?_
        rintro e w3 ⟨v4, rfl, hown4, hb4⟩
        have HE := Lib.hid (show (ss.filter fun x => !(!Lk.waitsFor R n x ss)) = Lk.step R n ss from rfl)
        rw [HE.out] at hown4
        have HO := Lib.hid hown4
        have HB4 := Lib.hid (HB2.out.trans hb4)
        have HS4 := Lib.hid (HS.out.on (HB2.out.trans hb4))
        have c4 := HS4.out.cs.cell 0
        have f4 := HS4.out.cs.frozen 0
        obtain ⟨p4, cap4, rfl, -, -, -⟩ := own_form hown4
        have hle := Lk.step_le R n ss
        clear hb4 hown4 c3 HD HE
        by_cases hq : (Lk.step R n ss).length = ss.length
        · have HF := Lib.hid (show Lk.stuck R n = Lk.step R n ss by
            rw [← HST.out]
            obtain ⟨k, rfl⟩ : ∃ j, k = j + 1 := ⟨k - 1, by omega⟩
            show (if _ then _ else _) = _
            rw [if_pos hq])
          have HO5 := Lib.hid (own_mono HO.out (show w.heap.size ≤ wr.heap.size from HS.out.bel.size))
          rw [hq]
          go_wp2_with fail
          go_ret
          exact ⟨_, rfl, by rw [HF.out, hq]; rw [hq] at HO5; exact HO5.out, HS4.out.bel⟩
        · have gq : (((Lk.step R n ss).length : Int) == (ss.length : Int)) = false := beq_eq_false_iff_ne.2 (by omega)
          obtain ⟨j, rfl⟩ : ∃ j, k = j + 1 := ⟨k - 1, by omega⟩
          have HF := Lib.hid (show Lk.stuckF R n j (Lk.step R n ss) = Lk.stuck R n by
            rw [← HST.out]
            show _ = (if _ then _ else _)
            rw [if_neg hq])
          have HN := Lib.hid (show StAt w (w3.setCell ⟨w.heap.size + 1, 0, none⟩ (.slice p4 (Lk.step R n ss).length cap4)) lq (.slice p4 (Lk.step R n ss).length cap4) (Lk.step R n ss) from
            HS4.out.lay (Below.refl _ _) (own_mono HO.out HSZ.out))
          go_wp2_with fail
          go_roundw
          case rel => exact ⟨j, _, Lk.step R n ss, by omega, by omega, step_in HI.out, HF.out, HN.out⟩
          case measure =>
            rw [lenAt_eq (HN.out.cs.cell 0), lenAt_eq (HS.out.cs.cell 0)]
            omega
end Go.Proofs.Ytgegahnjhaldeaa
