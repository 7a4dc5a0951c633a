/-
  Contracts of locks.Held, waited, Waits, waitsFor. Contract of locks.Stuck. Contracts of locks.New, Take.
-/
import Derived.Test.YtjeolfcefeglpabGreatXbj
set_option maxRecDepth 20000
namespace Go.Proofs.YtjeolfcefeglpabGreat
open Go.ChangeShapes Go.WideShapes Go.ChangeAt Go.RowKit

theorem which_c (lv : Value) (F : FuncId) (cs : Array Value) (q : List Int → Bool) (n : Nat) (R : Int → List Int) (w : World) (h : LkV w lv n R) (hT : TellsR w.heap.size w F cs q) (hE : Go.Proofs.Enters Tryz.prog F) :
    Calls Tryz.prog 142 #[lv, .func (.func F) #[] cs] w fun e w' => ∃ v, e = .returned v ∧ w'.ownsRow w.heap.size 3 1 v (Lk.which q R n).length (iV (Lk.which q R n)) ∧ Below w.heap.size w w' := by
  rcases h with ⟨rfl, rfl, rfl⟩ | ⟨Z, base, lp, mb, rfl, hL⟩
  · refine (which_nil F cs w).mono ?_
    rintro e w' ⟨rfl, rfl⟩
    exact ⟨_, rfl, World.ownsRow_nil _ _ _ _, Below.refl _ _⟩
  · exact which_some F cs q base lp mb n R w hL hT hE
theorem box1 {w W : World} {v : Value} {t : TypeId} (h : Below (w.alloc (.cells #[v] t)).heap.size (w.alloc (.cells #[v] t)) W) : W.cell? ⟨w.heap.size, 0, none⟩ = some v := by
  rw [h.cell (p := ⟨w.heap.size, 0, none⟩) (by simp)]
  simp [go_sem]
theorem waited1_c (p : Option Addr) (cap : Nat) (xs : List Int) (who : Int) (bx : Nat) (w : World) (hv : Vw w p (iV xs)) (hl : xs.length ≤ 8) (hb : w.cell? ⟨bx, 0, none⟩ = some (.int .i64 who)) :
    Calls Tryz.prog 143 #[.slice p xs.length cap, .pointer (some ⟨bx, 0, none⟩)] w fun e w' => e = .returned (.bool (Lk.waits who xs)) ∧ w = w' := by
  have HV := Lib.hid hv
  clear hv
  go_enter Tryz.func143, Tryz.ntmps143
  go_wp2_with fail
  refine (index_c _ _ _ _ _ HV.out (by omega)).mono ?_
  rintro e w' ⟨rfl, rfl⟩
  have HE := Lib.hid (show Lk.waits who xs = decide (Lk.idx (fun y => who == y) xs > 0) from rfl)
  generalize Lk.idx (fun y => who == y) xs = d at *
  go_wp2_with fail
  go_ret
  exact ⟨by rw [HE.out]; rfl, rfl⟩
theorem waited1_en : Go.Proofs.Enters Tryz.prog 143 := enters_of Tryz.func143 rfl rfl
set_option maxHeartbeats 1000000 in
theorem waited_c (lv : Value) (who : Int) (n : Nat) (R : Int → List Int) (w : World) (h : LkV w lv n R) :
    Calls Tryz.prog 95 #[lv, .int .i64 who] w fun e w' => ∃ v, e = .returned v ∧ w'.ownsRow w.heap.size 3 1 v (Lk.which (Lk.waits who) R n).length (iV (Lk.which (Lk.waits who) R n)) ∧ Below w.heap.size w w' := by
  have hb := (Below.refl w.heap.size w).alloc (Nat.le_refl _) (.cells #[.int .i64 who] 3)
  have HX := Lib.hid (which_c lv _ #[.pointer (some ⟨w.heap.size, 0, none⟩)] (Lk.waits who) n R _ (h.low hb) (fun p cap xs W hB hv hl => waited1_c p cap xs who w.heap.size W hv hl (box1 hB)) waited1_en)
  have HB := Lib.hid hb
  clear hb h
  go_enter Tryz.func95, Tryz.ntmps95
  go_wp2_with fail
  refine HX.out.mono ?_
  rintro e w1 ⟨v, rfl, hown, hb1⟩
  have HO := Lib.hid (own_mono hown HB.out.size)
  have HB1 := Lib.hid (HB.out.trans (hb1.mono HB.out.size))
  clear hown hb1
  go_wp2_with fail
  go_ret
  exact ⟨_, rfl, HO.out, HB1.out⟩
namespace Lk
/-- Does one wait at a lock whose holder is one of some? -/
def waitsFor (R : Int → List Int) (n : Nat) (who : Int) (ss : List Int) : Bool := (which (waits who) R n).any fun lock => ss.any fun y => (R lock).getD 0 0 == y
end Lk
set_option maxHeartbeats 1000000 in
theorem waitsFor1_c (lq : Option Addr) (n : Nat) (R : Int → List Int) (x : Int) (hx : InI x) (p : Option Addr) (cap : Nat) (ss : List Int) (bl bs : Nat) (w : World) (h : LkV w (.pointer lq) n R) (hv : Vw w p (iV ss)) (hl : ss.length ≤ 8)
    (hb : w.cell? ⟨bl, 0, none⟩ = some (.pointer lq)) (hc : w.cell? ⟨bs, 0, none⟩ = some (.slice p ss.length cap)) :
    Calls Tryz.prog 96 #[.int .i64 x, .pointer (some ⟨bl, 0, none⟩), .pointer (some ⟨bs, 0, none⟩)] w fun e w' => e = .returned (.bool (ss.any fun y => (R x).getD 0 0 == y)) ∧ w = w' := by
  have HX := Lib.hid (holder_c (.pointer lq) x n R w h hx)
  have HV := Lib.hid hv
  clear h hv
  generalize (R x).getD 0 0 = d at *
  generalize decide (R x ≠ []) = d2 at *
  go_enter Tryz.func96, Tryz.ntmps96
  go_wp2_with fail
  refine HX.out.mono ?_
  rintro e w' ⟨rfl, rfl⟩
  go_wp2_with fail
  refine (contains_c _ _ _ _ _ HV.out (by omega)).mono ?_
  rintro e w' ⟨rfl, rfl⟩
  go_wp2_with fail
  go_ret
  exact ⟨rfl, rfl⟩
theorem waitsFor1_en : Go.Proofs.Enters Tryz.prog 96 := enters_of Tryz.func96 rfl rfl
theorem which_in (q : List Int → Bool) (R : Int → List Int) (n : Nat) (hn : n ≤ 128) (j : Nat) (hj : j < (Lk.which q R n).length) : InI ((Lk.which q R n).getD j 0) := by
  have hm : (Lk.which q R n).getD j 0 ∈ Lk.which q R n := by
    rw [List.getD, List.getElem?_eq_getElem hj]
    exact List.getElem_mem hj
  have := (Lk.which_mem q R n _).1 hm
  unfold InI
  omega
set_option maxHeartbeats 2000000 in
theorem waitsFor_c (lq : Option Addr) (who : Int) (n : Nat) (R : Int → List Int) (p : Option Addr) (cap : Nat) (ss : List Int) (w : World) (h : LkV w (.pointer lq) n R) (hv : Vw w p (iV ss)) (hl : ss.length ≤ 8) :
    Calls Tryz.prog 53 #[.pointer lq, .int .i64 who, .slice p ss.length cap] w fun e w' => e = .returned (.bool (Lk.waitsFor R n who ss)) ∧ Below w.heap.size w w' := by
  have hb1 := (Below.refl w.heap.size w).alloc (Nat.le_refl _) (.cells #[.pointer lq] 31)
  have hb2 := (Below.refl (w.alloc (.cells #[.pointer lq] 31)).heap.size (w.alloc (.cells #[.pointer lq] 31))).alloc (Nat.le_refl _) (.cells #[.slice p ss.length cap] 45)
  have hs1 : (w.alloc (.cells #[.pointer lq] 31)).heap.size = w.heap.size + 1 := by simp
  have c1 := box1 hb2
  have HB := Lib.hid (hb1.trans (hb2.mono hb1.size))
  have HL := Lib.hid ((h.low hb1).low hb2)
  have HV := Lib.hid ((hv.low hb1).low hb2)
  have c2 := box1 (Below.refl ((w.alloc (.cells #[.pointer lq] 31)).alloc (.cells #[.slice p ss.length cap] 45)).heap.size ((w.alloc (.cells #[.pointer lq] 31)).alloc (.cells #[.slice p ss.length cap] 45)))
  have hN := h.le
  rw [hs1] at c2
  clear hb1 hb2 h hv hs1
  go_enter Tryz.func53, Tryz.ntmps53
  go_upto_region 1 with (fail)
  generalize ((w.alloc (.cells #[.pointer lq] 31)).alloc (.cells #[.slice p ss.length cap] 45)) = w1 at *
  have HT := Lib.hid (show Tells w1.heap.size (fun W => Below w1.heap.size w1 W) 96 #[.pointer (some ⟨w.heap.size, 0, none⟩), .pointer (some ⟨w.heap.size + 1, 0, none⟩)] (fun x => ss.any fun y => (R x).getD 0 0 == y) from
    ⟨fun x W hx hS _ => (waitsFor1_c lq n R x hx p cap ss w.heap.size (w.heap.size + 1) W (HL.out.low hS) (HV.out.low hS) hl ((hS.cell (p := ⟨w.heap.size, 0, none⟩) (World.block_lt_of_cell? w1 _ c1)).trans c1) ((hS.cell (p := ⟨w.heap.size + 1, 0, none⟩) (World.block_lt_of_cell? w1 _ c2)).trans c2)).mono fun e w' h => ⟨h.1, h.2 ▸ Below.refl _ _⟩,
      fun W W' hS hb => hS.trans hb, waitsFor1_en⟩)
  have HW := Lib.hid (waited_c (.pointer lq) who n R w1 HL.out)
  clear c2
  go_wp2_with fail
  refine HW.out.mono ?_
  rintro e w2 ⟨v, rfl, hown, hb2⟩
  have HB2 := Lib.hid hb2
  obtain ⟨p3, cap3, rfl, hv3, -, -⟩ := own_form hown
  have HC := Lib.hid (containsF_c w1.heap.size _ _ _ _ HT.out p3 cap3 (Lk.which (Lk.waits who) R n) w2 hb2 hb2.size hv3 (which_in _ R n hN) (by have := Lk.which_len (Lk.waits who) R n; omega))
  clear hb2 hown hv3 c1
  have HE := Lib.hid (show Lk.waitsFor R n who ss = (Lk.which (Lk.waits who) R n).any (fun x => ss.any fun y => (R x).getD 0 0 == y) from rfl)
  go_wp2_with fail
  refine HC.out.mono ?_
  rintro e w3 ⟨rfl, hb3⟩
  have HB3 := Lib.hid ((HB.out.trans (HB2.out.mono HB.out.size)).trans (hb3.mono (Nat.le_trans HB.out.size HB2.out.size)))
  clear hb3
  go_wp2_with fail
  go_ret
  exact ⟨by rw [HE.out]; rfl, HB3.out⟩
end Go.Proofs.YtjeolfcefeglpabGreat
set_option maxRecDepth 20000
namespace Go.Proofs.YtjeolfcefeglpabGreat
open Go.ChangeShapes Go.WideShapes Go.ChangeAt Go.RowKit

theorem own_far {w : World} {base : Nat} {e : TypeId} {size : Nat} {v : Value} {n : Nat} {xs : List Value} (h : w.ownsRow base e size v n xs) {c i : Nat} (hc : c < base) (u : Value) : (w.setCell ⟨c, i, none⟩ u).ownsRow base e size v n xs := by
  refine ⟨h.1, h.2.imp id ?_⟩
  rintro ⟨g, cap, cur, rfl, h1, h2, h3⟩
  exact ⟨g, cap, cur, rfl, h1, (heap_setCell_other w ⟨c, i, none⟩ g u (show g ≠ c by omega)).trans h2, h3⟩
theorem own_form2 {w : World} {base : Nat} {e : TypeId} {size : Nat} {v : Value} {n : Nat} {xs : List Value} (h : w.ownsRow base e size v n xs) : ∃ p cap, v = .slice p n cap ∧ Vw w p xs ∧ n ≤ cap ∧ (p = none ∧ cap = 0 ∨ ∃ b off, p = some ⟨b, off, none⟩) := by
  obtain ⟨p, cap, rfl, hv, hle, -⟩ := own_form h
  refine ⟨p, cap, rfl, hv, hle, ?_⟩
  rcases h.2 with ⟨h', -⟩ | ⟨g, cap', cur, h', -⟩
  · simp only [Value.slice.injEq] at h'
    exact .inl ⟨h'.1, h'.2.2⟩
  · simp only [Value.slice.injEq] at h'
    exact .inr ⟨g, 0, h'.1⟩
theorem delete_nil (F : FuncId) (cs : Array Value) (w : World) : Calls Tryz.prog 51 #[.slice none 0 0, .func (.func F) #[] cs] w fun e w' => e = .returned (.slice none 0 0) ∧ Below w.heap.size w w' := by
  have HX := Lib.hid (show Calls Tryz.prog 93 #[.slice none 0 0, .func (.func F) #[] cs] w fun e w' => e = .returned (.int .i64 (-1)) ∧ Below w.heap.size w w' by
    go_enter Tryz.func93, Tryz.ntmps93
    go_wp2_with fail
    go_loop [5, 8] (fun _ iv => iv = .int .i64 0) (fun _ _ => 0)
    case atStart => rfl
    case round =>
      subst hrel
      go_wp2_with fail
      go_ret
      exact ⟨rfl, Below.refl _ _⟩)
  go_enter Tryz.func51, Tryz.ntmps51
  go_wp2_with fail
  refine HX.out.mono ?_
  rintro e w' ⟨rfl, hb⟩
  have HB := Lib.hid hb
  clear hb
  go_wp2_with fail
  go_ret
  exact ⟨rfl, HB.out⟩
/-- DeleteFunc of numbers that the call owns. -/
theorem deleteO_c (base : Nat) (S : World → Prop) (F : FuncId) (cs : Array Value) (f : Int → Bool) (hT : Tells base S F cs f) (v : Value) (xs : List Int) (w : World) (hS : S w) (hbs : base ≤ w.heap.size) (hI : w.ownsRow base 3 1 v xs.length (iV xs)) (hi : ∀ j, j < xs.length → InI (xs.getD j 0)) (hbig : xs.length ≤ 1000000) :
    Calls Tryz.prog 51 #[v, .func (.func F) #[] cs] w fun e w' => ∃ v', e = .returned v' ∧ w'.ownsRow base 3 1 v' (xs.filter fun x => !f x).length (iV (xs.filter fun x => !f x)) ∧ Below base w w' := by
  obtain ⟨p, cap, rfl, hv, hle, hp⟩ := own_form2 hI
  rcases hI.2 with ⟨h', -⟩ | ⟨g, cap', cur, h', -⟩
  · simp only [Value.slice.injEq] at h'
    obtain ⟨rfl, h2, rfl⟩ := h'
    obtain rfl : xs = [] := List.length_eq_zero_iff.1 h2
    refine (delete_nil F cs w).mono ?_
    rintro e w' ⟨rfl, hb⟩
    exact ⟨_, rfl, World.ownsRow_nil _ _ _ _, hb.mono hbs⟩
  · simp only [Value.slice.injEq] at h'
    obtain ⟨rfl, -, rfl⟩ := h'
    refine (delete_c base g cap S F cs f hT xs w hS hbs ⟨hI⟩ hle hi hbig).mono ?_
    rintro e w' ⟨rfl, h1, h2⟩
    exact ⟨_, rfl, h1.own, h2⟩

namespace Lk
def iota (k : Nat) : List Int := (List.range k).map Int.ofNat
theorem iota_succ (k : Nat) : iota (k + 1) = iota k ++ [(k : Int)] := by
  unfold iota
  rw [List.range_succ, List.map_append]
  rfl
theorem iota_len (k : Nat) : (iota k).length = k := by simp [iota]
def step (R : Int → List Int) (n : Nat) (ss : List Int) : List Int := ss.filter fun x => !(!waitsFor R n x ss)
theorem step_le (R : Int → List Int) (n : Nat) (ss : List Int) : (step R n ss).length ≤ ss.length := List.length_filter_le _ _
def stuckF (R : Int → List Int) (n : Nat) : Nat → List Int → List Int
  | 0, ss => ss
  | k + 1, ss => if (step R n ss).length = ss.length then step R n ss else stuckF R n k (step R n ss)
/-- Who can never go on. -/
def stuck (R : Int → List Int) (n : Nat) : List Int := stuckF R n 9 (iota 8)
end Lk
theorem CsAt.set1 {w : World} {b : Nat} {t : TypeId} {u : Value} (h : CsAt w b t #[u]) (v : Value) : CsAt (w.setCell ⟨b, 0, none⟩ v) b t #[v] := by
  unfold CsAt
  rw [heap_setCell_same w b 0 _ t _ h]
  rfl
/-- What stands while Stuck looks. -/
structure StAt (w W : World) (lq : Option Addr) (v : Value) (ss : List Int) : Prop where
  bel : Below w.heap.size w W
  cl : CsAt W w.heap.size 31 #[.pointer lq]
  cs : CsAt W (w.heap.size + 1) 45 #[v]
  row : W.ownsRow (w.heap.size + 2) 3 1 v ss.length (iV ss)
theorem StAt.sz {w W : World} {lq : Option Addr} {v : Value} {ss : List Int} (h : StAt w W lq v ss) : w.heap.size + 2 ≤ W.heap.size := h.cs.lt
theorem StAt.on {w W W' : World} {lq : Option Addr} {v : Value} {ss : List Int} (h : StAt w W lq v ss) (hb : Below W.heap.size W W') : StAt w W' lq v ss :=
  ⟨h.bel.trans (hb.mono h.bel.size), h.cl.low hb, h.cs.low hb, own_low h.row hb⟩
/-- Another slice is laid in the cell. -/
theorem StAt.lay {w W W' : World} {lq : Option Addr} {v v' : Value} {ss ts : List Int} (h : StAt w W lq v ss) (hb : Below (w.heap.size + 2) W W') (hr : W'.ownsRow (w.heap.size + 2) 3 1 v' ts.length (iV ts)) : StAt w (W'.setCell ⟨w.heap.size + 1, 0, none⟩ v') lq v' ts :=
  ⟨(h.bel.trans (hb.mono (by omega))).setCell (p := ⟨w.heap.size + 1, 0, none⟩) (show w.heap.size ≤ w.heap.size + 1 by omega) _, (h.cl.on hb (by omega)).far (by omega) _, (h.cs.on hb (by omega)).set1 v', own_far hr (by omega) _⟩
theorem stuck1_c (lq : Option Addr) (n : Nat) (R : Int → List Int) (x : Int) (v : Value) (ss : List Int) (w W : World) (hS : StAt w W lq v ss) (h : LkV W (.pointer lq) n R) (hl : ss.length ≤ 8) :
    Calls Tryz.prog 52 #[.int .i64 x, .pointer (some ⟨w.heap.size, 0, none⟩), .pointer (some ⟨w.heap.size + 1, 0, none⟩)] W fun e W' => e = .returned (.bool (!Lk.waitsFor R n x ss)) ∧ Below W.heap.size W W' := by
  obtain ⟨p, cap, rfl, hv, -, -⟩ := own_form2 hS.row
  have HX := Lib.hid (waitsFor_c lq x n R p cap ss W h hv hl)
  have c1 := hS.cl.cell 0
  have c2 := hS.cs.cell 0
  clear hS h hv
  generalize Lk.waitsFor R n x ss = d at *
  go_enter Tryz.func52, Tryz.ntmps52
  go_wp2_with fail
  refine HX.out.mono ?_
  rintro e w' ⟨rfl, hb⟩
  have HB := Lib.hid hb
  clear hb
  go_wp2_with fail
  go_ret
  exact ⟨rfl, HB.out⟩
theorem stuck1_en : Go.Proofs.Enters Tryz.prog 52 := enters_of Tryz.func52 rfl rfl
theorem step_in {R : Int → List Int} {n : Nat} {ss : List Int} (h : ∀ j, j < ss.length → InI (ss.getD j 0)) (j : Nat) (hj : j < (Lk.step R n ss).length) : InI ((Lk.step R n ss).getD j 0) := by
  have hm : (Lk.step R n ss).getD j 0 ∈ ss := by
    rw [List.getD, List.getElem?_eq_getElem hj]
    exact (List.mem_filter.1 (List.getElem_mem hj)).1
  obtain ⟨i, hi, he⟩ := List.getElem_of_mem hm
  rw [← he]
  have := h i hi
  rwa [List.getD, List.getElem?_eq_getElem hi] at this
theorem iota8_in (j : Nat) (hj : j < (Lk.iota 8).length) : InI ((Lk.iota 8).getD j 0) := by
  have : j = 0 ∨ j = 1 ∨ j = 2 ∨ j = 3 ∨ j = 4 ∨ j = 5 ∨ j = 6 ∨ j = 7 := by rw [Lk.iota_len] at hj; omega
  unfold InI
  rcases this with rfl | rfl | rfl | rfl | rfl | rfl | rfl | rfl <;> decide
/-- How long the slice is that lies in a cell. -/
def lenAt (W : World) (b : Nat) : Nat := match W.cell? ⟨b, 0, none⟩ with | some (.slice _ m _) => m | _ => 0
theorem lenAt_eq {W : World} {b : Nat} {p : Option Addr} {m c : Nat} (h : W.cell? ⟨b, 0, none⟩ = some (.slice p m c)) : lenAt W b = m := by
  unfold lenAt
  rw [h]
set_option maxHeartbeats 4000000 in
theorem stuck_c (lq : Option Addr) (n : Nat) (R : Int → List Int) (w : World) (h : LkV w (.pointer lq) n R) :
    Calls Tryz.prog 17 #[.pointer lq] w fun e w' => ∃ v, e = .returned v ∧ w'.ownsRow w.heap.size 3 1 v (Lk.stuck R n).length (iV (Lk.stuck R n)) ∧ Below w.heap.size w w' := by
  have hb1 := (Below.refl w.heap.size w).alloc (Nat.le_refl _) (.cells #[.pointer lq] 31)
  have hb2 := (Below.refl (w.alloc (.cells #[.pointer lq] 31)).heap.size (w.alloc (.cells #[.pointer lq] 31))).alloc (Nat.le_refl _) (.cells #[.slice none 0 0] 45)
  have hs1 : (w.alloc (.cells #[.pointer lq] 31)).heap.size = w.heap.size + 1 := by simp
  have H0 := Lib.hid (show StAt w ((w.alloc (.cells #[.pointer lq] 31)).alloc (.cells #[.slice none 0 0] 45)) lq (.slice none 0 0) [] from
    ⟨hb1.trans (hb2.mono hb1.size), (CsAt.new w 31 #[.pointer lq]).alloc _, hs1 ▸ CsAt.new (w.alloc (.cells #[.pointer lq] 31)) 45 #[.slice none 0 0], World.ownsRow_nil _ _ _ _⟩)
  have HL := Lib.hid h
  clear hb1 hb2 hs1 h
  go_enter Tryz.func17, Tryz.ntmps17
  go_upto_region 2 with (fail)
  generalize ((w.alloc (.cells #[.pointer lq] 31)).alloc (.cells #[.slice none 0 0] 45)) = w1 at *
  go_wp2_with fail
  go_loopw [4, 6] (fun _ iv wr => ∃ (k : Nat) (v : Value), k ≤ 8 ∧ iv = .int .i64 k ∧ StAt w wr lq v (Lk.iota k)) (fun _ iv _ => 8 - (intOf iv).toNat)
  case atStart => exact ⟨0, _, by omega, rfl, H0.out⟩
  case round =>
    obtain ⟨k, v, hk, rfl, hS⟩ := hrel
    have HS := Lib.hid hS
    have hsz := hS.sz
    have c2 := hS.cs.cell 0
    have f2 := hS.cs.frozen 0
    clear hS H0
    by_cases hlt : k < 8
    · have g : (k : Int) < 8 := by omega
      have HK := Lib.hid (Lk.iota_len k)
      have HK2 := Lib.hid (Lk.iota_len (k + 1))
      go_wp2_with (at_builtin; refine wpList_push rfl _ _ 45 rfl (w.heap.size + 2) 3 _ 1 8 Tryz.underlying45 info_intL rfl (by omega) (by omega) _ (Lk.iota k).length _ rfl HS.out.row #[.int .i64 k] rfl (one_int k) _ rfl (by simp) (by have := HK.out; omega) hsz ?_)
      intro v' w' hown' hb'
      obtain ⟨p', cap', rfl, -⟩ := own_form hown'
      have c3 := (hb'.cell (p := ⟨w.heap.size + 1, 0, none⟩) (show w.heap.size + 1 < w.heap.size + 2 by omega)).trans c2
      have f3 := (World.frozen?_of_block (a := ⟨w.heap.size + 1, 0, none⟩) (hb'.block (w.heap.size + 1) (by omega))).trans f2
      have HS2 := Lib.hid (HS.out.lay (ts := Lk.iota (k + 1)) hb' (by rw [Lk.iota_succ]; simpa using hown'))
      clear hown' hb' c2 f2
      go_wp2_with fail
      go_roundw
      case rel => exact ⟨k + 1, _, by omega, by go_num, HS2.out⟩
      case measure => simp [intOf]; omega
    · rw [show ((k : Nat) : Int) = 8 by omega]
      obtain rfl : k = 8 := by omega
      clear c2 f2 hsz
      go_wp2_with fail
      go_loopw [5] (fun _ ws => ∃ (k : Nat) (v : Value) (ss : List Int), ss.length < k ∧ ss.length ≤ 8 ∧ (∀ j, j < ss.length → InI (ss.getD j 0)) ∧ Lk.stuckF R n k ss = Lk.stuck R n ∧ StAt w ws lq v ss) (fun _ ws => lenAt ws (w.heap.size + 1))
      case atStart => exact ⟨9, v, Lk.iota 8, by decide, by decide, iota8_in, rfl, HS.out⟩
      case round =>
        obtain ⟨k, v2, ss, hk, h8, hi, hst, hS⟩ := hrel
        clear HS
        have HS := Lib.hid hS
        have c2 := hS.cs.cell 0
        obtain ⟨p2, cap2, rfl, hv2, -, hp2⟩ := own_form2 hS.row
        have hsz := hS.sz
        have HC := Lib.hid (sclone_c _ p2 cap2 ss wr rfl hv2 hp2 (by omega))
        have HI := Lib.hid hi
        have HST := Lib.hid hst
        have HSZ := Lib.hid hsz
        clear hS hv2 hp2 hi hst hsz
        go_wp2_with fail
        refine HC.out.mono ?_
        rintro e w2 ⟨v3, rfl, hown, hb2⟩
        have HS2 := Lib.hid (HS.out.on hb2)
        have HT := Lib.hid (show Tells wr.heap.size (fun W => Below wr.heap.size wr W) 52 #[.pointer (some ⟨w.heap.size, 0, none⟩), .pointer (some ⟨w.heap.size + 1, 0, none⟩)] (fun x => !Lk.waitsFor R n x ss) from
          ⟨fun x W _ hSW _ => stuck1_c lq n R x _ ss w W (HS.out.on hSW) (HL.out.low ((HS.out.on hSW).bel)) h8, fun W W' hSW hb => hSW.trans hb, stuck1_en⟩)
        have HD := Lib.hid (deleteO_c wr.heap.size _ _ _ _ HT.out v3 ss w2 hb2 hb2.size hown HI.out (by omega))
        have HB2 := Lib.hid hb2
        have c3 := HS2.out.cs.cell 0
        clear hown hb2 c2 HC HT
        go_wp2_with fail
        refine HD.out.mono ?_
        rintro e w3 ⟨v4, rfl, hown4, hb4⟩
        have HE := Lib.hid (show (ss.filter fun x => !(!Lk.waitsFor R n x ss)) = Lk.step R n ss from rfl)
        rw [HE.out] at hown4
        have HO := Lib.hid hown4
        have HB4 := Lib.hid (HB2.out.trans hb4)
        have HS4 := Lib.hid (HS.out.on (HB2.out.trans hb4))
        have c4 := HS4.out.cs.cell 0
        have f4 := HS4.out.cs.frozen 0
        obtain ⟨p4, cap4, rfl, -, -, -⟩ := own_form hown4
        have hle := Lk.step_le R n ss
        clear hb4 hown4 c3 HD HE
        by_cases hq : (Lk.step R n ss).length = ss.length
        · have HF := Lib.hid (show Lk.stuck R n = Lk.step R n ss by
            rw [← HST.out]
            obtain ⟨k, rfl⟩ : ∃ j, k = j + 1 := ⟨k - 1, by omega⟩
            show (if _ then _ else _) = _
            rw [if_pos hq])
          have HO5 := Lib.hid (own_mono HO.out (show w.heap.size ≤ wr.heap.size from HS.out.bel.size))
          rw [hq]
          go_wp2_with fail
          go_ret
          exact ⟨_, rfl, by rw [HF.out, hq]; rw [hq] at HO5; exact HO5.out, HS4.out.bel⟩
        · have gq : (((Lk.step R n ss).length : Int) == (ss.length : Int)) = false := beq_eq_false_iff_ne.2 (by omega)
          obtain ⟨j, rfl⟩ : ∃ j, k = j + 1 := ⟨k - 1, by omega⟩
          have HF := Lib.hid (show Lk.stuckF R n j (Lk.step R n ss) = Lk.stuck R n by
            rw [← HST.out]
            show _ = (if _ then _ else _)
            rw [if_neg hq])
          have HN := Lib.hid (show StAt w (w3.setCell ⟨w.heap.size + 1, 0, none⟩ (.slice p4 (Lk.step R n ss).length cap4)) lq (.slice p4 (Lk.step R n ss).length cap4) (Lk.step R n ss) from
            HS4.out.lay (Below.refl _ _) (own_mono HO.out HSZ.out))
          go_wp2_with fail
          go_roundw
          case rel => exact ⟨j, _, Lk.step R n ss, by omega, by omega, step_in HI.out, HF.out, HN.out⟩
          case measure =>
            rw [lenAt_eq (HN.out.cs.cell 0), lenAt_eq (HS.out.cs.cell 0)]
            omega
end Go.Proofs.YtjeolfcefeglpabGreat
set_option maxRecDepth 20000
namespace Go.Proofs.YtjeolfcefeglpabGreat
open Go.ChangeShapes Go.WideShapes Go.ChangeAt Go.RowKit
variable {Z : Nat → Prop}

theorem FitsL.put {D : DataW Unit} {n : Nat} {hs : Int → Hdr} {R : Int → List Int} (h : FitsL D n hs R) (ht : Maps.Tidy D) {i : Int} (hi : InI i) (h0 : 0 ≤ i) (h1 : i < n) (_hn : n ≤ 128) (x : Hdr) {l : List Int} (hl : l ≠ []) :
    FitsL (D.put (kL i) (hdD x)) n (fun j => if j = i then x else hs j) (Lk.upd R i l) := by
  have hne : ∀ j, j ≠ i → kL j ≠ kL i := fun j hji e => hji (kL_inj e)
  refine ⟨fun j hj => ?_, fun j hj => ?_, ?_⟩
  · by_cases e : j = i
    · subst e; rw [Maps.atKey_put_same ht.isMap (kL_key _ hi), if_pos rfl]
    · rw [Maps.atKey_put_other (hne j e), if_neg e, h.at_ j hj]
  · by_cases e : j = i
    · subst e; rw [Maps.has_put_same ht.isMap (kL_key _ hi), Lk.upd_same]; simp [hl]
    · rw [Maps.has_put_other (hne j e), Lk.upd_other R l e, h.has j hj]
  · obtain ⟨k, rfl⟩ := Int.eq_ofNat_of_zero_le h0
    have c := Lk.cnt_upd R k l n (by omega)
    rw [Maps.size_put ht, h.has _ hi, h.size]
    rw [if_neg hl] at c
    by_cases e : R k = []
    · rw [if_pos e] at c
      simp [e]
      omega
    · rw [if_neg e] at c
      simp [e]
      omega
/-- Locks of which row i is about to be replaced in the map. -/
structure LkMid (Z : Nat → Prop) (w : World) (base lp mb n : Nat) (R : Int → List Int) (i : Int) (x : Hdr) (l : List Int) : Prop where
  ok : Lk.Ok R n
  n0 : 1 ≤ n
  n1 : n ≤ 128
  c0 : w.cell? ⟨lp, 0, none⟩ = some (.int .i64 (n : Int))
  c1 : w.cell? ⟨lp, 1, none⟩ = some (.map (some mb))
  b0 : base ≤ lp
  b1 : base ≤ mb
  lt : lp < w.heap.size
  ne : lp ≠ mb
  flt : ∀ k, Z k → k < w.heap.size ∧ k ≠ mb
  new : Rw w base x l
  full : l ≠ []
  own : ∃ D hs, w.ownsMap Tryz.prog KI rowElem mb (Maps.size D) D ∧ FitsL D n hs R ∧ (∀ j, InI j → j ≠ i → Rw w base (hs j) (R j)) ∧ (∀ j b o m c, InI j → hs j = some (b, o, m, c) → b ≠ lp ∧ b ≠ mb ∧ ¬ Z b) ∧
    (∀ i j b o m c o' m' c', InI i → InI j → hs i = some (b, o, m, c) → hs j = some (b, o', m', c') → i = j) ∧ (∀ b o m c, x = some (b, o, m, c) → b ≠ lp ∧ b ≠ mb ∧ ¬ Z b) ∧
    ∀ j b o m c o' m' c', InI j → j ≠ i → hs j = some (b, o, m, c) → x ≠ some (b, o', m', c')
theorem LkMid.size {w : World} {base lp mb n : Nat} {R : Int → List Int} {i : Int} {x : Hdr} {l : List Int} (_h : LkMid Z w base lp mb n R i x l) {D : DataW Unit} {hs : Int → Hdr} (hF : FitsL D n hs R) (hn : n ≤ 128) : Maps.size D < maxLen := by
  have := Lk.cnt_le R n
  rw [hF.size]
  unfold maxLen
  omega
theorem LkMid.done {w w' : World} {base lp mb n : Nat} {R : Int → List Int} {i : Int} {x : Hdr} {l : List Int} (h : LkMid Z w base lp mb n R i x l) (hi : InI i) (h0 : 0 ≤ i) (h1 : i < n) (hok : Lk.Ok (Lk.upd R i l) n)
    {D : DataW Unit} {hs : Int → Hdr} (hD : w.ownsMap Tryz.prog KI rowElem mb (Maps.size D) D) (hF : FitsL D n hs R) (hR : ∀ j, InI j → j ≠ i → Rw w base (hs j) (R j)) (hX : ∀ j b o m c, InI j → hs j = some (b, o, m, c) → b ≠ lp ∧ b ≠ mb ∧ ¬ Z b)
    (hY : ∀ i j b o m c o' m' c', InI i → InI j → hs i = some (b, o, m, c) → hs j = some (b, o', m', c') → i = j) (hx : ∀ b o m c, x = some (b, o, m, c) → b ≠ lp ∧ b ≠ mb ∧ ¬ Z b) (hy : ∀ j b o m c o' m' c', InI j → j ≠ i → hs j = some (b, o, m, c) → x ≠ some (b, o', m', c'))
    (hD' : w'.ownsMap Tryz.prog KI rowElem mb (Maps.size D + 1) (D.put (kL i) (hdD x))) (hg : w.grownBy w' (some mb)) : LkAt Z w' base lp mb n (Lk.upd R i l) ∧ Below base w w' := by
  have hbl : ∀ b, b < w.heap.size → b ≠ mb → w'.heap[b]? = w.heap[b]? := fun b hb hne => hg.block b hb (fun e => hne (by cases e; rfl))
  have hmlt : mb < w.heap.size := hD.lt
  refine ⟨⟨hok, h.n0, h.n1, (World.cell?_of_block (w := w) (a := ⟨lp, 0, none⟩) (hbl lp h.lt h.ne)).trans h.c0, (World.cell?_of_block (w := w) (a := ⟨lp, 1, none⟩) (hbl lp h.lt h.ne)).trans h.c1, h.b0, h.b1, Nat.lt_of_lt_of_le h.lt hg.size, h.ne, fun k hk => ⟨Nat.lt_of_lt_of_le (h.flt k hk).1 hg.size, (h.flt k hk).2⟩,
    _, _, own_resetL hD', hF.put (hD.tidy int_law) hi h0 h1 h.n1 x h.full, fun j hj => ?_, fun j b o m c hj e => ?_, ?_⟩, ⟨hg.os, hg.tape, hg.output, hg.size, fun b hb => hbl b (Nat.lt_of_lt_of_le hb (by have := h.b1; omega)) (by have := h.b1; omega)⟩⟩
  · by_cases e : j = i
    · subst e
      simp only [if_true]
      rw [Lk.upd_same]
      rcases h.new with hn | ⟨b, o, c, e2, hs2⟩
      · exact absurd hn.2 h.full
      · exact .inr ⟨b, o, c, e2, hs2.keep (hbl b hs2.lt (hx _ _ _ _ e2).2.1)⟩
    · simp only [if_neg e]
      rw [Lk.upd_other R l e]
      rcases hR j hj e with hn | ⟨b, o, c, e2, hs2⟩
      · exact .inl hn
      · exact .inr ⟨b, o, c, e2, hs2.keep (hbl b hs2.lt (hX _ _ _ _ _ hj e2).2.1)⟩
  · by_cases e3 : j = i
    · simp only [if_pos e3] at e
      exact hx _ _ _ _ e
    · simp only [if_neg e3] at e
      exact hX _ _ _ _ _ hj e
  · intro j k b o m c o' m' c' hj hk e1 e2
    by_cases a1 : j = i <;> by_cases a2 : k = i
    · rw [a1, a2]
    · simp only [if_pos a1] at e1
      simp only [if_neg a2] at e2
      exact absurd e1 (hy k b o' m' c' o m c hk a2 e2)
    · simp only [if_neg a1] at e1
      simp only [if_pos a2] at e2
      exact absurd e2 (hy j b o m c o' m' c' hj a1 e1)
    · simp only [if_neg a1] at e1
      simp only [if_neg a2] at e2
      exact hY _ _ _ _ _ _ _ _ _ hj hk e1 e2
theorem wpList_lk_put {ops : Array Oper} {rest : List Oper} {o : Oper} {a : Act} {w : World} {Q : Exit → Act → World → Prop} (hg : o.guard = none) (m x v : Operand) (ho : o.op = .mapUpdate 95 m x v)
    {base lp mb n : Nat} {R : Int → List Int} {i : Int} {h : Hdr} {l : List Int} (hM : LkMid Z w base lp mb n R i h l) (hi : InI i) (h0 : 0 ≤ i) (h1 : i < n) (hok : Lk.Ok (Lk.upd R i l) n) (hm : a.eval m = .map (some mb)) (hx : a.eval x = .int .i64 i) (hv : a.eval v = hdV h)
    (hK : ∀ w', LkAt Z w' base lp mb n (Lk.upd R i l) → Below base w w' → (∀ k, k < w.heap.size → k ≠ mb → w'.heap[k]? = w.heap[k]?) → wpList Tryz.prog ops Q rest (a.put o.dst undef) w') : wpList Tryz.prog ops Q (o :: rest) a w := by
  obtain ⟨D, hs, hD, hF, hR, hX, hY, hx2, hy2⟩ := hM.own
  refine wpList_mapUpdate_own w hg m x v _ ho KI 45 int_law Tryz.underlying95 rowElem mb (Maps.size D) D hm hD (hM.size hF hM.n1) _ _ _ hx hv (key_int hi) (hdD h) [] (rowElem_mk h) fun w' k1 k2 => ?_
  obtain ⟨r1, r2⟩ := hM.done hi h0 h1 hok hD hF hR hX hY hx2 hy2 k1 k2
  exact hK w' r1 r2 fun k hk hne => k2.block k hk (fun e => hne (by cases e; rfl))
set_option maxHeartbeats 1000000 in
theorem lnew_no (n : Int) (w : World) (h : ¬ (1 ≤ n ∧ n ≤ 128)) : Calls Tryz.prog 6 #[.int .i64 n] w fun e w' => e = .returned (.tuple #[.pointer none, .int .i64 1]) ∧ w = w' := by
  by_cases h1 : n < 1
  · go_enter Tryz.func6, Tryz.ntmps6
    go_wp2_with fail
    go_ret2
    exact ⟨rfl, rfl⟩
  · have h2 : 128 < n := by omega
    go_enter Tryz.func6, Tryz.ntmps6
    go_wp2_with fail
    go_ret2
    exact ⟨rfl, rfl⟩
theorem ok_none (n : Nat) : Lk.Ok (fun _ => []) n := ⟨fun _ _ => rfl, fun _ _ h => by simp at h, fun _ => List.nodup_nil⟩
theorem cnt_none : ∀ n, Lk.cnt (fun _ => []) n = 0
  | 0 => rfl
  | n + 1 => by simp [Lk.cnt, cnt_none n]
set_option maxHeartbeats 1000000 in
theorem new_yes (n : Nat) (w : World) (h0 : 1 ≤ n) (h1 : n ≤ 128) : Calls Tryz.prog 6 #[.int .i64 (n : Int)] w fun e w' => e = .returned (.tuple #[.pointer (some ⟨w.heap.size + 1, 0, none⟩), .int .i64 0]) ∧ LkAt (fun _ => False) w' w.heap.size (w.heap.size + 1) w.heap.size n (fun _ => []) ∧ Below w.heap.size w w' := by
  have hs1 : (w.alloc (.map #[] 0)).heap.size = w.heap.size + 1 := by simp
  have hC := CsAt.new (w.alloc (.map #[] 0)) 97 #[.int .i64 (n : Int), .map (some w.heap.size)]
  rw [hs1] at hC
  have HL := Lib.hid (show LkAt (fun _ => False) ((w.alloc (.map #[] 0)).alloc (.cells #[.int .i64 (n : Int), .map (some w.heap.size)] 97)) w.heap.size (w.heap.size + 1) w.heap.size n (fun _ => []) from
    ⟨ok_none n, h0, h1, hC.cell 0, hC.cell 1, by omega, Nat.le_refl _, hC.lt, by omega, fun _ hf => hf.elim, .map [], fun _ => none, own_resetL ((World.ownsMap_made w Tryz.prog KI rowElem).alloc _),
      ⟨fun _ _ => rfl, fun _ _ => by simp [Maps.has], by rw [cnt_none]; rfl⟩, fun _ _ => .inl ⟨rfl, rfl⟩, fun _ _ _ _ _ _ e => by simp at e, fun _ _ _ _ _ _ _ _ _ _ _ e => by simp at e⟩)
  have HB := Lib.hid (((Below.refl w.heap.size w).alloc (Nat.le_refl _) (.map #[] 0)).alloc (by simp) (.cells #[.int .i64 (n : Int), .map (some w.heap.size)] 97))
  have hmm := @run_makeMap Tryz.prog
  have g1 : decide ((n : Int) < 1) = false := by simp; omega
  have g2 : decide (128 < (n : Int)) = false := by simp; omega
  clear hC hs1
  go_enter Tryz.func6, Tryz.ntmps6
  go_wp2_with fail
  go_ret2
  exact ⟨rfl, HL.out, HB.out⟩
end Go.Proofs.YtjeolfcefeglpabGreat
