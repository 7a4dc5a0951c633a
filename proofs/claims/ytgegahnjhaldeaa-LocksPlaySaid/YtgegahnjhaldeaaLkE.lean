/-
  Contracts of locks.Held, waited, Waits, waitsFor.
-/
import Derived.Test.YtgegahnjhaldeaaLkD
namespace Go.Proofs.Ytgegahnjhaldeaa
open Go.ChangeShapes Go.WideShapes Go.ChangeAt Go.RowKit

theorem which_c (lv : Value) (F : FuncId) (cs : Array Value) (q : List Int → Bool) (n : Nat) (R : Int → List Int) (w : World) (h : LkV w lv n R) (hT : TellsR w.heap.size w F cs q) (hE : Go.Proofs.Enters Try.prog F) :
    Calls Try.prog 45 #[lv, .func (.func F) #[] cs] w fun e w' => ∃ v, e = .returned v ∧ w'.ownsRow w.heap.size 3 1 v (Lk.which q R n).length (iV (Lk.which q R n)) ∧ Below w.heap.size w w' := by
  rcases h with ⟨rfl, rfl, rfl⟩ | ⟨Z, base, lp, mb, rfl, hL⟩
  · refine (which_nil F cs w).mono ?_
    rintro e w' ⟨rfl, rfl⟩
    exact ⟨_, rfl, World.ownsRow_nil _ _ _ _, Below.refl _ _⟩
  · exact which_some F cs q base lp mb n R w hL hT hE
theorem box1 {w W : World} {v : Value} {t : TypeId} (h : Below (w.alloc (.cells #[v] t)).heap.size (w.alloc (.cells #[v] t)) W) : W.cell? ⟨w.heap.size, 0, none⟩ = some v := by
  rw [h.cell (p := ⟨w.heap.size, 0, none⟩) (by simp)]
  simp [go_sem]
theorem held1_c (p : Option Addr) (cap : Nat) (xs : List Int) (who : Int) (bx : Nat) (w : World) (hv : Vw w p (iV xs)) (hl : xs.length ≤ 8) (hb : w.cell? ⟨bx, 0, none⟩ = some (.int .i64 who)) :
    Calls Try.prog 46 #[.slice p xs.length cap, .pointer (some ⟨bx, 0, none⟩)] w fun e w' => e = .returned (.bool (Lk.holds who xs)) ∧ w = w' := by
  have HV := Lib.hid hv
  clear hv
  go_enter Try.func46, Try.ntmps46
  go_wp2_with fail
  refine (index_c _ _ _ _ _ HV.out (by omega)).mono ?_
  rintro e w' ⟨rfl, rfl⟩
  have HE := Lib.hid (show Lk.holds who xs = (Lk.idx (fun y => who == y) xs == 0) from rfl)
  generalize Lk.idx (fun y => who == y) xs = d at *
  go_wp2_with fail
  go_ret
  exact ⟨by rw [HE.out]; rfl, rfl⟩
theorem waited1_c (p : Option Addr) (cap : Nat) (xs : List Int) (who : Int) (bx : Nat) (w : World) (hv : Vw w p (iV xs)) (hl : xs.length ≤ 8) (hb : w.cell? ⟨bx, 0, none⟩ = some (.int .i64 who)) :
    Calls Try.prog 57 #[.slice p xs.length cap, .pointer (some ⟨bx, 0, none⟩)] w fun e w' => e = .returned (.bool (Lk.waits who xs)) ∧ w = w' := by
  have HV := Lib.hid hv
  clear hv
  go_enter Try.func57, Try.ntmps57
  go_wp2_with fail
  refine (index_c _ _ _ _ _ HV.out (by omega)).mono ?_
  rintro e w' ⟨rfl, rfl⟩
  have HE := Lib.hid (show Lk.waits who xs = decide (Lk.idx (fun y => who == y) xs > 0) from rfl)
  generalize Lk.idx (fun y => who == y) xs = d at *
  go_wp2_with fail
  go_ret
  exact ⟨by rw [HE.out]; rfl, rfl⟩
theorem held1_en : Go.Proofs.Enters Try.prog 46 := enters_of Try.func46 rfl rfl
theorem waited1_en : Go.Proofs.Enters Try.prog 57 := enters_of Try.func57 rfl rfl
set_option maxHeartbeats 1000000 in
theorem held_c (lv : Value) (who : Int) (n : Nat) (R : Int → List Int) (w : World) (h : LkV w lv n R) :
    Calls Try.prog 22 #[lv, .int .i64 who] w fun e w' => ∃ v, e = .returned v ∧ w'.ownsRow w.heap.size 3 1 v (Lk.which (Lk.holds who) R n).length (iV (Lk.which (Lk.holds who) R n)) ∧ Below w.heap.size w w' := by
  have hb := (Below.refl w.heap.size w).alloc (Nat.le_refl _) (.cells #[.int .i64 who] 3)
  have HX := Lib.hid (which_c lv _ #[.pointer (some ⟨w.heap.size, 0, none⟩)] (Lk.holds who) n R _ (h.low hb) (fun p cap xs W hB hv hl => held1_c p cap xs who w.heap.size W hv hl (box1 hB)) held1_en)
  have HB := Lib.hid hb
  clear hb h
  go_enter Try.func22, Try.ntmps22
  go_wp2_with fail
  refine HX.out.mono ?_
  rintro e w1 ⟨v, rfl, hown, hb1⟩
  have HO := Lib.hid (own_mono hown HB.out.size)
  have HB1 := Lib.hid (HB.out.trans (hb1.mono HB.out.size))
  clear hown hb1
  go_wp2_with fail
  go_ret
  exact ⟨_, rfl, HO.out, HB1.out⟩
set_option maxHeartbeats 1000000 in
theorem waited_c (lv : Value) (who : Int) (n : Nat) (R : Int → List Int) (w : World) (h : LkV w lv n R) :
    Calls Try.prog 44 #[lv, .int .i64 who] w fun e w' => ∃ v, e = .returned v ∧ w'.ownsRow w.heap.size 3 1 v (Lk.which (Lk.waits who) R n).length (iV (Lk.which (Lk.waits who) R n)) ∧ Below w.heap.size w w' := by
  have hb := (Below.refl w.heap.size w).alloc (Nat.le_refl _) (.cells #[.int .i64 who] 3)
  have HX := Lib.hid (which_c lv _ #[.pointer (some ⟨w.heap.size, 0, none⟩)] (Lk.waits who) n R _ (h.low hb) (fun p cap xs W hB hv hl => waited1_c p cap xs who w.heap.size W hv hl (box1 hB)) waited1_en)
  have HB := Lib.hid hb
  clear hb h
  go_enter Try.func44, Try.ntmps44
  go_wp2_with fail
  refine HX.out.mono ?_
  rintro e w1 ⟨v, rfl, hown, hb1⟩
  have HO := Lib.hid (own_mono hown HB.out.size)
  have HB1 := Lib.hid (HB.out.trans (hb1.mono HB.out.size))
  clear hown hb1
  go_wp2_with fail
  go_ret
  exact ⟨_, rfl, HO.out, HB1.out⟩
set_option maxHeartbeats 1000000 in
theorem waits_c (lv : Value) (who : Int) (n : Nat) (R : Int → List Int) (w : World) (h : LkV w lv n R) :
    Calls Try.prog 20 #[lv, .int .i64 who] w fun e w' => e = .returned (.tuple #[.int .i64 ((Lk.which (Lk.waits who) R n).getD 0 0), .bool (decide (Lk.which (Lk.waits who) R n ≠ []))]) ∧ Below w.heap.size w w' := by
  have HX := Lib.hid (waited_c lv who n R w h)
  have hlen := Nat.le_trans (Lk.which_len (Lk.waits who) R n) h.le
  clear h
  generalize Lk.which (Lk.waits who) R n = xs at *
  obtain ⟨y, hy⟩ : ∃ y, xs.getD 0 0 = y := ⟨_, rfl⟩
  have HY := Lib.hid hy
  go_enter Try.func20, Try.ntmps20
  go_wp2_with fail
  refine HX.out.mono ?_
  rintro e w' ⟨v, rfl, hown, hb⟩
  have HB := Lib.hid hb
  obtain ⟨p, cap, rfl, hv, hle, -⟩ := own_form hown
  clear hown hb
  by_cases hp : 0 < xs.length
  · obtain ⟨b, off, rfl, -, hc⟩ := hv.cells hp
    have c := hc 0 hp
    have g : (0 : Int) < xs.length := by omega
    have g2 : ((xs.length : Int) == 0) = false := beq_eq_false_iff_ne.2 (by omega)
    have HE := Lib.hid (show decide (xs ≠ []) = true by simp; exact fun e => by simp [e] at hp)
    rw [Nat.add_zero, hy] at c
    clear hc hv hy
    go_wp2_with fail
    go_ret2
    exact ⟨by rw [HE.out, HY.out]; rfl, HB.out⟩
  · obtain rfl := len_zero hp
    go_wp2_with fail
    go_ret2
    exact ⟨rfl, HB.out⟩
namespace Lk
/-- Does one wait at a lock whose holder is one of some? -/
def waitsFor (R : Int → List Int) (n : Nat) (who : Int) (ss : List Int) : Bool := (which (waits who) R n).any fun lock => ss.any fun y => (R lock).getD 0 0 == y
end Lk
set_option maxHeartbeats 1000000 in
theorem waitsFor1_c (lq : Option Addr) (n : Nat) (R : Int → List Int) (x : Int) (hx : InI x) (p : Option Addr) (cap : Nat) (ss : List Int) (bl bs : Nat) (w : World) (h : LkV w (.pointer lq) n R) (hv : Vw w p (iV ss)) (hl : ss.length ≤ 8)
    (hb : w.cell? ⟨bl, 0, none⟩ = some (.pointer lq)) (hc : w.cell? ⟨bs, 0, none⟩ = some (.slice p ss.length cap)) :
    Calls Try.prog 56 #[.int .i64 x, .pointer (some ⟨bl, 0, none⟩), .pointer (some ⟨bs, 0, none⟩)] w fun e w' => e = .returned (.bool (ss.any fun y => (R x).getD 0 0 == y)) ∧ w = w' := by
  have HX := Lib.hid (holder_c (.pointer lq) x n R w h hx)
  have HV := Lib.hid hv
  clear h hv
  generalize (R x).getD 0 0 = d at *
  generalize decide (R x ≠ []) = d2 at *
  go_enter Try.func56, Try.ntmps56
  go_wp2_with fail
  refine HX.out.mono ?_
  rintro e w' ⟨rfl, rfl⟩
  go_wp2_with fail
  refine (contains_c _ _ _ _ _ HV.out (by omega)).mono ?_
  rintro e w' ⟨rfl, rfl⟩
  go_wp2_with fail
  go_ret
  exact ⟨rfl, rfl⟩
theorem waitsFor1_en : Go.Proofs.Enters Try.prog 56 := enters_of Try.func56 rfl rfl
theorem which_in (q : List Int → Bool) (R : Int → List Int) (n : Nat) (hn : n ≤ 128) (j : Nat) (hj : j < (Lk.which q R n).length) : InI ((Lk.which q R n).getD j 0) := by
  have hm : (Lk.which q R n).getD j 0 ∈ Lk.which q R n := by
    rw [List.getD, List.getElem?_eq_getElem hj]
    exact List.getElem_mem hj
  have := (Lk.which_mem q R n _).1 hm
  unfold InI
  omega
set_option maxHeartbeats 2000000 in
theorem waitsFor_c (lq : Option Addr) (who : Int) (n : Nat) (R : Int → List Int) (p : Option Addr) (cap : Nat) (ss : List Int) (w : World) (h : LkV w (.pointer lq) n R) (hv : Vw w p (iV ss)) (hl : ss.length ≤ 8) :
    Calls Try.prog 42 #[.pointer lq, .int .i64 who, .slice p ss.length cap] w fun e w' => e = .returned (.bool (Lk.waitsFor R n who ss)) ∧ Below w.heap.size w w' := by
  have hb1 := (Below.refl w.heap.size w).alloc (Nat.le_refl _) (.cells #[.pointer lq] 25)
  have hb2 := (Below.refl (w.alloc (.cells #[.pointer lq] 25)).heap.size (w.alloc (.cells #[.pointer lq] 25))).alloc (Nat.le_refl _) (.cells #[.slice p ss.length cap] 36)
  have hs1 : (w.alloc (.cells #[.pointer lq] 25)).heap.size = w.heap.size + 1 := by simp
  have c1 := box1 hb2
  have HB := Lib.hid (hb1.trans (hb2.mono hb1.size))
  have HL := Lib.hid ((h.low hb1).low hb2)
  have HV := Lib.hid ((hv.low hb1).low hb2)
  have c2 := box1 (Below.refl ((w.alloc (.cells #[.pointer lq] 25)).alloc (.cells #[.slice p ss.length cap] 36)).heap.size ((w.alloc (.cells #[.pointer lq] 25)).alloc (.cells #[.slice p ss.length cap] 36)))
  have hN := h.le
  rw [hs1] at c2
  clear hb1 hb2 h hv hs1
  go_enter Try.func42, Try.ntmps42
  go_upto_region 1 with (fail)
  generalize ((w.alloc (.cells #[.pointer lq] 25)).alloc (.cells #[.slice p ss.length cap] 36)) = w1 at *
  have HT := Lib.hid (show Tells w1.heap.size (fun W => Below w1.heap.size w1 W) 56 #[.pointer (some ⟨w.heap.size, 0, none⟩), .pointer (some ⟨w.heap.size + 1, 0, none⟩)] (fun x => ss.any fun y => (R x).getD 0 0 == y) from
    ⟨fun x W hx hS _ => (waitsFor1_c lq n R x hx p cap ss w.heap.size (w.heap.size + 1) W (HL.out.low hS) (HV.out.low hS) hl ((hS.cell (p := ⟨w.heap.size, 0, none⟩) (World.block_lt_of_cell? w1 _ c1)).trans c1) ((hS.cell (p := ⟨w.heap.size + 1, 0, none⟩) (World.block_lt_of_cell? w1 _ c2)).trans c2)).mono fun e w' h => ⟨h.1, h.2 ▸ Below.refl _ _⟩,
      fun W W' hS hb => hS.trans hb, waitsFor1_en⟩)
  have HW := Lib.hid (waited_c (.pointer lq) who n R w1 HL.out)
  clear c2
  go_wp2_with fail
  refine HW.out.mono ?_
  rintro e w2 ⟨v, rfl, hown, hb2⟩
  have HB2 := Lib.hid hb2
  obtain ⟨p3, cap3, rfl, hv3, -, -⟩ := own_form hown
  have HC := Lib.hid (containsF_c w1.heap.size _ _ _ _ HT.out p3 cap3 (Lk.which (Lk.waits who) R n) w2 hb2 hb2.size hv3 (which_in _ R n hN) (by have := Lk.which_len (Lk.waits who) R n; omega))
  clear hb2 hown hv3 c1
  have HE := Lib.hid (show Lk.waitsFor R n who ss = (Lk.which (Lk.waits who) R n).any (fun x => ss.any fun y => (R x).getD 0 0 == y) from rfl)
  go_wp2_with fail
  refine HC.out.mono ?_
  rintro e w3 ⟨rfl, hb3⟩
  have HB3 := Lib.hid ((HB.out.trans (HB2.out.mono HB.out.size)).trans (hb3.mono (Nat.le_trans HB.out.size HB2.out.size)))
  clear hb3
  go_wp2_with fail
  go_ret
  exact ⟨by rw [HE.out]; rfl, HB3.out⟩
end Go.Proofs.Ytgegahnjhaldeaa
