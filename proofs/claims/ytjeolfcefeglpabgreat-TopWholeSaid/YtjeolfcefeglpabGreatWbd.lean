/-
  Contracts of locks.has, Holder, Queue, which, Held, waited, Waits. Contracts of locks.Held, waited, Waits, waitsFor. Contract of locks.Stuck.
-/
import Derived.Test.YtjeolfcefeglpabGreatWbc
set_option maxRecDepth 20000
namespace Go.Proofs.YtjeolfcefeglpabGreat
open Go.ChangeShapes Go.WideShapes Go.ChangeAt Go.RowKit
variable {Z : Nat → Prop}

namespace Lk
/-- The locks below k whose rows are such. -/
def which (q : List Int → Bool) (R : Int → List Int) : Nat → List Int
  | 0 => []
  | k + 1 => which q R k ++ (if q (R k) then [(k : Int)] else [])
theorem which_len (q : List Int → Bool) (R : Int → List Int) : ∀ k, (which q R k).length ≤ k
  | 0 => Nat.le_refl _
  | k + 1 => by
    have := which_len q R k
    simp only [which, List.length_append]
    split <;> simp <;> omega
theorem which_none (q : List Int → Bool) (hq : q [] = false) : ∀ k, which q (fun _ => []) k = []
  | 0 => rfl
  | k + 1 => by simp [which, hq, which_none q hq k]
theorem which_mem (q : List Int → Bool) (R : Int → List Int) : ∀ (k : Nat) (x : Int), x ∈ which q R k ↔ 0 ≤ x ∧ x < k ∧ q (R x) = true
  | 0, x => by simp [which]; omega
  | k + 1, x => by
    simp only [which, List.mem_append, which_mem q R k x]
    constructor
    · rintro (⟨h0, h1, h2⟩ | h)
      · exact ⟨h0, by omega, h2⟩
      · split at h
        · rename_i hq
          obtain rfl : x = k := by simpa using h
          exact ⟨by omega, by omega, hq⟩
        · simp at h
    · rintro ⟨h0, h1, h2⟩
      by_cases e : x = k
      · subst e
        right
        rw [if_pos h2]
        simp
      · exact .inl ⟨h0, by omega, h2⟩
/-- Is there such a one, and such a lock? -/
def has (who at_ : Int) (n : Nat) : Bool := decide (0 ≤ who ∧ who < 8 ∧ 0 ≤ at_ ∧ at_ < (n : Int))
theorem has_iff {who at_ : Int} {n : Nat} : has who at_ n = true ↔ 0 ≤ who ∧ who < 8 ∧ 0 ≤ at_ ∧ at_ < (n : Int) := by simp [has]
theorem has_no {who at_ : Int} {n : Nat} (h : ¬ (0 ≤ who ∧ who < 8 ∧ 0 ≤ at_ ∧ at_ < (n : Int))) : has who at_ n = false := by unfold has; simpa using h
def holds (who : Int) (row : List Int) : Bool := idx (fun y => who == y) row == 0
def waits (who : Int) (row : List Int) : Bool := decide (idx (fun y => who == y) row > 0)
end Lk
theorem InI.lock {k n : Nat} (h : k < n) (hn : n ≤ 128) : InI (k : Int) := by unfold InI; omega

set_option maxHeartbeats 1000000 in
theorem lhas_c (lv : Value) (who at_ : Int) (n : Nat) (R : Int → List Int) (w : World) (h : LkV w lv n R) :
    Calls Tryz.prog 113 #[lv, .int .i64 who, .int .i64 at_] w fun e w' => e = .returned (.bool (Lk.has who at_ n)) ∧ w = w' := by
  rcases h with ⟨rfl, rfl, rfl⟩ | ⟨Z, base, lp, mb, rfl, hL⟩
  · have HE := Lib.hid (show Lk.has who at_ 0 = false from Lk.has_no (by omega))
    go_enter Tryz.func113, Tryz.ntmps113
    go_wp2_with fail
    go_ret
    exact ⟨by rw [HE.out]; rfl, rfl⟩
  · have c0 := hL.c0
    clear hL
    by_cases h1 : 0 ≤ who
    · by_cases h2 : who < 8
      · by_cases h3 : 0 ≤ at_
        · by_cases h4 : at_ < n
          · have HE := Lib.hid (show Lk.has who at_ n = true from Lk.has_iff.2 (by omega))
            go_enter Tryz.func113, Tryz.ntmps113
            go_wp2_with fail
            go_ret
            exact ⟨by rw [HE.out]; rfl, rfl⟩
          · have HE := Lib.hid (show Lk.has who at_ n = false from Lk.has_no (by omega))
            go_enter Tryz.func113, Tryz.ntmps113
            go_wp2_with fail
            go_ret
            exact ⟨by rw [HE.out]; rfl, rfl⟩
        · have HE := Lib.hid (show Lk.has who at_ n = false from Lk.has_no (by omega))
          go_enter Tryz.func113, Tryz.ntmps113
          go_wp2_with fail
          go_ret
          exact ⟨by rw [HE.out]; rfl, rfl⟩
      · have HE := Lib.hid (show Lk.has who at_ n = false from Lk.has_no (by omega))
        go_enter Tryz.func113, Tryz.ntmps113
        go_wp2_with fail
        go_ret
        exact ⟨by rw [HE.out]; rfl, rfl⟩
    · have HE := Lib.hid (show Lk.has who at_ n = false from Lk.has_no (by omega))
      go_enter Tryz.func113, Tryz.ntmps113
      go_wp2_with fail
      go_ret
      exact ⟨by rw [HE.out]; rfl, rfl⟩
set_option maxHeartbeats 1000000 in
theorem holder_c (lv : Value) (i : Int) (n : Nat) (R : Int → List Int) (w : World) (h : LkV w lv n R) (hi : InI i) :
    Calls Tryz.prog 13 #[lv, .int .i64 i] w fun e w' => e = .returned (.tuple #[.int .i64 ((R i).getD 0 0), .bool (decide (R i ≠ []))]) ∧ w = w' := by
  have HX := Lib.hid (row_c lv i n R w h hi)
  have hlen := h.ok.len i
  clear h
  generalize R i = xs at *
  obtain ⟨y, hy⟩ : ∃ y, xs.getD 0 0 = y := ⟨_, rfl⟩
  have HY := Lib.hid hy
  go_enter Tryz.func13, Tryz.ntmps13
  go_wp2_with fail
  refine HX.out.mono ?_
  rintro e w' ⟨⟨p, cap, rfl, hv, -⟩, rfl⟩
  by_cases hp : 0 < xs.length
  · obtain ⟨b, off, rfl, -, hc⟩ := hv.cells hp
    have c := hc 0 hp
    have g : (0 : Int) < xs.length := by omega
    have g2 : ((xs.length : Int) == 0) = false := beq_eq_false_iff_ne.2 (by omega)
    have HE := Lib.hid (show decide (xs ≠ []) = true by simp; exact fun e => by simp [e] at hp)
    rw [Nat.add_zero, hy] at c
    clear hc hv hy
    go_wp2_with fail
    go_ret2
    exact ⟨by rw [HE.out, HY.out]; rfl, rfl⟩
  · obtain rfl := len_zero hp
    go_wp2_with fail
    go_ret2
    exact ⟨rfl, rfl⟩
theorem one_int (k : Int) : (#[Value.int .i64 k] : Array Value).all (·.oneCell') = true := by simp [Value.oneCell']
/-- A function value that tells q of rows, as long as nothing below N changes. -/
def TellsR (N : Nat) (w0 : World) (F : FuncId) (cs : Array Value) (q : List Int → Bool) : Prop :=
  ∀ (p : Option Addr) (cap : Nat) (xs : List Int) (W : World), Below N w0 W → Vw W p (iV xs) → xs.length ≤ 8 → Calls Tryz.prog F (#[.slice p xs.length cap] ++ cs) W fun e W' => e = .returned (.bool (q xs)) ∧ W = W'
set_option maxHeartbeats 2000000 in
theorem which_nil (F : FuncId) (cs : Array Value) (w : World) :
    Calls Tryz.prog 142 #[.pointer none, .func (.func F) #[] cs] w fun e w' => e = .returned (.slice none 0 0) ∧ w = w' := by
  go_enter Tryz.func142, Tryz.ntmps142
  go_wp2_with fail
  go_ret
  exact ⟨rfl, rfl⟩
set_option maxHeartbeats 4000000 in
theorem which_some (F : FuncId) (cs : Array Value) (q : List Int → Bool) (base lp mb n : Nat) (R : Int → List Int) (w : World) (h : LkAt Z w base lp mb n R) (hT : TellsR w.heap.size w F cs q) (hE : Go.Proofs.Enters Tryz.prog F) :
    Calls Tryz.prog 142 #[.pointer (some ⟨lp, 0, none⟩), .func (.func F) #[] cs] w fun e w' => ∃ v, e = .returned v ∧ w'.ownsRow w.heap.size 3 1 v (Lk.which q R n).length (iV (Lk.which q R n)) ∧ Below w.heap.size w w' := by
  have HH := Lib.hid h
  have HT := Lib.hid hT
  have HE := Lib.hid hE
  have hn := h.n1
  have c0 := h.c0
  clear h hT hE
  go_enter Tryz.func142, Tryz.ntmps142
  go_wp2_with fail
  go_loopw [5, 6, 13] (fun lv _ iv wr => ∃ k : Nat, k ≤ n ∧ iv = .int .i64 k ∧ wr.ownsRow w.heap.size 3 1 lv (Lk.which q R k).length (iV (Lk.which q R k)) ∧ Below w.heap.size w wr) (fun _ _ iv _ => n - (intOf iv).toNat)
  case atStart => exact ⟨0, Nat.zero_le _, rfl, World.ownsRow_nil _ _ _ _, Below.refl _ _⟩
  case round =>
    obtain ⟨k, hk, rfl, hown, hb⟩ := hrel
    have HO := Lib.hid hown
    have HB := Lib.hid hb
    clear hown hb c0
    by_cases hlt : k < n
    · have HL := Lib.hid (show LkV wr (.pointer (some ⟨lp, 0, none⟩)) n R from .inr ⟨_, base, lp, mb, rfl, HH.out.low HB.out⟩)
      have hl8 := HH.out.ok.len k
      have g : (k : Int) < n := by omega
      go_wp2_with fail
      refine (row_c _ _ _ _ _ HL.out (InI.lock hlt hn)).mono ?_
      rintro e w1 ⟨⟨p, cap, rfl, hv, -⟩, rfl⟩
      have HQ := Lib.hid (HT.out p cap (R k) wr HB.out hv hl8)
      have HW := Lib.hid (show Lk.which q R (k + 1) = Lk.which q R k ++ (if q (R k) then [(k : Int)] else []) from rfl)
      have hwl := Lk.which_len q R k
      have HV := Lib.hid hv
      clear hv
      cases hq : q (R k)
      · rw [hq] at HQ HW
        go_wp2_with fail
        rw [HE.out]
        refine HQ.out.mono ?_
        rintro e w2 ⟨rfl, rfl⟩
        go_wp2_with fail
        go_roundw
        case rel => exact ⟨k + 1, by omega, by go_num, by rw [HW.out]; simpa using HO.out, HB.out⟩
        case measure => simp [intOf]; omega
      · rw [hq] at HQ HW
        go_wp2_with fail
        rw [HE.out]
        refine HQ.out.mono ?_
        rintro e w2 ⟨rfl, rfl⟩
        have hsz := HB.out.size
        have hwl2 : (Lk.which q R k).length < 1000000 := by omega
        go_wp2_with (at_builtin; refine wpList_push rfl _ _ 45 rfl w.heap.size 3 _ 1 8 Tryz.underlying45 info_intL rfl (by omega) (by omega) _ (Lk.which q R k).length _ rfl HO.out #[.int .i64 k] rfl (one_int k) _ rfl (by simp) hwl2 hsz ?_)
        intro v' w' hown' hb'
        have HO2 := Lib.hid (show w'.ownsRow w.heap.size 3 1 v' (Lk.which q R (k + 1)).length (iV (Lk.which q R (k + 1))) by rw [HW.out]; simpa using hown')
        have HB2 := Lib.hid (HB.out.trans hb')
        clear hown' hb'
        go_wp2_with fail
        go_roundw
        case rel => exact ⟨k + 1, by omega, by go_num, HO2.out, HB2.out⟩
        case measure => simp [intOf]; omega
    · obtain rfl : k = n := by omega
      go_wp2_with fail
      go_ret
      exact ⟨_, rfl, HO.out, HB.out⟩
end Go.Proofs.YtjeolfcefeglpabGreat
set_option maxRecDepth 20000
namespace Go.Proofs.YtjeolfcefeglpabGreat
open Go.ChangeShapes Go.WideShapes Go.ChangeAt Go.RowKit

theorem which_c (lv : Value) (F : FuncId) (cs : Array Value) (q : List Int → Bool) (n : Nat) (R : Int → List Int) (w : World) (h : LkV w lv n R) (hT : TellsR w.heap.size w F cs q) (hE : Go.Proofs.Enters Tryz.prog F) :
    Calls Tryz.prog 142 #[lv, .func (.func F) #[] cs] w fun e w' => ∃ v, e = .returned v ∧ w'.ownsRow w.heap.size 3 1 v (Lk.which q R n).length (iV (Lk.which q R n)) ∧ Below w.heap.size w w' := by
  rcases h with ⟨rfl, rfl, rfl⟩ | ⟨Z, base, lp, mb, rfl, hL⟩
  · refine (which_nil F cs w).mono ?_
    rintro e w' ⟨rfl, rfl⟩
    exact ⟨_, rfl, World.ownsRow_nil _ _ _ _, Below.refl _ _⟩
  · exact which_some F cs q base lp mb n R w hL hT hE
theorem box1 {w W : World} {v : Value} {t : TypeId} (h : Below (w.alloc (.cells #[v] t)).heap.size (w.alloc (.cells #[v] t)) W) : W.cell? ⟨w.heap.size, 0, none⟩ = some v := by
  rw [h.cell (p := ⟨w.heap.size, 0, none⟩) (by simp)]
  simp [go_sem]
theorem waited1_c (p : Option Addr) (cap : Nat) (xs : List Int) (who : Int) (bx : Nat) (w : World) (hv : Vw w p (iV xs)) (hl : xs.length ≤ 8) (hb : w.cell? ⟨bx, 0, none⟩ = some (.int .i64 who)) :
    Calls Tryz.prog 143 #[.slice p xs.length cap, .pointer (some ⟨bx, 0, none⟩)] w fun e w' => e = .returned (.bool (Lk.waits who xs)) ∧ w = w' := by
  have HV := Lib.hid hv
  clear hv
  go_enter Tryz.func143, Tryz.ntmps143
  go_wp2_with fail
  refine (index_c _ _ _ _ _ HV.out (by omega)).mono ?_
  rintro e w' ⟨rfl, rfl⟩
  have HE := Lib.hid (show Lk.waits who xs = decide (Lk.idx (fun y => who == y) xs > 0) from rfl)
  generalize Lk.idx (fun y => who == y) xs = d at *
  go_wp2_with fail
  go_ret
  exact ⟨by rw [HE.out]; rfl, rfl⟩
theorem waited1_en : Go.Proofs.Enters Tryz.prog 143 := enters_of Tryz.func143 rfl rfl
set_option maxHeartbeats 1000000 in
theorem waited_c (lv : Value) (who : Int) (n : Nat) (R : Int → List Int) (w : World) (h : LkV w lv n R) :
    Calls Tryz.prog 95 #[lv, .int .i64 who] w fun e w' => ∃ v, e = .returned v ∧ w'.ownsRow w.heap.size 3 1 v (Lk.which (Lk.waits who) R n).length (iV (Lk.which (Lk.waits who) R n)) ∧ Below w.heap.size w w' := by
  have hb := (Below.refl w.heap.size w).alloc (Nat.le_refl _) (.cells #[.int .i64 who] 3)
  have HX := Lib.hid (which_c lv _ #[.pointer (some ⟨w.heap.size, 0, none⟩)] (Lk.waits who) n R _ (h.low hb) (fun p cap xs W hB hv hl => waited1_c p cap xs who w.heap.size W hv hl (box1 hB)) waited1_en)
  have HB := Lib.hid hb
  clear hb h
  go_enter Tryz.func95, Tryz.ntmps95
  go_wp2_with fail
  refine HX.out.mono ?_
  rintro e w1 ⟨v, rfl, hown, hb1⟩
  have HO := Lib.hid (own_mono hown HB.out.size)
  have HB1 := Lib.hid (HB.out.trans (hb1.mono HB.out.size))
  clear hown hb1
  go_wp2_with fail
  go_ret
  exact ⟨_, rfl, HO.out, HB1.out⟩
namespace Lk
/-- Does one wait at a lock whose holder is one of some? -/
def waitsFor (R : Int → List Int) (n : Nat) (who : Int) (ss : List Int) : Bool := (which (waits who) R n).any fun lock => ss.any fun y => (R lock).getD 0 0 == y
end Lk
set_option maxHeartbeats 1000000 in
theorem waitsFor1_c (lq : Option Addr) (n : Nat) (R : Int → List Int) (x : Int) (hx : InI x) (p : Option Addr) (cap : Nat) (ss : List Int) (bl bs : Nat) (w : World) (h : LkV w (.pointer lq) n R) (hv : Vw w p (iV ss)) (hl : ss.length ≤ 8)
    (hb : w.cell? ⟨bl, 0, none⟩ = some (.pointer lq)) (hc : w.cell? ⟨bs, 0, none⟩ = some (.slice p ss.length cap)) :
    Calls Tryz.prog 96 #[.int .i64 x, .pointer (some ⟨bl, 0, none⟩), .pointer (some ⟨bs, 0, none⟩)] w fun e w' => e = .returned (.bool (ss.any fun y => (R x).getD 0 0 == y)) ∧ w = w' := by
  have HX := Lib.hid (holder_c (.pointer lq) x n R w h hx)
  have HV := Lib.hid hv
  clear h hv
  generalize (R x).getD 0 0 = d at *
  generalize decide (R x ≠ []) = d2 at *
  go_enter Tryz.func96, Tryz.ntmps96
  go_wp2_with fail
  refine HX.out.mono ?_
  rintro e w' ⟨rfl, rfl⟩
  go_wp2_with fail
  refine (contains_c _ _ _ _ _ HV.out (by omega)).mono ?_
  rintro e w' ⟨rfl, rfl⟩
  go_wp2_with fail
  go_ret
  exact ⟨rfl, rfl⟩
theorem waitsFor1_en : Go.Proofs.Enters Tryz.prog 96 := enters_of Tryz.func96 rfl rfl
theorem which_in (q : List Int → Bool) (R : Int → List Int) (n : Nat) (hn : n ≤ 128) (j : Nat) (hj : j < (Lk.which q R n).length) : InI ((Lk.which q R n).getD j 0) := by
  have hm : (Lk.which q R n).getD j 0 ∈ Lk.which q R n := by
    rw [List.getD, List.getElem?_eq_getElem hj]
    exact List.getElem_mem hj
  have := (Lk.which_mem q R n _).1 hm
  unfold InI
  omega
set_option maxHeartbeats 2000000 in
theorem waitsFor_c (lq : Option Addr) (who : Int) (n : Nat) (R : Int → List Int) (p : Option Addr) (cap : Nat) (ss : List Int) (w : World) (h : LkV w (.pointer lq) n R) (hv : Vw w p (iV ss)) (hl : ss.length ≤ 8) :
    Calls Tryz.prog 53 #[.pointer lq, .int .i64 who, .slice p ss.length cap] w fun e w' => e = .returned (.bool (Lk.waitsFor R n who ss)) ∧ Below w.heap.size w w' := by
  have hb1 := (Below.refl w.heap.size w).alloc (Nat.le_refl _) (.cells #[.pointer lq] 31)
  have hb2 := (Below.refl (w.alloc (.cells #[.pointer lq] 31)).heap.size (w.alloc (.cells #[.pointer lq] 31))).alloc (Nat.le_refl _) (.cells #[.slice p ss.length cap] 45)
  have hs1 : (w.alloc (.cells #[.pointer lq] 31)).heap.size = w.heap.size + 1 := by simp
  have c1 := box1 hb2
  have HB := Lib.hid (hb1.trans (hb2.mono hb1.size))
  have HL := Lib.hid ((h.low hb1).low hb2)
  have HV := Lib.hid ((hv.low hb1).low hb2)
  have c2 := box1 (Below.refl ((w.alloc (.cells #[.pointer lq] 31)).alloc (.cells #[.slice p ss.length cap] 45)).heap.size ((w.alloc (.cells #[.pointer lq] 31)).alloc (.cells #[.slice p ss.length cap] 45)))
  have hN := h.le
  rw [hs1] at c2
  clear hb1 hb2 h hv hs1
  go_enter Tryz.func53, Tryz.ntmps53
  go_upto_region 1 with (fail)
  generalize ((w.alloc (.cells #[.pointer lq] 31)).alloc (.cells #[.slice p ss.length cap] 45)) = w1 at *
  have HT := Lib.hid (show Tells w1.heap.size (fun W => Below w1.heap.size w1 W) 96 #[.pointer (some ⟨w.heap.size, 0, none⟩), .pointer (some ⟨w.heap.size + 1, 0, none⟩)] (fun x => ss.any fun y => (R x).getD 0 0 == y) from
    ⟨fun x W hx hS _ => (waitsFor1_c lq n R x hx p cap ss w.heap.size (w.heap.size + 1) W (HL.out.low hS) (HV.out.low hS) hl ((hS.cell (p := ⟨w.heap.size, 0, none⟩) (World.block_lt_of_cell? w1 _ c1)).trans c1) ((hS.cell (p := ⟨w.heap.size + 1, 0, none⟩) (World.block_lt_of_cell? w1 _ c2)).trans c2)).mono fun e w' h => ⟨h.1, h.2 ▸ Below.refl _ _⟩,
      fun W W' hS hb => hS.trans hb, waitsFor1_en⟩)
  have HW := Lib.hid (waited_c (.pointer lq) who n R w1 HL.out)
  clear c2
  go_wp2_with fail
  refine HW.out.mono ?_
  rintro e w2 ⟨v, rfl, hown, hb2⟩
  have HB2 := Lib.hid hb2
  obtain ⟨p3, cap3, rfl, hv3, -, -⟩ := own_form hown
  have HC := Lib.hid (containsF_c w1.heap.size _ _ _ _ HT.out p3 cap3 (Lk.which (Lk.waits who) R n) w2 hb2 hb2.size hv3 (which_in _ R n hN) (by have := Lk.which_len (Lk.waits who) R n; omega))
  clear hb2 hown hv3 c1
  have HE := Lib.hid (show Lk.waitsFor R n who ss = (Lk.which (Lk.waits who) R n).any (fun x => ss.any fun y => (R x).getD 0 0 == y) from rfl)
  go_wp2_with fail
  refine HC.out.mono ?_
  rintro e w3 ⟨rfl, hb3⟩
  have HB3 := Lib.hid ((HB.out.trans (HB2.out.mono HB.out.size)).trans (hb3.mono (Nat.le_trans HB.out.size HB2.out.size)))
  clear hb3
  go_wp2_with fail
  go_ret
  exact ⟨by rw [HE.out]; rfl, HB3.out⟩
end Go.Proofs.YtjeolfcefeglpabGreat
set_option maxRecDepth 20000
namespace Go.Proofs.YtjeolfcefeglpabGreat
open Go.ChangeShapes Go.WideShapes Go.ChangeAt Go.RowKit

theorem own_far {w : World} {base : Nat} {e : TypeId} {size : Nat} {v : Value} {n : Nat} {xs : List Value} (h : w.ownsRow base e size v n xs) {c i : Nat} (hc : c < base) (u : Value) : (w.setCell ⟨c, i, none⟩ u).ownsRow base e size v n xs := by
  refine ⟨h.1, h.2.imp id ?_⟩
  rintro ⟨g, cap, cur, rfl, h1, h2, h3⟩
  exact ⟨g, cap, cur, rfl, h1, (heap_setCell_other w ⟨c, i, none⟩ g u (show g ≠ c by omega)).trans h2, h3⟩
theorem own_form2 {w : World} {base : Nat} {e : TypeId} {size : Nat} {v : Value} {n : Nat} {xs : List Value} (h : w.ownsRow base e size v n xs) : ∃ p cap, v = .slice p n cap ∧ Vw w p xs ∧ n ≤ cap ∧ (p = none ∧ cap = 0 ∨ ∃ b off, p = some ⟨b, off, none⟩) := by
  obtain ⟨p, cap, rfl, hv, hle, -⟩ := own_form h
  refine ⟨p, cap, rfl, hv, hle, ?_⟩
  rcases h.2 with ⟨h', -⟩ | ⟨g, cap', cur, h', -⟩
  · simp only [Value.slice.injEq] at h'
    exact .inl ⟨h'.1, h'.2.2⟩
  · simp only [Value.slice.injEq] at h'
    exact .inr ⟨g, 0, h'.1⟩
theorem delete_nil (F : FuncId) (cs : Array Value) (w : World) : Calls Tryz.prog 51 #[.slice none 0 0, .func (.func F) #[] cs] w fun e w' => e = .returned (.slice none 0 0) ∧ Below w.heap.size w w' := by
  have HX := Lib.hid (show Calls Tryz.prog 93 #[.slice none 0 0, .func (.func F) #[] cs] w fun e w' => e = .returned (.int .i64 (-1)) ∧ Below w.heap.size w w' by
    go_enter Tryz.func93, Tryz.ntmps93
    go_wp2_with fail
    go_loop [5, 8] (fun _ iv => iv = .int .i64 0) (fun _ _ => 0)
    case atStart => rfl
    case round =>
      subst hrel
      go_wp2_with fail
      go_ret
      exact ⟨rfl, Below.refl _ _⟩)
  go_enter Tryz.func51, Tryz.ntmps51
  go_wp2_with fail
  refine HX.out.mono ?_
  rintro e w' ⟨rfl, hb⟩
  have HB := Lib.hid hb
  clear hb
  go_wp2_with fail
  go_ret
  exact ⟨rfl, HB.out⟩
/-- DeleteFunc of numbers that the call owns. -/
theorem deleteO_c (base : Nat) (S : World → Prop) (F : FuncId) (cs : Array Value) (f : Int → Bool) (hT : Tells base S F cs f) (v : Value) (xs : List Int) (w : World) (hS : S w) (hbs : base ≤ w.heap.size) (hI : w.ownsRow base 3 1 v xs.length (iV xs)) (hi : ∀ j, j < xs.length → InI (xs.getD j 0)) (hbig : xs.length ≤ 1000000) :
    Calls Tryz.prog 51 #[v, .func (.func F) #[] cs] w fun e w' => ∃ v', e = .returned v' ∧ w'.ownsRow base 3 1 v' (xs.filter fun x => !f x).length (iV (xs.filter fun x => !f x)) ∧ Below base w w' := by
  obtain ⟨p, cap, rfl, hv, hle, hp⟩ := own_form2 hI
  rcases hI.2 with ⟨h', -⟩ | ⟨g, cap', cur, h', -⟩
  · simp only [Value.slice.injEq] at h'
    obtain ⟨rfl, h2, rfl⟩ := h'
    obtain rfl : xs = [] := List.length_eq_zero_iff.1 h2
    refine (delete_nil F cs w).mono ?_
    rintro e w' ⟨rfl, hb⟩
    exact ⟨_, rfl, World.ownsRow_nil _ _ _ _, hb.mono hbs⟩
  · simp only [Value.slice.injEq] at h'
    obtain ⟨rfl, -, rfl⟩ := h'
    refine (delete_c base g cap S F cs f hT xs w hS hbs ⟨hI⟩ hle hi hbig).mono ?_
    rintro e w' ⟨rfl, h1, h2⟩
    exact ⟨_, rfl, h1.own, h2⟩

namespace Lk
def iota (k : Nat) : List Int := (List.range k).map Int.ofNat
theorem iota_succ (k : Nat) : iota (k + 1) = iota k ++ [(k : Int)] := by
  unfold iota
  rw [List.range_succ, List.map_append]
  rfl
theorem iota_len (k : Nat) : (iota k).length = k := by simp [iota]
def step (R : Int → List Int) (n : Nat) (ss : List Int) : List Int := ss.filter fun x => !(!waitsFor R n x ss)
theorem step_le (R : Int → List Int) (n : Nat) (ss : List Int) : (step R n ss).length ≤ ss.length := List.length_filter_le _ _
def stuckF (R : Int → List Int) (n : Nat) : Nat → List Int → List Int
  | 0, ss => ss
  | k + 1, ss => if (step R n ss).length = ss.length then step R n ss else stuckF R n k (step R n ss)
/-- Who can never go on. -/
def stuck (R : Int → List Int) (n : Nat) : List Int := stuckF R n 9 (iota 8)
end Lk
theorem CsAt.set1 {w : World} {b : Nat} {t : TypeId} {u : Value} (h : CsAt w b t #[u]) (v : Value) : CsAt (w.setCell ⟨b, 0, none⟩ v) b t #[v] := by
  unfold CsAt
  rw [heap_setCell_same w b 0 _ t _ h]
  rfl
/-- What stands while Stuck looks. -/
structure StAt (w W : World) (lq : Option Addr) (v : Value) (ss : List Int) : Prop where
  bel : Below w.heap.size w W
  cl : CsAt W w.heap.size 31 #[.pointer lq]
  cs : CsAt W (w.heap.size + 1) 45 #[v]
  row : W.ownsRow (w.heap.size + 2) 3 1 v ss.length (iV ss)
theorem StAt.sz {w W : World} {lq : Option Addr} {v : Value} {ss : List Int} (h : StAt w W lq v ss) : w.heap.size + 2 ≤ W.heap.size := h.cs.lt
theorem StAt.on {w W W' : World} {lq : Option Addr} {v : Value} {ss : List Int} (h : StAt w W lq v ss) (hb : Below W.heap.size W W') : StAt w W' lq v ss :=
  ⟨h.bel.trans (hb.mono h.bel.size), h.cl.low hb, h.cs.low hb, own_low h.row hb⟩
/-- Another slice is laid in the cell. -/
theorem StAt.lay {w W W' : World} {lq : Option Addr} {v v' : Value} {ss ts : List Int} (h : StAt w W lq v ss) (hb : Below (w.heap.size + 2) W W') (hr : W'.ownsRow (w.heap.size + 2) 3 1 v' ts.length (iV ts)) : StAt w (W'.setCell ⟨w.heap.size + 1, 0, none⟩ v') lq v' ts :=
  ⟨(h.bel.trans (hb.mono (by omega))).setCell (p := ⟨w.heap.size + 1, 0, none⟩) (show w.heap.size ≤ w.heap.size + 1 by omega) _, (h.cl.on hb (by omega)).far (by omega) _, (h.cs.on hb (by omega)).set1 v', own_far hr (by omega) _⟩
theorem stuck1_c (lq : Option Addr) (n : Nat) (R : Int → List Int) (x : Int) (v : Value) (ss : List Int) (w W : World) (hS : StAt w W lq v ss) (h : LkV W (.pointer lq) n R) (hl : ss.length ≤ 8) :
    Calls Tryz.prog 52 #[.int .i64 x, .pointer (some ⟨w.heap.size, 0, none⟩), .pointer (some ⟨w.heap.size + 1, 0, none⟩)] W fun e W' => e = .returned (.bool (!Lk.waitsFor R n x ss)) ∧ Below W.heap.size W W' := by
  obtain ⟨p, cap, rfl, hv, -, -⟩ := own_form2 hS.row
  have HX := Lib.hid (waitsFor_c lq x n R p cap ss W h hv hl)
  have c1 := hS.cl.cell 0
  have c2 := hS.cs.cell 0
  clear hS h hv
  generalize Lk.waitsFor R n x ss = d at *
  go_enter Tryz.func52, Tryz.ntmps52
  go_wp2_with fail
  refine HX.out.mono ?_
  rintro e w' ⟨rfl, hb⟩
  have HB := Lib.hid hb
  clear hb
  go_wp2_with fail
  go_ret
  exact ⟨rfl, HB.out⟩
theorem stuck1_en : Go.Proofs.Enters Tryz.prog 52 := enters_of Tryz.func52 rfl rfl
theorem step_in {R : Int → List Int} {n : Nat} {ss : List Int} (h : ∀ j, j < ss.length → InI (ss.getD j 0)) (j : Nat) (hj : j < (Lk.step R n ss).length) : InI ((Lk.step R n ss).getD j 0) := by
  have hm : (Lk.step R n ss).getD j 0 ∈ ss := by
    rw [List.getD, List.getElem?_eq_getElem hj]
    exact (List.mem_filter.1 (List.getElem_mem hj)).1
  obtain ⟨i, hi, he⟩ := List.getElem_of_mem hm
  rw [← he]
  have := h i hi
  rwa [List.getD, List.getElem?_eq_getElem hi] at this
theorem iota8_in (j : Nat) (hj : j < (Lk.iota 8).length) : InI ((Lk.iota 8).getD j 0) := by
  have : j = 0 ∨ j = 1 ∨ j = 2 ∨ j = 3 ∨ j = 4 ∨ j = 5 ∨ j = 6 ∨ j = 7 := by rw [Lk.iota_len] at hj; omega
  unfold InI
  rcases this with rfl | rfl | rfl | rfl | rfl | rfl | rfl | rfl <;> decide
/-- How long the slice is that lies in a cell. -/
def lenAt (W : World) (b : Nat) : Nat := match W.cell? ⟨b, 0, none⟩ with | some (.slice _ m _) => m | _ => 0
theorem lenAt_eq {W : World} {b : Nat} {p : Option Addr} {m c : Nat} (h : W.cell? ⟨b, 0, none⟩ = some (.slice p m c)) : lenAt W b = m := by
  unfold lenAt
  rw [h]
set_option maxHeartbeats 4000000 in
theorem stuck_c (lq : Option Addr) (n : Nat) (R : Int → List Int) (w : World) (h : LkV w (.pointer lq) n R) :
    Calls Tryz.prog 17 #[.pointer lq] w fun e w' => ∃ v, e = .returned v ∧ w'.ownsRow w.heap.size 3 1 v (Lk.stuck R n).length (iV (Lk.stuck R n)) ∧ Below w.heap.size w w' := by
  have hb1 := (Below.refl w.heap.size w).alloc (Nat.le_refl _) (.cells #[.pointer lq] 31)
  have hb2 := (Below.refl (w.alloc (.cells #[.pointer lq] 31)).heap.size (w.alloc (.cells #[.pointer lq] 31))).alloc (Nat.le_refl _) (.cells #[.slice none 0 0] 45)
  have hs1 : (w.alloc (.cells #[.pointer lq] 31)).heap.size = w.heap.size + 1 := by simp
  have H0 := Lib.hid (show StAt w ((w.alloc (.cells #[.pointer lq] 31)).alloc (.cells #[.slice none 0 0] 45)) lq (.slice none 0 0) [] from
    ⟨hb1.trans (hb2.mono hb1.size), (CsAt.new w 31 #[.pointer lq]).alloc _, hs1 ▸ CsAt.new (w.alloc (.cells #[.pointer lq] 31)) 45 #[.slice none 0 0], World.ownsRow_nil _ _ _ _⟩)
  have HL := Lib.hid h
  clear hb1 hb2 hs1 h
  go_enter Tryz.func17, Tryz.ntmps17
  go_upto_region 2 with (fail)
  generalize ((w.alloc (.cells #[.pointer lq] 31)).alloc (.cells #[.slice none 0 0] 45)) = w1 at *
  go_wp2_with fail
  go_loopw [4, 6] (fun _ iv wr => ∃ (k : Nat) (v : Value), k ≤ 8 ∧ iv = .int .i64 k ∧ StAt w wr lq v (Lk.iota k)) (fun _ iv _ => 8 - (intOf iv).toNat)
  case atStart => exact ⟨0, _, by omega, rfl, H0.out⟩
  case round =>
    obtain ⟨k, v, hk, rfl, hS⟩ := hrel
    have HS := Lib.hid hS
    have hsz := hS.sz
    have c2 := hS.cs.cell 0
    have f2 := hS.cs.frozen 0
    clear hS H0
    by_cases hlt : k < 8
    · have g : (k : Int) < 8 := by omega
      have HK := Lib.hid (Lk.iota_len k)
      have HK2 := Lib.hid (Lk.iota_len (k + 1))
      go_wp2_with (at_builtin; refine wpList_push rfl _ _ 45 rfl (w.heap.size + 2) 3 _ 1 8 Tryz.underlying45 info_intL rfl (by omega) (by omega) _ (Lk.iota k).length _ rfl HS.out.row #[.int .i64 k] rfl (one_int k) _ rfl (by simp) (by have := HK.out; omega) hsz ?_)
      intro v' w' hown' hb'
      obtain ⟨p', cap', rfl, -⟩ := own_form hown'
      have c3 := (hb'.cell (p := ⟨w.heap.size + 1, 0, none⟩) (show w.heap.size + 1 < w.heap.size + 2 by omega)).trans c2
      have f3 := (World.frozen?_of_block (a := ⟨w.heap.size + 1, 0, none⟩) (hb'.block (w.heap.size + 1) (by omega))).trans f2
      have HS2 := Lib.hid (HS.out.lay (ts := Lk.iota (k + 1)) hb' (by rw [Lk.iota_succ]; simpa using hown'))
      clear hown' hb' c2 f2
      go_wp2_with fail
      go_roundw
      case rel => exact ⟨k + 1, _, by omega, by go_num, HS2.out⟩
      case measure => simp [intOf]; omega
    · rw [show ((k : Nat) : Int) = 8 by omega]
      obtain rfl : k = 8 := by omega
      clear c2 f2 hsz
      go_wp2_with fail
      go_loopw [5] (fun _ ws => ∃ (k : Nat) (v : Value) (ss : List Int), ss.length < k ∧ ss.length ≤ 8 ∧ (∀ j, j < ss.length → InI (ss.getD j 0)) ∧ Lk.stuckF R n k ss = Lk.stuck R n ∧ StAt w ws lq v ss) (fun _ ws => lenAt ws (w.heap.size + 1))
      case atStart => exact ⟨9, v, Lk.iota 8, by decide, by decide, iota8_in, rfl, HS.out⟩
      case round =>
        obtain ⟨k, v2, ss, hk, h8, hi, hst, hS⟩ := hrel
        clear HS
        have HS := Lib.hid hS
        have c2 := hS.cs.cell 0
        obtain ⟨p2, cap2, rfl, hv2, -, hp2⟩ := own_form2 hS.row
        have hsz := hS.sz
        have HC := Lib.hid (sclone_c _ p2 cap2 ss wr rfl hv2 hp2 (by omega))
        have HI := Lib.hid hi
        have HST := Lib.hid hst
        have HSZ := Lib.hid hsz
        clear hS hv2 hp2 hi hst hsz
        go_wp2_with fail
        refine HC.out.mono ?_
        rintro e w2 ⟨v3, rfl, hown, hb2⟩
        have HS2 := Lib.hid (HS.out.on hb2)
        have HT := Lib.hid (show Tells wr.heap.size (fun W => Below wr.heap.size wr W) 52 #[.pointer (some ⟨w.heap.size, 0, none⟩), .pointer (some ⟨w.heap.size + 1, 0, none⟩)] (fun x => !Lk.waitsFor R n x ss) from
          ⟨fun x W _ hSW _ => stuck1_c lq n R x _ ss w W (HS.out.on hSW) (HL.out.low ((HS.out.on hSW).bel)) h8, fun W W' hSW hb => hSW.trans hb, stuck1_en⟩)
        have HD := Lib.hid (deleteO_c wr.heap.size _ _ _ _ HT.out v3 ss w2 hb2 hb2.size hown HI.out (by omega))
        have HB2 := Lib.hid hb2
        have c3 := HS2.out.cs.cell 0
        clear hown hb2 c2 HC HT
        go_wp2_with fail
        refine HD.out.mono ?_
        rintro e w3 ⟨v4, rfl, hown4, hb4⟩
        have HE := Lib.hid (show (ss.filter fun x => !(!Lk.waitsFor R n x ss)) = Lk.step R n ss from rfl)
        rw [HE.out] at hown4
        have HO := Lib.hid hown4
        have HB4 := Lib.hid (HB2.out.trans hb4)
        have HS4 := Lib.hid (HS.out.on (HB2.out.trans hb4))
        have c4 := HS4.out.cs.cell 0
        have f4 := HS4.out.cs.frozen 0
        obtain ⟨p4, cap4, rfl, -, -, -⟩ := own_form hown4
        have hle := Lk.step_le R n ss
        clear hb4 hown4 c3 HD HE
        by_cases hq : (Lk.step R n ss).length = ss.length
        · have HF := Lib.hid (show Lk.stuck R n = Lk.step R n ss by
            rw [← HST.out]
            obtain ⟨k, rfl⟩ : ∃ j, k = j + 1 := ⟨k - 1, by omega⟩
            show (if _ then _ else _) = _
            rw [if_pos hq])
          have HO5 := Lib.hid (own_mono HO.out (show w.heap.size ≤ wr.heap.size from HS.out.bel.size))
          rw [hq]
          go_wp2_with fail
          go_ret
          exact ⟨_, rfl, by rw [HF.out, hq]; rw [hq] at HO5; exact HO5.out, HS4.out.bel⟩
        · have gq : (((Lk.step R n ss).length : Int) == (ss.length : Int)) = false := beq_eq_false_iff_ne.2 (by omega)
          obtain ⟨j, rfl⟩ : ∃ j, k = j + 1 := ⟨k - 1, by omega⟩
          have HF := Lib.hid (show Lk.stuckF R n j (Lk.step R n ss) = Lk.stuck R n by
            rw [← HST.out]
            show _ = (if _ then _ else _)
            rw [if_neg hq])
          have HN := Lib.hid (show StAt w (w3.setCell ⟨w.heap.size + 1, 0, none⟩ (.slice p4 (Lk.step R n ss).length cap4)) lq (.slice p4 (Lk.step R n ss).length cap4) (Lk.step R n ss) from
            HS4.out.lay (Below.refl _ _) (own_mono HO.out HSZ.out))
          go_wp2_with fail
          go_roundw
          case rel => exact ⟨j, _, Lk.step R n ss, by omega, by omega, step_in HI.out, HF.out, HN.out⟩
          case measure =>
            rw [lenAt_eq (HN.out.cs.cell 0), lenAt_eq (HS.out.cs.cell 0)]
            omega
end Go.Proofs.YtjeolfcefeglpabGreat
