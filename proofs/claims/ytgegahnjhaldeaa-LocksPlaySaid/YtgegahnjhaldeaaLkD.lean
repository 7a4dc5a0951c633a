/-
  Contracts of locks.has, Holder, Queue, which, Held, waited, Waits.
-/
import Derived.Test.YtgegahnjhaldeaaLkC
namespace Go.Proofs.Ytgegahnjhaldeaa
open Go.ChangeShapes Go.WideShapes Go.ChangeAt Go.RowKit
variable {Z : Nat → Prop}

namespace Lk
/-- The locks below k whose rows are such. -/
def which (q : List Int → Bool) (R : Int → List Int) : Nat → List Int
  | 0 => []
  | k + 1 => which q R k ++ (if q (R k) then [(k : Int)] else [])
theorem which_len (q : List Int → Bool) (R : Int → List Int) : ∀ k, (which q R k).length ≤ k
  | 0 => Nat.le_refl _
  | k + 1 => by
    have := which_len q R k
    simp only [which, List.length_append]
    split <;> simp <;> omega
theorem which_none (q : List Int → Bool) (hq : q [] = false) : ∀ k, which q (fun _ => []) k = []
  | 0 => rfl
  | k + 1 => by simp [which, hq, which_none q hq k]
theorem which_mem (q : List Int → Bool) (R : Int → List Int) : ∀ (k : Nat) (x : Int), x ∈ which q R k ↔ 0 ≤ x ∧ x < k ∧ q (R x) = true
  | 0, x => by simp [which]; omega
  | k + 1, x => by
    simp only [which, List.mem_append, which_mem q R k x]
    constructor
    · rintro (⟨h0, h1, h2⟩ | h)
      · exact ⟨h0, by omega, h2⟩
      · split at h
        · rename_i hq
          obtain rfl : x = k := by simpa using h
          exact ⟨by omega, by omega, hq⟩
        · simp at h
    · rintro ⟨h0, h1, h2⟩
      by_cases e : x = k
      · subst e
        right
        rw [if_pos h2]
        simp
      · exact .inl ⟨h0, by omega, h2⟩
/-- Is there such a one, and such a lock? -/
def has (who at_ : Int) (n : Nat) : Bool := decide (0 ≤ who ∧ who < 8 ∧ 0 ≤ at_ ∧ at_ < (n : Int))
theorem has_iff {who at_ : Int} {n : Nat} : has who at_ n = true ↔ 0 ≤ who ∧ who < 8 ∧ 0 ≤ at_ ∧ at_ < (n : Int) := by simp [has]
theorem has_no {who at_ : Int} {n : Nat} (h : ¬ (0 ≤ who ∧ who < 8 ∧ 0 ≤ at_ ∧ at_ < (n : Int))) : has who at_ n = false := by unfold has; simpa using h
def holds (who : Int) (row : List Int) : Bool := idx (fun y => who == y) row == 0
def waits (who : Int) (row : List Int) : Bool := decide (idx (fun y => who == y) row > 0)
end Lk
theorem InI.lock {k n : Nat} (h : k < n) (hn : n ≤ 128) : InI (k : Int) := by unfold InI; omega

set_option maxHeartbeats 1000000 in
theorem has_c (lv : Value) (who at_ : Int) (n : Nat) (R : Int → List Int) (w : World) (h : LkV w lv n R) :
    Calls Try.prog 34 #[lv, .int .i64 who, .int .i64 at_] w fun e w' => e = .returned (.bool (Lk.has who at_ n)) ∧ w = w' := by
  rcases h with ⟨rfl, rfl, rfl⟩ | ⟨Z, base, lp, mb, rfl, hL⟩
  · have HE := Lib.hid (show Lk.has who at_ 0 = false from Lk.has_no (by omega))
    go_enter Try.func34, Try.ntmps34
    go_wp2_with fail
    go_ret
    exact ⟨by rw [HE.out]; rfl, rfl⟩
  · have c0 := hL.c0
    clear hL
    by_cases h1 : 0 ≤ who
    · by_cases h2 : who < 8
      · by_cases h3 : 0 ≤ at_
        · by_cases h4 : at_ < n
          · have HE := Lib.hid (show Lk.has who at_ n = true from Lk.has_iff.2 (by omega))
            go_enter Try.func34, Try.ntmps34
            go_wp2_with fail
            go_ret
            exact ⟨by rw [HE.out]; rfl, rfl⟩
          · have HE := Lib.hid (show Lk.has who at_ n = false from Lk.has_no (by omega))
            go_enter Try.func34, Try.ntmps34
            go_wp2_with fail
            go_ret
            exact ⟨by rw [HE.out]; rfl, rfl⟩
        · have HE := Lib.hid (show Lk.has who at_ n = false from Lk.has_no (by omega))
          go_enter Try.func34, Try.ntmps34
          go_wp2_with fail
          go_ret
          exact ⟨by rw [HE.out]; rfl, rfl⟩
      · have HE := Lib.hid (show Lk.has who at_ n = false from Lk.has_no (by omega))
        go_enter Try.func34, Try.ntmps34
        go_wp2_with fail
        go_ret
        exact ⟨by rw [HE.out]; rfl, rfl⟩
    · have HE := Lib.hid (show Lk.has who at_ n = false from Lk.has_no (by omega))
      go_enter Try.func34, Try.ntmps34
      go_wp2_with fail
      go_ret
      exact ⟨by rw [HE.out]; rfl, rfl⟩
set_option maxHeartbeats 1000000 in
theorem holder_c (lv : Value) (i : Int) (n : Nat) (R : Int → List Int) (w : World) (h : LkV w lv n R) (hi : InI i) :
    Calls Try.prog 19 #[lv, .int .i64 i] w fun e w' => e = .returned (.tuple #[.int .i64 ((R i).getD 0 0), .bool (decide (R i ≠ []))]) ∧ w = w' := by
  have HX := Lib.hid (row_c lv i n R w h hi)
  have hlen := h.ok.len i
  clear h
  generalize R i = xs at *
  obtain ⟨y, hy⟩ : ∃ y, xs.getD 0 0 = y := ⟨_, rfl⟩
  have HY := Lib.hid hy
  go_enter Try.func19, Try.ntmps19
  go_wp2_with fail
  refine HX.out.mono ?_
  rintro e w' ⟨⟨p, cap, rfl, hv, -⟩, rfl⟩
  by_cases hp : 0 < xs.length
  · obtain ⟨b, off, rfl, -, hc⟩ := hv.cells hp
    have c := hc 0 hp
    have g : (0 : Int) < xs.length := by omega
    have g2 : ((xs.length : Int) == 0) = false := beq_eq_false_iff_ne.2 (by omega)
    have HE := Lib.hid (show decide (xs ≠ []) = true by simp; exact fun e => by simp [e] at hp)
    rw [Nat.add_zero, hy] at c
    clear hc hv hy
    go_wp2_with fail
    go_ret2
    exact ⟨by rw [HE.out, HY.out]; rfl, rfl⟩
  · obtain rfl := len_zero hp
    go_wp2_with fail
    go_ret2
    exact ⟨rfl, rfl⟩
set_option maxHeartbeats 1000000 in
theorem queue_c (lv : Value) (i : Int) (n : Nat) (R : Int → List Int) (w : World) (h : LkV w lv n R) (hi : InI i) :
    Calls Try.prog 21 #[lv, .int .i64 i] w fun e w' => ∃ v, e = .returned v ∧ w'.ownsRow w.heap.size 3 1 v (R i).tail.length (iV (R i).tail) ∧ Below w.heap.size w w' := by
  have HX := Lib.hid (row_c lv i n R w h hi)
  have hlen := h.ok.len i
  clear h
  generalize R i = xs at *
  go_enter Try.func21, Try.ntmps21
  go_wp2_with fail
  refine HX.out.mono ?_
  rintro e w' ⟨⟨p, cap, rfl, hv, -, hle⟩, rfl⟩
  by_cases hp : 0 < xs.length
  · obtain ⟨b, off, rfl, hbl, hc⟩ := hv.cells hp
    have g2 : ((xs.length : Int) == 0) = false := beq_eq_false_iff_ne.2 (by omega)
    have g3 : (1 : Int) ≤ xs.length := by omega
    have g4 : (xs.length : Int) ≤ cap := by omega
    have HV := Lib.hid (show Vw w (some ⟨b, off + 1, none⟩) (iV xs.tail) from .inr ⟨b, off + 1, rfl, hbl, fun j u hj => by
      have hl : j < xs.tail.length := by
        have := (List.getElem?_eq_some_iff.1 hj).1
        rwa [iV_len] at this
      rw [List.length_tail] at hl
      rw [show off + 1 + j = off + (j + 1) by omega, hc (j + 1) (by omega), ← hj, iV_at _ _ (by rw [List.length_tail]; exact hl)]
      cases xs with
      | nil => simp at hp
      | cons x l => rfl⟩)
    have HL := Lib.hid (show xs.tail.length = xs.length - 1 from List.length_tail)
    have HN := Lib.hid hlen
    by_cases hc1 : cap = 1
    · subst hc1
      have h1 : xs.length = 1 := by omega
      have HT := Lib.hid (show xs.tail = [] from len_zero (by rw [List.length_tail]; omega))
      rw [h1]
      clear hc hv hle g4 g3 g2 hlen hp
      go_wp2_with fail
      refine (clone_c (.slice (some ⟨b, off, none⟩) 0 0) (some ⟨b, off, none⟩) 0 xs.tail _ (by rw [HT.out]; rfl) (by rw [HT.out]; exact .inl rfl) (.inr ⟨_, _, rfl⟩) (by rw [HT.out]; simp)).mono ?_
      rintro e w1 ⟨v, rfl, hown, hb⟩
      have HO := Lib.hid (And.intro hown hb)
      clear hown hb
      go_wp2_with fail
      go_ret
      exact ⟨_, rfl, HO.out.1, HO.out.2⟩
    · have g5 : 1 < cap := by omega
      clear hc hv
      go_wp2_with fail
      refine (clone_c _ (some ⟨b, off + 1, none⟩) (cap - 1) xs.tail _ (by rw [HL.out]) HV.out (.inr ⟨_, _, rfl⟩) (by have := HL.out; have := HN.out; omega)).mono ?_
      rintro e w1 ⟨v, rfl, hown, hb⟩
      have HO := Lib.hid (And.intro hown hb)
      clear hown hb
      go_wp2_with fail
      go_ret
      exact ⟨_, rfl, HO.out.1, HO.out.2⟩
  · obtain rfl := len_zero hp
    go_wp2_with fail
    go_ret
    exact ⟨_, rfl, World.ownsRow_nil _ _ _ _, Below.refl _ _⟩
theorem one_int (k : Int) : (#[Value.int .i64 k] : Array Value).all (·.oneCell') = true := by simp [Value.oneCell']
/-- A function value that tells q of rows, as long as nothing below N changes. -/
def TellsR (N : Nat) (w0 : World) (F : FuncId) (cs : Array Value) (q : List Int → Bool) : Prop :=
  ∀ (p : Option Addr) (cap : Nat) (xs : List Int) (W : World), Below N w0 W → Vw W p (iV xs) → xs.length ≤ 8 → Calls Try.prog F (#[.slice p xs.length cap] ++ cs) W fun e W' => e = .returned (.bool (q xs)) ∧ W = W'
set_option maxHeartbeats 2000000 in
theorem which_nil (F : FuncId) (cs : Array Value) (w : World) :
    Calls Try.prog 45 #[.pointer none, .func (.func F) #[] cs] w fun e w' => e = .returned (.slice none 0 0) ∧ w = w' := by
  go_enter Try.func45, Try.ntmps45
  go_wp2_with fail
  go_ret
  exact ⟨rfl, rfl⟩
set_option maxHeartbeats 4000000 in
theorem which_some (F : FuncId) (cs : Array Value) (q : List Int → Bool) (base lp mb n : Nat) (R : Int → List Int) (w : World) (h : LkAt Z w base lp mb n R) (hT : TellsR w.heap.size w F cs q) (hE : Go.Proofs.Enters Try.prog F) :
    Calls Try.prog 45 #[.pointer (some ⟨lp, 0, none⟩), .func (.func F) #[] cs] w fun e w' => ∃ v, e = .returned v ∧ w'.ownsRow w.heap.size 3 1 v (Lk.which q R n).length (iV (Lk.which q R n)) ∧ Below w.heap.size w w' := by
  have HH := Lib.hid h
  have HT := Lib.hid hT
  have HE := Lib.hid hE
  have hn := h.n1
  have c0 := h.c0
  clear h hT hE
  go_enter Try.func45, Try.ntmps45
  go_wp2_with fail
  go_loopw [5, 6, 13] (fun lv _ iv wr => ∃ k : Nat, k ≤ n ∧ iv = .int .i64 k ∧ wr.ownsRow w.heap.size 3 1 lv (Lk.which q R k).length (iV (Lk.which q R k)) ∧ Below w.heap.size w wr) (fun _ _ iv _ => n - (intOf iv).toNat)
  case atStart => exact ⟨0, Nat.zero_le _, rfl, World.ownsRow_nil _ _ _ _, Below.refl _ _⟩
  case round =>
    obtain ⟨k, hk, rfl, hown, hb⟩ := hrel
    have HO := Lib.hid hown
    have HB := Lib.hid hb
    clear hown hb c0
    by_cases hlt : k < n
    · have HL := Lib.hid (show LkV wr (.pointer (some ⟨lp, 0, none⟩)) n R from .inr ⟨_, base, lp, mb, rfl, HH.out.low HB.out⟩)
      have hl8 := HH.out.ok.len k
      have g : (k : Int) < n := by omega
      go_wp2_with fail
      refine (row_c _ _ _ _ _ HL.out (InI.lock hlt hn)).mono ?_
      rintro e w1 ⟨⟨p, cap, rfl, hv, -⟩, rfl⟩
      have HQ := Lib.hid (HT.out p cap (R k) wr HB.out hv hl8)
      have HW := Lib.hid (show Lk.which q R (k + 1) = Lk.which q R k ++ (if q (R k) then [(k : Int)] else []) from rfl)
      have hwl := Lk.which_len q R k
      have HV := Lib.hid hv
      clear hv
      cases hq : q (R k)
      · rw [hq] at HQ HW
        go_wp2_with fail
        rw [HE.out]
        refine HQ.out.mono ?_
        rintro e w2 ⟨rfl, rfl⟩
        go_wp2_with fail
        go_roundw
        case rel => exact ⟨k + 1, by omega, by go_num, by rw [HW.out]; simpa using HO.out, HB.out⟩
        case measure => simp [intOf]; omega
      · rw [hq] at HQ HW
        go_wp2_with fail
        rw [HE.out]
        refine HQ.out.mono ?_
        rintro e w2 ⟨rfl, rfl⟩
        have hsz := HB.out.size
        have hwl2 : (Lk.which q R k).length < 1000000 := by omega
        go_wp2_with (at_builtin; refine wpList_push rfl _ _ 36 rfl w.heap.size 3 _ 1 8 Try.underlying36 info_intL rfl (by omega) (by omega) _ (Lk.which q R k).length _ rfl HO.out #[.int .i64 k] rfl (one_int k) _ rfl (by simp) hwl2 hsz ?_)
        intro v' w' hown' hb'
        have HO2 := Lib.hid (show w'.ownsRow w.heap.size 3 1 v' (Lk.which q R (k + 1)).length (iV (Lk.which q R (k + 1))) by rw [HW.out]; simpa using hown')
        have HB2 := Lib.hid (HB.out.trans hb')
        clear hown' hb'
        go_wp2_with fail
        go_roundw
        case rel => exact ⟨k + 1, by omega, by go_num, HO2.out, HB2.out⟩
        case measure => simp [intOf]; omega
    · obtain rfl : k = n := by omega
      go_wp2_with fail
      go_ret
      exact ⟨_, rfl, HO.out, HB.out⟩
end Go.Proofs.Ytgegahnjhaldeaa
