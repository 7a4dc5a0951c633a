/-
  Contracts of the reference of layer 12: Held, Waits.
-/
import Derived.Test.YtgegahnjhaldeaaRlC
namespace Go.Proofs.Ytgegahnjhaldeaa
open Go.ChangeShapes Go.WideShapes Go.ChangeAt Go.RowKit
variable {Z : Nat → Prop}

namespace Lk
theorem holds_nil (who : Int) : holds who [] = false := rfl
theorem idxF_pos (p : Int → Bool) (xs : List Int) (o : Nat) : (idxF p (o + 1) xs == 0) = false := by
  have := idxF_range p xs (o + 1)
  rw [beq_eq_false_iff_ne]
  omega
theorem holds_cons (who x : Int) (t : List Int) : holds who (x :: t) = (x == who) := by
  unfold holds idx idxF
  by_cases h : who = x
  · subst h; simp
  · have h1 : (who == x) = false := beq_eq_false_iff_ne.2 h
    have h2 : (x == who) = false := beq_eq_false_iff_ne.2 (Ne.symm h)
    simp only [h1, h2, Bool.false_eq_true, if_false]
    exact idxF_pos _ _ _
theorem holds_hd {R : Int → List Int} {n : Nat} (h : Ok R n) (who i : Int) : holds who (R i) = (decide (0 ≤ who) && (hd (R i) == who)) := by
  cases hr : R i with
  | nil =>
    rw [holds_nil]
    by_cases e : 0 ≤ who
    · have : ((-1 : Int) == who) = false := beq_eq_false_iff_ne.2 (by omega)
      simp [hd, this]
    · simp [e]
  | cons x t =>
    have hx := h.who i x (by rw [hr]; simp)
    rw [holds_cons]
    by_cases e : 0 ≤ who
    · simp [hd, e]
    · have : (x == who) = false := beq_eq_false_iff_ne.2 (by omega)
      simp [e, this]
theorem waits_nil (who : Int) : waits who [] = false := rfl
theorem waits_cons (who x : Int) (t : List Int) (hn : x ∉ t) : waits who (x :: t) = t.any fun y => who == y := by
  unfold waits idx idxF
  by_cases h : who = x
  · subst h
    have : (t.any fun y => who == y) = false := by
      rw [Bool.eq_false_iff]
      exact fun e => hn ((any_mem _ _).1 e)
    simp [this]
  · have h1 : (who == x) = false := beq_eq_false_iff_ne.2 h
    simp only [h1, Bool.false_eq_true, if_false, Nat.zero_add]
    have := idxF_range (fun y => who == y) t 1
    have h2 := idxF_any (fun y => who == y) t 1
    rw [← h2]
    rw [decide_eq_decide]
    omega
theorem waits_tail {R : Int → List Int} {n : Nat} (h : Ok R n) (who i : Int) : waits who (R i) = (R i).tail.any fun y => who == y := by
  have hn := h.nod i
  cases hr : R i with
  | nil => rfl
  | cons x t =>
    rw [hr] at hn
    exact waits_cons who x t (List.nodup_cons.1 hn).1
theorem which_nil0 (q : List Int → Bool) (R : Int → List Int) : ∀ k, (∀ j : Nat, j < k → q (R j) = false) → which q R k = []
  | 0, _ => rfl
  | k + 1, h => by simp only [which, which_nil0 q R k fun j hj => h j (by omega), h k (by omega)]; simp
theorem which_first (q : List Int → Bool) (R : Int → List Int) (k : Nat) (h : ∀ j : Nat, j < k → q (R j) = false) (hk : q (R k) = true) : ∀ n, k < n → which q R n ≠ [] ∧ (which q R n).getD 0 0 = (k : Int)
  | 0, hn => by omega
  | n + 1, hn => by
    by_cases e : k = n
    · subst e
      simp only [which, which_nil0 q R k h, hk]
      simp
    · obtain ⟨h1, h2⟩ := which_first q R k h hk n (by omega)
      simp only [which]
      cases hw : which q R n with
      | nil => exact absurd hw h1
      | cons a l =>
        rw [hw] at h2
        refine ⟨by simp, ?_⟩
        simpa using h2
/-- The first lock at which one waits; -1: at none. -/
def want (R : Int → List Int) (n : Nat) (who : Int) : Int := if which (waits who) R n = [] then -1 else (which (waits who) R n).getD 0 0
end Lk
set_option maxRecDepth 100000 in
set_option maxHeartbeats 4000000 in
theorem rheld_c (rb n cap : Nat) (R : Int → List Int) (who : Int) (w : World) (h : RlAt Z w rb n R) (hok : Lk.Ok R n) (hn : n ≤ 128) :
    Calls Try.prog 38 #[.slice (some ⟨rb, 0, none⟩) n cap, .int .i64 who] w fun e w' => ∃ v, e = .returned v ∧ w'.ownsRow w.heap.size 3 1 v (Lk.which (Lk.holds who) R n).length (iV (Lk.which (Lk.holds who) R n)) ∧ Below w.heap.size w w' := by
  have HH := Lib.hid h
  have HS := Lib.hid (show w.ownsRow w.heap.size 3 1 (.slice none 0 0) (Lk.which (Lk.holds who) R 0).length (iV (Lk.which (Lk.holds who) R 0)) ∧ Below w.heap.size w w from ⟨World.ownsRow_nil _ _ _ _, Below.refl _ _⟩)
  clear h
  go_enter Try.func38, Try.ntmps38
  go_wp2_with fail
  go_loopw [5, 6] (fun v iv wr => ∃ k : Nat, k ≤ n ∧ iv = .int .i64 k ∧ wr.ownsRow w.heap.size 3 1 v (Lk.which (Lk.holds who) R k).length (iV (Lk.which (Lk.holds who) R k)) ∧ Below w.heap.size w wr) (fun _ iv _ => n - (intOf iv).toNat)
  case atStart => exact ⟨0, by omega, rfl, HS.out⟩
  case round =>
    obtain ⟨k, hk, rfl, hS⟩ := hrel
    clear HS
    have HR := Lib.hid hS
    have hsz := hS.2.size
    clear hS
    by_cases hlt : k < n
    · have gk : (k : Int) < n := by omega
      have gk1 : decide (k < n) = true := by simpa using hlt
      have c0 : wr.cell? ⟨rb, k * 2, none⟩ = some (.int .i64 (Lk.hd (R (k : Int)))) := (HR.out.2.cell (p := ⟨rb, k * 2, none⟩) HH.out.lt).trans (HH.out.hold k hlt)
      have hqe := Lk.holds_hd hok who (k : Int)
      have hwl := Lk.which_len (Lk.holds who) R k
      have HW := Lib.hid (show Lk.which (Lk.holds who) R (k + 1) = Lk.which (Lk.holds who) R k ++ (if Lk.holds who (R k) then [(k : Int)] else []) from rfl)
      rw [hqe] at HW
      clear hqe
      generalize Lk.hd (R (k : Int)) = x at *
      generalize Lk.which (Lk.holds who) R k = F at *
      generalize hG : Lk.which (Lk.holds who) R (k + 1) = G at *
      by_cases h0 : 0 ≤ who
      · have g0 : decide (0 ≤ who) = true := by simpa using h0
        by_cases he : x = who
        · have ge : (x == who) = true := by simpa using he
          rw [g0, ge] at HW
          go_wp2_with (at_builtin; refine wpList_push rfl _ _ 36 rfl w.heap.size 3 _ 1 8 Try.underlying36 info_intL rfl (by omega) (by omega) _ F.length _ rfl HR.out.1 #[.int .i64 k] rfl (one_int k) _ rfl (by simp) (by omega) hsz ?_)
          intro v' w' hown' hb'
          have HN := Lib.hid (show w'.ownsRow w.heap.size 3 1 v' G.length (iV G) ∧ Below w.heap.size w w' from ⟨by rw [HW.out]; simpa using hown', HR.out.2.trans hb'⟩)
          clear hown' hb' HR hsz
          go_wp2_with fail
          go_roundw
          case rel => exact ⟨k + 1, by omega, by go_num, by rw [hG]; exact HN.out⟩
          case measure => simp [intOf]; omega
        · have ge : (x == who) = false := by simpa using he
          rw [g0, ge] at HW
          have HN := Lib.hid (show G = F by rw [HW.out]; simp)
          clear hsz
          go_wp2_with fail
          go_roundw
          case rel => exact ⟨k + 1, by omega, by go_num, by rw [hG, HN.out]; exact HR.out⟩
          case measure => simp [intOf]; omega
      · have g0 : decide (0 ≤ who) = false := by simpa using h0
        rw [g0] at HW
        have HN := Lib.hid (show G = F by rw [HW.out]; simp)
        clear hsz
        go_wp2_with fail
        go_roundw
        case rel => exact ⟨k + 1, by omega, by go_num, by rw [hG, HN.out]; exact HR.out⟩
        case measure => simp [intOf]; omega
    · have gk : ¬ (k : Int) < n := by omega
      have gk1 : decide (k < n) = false := by simpa using hlt
      obtain rfl : k = n := by omega
      clear hsz
      go_wp2_with fail
      go_ret
      exact ⟨_, rfl, HR.out⟩
set_option maxRecDepth 100000 in
set_option maxHeartbeats 4000000 in
theorem rwaits_c (rb n cap : Nat) (R : Int → List Int) (who : Int) (w : World) (h : RlAt Z w rb n R) (hok : Lk.Ok R n) (hn : n ≤ 128) :
    Calls Try.prog 37 #[.slice (some ⟨rb, 0, none⟩) n cap, .int .i64 who] w fun e w' => e = .returned (.int .i64 (Lk.want R n who)) ∧ w = w' := by
  have HH := Lib.hid h
  clear h
  go_enter Try.func37, Try.ntmps37
  go_wp2_with fail
  go_loopw [5] (fun iv wr => ∃ k : Nat, k ≤ n ∧ iv = .int .i64 k ∧ (∀ j : Nat, j < k → Lk.waits who (R j) = false) ∧ wr = w) (fun iv _ => n - (intOf iv).toNat)
  case atStart => exact ⟨0, by omega, rfl, fun j hj => by omega, rfl⟩
  case round =>
    obtain ⟨k, hk, rfl, hno, rfl⟩ := hrel
    have HN := Lib.hid hno
    clear hno
    by_cases hlt : k < n
    · have gk : (k : Int) < n := by omega
      have gk1 : decide (k < n) = true := by simpa using hlt
      obtain ⟨p, cq, c1, hv, -, -⟩ : ∃ p cq, wr.cell? ⟨rb, k * 2 + 1, none⟩ = some (.slice p (R (k : Int)).tail.length cq) ∧ Vw wr p (iV (R (k : Int)).tail) ∧ True ∧ True := by
        obtain ⟨p, cq, h1, h2, -⟩ := HH.out.que k hlt
        exact ⟨p, cq, h1, h2, trivial, trivial⟩
      have hqe := Lk.waits_tail hok who (k : Int)
      have hl8 := hok.len (k : Int)
      have hl9 : (R (k : Int)).tail.length ≤ 8 := by rw [List.length_tail]; omega
      have HIN := Lib.hid (rin_c p cq _ who _ hv (by omega))
      clear hv
      rw [← hqe] at HIN
      clear hqe hl8
      generalize (R (k : Int)).tail = T at *
      cases hq : Lk.waits who (R (k : Int))
      · rw [hq] at HIN
        have HX := Lib.hid (show ∀ j : Nat, j < k + 1 → Lk.waits who (R j) = false from fun j hj => by
          by_cases e : j = k
          · subst e; exact hq
          · exact HN.out j (by omega))
        clear hq
        go_wp2_with fail
        refine HIN.out.mono ?_
        rintro e w' ⟨rfl, rfl⟩
        go_wp2_with fail
        go_roundw
        case rel => exact ⟨k + 1, by omega, by go_num, HX.out, trivial⟩
        case measure => simp [intOf]; omega
      · rw [hq] at HIN
        have HE := Lib.hid (show Lk.want R n who = (k : Int) from by
          obtain ⟨h1, h2⟩ := Lk.which_first _ R k HN.out hq n hlt
          unfold Lk.want
          rw [if_neg h1, h2])
        clear hq
        go_wp2_with fail
        refine HIN.out.mono ?_
        rintro e w' ⟨rfl, rfl⟩
        go_wp2_with fail
        go_ret
        rw [HE.out]
        exact ⟨rfl, rfl⟩
    · have gk : ¬ (k : Int) < n := by omega
      have gk1 : decide (k < n) = false := by simpa using hlt
      obtain rfl : k = n := by omega
      have HE := Lib.hid (show Lk.want R k who = -1 from by
        unfold Lk.want
        rw [if_pos (Lk.which_nil0 _ R k HN.out)])
      go_wp2_with fail
      go_ret
      rw [HE.out]
      exact ⟨rfl, rfl⟩
end Go.Proofs.Ytgegahnjhaldeaa
