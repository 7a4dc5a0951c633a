/-
  A job's step in the law LocksJobs: what it tells, what it leaves; what is handed over.
-/
import Derived.Test.YtgegahnjhaldeaaLkV
namespace Go.Proofs.Ytgegahnjhaldeaa
open Go.ChangeShapes Go.WideShapes Go.ChangeAt Go.RowKit
variable {Z : Nat → Prop}

namespace Lk
/-- What a step tells. -/
def stT (R : Int → List Int) (n : Nat) (who : Int) (s : JS) : Int :=
  if s.over then 4 else if s.t < s.xs.length then (if takeT R n who (s.xs.getD s.t 0) then 1 else 0) else if s.d then (if s.g + 1 = s.xs.length then 4 else 3) else (if s.xs.length = 0 then 4 else 2)
/-- Is what the job is for done? -/
def stD (s : JS) : Bool := !s.over && !decide (s.t < s.xs.length) && !s.d
/-- What holds of a job at all times. -/
structure Jv (s : JS) : Prop where
  t : s.t ≤ s.xs.length
  g : s.g ≤ s.xs.length
  dt : s.d = true → s.t = s.xs.length
  dg : s.d = false → s.g = 0
  len : s.xs.length ≤ 1000
  rng : ∀ x ∈ s.xs, InI x
theorem Jv.ok {s : JS} (h : Jv s) : JsOk s := ⟨h.g, h.len, fun j hj => h.rng _ (by rw [List.getD, List.getElem?_eq_getElem hj]; exact List.getElem_mem hj)⟩
theorem Jv.step {s : JS} (h : Jv s) (R : Int → List Int) (n : Nat) (who : Int) : Jv (stJ R n who s) := by
  unfold stJ
  cases ho : s.over
  · rw [if_neg (by simp)]
    by_cases ht : s.t < s.xs.length
    · rw [if_pos ht]
      have hd : s.d = false := by
        cases hd : s.d
        · rfl
        · have := h.dt hd; omega
      by_cases hT : takeT R n who (s.xs.getD s.t 0) = true
      · rw [if_pos hT]
        exact ⟨ht, h.g, fun e => (by rw [hd] at e; cases e), h.dg, h.len, h.rng⟩
      · rw [if_neg hT]; exact h
    · rw [if_neg ht]
      cases hd : s.d
      · rw [if_neg (by simp)]
        have := h.dg hd
        exact ⟨h.t, h.g, fun _ => (by have := h.t; show s.t = s.xs.length; omega), fun e => (by cases e), h.len, h.rng⟩
      · rw [if_pos rfl]
        have hg : s.g ≠ s.xs.length := fun e => by unfold JS.over at ho; rw [hd, decide_eq_true e] at ho; cases ho
        exact ⟨h.t, (by have := h.g; show s.g + 1 ≤ s.xs.length; omega), fun _ => h.dt hd, fun e => (by cases e), h.len, h.rng⟩
  · rw [if_pos rfl]; exact h
def sv (s : JS) : Nat := s.t + s.d.toNat + s.g
theorem Jv.over_iff {s : JS} (h : Jv s) : s.over = decide (2 * s.xs.length < sv s) := by
  have h1 := h.t
  have h2 := h.g
  unfold JS.over sv
  cases hd : s.d
  · have := h.dg hd
    have e : (false : Bool).toNat = 0 := rfl
    rw [Bool.false_and, e]
    symm
    rw [decide_eq_false_iff_not]
    omega
  · have := h.dt hd
    have e : (true : Bool).toNat = 1 := rfl
    rw [Bool.true_and, e, decide_eq_decide]
    omega
theorem Jv.lt_iff {s : JS} (h : Jv s) : s.t < s.xs.length ↔ sv s < s.xs.length := by
  have h1 := h.t
  unfold sv
  cases hd : s.d
  · have := h.dg hd
    have e : (false : Bool).toNat = 0 := rfl
    omega
  · have := h.dt hd
    omega
end Lk
theorem did_en : Go.Proofs.Enters Try.prog 29 := enters_of Try.func29 rfl rfl
theorem did_c (bd : Nat) (x : Int) (w : World) (h : CsAt w bd 3 #[.int .i64 x]) (h0 : 0 ≤ x) (h1 : x < 1000) :
    Calls Try.prog 29 #[.pointer (some ⟨bd, 0, none⟩)] w fun e w' => e = .returned (.tuple #[]) ∧ w' = w.setCell ⟨bd, 0, none⟩ (.int .i64 (x + 1)) := by
  have c0 := h.cell 0
  have f0 := h.frozen 0
  have hw : IntKind.i64.wrap (x + 1) = x + 1 := by rw [IntKind.wrap_i64]; omega
  clear h
  go_enter Try.func29, Try.ntmps29
  go_wp2_with fail
  go_end0
  exact ⟨rfl, rfl⟩
/-- What a step of the law's leaves. -/
structure JdQ (Z : Nat → Prop) (b off : Nat) (p : Option Addr) (cap base lp mb n bd : Nat) (w : World) (R : Int → List Int) (s : Lk.JS) (x : Int) (w' : World) : Prop where
  lk : LkAt (fun k => Z k ∨ k = bd) w' base lp mb n R
  bel : Below base w w'
  only : JobOnly Z b off w w'
  job : JobAt w' b off (.slice p s.xs.length cap) s.t s.g s.d
  did : CsAt w' bd 3 #[.int .i64 x]
set_option maxHeartbeats 4000000 in
theorem jstep_c (b off : Nat) (p : Option Addr) (cap base lp mb n bd : Nat) (R : Int → List Int) (s : Lk.JS) (who : Int) (w : World)
    (hL : LkAt (fun k => Z k ∨ k = bd) w base lp mb n R) (hj : JobAt w b off (.slice p s.xs.length cap) s.t s.g s.d) (hs : Lk.Jv s) (hz : Z b) (hbl : b ≠ lp) (hbb : base ≤ b) (hv : Vw w p (iV s.xs)) (hp : p = none ∧ cap = 0 ∨ ∃ b off, p = some ⟨b, off, none⟩) (hpb : ∀ pb po, p = some ⟨pb, po, none⟩ → pb ≠ b)
    (hd : CsAt w bd 3 #[.int .i64 0]) (hzd : ¬ Z bd) (hdl : bd ≠ lp) (hdb : base ≤ bd) :
    Calls Try.prog 25 #[.pointer (some ⟨b, off, none⟩), .pointer (some ⟨lp, 0, none⟩), .int .i64 who, .func (.func 29) #[] #[.pointer (some ⟨bd, 0, none⟩)]] w fun e w' =>
      e = .returned (.int .i64 (Lk.stT R n who s)) ∧ JdQ Z b off p cap base lp mb n bd w (Lk.stR R n who s) (Lk.stJ R n who s) (if Lk.stD s then 1 else 0) w' := by
  have hbase : base ≤ w.heap.size := by have := hL.b0; have := hL.lt; omega
  have hjs := hs.ok
  have hd0 : (s.d && ((s.g : Int) == ((s.xs.length : Nat) : Int))) = s.over := by unfold Lk.JS.over; rw [int_beq]
  have hneb : bd ≠ b := fun e => hzd (e ▸ hz)
  have keepD : ∀ {u v : World}, CsAt u bd 3 #[.int .i64 0] → JobOnly (fun k => Z k ∨ k = bd) b off u v → CsAt v bd 3 #[.int .i64 0] := fun h ho => (ho.blk bd (.inr rfl) hneb).trans h
  cases ho : s.over
  · rw [ho] at hd0
    by_cases ht : s.t < s.xs.length
    · have e1 : Lk.stR R n who s = Lk.take R n who (s.xs.getD s.t 0) := by unfold Lk.stR; simp [ho, ht]
      have e2 : Lk.stT R n who s = if Lk.takeT R n who (s.xs.getD s.t 0) = true then 1 else 0 := by unfold Lk.stT; simp [ho, ht]
      have e4 : Lk.stD s = false := by unfold Lk.stD; simp [ht]
      rw [e1, e2, e4]
      refine (step_take b off p _ cap s.t s.g who s.d _ _ (fun r w' => r = (if Lk.takeT R n who (s.xs.getD s.t 0) = true then 1 else 0) ∧ JdQ Z b off p cap base lp mb n bd w (Lk.take R n who (s.xs.getD s.t 0)) (Lk.stJ R n who s) 0 w') w hj hd0 (by omega) fun W2 hb2 => ?_).mono ?_
      · have hl2 := hL.low hb2
        refine (jtake_c b off p cap s.xs s.t s.g who s.d base lp mb n R W2 (hj.low hb2) (.inl hz) hbl hbb (hv.low hb2) ht (hjs.rng _ ht) (by have := hjs.len; omega) hl2).mono ?_
        rintro e w3 ⟨rfl, k1, k2, k3, k4⟩
        refine ⟨_, rfl, rfl, k1, (hb2.mono hbase).trans k2, (JobOnly.of_kept (fun k hk => hb2.block k (hL.flt k (.inl hk)).1) hz).trans (k3.weak fun k hk => .inl hk), ?_, keepD (hd.low hb2) k3⟩
        unfold Lk.stJ
        simp only [ho, ht, if_true, Bool.false_eq_true, if_false]
        cases hq : Lk.takeT R n who (s.xs.getD s.t 0)
        · rw [hq] at k4; simpa using k4
        · rw [hq] at k4; simpa using k4
      · rintro e w' ⟨r, rfl, rfl, hq⟩
        exact ⟨rfl, hq⟩
    · cases hdd : s.d
      · have e1 : Lk.stR R n who s = R := by unfold Lk.stR; simp [ho, ht, hdd]
        have e2 : Lk.stT R n who s = if s.xs.length = 0 then 4 else 2 := by unfold Lk.stT; simp [ho, ht, hdd]
        have e3 : Lk.stJ R n who s = ⟨s.xs, s.t, s.g, true⟩ := by unfold Lk.stJ; simp [ho, ht, hdd]
        have e4 : Lk.stD s = true := by unfold Lk.stD; simp [ho, ht, hdd]
        rw [e1, e2, e3, e4]
        rw [hdd] at hj
        have hg0 := hs.dg hdd
        refine (step_act b off p _ cap s.t s.g who _ _ (fun r w' => r = (if s.xs.length = 0 then 4 else 2) ∧ JdQ Z b off p cap base lp mb n bd w R ⟨s.xs, s.t, s.g, true⟩ 1 w') w hj (by omega) fun W2 hb2 => ?_).mono ?_
        · have hl2 := hL.low hb2
          have hj2 := hj.low hb2
          have hl3 := hl2.far (b := b) (i := off + 3) (.inl hz) hbl (.bool true)
          have hj3 := hj2.did true
          have x4 := (hd.low hb2).far (c := b) (i := off + 3) hneb (.bool true)
          have hlt3 := hl3.lt
          refine (jact_c b off p _ cap s.t s.g false _ _ (fun w' => w' = (W2.setCell ⟨b, off + 3, none⟩ (.bool true)).setCell ⟨bd, 0, none⟩ (.int .i64 (0 + 1))) W2 hj2 (did_c bd 0 _ x4 (by omega) (by omega))
            (fun w' h2 => h2 ▸ hj3.on (heap_setCell_other _ ⟨bd, 0, none⟩ b _ (Ne.symm hneb))) did_en).mono ?_
          rintro e w5 ⟨rfl, w4, rfl, h2⟩
          have y4 := x4.set1 (.int .i64 (0 + 1))
          have hl4 := hl3.far (b := bd) (i := 0) (.inr rfl) hdl (.int .i64 (0 + 1))
          have hb4 : Below base w ((W2.setCell ⟨b, off + 3, none⟩ (.bool true)).setCell ⟨bd, 0, none⟩ (.int .i64 (0 + 1))) :=
            ((hb2.mono hbase).setCell (p := ⟨b, off + 3, none⟩) hbb (.bool true)).setCell (p := ⟨bd, 0, none⟩) hdb _
          have hj4 := hj3.on (heap_setCell_other (W2.setCell ⟨b, off + 3, none⟩ (.bool true)) ⟨bd, 0, none⟩ b (.int .i64 (0 + 1)) (Ne.symm hneb))
          have hob : JobOnly Z b off w ((W2.setCell ⟨b, off + 3, none⟩ (.bool true)).setCell ⟨bd, 0, none⟩ (.int .i64 (0 + 1))) :=
            ((JobOnly.of_kept (fun k hk => hb2.block k (hL.flt k (.inl hk)).1) hz).trans (JobOnly.set (off + 3) (.inr (.inr rfl)) _)).trans (JobOnly.other _ hzd (Ne.symm hneb) _)
          refine ⟨_, rfl, ?_, hl4.low h2, hb4.trans (h2.mono (by have := hb4.size; omega)), hob.trans (JobOnly.of_kept (fun k hk => h2.block k (hl4.flt k (.inl hk)).1) hz), hj4.low h2, y4.low h2⟩
          rw [hg0, Bool.true_and]
          by_cases h0 : s.xs.length = 0
          · rw [h0]; rfl
          · rw [if_neg h0, if_neg]
            simp
            omega
        · rintro e w' ⟨r, rfl, rfl, hq⟩
          exact ⟨rfl, hq⟩
      · have hg : s.g < s.xs.length := by
          have h1 := hjs.g
          have h2 : s.g ≠ s.xs.length := fun e => by unfold Lk.JS.over at ho; rw [hdd, decide_eq_true e] at ho; cases ho
          omega
        have e1 : Lk.stR R n who s = Lk.drop R who (s.xs.getD (s.xs.length - (s.g + 1)) 0) := by unfold Lk.stR; simp [ho, ht, hdd]
        have e2 : Lk.stT R n who s = if s.g + 1 = s.xs.length then 4 else 3 := by unfold Lk.stT; simp [ho, ht, hdd]
        have e3 : Lk.stJ R n who s = ⟨s.xs, s.t, s.g + 1, s.d⟩ := by unfold Lk.stJ; simp [ho, ht, hdd]
        have e4 : Lk.stD s = false := by unfold Lk.stD; simp [hdd]
        rw [e1, e2, e3, e4]
        rw [hdd] at hj hd0
        obtain ⟨pb, po, rfl, hpl, hcell⟩ := hv.cells (by omega)
        refine (step_give b off _ _ cap s.t s.g who _ _ (fun r w' => r = (if s.g + 1 = s.xs.length then 4 else 3) ∧ JdQ Z b off (some ⟨pb, po, none⟩) cap base lp mb n bd w (Lk.drop R who (s.xs.getD (s.xs.length - (s.g + 1)) 0)) ⟨s.xs, s.t, s.g + 1, s.d⟩ 0 w') w hj hd0 (by omega) fun W2 hb2 => ?_).mono ?_
        · have hl2 := hL.low hb2
          refine (jgive_c b off pb po cap s.xs s.g s.t who base lp mb n R W2 (hj.low hb2) (.inl hz) hbl hbb (hpb pb po rfl) (Nat.lt_of_lt_of_le hpl hb2.size) (fun j hj => (hb2.cell (p := ⟨pb, po + j, none⟩) hpl).trans (hcell j hj)) hg (hjs.rng _ (by omega)) (by have := hjs.len; omega) hl2).mono ?_
          rintro e w3 ⟨rfl, k1, k2, k3, k4⟩
          refine ⟨_, rfl, ?_, k1, (hb2.mono hbase).trans k2, (JobOnly.of_kept (fun k hk => hb2.block k (hL.flt k (.inl hk)).1) hz).trans (k3.weak fun k hk => .inl hk), ?_, keepD (hd.low hb2) k3⟩
          · rw [Bool.true_and]
            by_cases h0 : s.g + 1 = s.xs.length
            · rw [if_pos h0, if_pos]
              simp
              omega
            · rw [if_neg h0, if_neg]
              simp
              omega
          · rw [hdd]; simpa using k4
        · rintro e w' ⟨r, rfl, rfl, hq⟩
          exact ⟨rfl, hq⟩
  · rw [ho] at hd0
    have e1 : Lk.stR R n who s = R := by unfold Lk.stR; simp [ho]
    have e2 : Lk.stT R n who s = 4 := by unfold Lk.stT; simp [ho]
    have e3 : Lk.stJ R n who s = s := by unfold Lk.stJ; simp [ho]
    have e4 : Lk.stD s = false := by unfold Lk.stD; simp [ho]
    rw [e1, e2, e3, e4]
    refine (step_over b off p _ cap s.t s.g who s.d _ _ w hj hd0).mono ?_
    rintro e w2 ⟨rfl, hb⟩
    exact ⟨rfl, hL.low hb, hb.mono hbase, JobOnly.of_kept (fun k hk => hb.block k (hL.flt k (.inl hk)).1) hz, hj.low hb, hd.low hb⟩
end Go.Proofs.Ytgegahnjhaldeaa
