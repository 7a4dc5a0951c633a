/-
  A bus in memory with its port; contracts of Fits, has, May, Time, New.
-/
import Derived.Test.YtkknfhbaldeigaaBuB
import Derived.Test.YtkknfhbaldeigaaOpenSh
set_option maxRecDepth 20000
namespace Go.Proofs.Ytkknfhbaldeigaa
open Go.ChangeShapes Go.WideShapes Go.ChangeAt Go.RowKit

abbrev AKT : TypeId := 30
abbrev ANT : TypeId := 34
theorem info_AK : (Try.prog.info? AKT).map (·.size) = some 19 := by kernel_rfl
/-- An ask in its box. -/
structure AkAt (W : World) (b : Nat) (a : Ak) : Prop where
  cs : CsAt W b AKT a.cells
theorem AkAt.low {W W' : World} {b : Nat} {a : Ak} (h : AkAt W b a) (hb : Below W.heap.size W W') : AkAt W' b a := ⟨h.cs.low hb⟩
theorem AkAt.kind {W : World} {b : Nat} {a : Ak} (h : AkAt W b a) : W.cell? ⟨b, 0, none⟩ = some (.int .i64 a.kind) := h.cs.cell 0
theorem AkAt.addr {W : World} {b : Nat} {a : Ak} (h : AkAt W b a) : W.cell? ⟨b, 1, none⟩ = some (.int .u64 a.addr) := h.cs.cell 1
theorem AkAt.size {W : World} {b : Nat} {a : Ak} (h : AkAt W b a) : W.cell? ⟨b, 4, none⟩ = some (.int .i64 a.size) := h.cs.cell 4
theorem AkAt.data {W : World} {b : Nat} {a : Ak} (h : AkAt W b a) : W.cell? ⟨b, 6, none⟩ = some (.int .u64 a.data) := h.cs.cell 6
theorem AkAt.live {W : World} {b : Nat} {a : Ak} (h : AkAt W b a) : W.cell? ⟨b, 8, none⟩ = some (.bool a.live) := h.cs.cell 8
namespace Bs
/-- A bus: harts, the clint's words, the controller's, the port. -/
structure B where
  n : Nat
  c : List Int
  p : List Int
  u : Ut.S
def isK (k : Int) : Bool := k == 9 || k == 10
def otherK (k : Int) : Bool := k == 11 || k == 18 || k == 19 || k == 20
def mayB (n : Nat) (a : Ak) : Bool := if isK a.kind = true then decide (dev n a.addr a.size < 3) else otherK a.kind
def hasB (n : Nat) (h : Int) : Bool := decide (0 ≤ h ∧ h < n)
theorem tg_ne {h a size : Int} : Eqf.eqL (tg (dev h a size) a size).toList tg0.toList = !decide (dev h a size < 3) := by
  by_cases hd : dev h a size < 3
  · have hs := dev_size hd
    have e : (size == 0) = false := by simpa using hs
    unfold tg
    rw [if_pos hd]
    simp [tg0, Eqf.eqL, Eqf.eqv, hs, hd]
  · unfold tg
    rw [if_neg hd]
    simp [tg0, Eqf.eqL, Eqf.eqv, hd]
end Bs
theorem guard_tg : Try.prog.eqGuardType Try.prog.depth TgT = false := by kernel_rfl
theorem okL_tg {d : Nat} {a size : Int} (hs : -9223372036854775808 ≤ size ∧ size ≤ 9223372036854775807) : Eqf.okL [some .i64, some .u64, some .i64] (Bs.tg d a size).toList = true := by
  have ho := Bs.offD_rng a d
  unfold Bs.tg
  split
  · have hd : (Lit.int .i64 (d : Int)).wf = true := WalkArith.wf_i64 ⟨by omega, by omega⟩
    have h1 : (Lit.int .u64 (Bs.offD a d)).wf = true := WalkArith.wf_u64 ⟨by omega, by omega⟩
    have h2 : (Lit.int .i64 size).wf = true := WalkArith.wf_i64 ⟨by omega, by omega⟩
    simp only [Eqf.okL, Eqf.okV, hd, h1, h2]
    rfl
  · rfl
theorem neq_tg {h a size : Int} (hs : -9223372036854775808 ≤ size ∧ size ≤ 9223372036854775807) (w : World) : (binOp .neq TgT (.agg (Bs.tg (Bs.dev h a size) a size)) (.agg tg0)).run Try.prog w = .ok (.bool (decide (Bs.dev h a size < 3))) w := by
  have hf : Value.formed Try.prog TgT (.agg (Bs.tg (Bs.dev h a size) a size)) = true := by
    unfold Bs.tg
    split
    · kernel_rfl
    · kernel_rfl
  have := Eqf.bneq w 4 (by omega) TgT [some .i64, some .u64, some .i64] (by kernel_rfl) (by kernel_rfl) (Bs.tg (Bs.dev h a size) a size) tg0 hf (by kernel_rfl) (okL_tg hs) (by rfl)
  rw [Bs.tg_ne, Bool.not_not] at this
  exact this
theorem bfits_c (h a size : Int) (hs : -9223372036854775808 ≤ size ∧ size ≤ 9223372036854775807) (w : World) :
    Calls Try.prog 13 #[.int .i64 h, .int .u64 a, .int .i64 size] w fun e w' => e = .returned (.bool (decide (Bs.dev h a size < 3))) ∧ Below w.heap.size w w' := by
  have HF := Lib.hid (find_c h a size w)
  have HN := Lib.hid (fun W => neq_tg (h := h) (a := a) hs W)
  generalize Bs.tg (Bs.dev h a size) a size = tv at *
  generalize decide (Bs.dev h a size < 3) = r at *
  go_enter Try.func13, Try.ntmps13
  go_wp2_with fail
  refine HF.out.mono ?_
  rintro e w1 ⟨rfl, hb1⟩
  have HB := Lib.hid hb1
  clear hb1 HF
  go_wp2_with (refine wpList_cmpW (by rfl) .neq TgT _ _ _ rfl tv tg0 rfl rfl guard_tg (.bool r) (HN.out _) ?_)
  go_ret
  exact ⟨rfl, HB.out⟩
theorem has_c (n b : Nat) (h : Int) (w : World) (hc : w.cell? ⟨b, 1, none⟩ = some (.int .i64 n)) :
    Calls Try.prog 24 #[.pointer (some ⟨b, 0, none⟩), .int .i64 h] w fun e w' => e = .returned (.bool (Bs.hasB n h)) ∧ w' = w := by
  by_cases h0 : 0 ≤ h
  · have g0 : decide (h ≥ 0) = true := by simpa using h0
    have HE := Lib.hid (show Bs.hasB n h = decide (h < n) by unfold Bs.hasB; rw [decide_eq_decide]; omega)
    rw [HE.out]
    go_enter Try.func24, Try.ntmps24
    go_wp2_with fail
    go_ret
    exact ⟨rfl, rfl⟩
  · have g0 : decide (h ≥ 0) = false := by simpa using h0
    have HE := Lib.hid (show Bs.hasB n h = false by unfold Bs.hasB; simp; omega)
    rw [HE.out]
    go_enter Try.func24, Try.ntmps24
    go_wp2_with fail
    go_ret
    exact ⟨rfl, rfl⟩
theorem kind_cases (k : Int) : k = 9 ∨ k = 10 ∨ k = 11 ∨ k = 18 ∨ k = 19 ∨ k = 20 ∨ (k ≠ 9 ∧ k ≠ 10 ∧ k ≠ 11 ∧ k ≠ 18 ∧ k ≠ 19 ∧ k ≠ 20) := by omega
set_option maxHeartbeats 8000000 in
theorem may_c (n b : Nat) (a : Ak) (hs : -9223372036854775808 ≤ a.size ∧ a.size ≤ 9223372036854775807) (w : World) (hc : w.cell? ⟨b, 1, none⟩ = some (.int .i64 n)) :
    Calls Try.prog 6 #[.pointer (some ⟨b, 0, none⟩), .agg a.cells] w fun e w' => e = .returned (.bool (Bs.mayB n a)) ∧ Below w.heap.size w w' := by
  have hbl := World.block_lt_of_cell? _ _ hc
  have hb0 : Below w.heap.size w (w.alloc (.cells a.cells AKT)) := (Below.refl _ _).alloc (Nat.le_refl _) _
  have hA : AkAt (w.alloc (.cells a.cells AKT)) w.heap.size a := ⟨CsAt.new w AKT a.cells⟩
  have HC := Lib.hid ((hb0.cell (p := ⟨b, 1, none⟩) hbl).trans hc)
  have HB := Lib.hid hb0
  have HA := Lib.hid hA
  clear hb0 hA hc
  obtain ⟨r, hr⟩ : ∃ r, Bs.mayB n a = r := ⟨_, rfl⟩
  rw [hr]
  go_enter Try.func6, Try.ntmps6
  go_upto_region 1 with fail
  generalize w.alloc (.cells a.cells AKT) = w1 at *
  have q0 := HA.out.kind
  rcases kind_cases a.kind with hk | hk | hk | hk | hk | hk | hk
  · have hr2 : r = decide (Bs.dev n a.addr a.size < 3) := by rw [← hr]; unfold Bs.mayB Bs.isK; rw [hk]; rfl
    rw [hk] at q0
    clear hr hk
    have HF := Lib.hid (fun W => bfits_c n a.addr a.size hs W)
    rw [← hr2] at HF
    have gr : (r == r) = true := by simp
    clear hr2
    have HQ := Lib.hid (fun (W : World) (hb : Below w1.heap.size w1 W) => And.intro (show W.cell? ⟨b, 1, none⟩ = some (.int .i64 n) from (hb.cell (p := ⟨b, 1, none⟩) (World.block_lt_of_cell? _ _ HC.out)).trans HC.out) (HA.out.low hb))
    go_upto_region 6 with fail
    clear q0 HC HA
    refine wp_region_steady (fun W => Below w1.heap.size w1 W) (by kernel_rfl) (by kernel_rfl) (below_dU (Below.refl _ _) 1) ?_
    iterate 3
      refine steady_val ?_ ?_ (by kernel_rfl) (fun W hS => ?_) ?_ ?_
      rotate_left 2
      · go_simp
        exact rfl
      · go_simp
        exact rfl
    refine steady_val ?_ ?_ (by kernel_rfl) (fun W hS => ?_) ?_ ?_
    rotate_left 2
    · (have q1 := (HQ.out _ hS).1); go_simp
      exact rfl
    · go_simp
      exact rfl
    refine steady_val ?_ ?_ (by kernel_rfl) (fun W hS => ?_) ?_ ?_
    rotate_left 2
    · go_simp
      exact rfl
    · go_simp
      exact rfl
    refine steady_val ?_ ?_ (by kernel_rfl) (fun W hS => ?_) ?_ ?_
    rotate_left 2
    · (have q1 := (HQ.out _ hS).2.addr); go_simp
      exact rfl
    · go_simp
      exact rfl
    refine steady_val ?_ ?_ (by kernel_rfl) (fun W hS => ?_) ?_ ?_
    rotate_left 2
    · go_simp
      exact rfl
    · go_simp
      exact rfl
    refine steady_val ?_ ?_ (by kernel_rfl) (fun W hS => ?_) ?_ ?_
    rotate_left 2
    · (have q1 := (HQ.out _ hS).2.size); go_simp
      exact rfl
    · go_simp
      exact rfl
    refine steady_enter (.bool r) 13 #[.int .i64 n, .int .u64 a.addr, .int .i64 a.size] ?_ (by kernel_rfl) (fun W hS => ?_) (fun W hS => (HF.out W).mono (by rintro e w' ⟨rfl, hb⟩; exact ⟨rfl, hS.trans (hb.mono hS.size)⟩)) ?_ ?_
    rotate_left 1
    · go_simp
    · go_simp
      exact rfl
    refine steady_val ?_ ?_ (by kernel_rfl) (fun W hS => ?_) ?_ ?_
    rotate_left 2
    · go_simp
      exact rfl
    · go_simp
      exact rfl
    refine steady_nil ?_
    intro W hS
    have HF2 := Lib.hid (HB.out.trans (hS.mono HB.out.size))
    clear hS HB HQ HF
    go_wp2_with fail
    go_ret
    exact ⟨rfl, HF2.out⟩
  · have hr2 : r = decide (Bs.dev n a.addr a.size < 3) := by rw [← hr]; unfold Bs.mayB Bs.isK; rw [hk]; rfl
    rw [hk] at q0
    clear hr hk
    have HF := Lib.hid (fun W => bfits_c n a.addr a.size hs W)
    rw [← hr2] at HF
    have gr : (r == r) = true := by simp
    clear hr2
    have HQ := Lib.hid (fun (W : World) (hb : Below w1.heap.size w1 W) => And.intro (show W.cell? ⟨b, 1, none⟩ = some (.int .i64 n) from (hb.cell (p := ⟨b, 1, none⟩) (World.block_lt_of_cell? _ _ HC.out)).trans HC.out) (HA.out.low hb))
    go_upto_region 6 with fail
    clear q0 HC HA
    refine wp_region_steady (fun W => Below w1.heap.size w1 W) (by kernel_rfl) (by kernel_rfl) (below_dU (Below.refl _ _) 1) ?_
    iterate 3
      refine steady_val ?_ ?_ (by kernel_rfl) (fun W hS => ?_) ?_ ?_
      rotate_left 2
      · go_simp
        exact rfl
      · go_simp
        exact rfl
    refine steady_val ?_ ?_ (by kernel_rfl) (fun W hS => ?_) ?_ ?_
    rotate_left 2
    · (have q1 := (HQ.out _ hS).1); go_simp
      exact rfl
    · go_simp
      exact rfl
    refine steady_val ?_ ?_ (by kernel_rfl) (fun W hS => ?_) ?_ ?_
    rotate_left 2
    · go_simp
      exact rfl
    · go_simp
      exact rfl
    refine steady_val ?_ ?_ (by kernel_rfl) (fun W hS => ?_) ?_ ?_
    rotate_left 2
    · (have q1 := (HQ.out _ hS).2.addr); go_simp
      exact rfl
    · go_simp
      exact rfl
    refine steady_val ?_ ?_ (by kernel_rfl) (fun W hS => ?_) ?_ ?_
    rotate_left 2
    · go_simp
      exact rfl
    · go_simp
      exact rfl
    refine steady_val ?_ ?_ (by kernel_rfl) (fun W hS => ?_) ?_ ?_
    rotate_left 2
    · (have q1 := (HQ.out _ hS).2.size); go_simp
      exact rfl
    · go_simp
      exact rfl
    refine steady_enter (.bool r) 13 #[.int .i64 n, .int .u64 a.addr, .int .i64 a.size] ?_ (by kernel_rfl) (fun W hS => ?_) (fun W hS => (HF.out W).mono (by rintro e w' ⟨rfl, hb⟩; exact ⟨rfl, hS.trans (hb.mono hS.size)⟩)) ?_ ?_
    rotate_left 1
    · go_simp
    · go_simp
      exact rfl
    refine steady_val ?_ ?_ (by kernel_rfl) (fun W hS => ?_) ?_ ?_
    rotate_left 2
    · go_simp
      exact rfl
    · go_simp
      exact rfl
    refine steady_nil ?_
    intro W hS
    have HF2 := Lib.hid (HB.out.trans (hS.mono HB.out.size))
    clear hS HB HQ HF
    go_wp2_with fail
    go_ret
    exact ⟨rfl, HF2.out⟩
  · have hr2 : r = true := by rw [← hr]; unfold Bs.mayB Bs.isK Bs.otherK; rw [hk]; rfl
    subst hr2
    rw [hk] at q0
    clear hr hk
    go_wp2_with fail
    go_ret
    exact ⟨rfl, HB.out⟩
  · have hr2 : r = true := by rw [← hr]; unfold Bs.mayB Bs.isK Bs.otherK; rw [hk]; rfl
    subst hr2
    rw [hk] at q0
    clear hr hk
    go_wp2_with fail
    go_ret
    exact ⟨rfl, HB.out⟩
  · have hr2 : r = true := by rw [← hr]; unfold Bs.mayB Bs.isK Bs.otherK; rw [hk]; rfl
    subst hr2
    rw [hk] at q0
    clear hr hk
    go_wp2_with fail
    go_ret
    exact ⟨rfl, HB.out⟩
  · have hr2 : r = true := by rw [← hr]; unfold Bs.mayB Bs.isK Bs.otherK; rw [hk]; rfl
    subst hr2
    rw [hk] at q0
    clear hr hk
    go_wp2_with fail
    go_ret
    exact ⟨rfl, HB.out⟩
  · obtain ⟨k1, k2, k3, k4, k5, k6⟩ := hk
    have g1 : (a.kind == 9) = false := by simpa using k1
    have g2 : (a.kind == 10) = false := by simpa using k2
    have g3 : (a.kind == 11) = false := by simpa using k3
    have g4 : (a.kind == 18) = false := by simpa using k4
    have g5 : (a.kind == 19) = false := by simpa using k5
    have g6 : (a.kind == 20) = false := by simpa using k6
    have hr2 : r = false := by rw [← hr]; unfold Bs.mayB Bs.isK Bs.otherK; rw [g1, g2, g3, g4, g5, g6]; rfl
    subst hr2
    clear hr k1 k2 k3 k4 k5 k6
    go_wp2_with fail
    go_ret
    exact ⟨rfl, HB.out⟩
end Go.Proofs.Ytkknfhbaldeigaa
