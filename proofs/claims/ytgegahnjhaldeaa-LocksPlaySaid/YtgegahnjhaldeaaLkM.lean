/-
  Contracts of locks.Job: Done, behind, take, act, give, Step.
-/
import Derived.Test.YtgegahnjhaldeaaLkJ
namespace Go.Proofs.Ytgegahnjhaldeaa
open Go.ChangeShapes Go.WideShapes Go.ChangeAt Go.RowKit
variable {Z : Nat → Prop}

theorem JobAt.lt {W : World} {b off : Nat} {v : Value} {took gave : Int} {did : Bool} (h : JobAt W b off v took gave did) : b < W.heap.size := World.block_lt_of_cell? W _ h.c0
theorem JobAt.on {W W' : World} {b off : Nat} {v : Value} {took gave : Int} {did : Bool} (h : JobAt W b off v took gave did) (hb : W'.heap[b]? = W.heap[b]?) : JobAt W' b off v took gave did :=
  ⟨(World.cell?_of_block (w := W) (a := ⟨b, off, none⟩) hb).trans h.c0, (World.cell?_of_block (w := W) (a := ⟨b, off + 1, none⟩) hb).trans h.c1, (World.cell?_of_block (w := W) (a := ⟨b, off + 2, none⟩) hb).trans h.c2, (World.cell?_of_block (w := W) (a := ⟨b, off + 3, none⟩) hb).trans h.c3,
    (World.frozen?_of_block (w := W) (a := ⟨b, off + 1, none⟩) hb).trans h.f1, (World.frozen?_of_block (w := W) (a := ⟨b, off + 2, none⟩) hb).trans h.f2, (World.frozen?_of_block (w := W) (a := ⟨b, off + 3, none⟩) hb).trans h.f3⟩
theorem JobAt.low {W W' : World} {b off : Nat} {v : Value} {took gave : Int} {did : Bool} (h : JobAt W b off v took gave did) (hb : Below W.heap.size W W') : JobAt W' b off v took gave did := h.on (hb.block b h.lt)
theorem cell_ne {W : World} {b i j : Nat} (h : i ≠ j) (v : Value) : (W.setCell ⟨b, i, none⟩ v).cell? ⟨b, j, none⟩ = W.cell? ⟨b, j, none⟩ := by
  apply World.cell?_setCell_other
  intro e
  exact h (by cases e; rfl)
theorem cell_eq {W : World} {b i : Nat} {u : Value} (h : W.cell? ⟨b, i, none⟩ = some u) (v : Value) : (W.setCell ⟨b, i, none⟩ v).cell? ⟨b, i, none⟩ = some v := World.cell?_setCell_same' _ _ _ (by rw [h]; rfl)
theorem JobAt.took {W : World} {b off : Nat} {v : Value} {took gave : Int} {did : Bool} (h : JobAt W b off v took gave did) (x : Int) : JobAt (W.setCell ⟨b, off + 1, none⟩ (.int .i64 x)) b off v x gave did :=
  ⟨(cell_ne (by omega) _).trans h.c0, cell_eq h.c1 _, (cell_ne (by omega) _).trans h.c2, (cell_ne (by omega) _).trans h.c3, by rw [World.frozen?_setCell]; exact h.f1, by rw [World.frozen?_setCell]; exact h.f2, by rw [World.frozen?_setCell]; exact h.f3⟩
theorem JobAt.gave {W : World} {b off : Nat} {v : Value} {took gave : Int} {did : Bool} (h : JobAt W b off v took gave did) (x : Int) : JobAt (W.setCell ⟨b, off + 2, none⟩ (.int .i64 x)) b off v took x did :=
  ⟨(cell_ne (by omega) _).trans h.c0, (cell_ne (by omega) _).trans h.c1, cell_eq h.c2 _, (cell_ne (by omega) _).trans h.c3, by rw [World.frozen?_setCell]; exact h.f1, by rw [World.frozen?_setCell]; exact h.f2, by rw [World.frozen?_setCell]; exact h.f3⟩
theorem JobAt.did {W : World} {b off : Nat} {v : Value} {took gave : Int} {did : Bool} (h : JobAt W b off v took gave did) (x : Bool) : JobAt (W.setCell ⟨b, off + 3, none⟩ (.bool x)) b off v took gave x :=
  ⟨(cell_ne (by omega) _).trans h.c0, (cell_ne (by omega) _).trans h.c1, (cell_ne (by omega) _).trans h.c2, cell_eq h.c3 _, by rw [World.frozen?_setCell]; exact h.f1, by rw [World.frozen?_setCell]; exact h.f2, by rw [World.frozen?_setCell]; exact h.f3⟩
set_option maxHeartbeats 2000000 in
theorem done_c (b off : Nat) (p : Option Addr) (m cap : Nat) (took gave : Int) (did : Bool) (w : World) (hj : JobAt w b off (.slice p m cap) took gave did) :
    Calls Try.prog 24 #[.pointer (some ⟨b, off, none⟩)] w fun e w' => e = .returned (.bool (did && (gave == (m : Int)))) ∧ Below w.heap.size w w' := by
  obtain ⟨c0, c1, c2, c3, -, -, -⟩ := hj
  cases did
  · go_enter Try.func24, Try.ntmps24
    go_wp2_with fail
    go_quiet (fail)
    have HB := Lib.hid (below_dnS (Below.refl w.heap.size w) nq)
    go_wp2_with fail
    go_ret
    exact ⟨rfl, HB.out⟩
  · go_enter Try.func24, Try.ntmps24
    go_wp2_with fail
    go_quiet (fail)
    have HB := Lib.hid (below_dnS (Below.refl w.heap.size w) nq)
    go_wp2_with fail
    go_ret
    exact ⟨rfl, HB.out⟩
theorem behind_c (b off : Nat) (p : Option Addr) (m cap : Nat) (took gave told : Int) (did : Bool) (w : World) (hj : JobAt w b off (.slice p m cap) took gave did) :
    Calls Try.prog 58 #[.pointer (some ⟨b, off, none⟩), .int .i64 told] w fun e w' => e = .returned (.int .i64 (if (did && (gave == (m : Int))) = true then 4 else told)) ∧ Below w.heap.size w w' := by
  have HX := Lib.hid (done_c b off p m cap took gave did w hj)
  clear hj
  generalize (did && (gave == (m : Int))) = d at *
  go_enter Try.func58, Try.ntmps58
  go_wp2_with fail
  refine HX.out.mono ?_
  rintro e w1 ⟨rfl, hb⟩
  have HB := Lib.hid hb
  clear hb
  cases d
  · go_wp2_with fail
    go_ret
    exact ⟨rfl, HB.out⟩
  · go_wp2_with fail
    go_ret
    exact ⟨rfl, HB.out⟩
/-- Of what is none of the locks' only the job at b, off has changed. -/
structure JobOnly (Z : Nat → Prop) (b off : Nat) (w w' : World) : Prop where
  blk : ∀ k, Z k → k ≠ b → w'.heap[k]? = w.heap[k]?
  cell : ∀ j, j ≠ off + 1 → j ≠ off + 2 → j ≠ off + 3 → w'.cell? ⟨b, j, none⟩ = w.cell? ⟨b, j, none⟩
  froz : ∀ j, w'.frozen? ⟨b, j, none⟩ = w.frozen? ⟨b, j, none⟩
theorem JobOnly.of_kept {b off : Nat} {w w' : World} (h : KeptZ Z w w') (hz : Z b) : JobOnly Z b off w w' :=
  ⟨fun k hk _ => h k hk, fun j _ _ _ => World.cell?_of_block (w := w) (a := ⟨b, j, none⟩) (h b hz), fun j => World.frozen?_of_block (w := w) (a := ⟨b, j, none⟩) (h b hz)⟩
theorem JobOnly.trans {b off : Nat} {u v w : World} (h : JobOnly Z b off u v) (k : JobOnly Z b off v w) : JobOnly Z b off u w :=
  ⟨fun j hz hj => (k.blk j hz hj).trans (h.blk j hz hj), fun j a1 a2 a3 => (k.cell j a1 a2 a3).trans (h.cell j a1 a2 a3), fun j => (k.froz j).trans (h.froz j)⟩
theorem JobOnly.set {b off : Nat} {w : World} (i : Nat) (hi : i = off + 1 ∨ i = off + 2 ∨ i = off + 3) (v : Value) : JobOnly Z b off w (w.setCell ⟨b, i, none⟩ v) :=
  ⟨fun k _ hk => heap_setCell_other w ⟨b, i, none⟩ k v hk, fun j a1 a2 a3 => cell_ne (by omega) v, fun j => World.frozen?_setCell _ _ _ _⟩
set_option maxHeartbeats 4000000 in
/-- The step that takes a lock, at the least one that the job hasn't yet. -/
theorem jtake_c (b off : Nat) (p : Option Addr) (cap : Nat) (xs : List Int) (k : Nat) (gave who : Int) (did : Bool) (base lp mb n : Nat) (R : Int → List Int) (w : World)
    (hj : JobAt w b off (.slice p xs.length cap) k gave did) (hz : Z b) (hbl : b ≠ lp) (hbb : base ≤ b) (hv : Vw w p (iV xs)) (hk : k < xs.length) (hx : InI (xs.getD k 0)) (hl : xs.length ≤ 1000000) (h : LkAt Z w base lp mb n R) :
    Calls Try.prog 48 #[.pointer (some ⟨b, off, none⟩), .pointer (some ⟨lp, 0, none⟩), .int .i64 who] w fun e w' =>
      e = .returned (.int .i64 (if Lk.takeT R n who (xs.getD k 0) = true then 1 else 0)) ∧ LkAt Z w' base lp mb n (Lk.take R n who (xs.getD k 0)) ∧ Below base w w' ∧ JobOnly Z b off w w' ∧
        JobAt w' b off (.slice p xs.length cap) (if Lk.takeT R n who (xs.getD k 0) = true then ((k + 1 : Nat) : Int) else k) gave did := by
  obtain ⟨pb, po, rfl, hpl, hcell⟩ := hv.cells (by omega)
  have ck := hcell k hk
  have HJ := Lib.hid hj
  have HH := Lib.hid h
  have HX := Lib.hid hx
  have hbase : base ≤ w.heap.size := by have := h.b0; have := h.lt; omega
  clear hj h hx
  generalize hy : xs.getD k 0 = y at *
  have g : (k : Int) < xs.length := by omega
  have HTK := Lib.hid (fun W (hW : LkAt Z W base lp mb n R) => take_c who y base lp mb n R W hW HX.out)
  clear hcell hv
  generalize Lk.takeT R n who y = told at *
  generalize Lk.take R n who y = R2 at *
  cases told
  · simp only [Bool.false_eq_true, if_false]
    go_enter Try.func48, Try.ntmps48
    go_upto_region 1 with fail
    refine wp_region_steady_tail (fun W => Below w.heap.size w W) 12 (by kernel_rfl) (by kernel_rfl) ((Below.refl _ _).drew) ?_
    iterate 12
      refine steady_val ?_ ?_ (by kernel_rfl) (fun W hS => ?_) ?_ ?_
      rotate_left 2
      · have hJ := HJ.out.low hS
        have d0 := hJ.c0
        have d1 := hJ.c1
        have dk := (hS.cell (p := ⟨pb, po + k, none⟩) hpl).trans ck
        go_simp
        exact rfl
      · go_simp
        exact rfl
    refine steady_nil ?_
    intro W hW
    simp only [List.drop_succ_cons, List.drop_zero]
    have HW := Lib.hid hW
    clear hW ck
    go_wp2_with fail
    refine (HTK.out W (HH.out.low HW.out)).mono ?_
    rintro e w2 ⟨rfl, hL, hb, hkz⟩
    have HL2 := Lib.hid hL
    have HB2 := Lib.hid ((HW.out.mono hbase).trans hb)
    have HJ2 := Lib.hid ((HJ.out.low HW.out).on (hkz b hz))
    have HO2 := Lib.hid ((JobOnly.of_kept (off := off) (KeptZ.below HH.out HW.out) hz).trans (JobOnly.of_kept hkz hz))
    clear hL hb hkz
    go_wp2_with fail
    go_ret
    exact ⟨rfl, HL2.out, HB2.out, HO2.out, HJ2.out⟩
  · simp only [if_true]
    go_enter Try.func48, Try.ntmps48
    go_upto_region 1 with fail
    refine wp_region_steady_tail (fun W => Below w.heap.size w W) 12 (by kernel_rfl) (by kernel_rfl) ((Below.refl _ _).drew) ?_
    iterate 12
      refine steady_val ?_ ?_ (by kernel_rfl) (fun W hS => ?_) ?_ ?_
      rotate_left 2
      · have hJ := HJ.out.low hS
        have d0 := hJ.c0
        have d1 := hJ.c1
        have dk := (hS.cell (p := ⟨pb, po + k, none⟩) hpl).trans ck
        go_simp
        exact rfl
      · go_simp
        exact rfl
    refine steady_nil ?_
    intro W hW
    simp only [List.drop_succ_cons, List.drop_zero]
    have HW := Lib.hid hW
    clear hW ck
    go_wp2_with fail
    refine (HTK.out W (HH.out.low HW.out)).mono ?_
    rintro e w2 ⟨rfl, hL, hb, hkz⟩
    have HL2 := Lib.hid hL
    have HB2 := Lib.hid ((HW.out.mono hbase).trans hb)
    have HJ2 := Lib.hid ((HJ.out.low HW.out).on (hkz b hz))
    have HO2 := Lib.hid ((JobOnly.of_kept (off := off) (KeptZ.below HH.out HW.out) hz).trans (JobOnly.of_kept hkz hz))
    clear hL hb hkz
    have c1 := HJ2.out.c1
    have f1 := HJ2.out.f1
    have HL3 := Lib.hid (HL2.out.far (i := off + 1) hz hbl (.int .i64 ((k + 1 : Nat) : Int)))
    have HB3 := Lib.hid (HB2.out.setCell (p := ⟨b, off + 1, none⟩) hbb (.int .i64 ((k + 1 : Nat) : Int)))
    have HO3 := Lib.hid (HO2.out.trans (JobOnly.set (w := w2) (off + 1) (.inl rfl) (.int .i64 ((k + 1 : Nat) : Int))))
    have HJ3 := Lib.hid (HJ2.out.took ((k + 1 : Nat) : Int))
    have hw : IntKind.i64.wrap ((k : Int) + 1) = ((k + 1 : Nat) : Int) := by rw [IntKind.wrap_i64]; omega
    go_wp2_with fail
    go_ret
    exact ⟨rfl, HL3.out, HB3.out, HO3.out, HJ3.out⟩
end Go.Proofs.Ytgegahnjhaldeaa
