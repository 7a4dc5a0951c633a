/-
  Contracts of locks.Job: Done, behind, take, act, give, Step. Contracts of locks.Job: act, give, Step. Contract of locks.Job.Step: which of its steps it is.
-/
import Derived.Test.YtjeolfcefeglpabGreatXbl
set_option maxRecDepth 20000
namespace Go.Proofs.YtjeolfcefeglpabGreat
open Go.ChangeShapes Go.WideShapes Go.ChangeAt Go.RowKit
variable {Z : Nat → Prop}

theorem JobAt.lt {W : World} {b off : Nat} {v : Value} {took gave : Int} {did : Bool} (h : JobAt W b off v took gave did) : b < W.heap.size := World.block_lt_of_cell? W _ h.c0
theorem JobAt.on {W W' : World} {b off : Nat} {v : Value} {took gave : Int} {did : Bool} (h : JobAt W b off v took gave did) (hb : W'.heap[b]? = W.heap[b]?) : JobAt W' b off v took gave did :=
  ⟨(World.cell?_of_block (w := W) (a := ⟨b, off, none⟩) hb).trans h.c0, (World.cell?_of_block (w := W) (a := ⟨b, off + 1, none⟩) hb).trans h.c1, (World.cell?_of_block (w := W) (a := ⟨b, off + 2, none⟩) hb).trans h.c2, (World.cell?_of_block (w := W) (a := ⟨b, off + 3, none⟩) hb).trans h.c3,
    (World.frozen?_of_block (w := W) (a := ⟨b, off + 1, none⟩) hb).trans h.f1, (World.frozen?_of_block (w := W) (a := ⟨b, off + 2, none⟩) hb).trans h.f2, (World.frozen?_of_block (w := W) (a := ⟨b, off + 3, none⟩) hb).trans h.f3⟩
theorem JobAt.low {W W' : World} {b off : Nat} {v : Value} {took gave : Int} {did : Bool} (h : JobAt W b off v took gave did) (hb : Below W.heap.size W W') : JobAt W' b off v took gave did := h.on (hb.block b h.lt)
theorem cell_ne {W : World} {b i j : Nat} (h : i ≠ j) (v : Value) : (W.setCell ⟨b, i, none⟩ v).cell? ⟨b, j, none⟩ = W.cell? ⟨b, j, none⟩ := by
  apply World.cell?_setCell_other
  intro e
  exact h (by cases e; rfl)
theorem cell_eq {W : World} {b i : Nat} {u : Value} (h : W.cell? ⟨b, i, none⟩ = some u) (v : Value) : (W.setCell ⟨b, i, none⟩ v).cell? ⟨b, i, none⟩ = some v := World.cell?_setCell_same' _ _ _ (by rw [h]; rfl)
theorem JobAt.took {W : World} {b off : Nat} {v : Value} {took gave : Int} {did : Bool} (h : JobAt W b off v took gave did) (x : Int) : JobAt (W.setCell ⟨b, off + 1, none⟩ (.int .i64 x)) b off v x gave did :=
  ⟨(cell_ne (by omega) _).trans h.c0, cell_eq h.c1 _, (cell_ne (by omega) _).trans h.c2, (cell_ne (by omega) _).trans h.c3, by rw [World.frozen?_setCell]; exact h.f1, by rw [World.frozen?_setCell]; exact h.f2, by rw [World.frozen?_setCell]; exact h.f3⟩
theorem JobAt.gave {W : World} {b off : Nat} {v : Value} {took gave : Int} {did : Bool} (h : JobAt W b off v took gave did) (x : Int) : JobAt (W.setCell ⟨b, off + 2, none⟩ (.int .i64 x)) b off v took x did :=
  ⟨(cell_ne (by omega) _).trans h.c0, (cell_ne (by omega) _).trans h.c1, cell_eq h.c2 _, (cell_ne (by omega) _).trans h.c3, by rw [World.frozen?_setCell]; exact h.f1, by rw [World.frozen?_setCell]; exact h.f2, by rw [World.frozen?_setCell]; exact h.f3⟩
theorem JobAt.did {W : World} {b off : Nat} {v : Value} {took gave : Int} {did : Bool} (h : JobAt W b off v took gave did) (x : Bool) : JobAt (W.setCell ⟨b, off + 3, none⟩ (.bool x)) b off v took gave x :=
  ⟨(cell_ne (by omega) _).trans h.c0, (cell_ne (by omega) _).trans h.c1, (cell_ne (by omega) _).trans h.c2, cell_eq h.c3 _, by rw [World.frozen?_setCell]; exact h.f1, by rw [World.frozen?_setCell]; exact h.f2, by rw [World.frozen?_setCell]; exact h.f3⟩
set_option maxHeartbeats 2000000 in
theorem done_c (b off : Nat) (p : Option Addr) (m cap : Nat) (took gave : Int) (did : Bool) (w : World) (hj : JobAt w b off (.slice p m cap) took gave did) :
    Calls Tryz.prog 16 #[.pointer (some ⟨b, off, none⟩)] w fun e w' => e = .returned (.bool (did && (gave == (m : Int)))) ∧ Below w.heap.size w w' := by
  obtain ⟨c0, c1, c2, c3, -, -, -⟩ := hj
  cases did
  · go_enter Tryz.func16, Tryz.ntmps16
    go_wp2_with fail
    go_quiet (fail)
    have HB := Lib.hid (below_dnS (Below.refl w.heap.size w) nq)
    go_wp2_with fail
    go_ret
    exact ⟨rfl, HB.out⟩
  · go_enter Tryz.func16, Tryz.ntmps16
    go_wp2_with fail
    go_quiet (fail)
    have HB := Lib.hid (below_dnS (Below.refl w.heap.size w) nq)
    go_wp2_with fail
    go_ret
    exact ⟨rfl, HB.out⟩
theorem behind_c (b off : Nat) (p : Option Addr) (m cap : Nat) (took gave told : Int) (did : Bool) (w : World) (hj : JobAt w b off (.slice p m cap) took gave did) :
    Calls Tryz.prog 63 #[.pointer (some ⟨b, off, none⟩), .int .i64 told] w fun e w' => e = .returned (.int .i64 (if (did && (gave == (m : Int))) = true then 4 else told)) ∧ Below w.heap.size w w' := by
  have HX := Lib.hid (done_c b off p m cap took gave did w hj)
  clear hj
  generalize (did && (gave == (m : Int))) = d at *
  go_enter Tryz.func63, Tryz.ntmps63
  go_wp2_with fail
  refine HX.out.mono ?_
  rintro e w1 ⟨rfl, hb⟩
  have HB := Lib.hid hb
  clear hb
  cases d
  · go_wp2_with fail
    go_ret
    exact ⟨rfl, HB.out⟩
  · go_wp2_with fail
    go_ret
    exact ⟨rfl, HB.out⟩
/-- Of what is none of the locks' only the job at b, off has changed. -/
structure JobOnly (Z : Nat → Prop) (b off : Nat) (w w' : World) : Prop where
  blk : ∀ k, Z k → k ≠ b → w'.heap[k]? = w.heap[k]?
  cell : ∀ j, j ≠ off + 1 → j ≠ off + 2 → j ≠ off + 3 → w'.cell? ⟨b, j, none⟩ = w.cell? ⟨b, j, none⟩
  froz : ∀ j, w'.frozen? ⟨b, j, none⟩ = w.frozen? ⟨b, j, none⟩
theorem JobOnly.of_kept {b off : Nat} {w w' : World} (h : KeptZ Z w w') (hz : Z b) : JobOnly Z b off w w' :=
  ⟨fun k hk _ => h k hk, fun j _ _ _ => World.cell?_of_block (w := w) (a := ⟨b, j, none⟩) (h b hz), fun j => World.frozen?_of_block (w := w) (a := ⟨b, j, none⟩) (h b hz)⟩
theorem JobOnly.trans {b off : Nat} {u v w : World} (h : JobOnly Z b off u v) (k : JobOnly Z b off v w) : JobOnly Z b off u w :=
  ⟨fun j hz hj => (k.blk j hz hj).trans (h.blk j hz hj), fun j a1 a2 a3 => (k.cell j a1 a2 a3).trans (h.cell j a1 a2 a3), fun j => (k.froz j).trans (h.froz j)⟩
theorem JobOnly.set {b off : Nat} {w : World} (i : Nat) (hi : i = off + 1 ∨ i = off + 2 ∨ i = off + 3) (v : Value) : JobOnly Z b off w (w.setCell ⟨b, i, none⟩ v) :=
  ⟨fun k _ hk => heap_setCell_other w ⟨b, i, none⟩ k v hk, fun j a1 a2 a3 => cell_ne (by omega) v, fun j => World.frozen?_setCell _ _ _ _⟩
set_option maxHeartbeats 4000000 in
/-- The step that takes a lock, at the least one that the job hasn't yet. -/
theorem jtake_c (b off : Nat) (p : Option Addr) (cap : Nat) (xs : List Int) (k : Nat) (gave who : Int) (did : Bool) (base lp mb n : Nat) (R : Int → List Int) (w : World)
    (hj : JobAt w b off (.slice p xs.length cap) k gave did) (hz : Z b) (hbl : b ≠ lp) (hbb : base ≤ b) (hv : Vw w p (iV xs)) (hk : k < xs.length) (hx : InI (xs.getD k 0)) (hl : xs.length ≤ 1000000) (h : LkAt Z w base lp mb n R) :
    Calls Tryz.prog 31 #[.pointer (some ⟨b, off, none⟩), .pointer (some ⟨lp, 0, none⟩), .int .i64 who] w fun e w' =>
      e = .returned (.int .i64 (if Lk.takeT R n who (xs.getD k 0) = true then 1 else 0)) ∧ LkAt Z w' base lp mb n (Lk.take R n who (xs.getD k 0)) ∧ Below base w w' ∧ JobOnly Z b off w w' ∧
        JobAt w' b off (.slice p xs.length cap) (if Lk.takeT R n who (xs.getD k 0) = true then ((k + 1 : Nat) : Int) else k) gave did := by
  obtain ⟨pb, po, rfl, hpl, hcell⟩ := hv.cells (by omega)
  have ck := hcell k hk
  have HJ := Lib.hid hj
  have HH := Lib.hid h
  have HX := Lib.hid hx
  have hbase : base ≤ w.heap.size := by have := h.b0; have := h.lt; omega
  clear hj h hx
  generalize hy : xs.getD k 0 = y at *
  have g : (k : Int) < xs.length := by omega
  have HTK := Lib.hid (fun W (hW : LkAt Z W base lp mb n R) => take_c who y base lp mb n R W hW HX.out)
  clear hcell hv
  generalize Lk.takeT R n who y = told at *
  generalize Lk.take R n who y = R2 at *
  cases told
  · simp only [Bool.false_eq_true, if_false]
    go_enter Tryz.func31, Tryz.ntmps31
    go_upto_region 1 with fail
    refine wp_region_steady_tail (fun W => Below w.heap.size w W) 12 (by kernel_rfl) (by kernel_rfl) ((Below.refl _ _).drew) ?_
    iterate 12
      refine steady_val ?_ ?_ (by kernel_rfl) (fun W hS => ?_) ?_ ?_
      rotate_left 2
      · have hJ := HJ.out.low hS
        have d0 := hJ.c0
        have d1 := hJ.c1
        have dk := (hS.cell (p := ⟨pb, po + k, none⟩) hpl).trans ck
        go_simp
        exact rfl
      · go_simp
        exact rfl
    refine steady_nil ?_
    intro W hW
    simp only [List.drop_succ_cons, List.drop_zero]
    have HW := Lib.hid hW
    clear hW ck
    go_wp2_with fail
    refine (HTK.out W (HH.out.low HW.out)).mono ?_
    rintro e w2 ⟨rfl, hL, hb, hkz⟩
    have HL2 := Lib.hid hL
    have HB2 := Lib.hid ((HW.out.mono hbase).trans hb)
    have HJ2 := Lib.hid ((HJ.out.low HW.out).on (hkz b hz))
    have HO2 := Lib.hid ((JobOnly.of_kept (off := off) (KeptZ.below HH.out HW.out) hz).trans (JobOnly.of_kept hkz hz))
    clear hL hb hkz
    go_wp2_with fail
    go_ret
    exact ⟨rfl, HL2.out, HB2.out, HO2.out, HJ2.out⟩
  · simp only [if_true]
    go_enter Tryz.func31, Tryz.ntmps31
    go_upto_region 1 with fail
    refine wp_region_steady_tail (fun W => Below w.heap.size w W) 12 (by kernel_rfl) (by kernel_rfl) ((Below.refl _ _).drew) ?_
    iterate 12
      refine steady_val ?_ ?_ (by kernel_rfl) (fun W hS => ?_) ?_ ?_
      rotate_left 2
      · have hJ := HJ.out.low hS
        have d0 := hJ.c0
        have d1 := hJ.c1
        have dk := (hS.cell (p := ⟨pb, po + k, none⟩) hpl).trans ck
        go_simp
        exact rfl
      · go_simp
        exact rfl
    refine steady_nil ?_
    intro W hW
    simp only [List.drop_succ_cons, List.drop_zero]
    have HW := Lib.hid hW
    clear hW ck
    go_wp2_with fail
    refine (HTK.out W (HH.out.low HW.out)).mono ?_
    rintro e w2 ⟨rfl, hL, hb, hkz⟩
    have HL2 := Lib.hid hL
    have HB2 := Lib.hid ((HW.out.mono hbase).trans hb)
    have HJ2 := Lib.hid ((HJ.out.low HW.out).on (hkz b hz))
    have HO2 := Lib.hid ((JobOnly.of_kept (off := off) (KeptZ.below HH.out HW.out) hz).trans (JobOnly.of_kept hkz hz))
    clear hL hb hkz
    have c1 := HJ2.out.c1
    have f1 := HJ2.out.f1
    have HL3 := Lib.hid (HL2.out.far (i := off + 1) hz hbl (.int .i64 ((k + 1 : Nat) : Int)))
    have HB3 := Lib.hid (HB2.out.setCell (p := ⟨b, off + 1, none⟩) hbb (.int .i64 ((k + 1 : Nat) : Int)))
    have HO3 := Lib.hid (HO2.out.trans (JobOnly.set (w := w2) (off + 1) (.inl rfl) (.int .i64 ((k + 1 : Nat) : Int))))
    have HJ3 := Lib.hid (HJ2.out.took ((k + 1 : Nat) : Int))
    have hw : IntKind.i64.wrap ((k : Int) + 1) = ((k + 1 : Nat) : Int) := by rw [IntKind.wrap_i64]; omega
    go_wp2_with fail
    go_ret
    exact ⟨rfl, HL3.out, HB3.out, HO3.out, HJ3.out⟩
end Go.Proofs.YtjeolfcefeglpabGreat
set_option maxRecDepth 20000
namespace Go.Proofs.YtjeolfcefeglpabGreat
open Go.ChangeShapes Go.WideShapes Go.ChangeAt Go.RowKit
variable {Z : Nat → Prop}

theorem fn_not_nil (F : FuncId) (cs : Array Value) (w : World) : (binOp .neq 1 (.func (.func F) #[] cs) .nilFunc).run Tryz.prog w = .ok (.bool true) w := by kernel_rfl
set_option maxHeartbeats 2000000 in
/-- The step that does what the job is for. -/
theorem jact_c (b off : Nat) (p : Option Addr) (m cap : Nat) (took gave : Int) (did : Bool) (F : FuncId) (cs : Array Value) (Post : World → Prop) (w : World) (hj : JobAt w b off (.slice p m cap) took gave did)
    (hA : Calls Tryz.prog F cs (w.setCell ⟨b, off + 3, none⟩ (.bool true)) fun e w' => e = .returned (.tuple #[]) ∧ Post w') (hJ : ∀ w', Post w' → JobAt w' b off (.slice p m cap) took gave true) (hE : Go.Proofs.Enters Tryz.prog F) :
    Calls Tryz.prog 32 #[.pointer (some ⟨b, off, none⟩), .func (.func F) #[] cs] w fun e w' => e = .returned (.int .i64 (if (true && (gave == (m : Int))) = true then 4 else 2)) ∧ ∃ w1, Post w1 ∧ Below w1.heap.size w1 w' := by
  have c3 := hj.c3
  have f3 := hj.f3
  have hq := fn_not_nil F cs
  have HA := Lib.hid hA
  have HJ := Lib.hid hJ
  have HE := Lib.hid hE
  have HB := Lib.hid (fun w' (h : JobAt w' b off (.slice p m cap) took gave true) => behind_c b off p m cap took gave 2 true w' h)
  clear hA hJ hE hj
  generalize (if (true && (gave == (m : Int))) = true then (4 : Int) else 2) = r at *
  go_enter Tryz.func32, Tryz.ntmps32
  go_wp2_with fail
  rw [HE.out]
  refine HA.out.mono ?_
  rintro e w1 ⟨rfl, hp⟩
  have HP := Lib.hid hp
  clear hp
  go_wp2_with fail
  refine (HB.out w1 (HJ.out w1 HP.out)).mono ?_
  rintro e w2 ⟨rfl, hb⟩
  have HB2 := Lib.hid hb
  clear hb
  go_wp2_with fail
  go_ret
  exact ⟨rfl, w1, HP.out, HB2.out⟩
set_option maxHeartbeats 4000000 in
/-- The step that gives a lock back, the greatest that the job still has. -/
theorem jgive_c (b off pb po cap : Nat) (xs : List Int) (k : Nat) (took who : Int) (base lp mb n : Nat) (R : Int → List Int) (w : World)
    (hj : JobAt w b off (.slice (some ⟨pb, po, none⟩) xs.length cap) took k true) (hz : Z b) (hbl : b ≠ lp) (hbb : base ≤ b) (hpb : pb ≠ b) (hpl : pb < w.heap.size) (hcell : ∀ j, j < xs.length → w.cell? ⟨pb, po + j, none⟩ = some (.int .i64 (xs.getD j 0)))
    (hk : k < xs.length) (hx : InI (xs.getD (xs.length - (k + 1)) 0)) (hl : xs.length ≤ 1000000) (h : LkAt Z w base lp mb n R) :
    Calls Tryz.prog 33 #[.pointer (some ⟨b, off, none⟩), .pointer (some ⟨lp, 0, none⟩), .int .i64 who] w fun e w' =>
      e = .returned (.int .i64 (if (true && (((k : Int) + 1) == (xs.length : Int))) = true then 4 else 3)) ∧ LkAt Z w' base lp mb n (Lk.drop R who (xs.getD (xs.length - (k + 1)) 0)) ∧ Below base w w' ∧ JobOnly Z b off w w' ∧
        JobAt w' b off (.slice (some ⟨pb, po, none⟩) xs.length cap) took ((k : Int) + 1) true := by
  have c2 := hj.c2
  have f2 := hj.f2
  have ck := (World.cell?_of_block (w := w) (a := ⟨pb, po + (xs.length - (k + 1)), none⟩) (heap_setCell_other w ⟨b, off + 2, none⟩ pb (.int .i64 ((k : Int) + 1)) hpb)).trans (hcell (xs.length - (k + 1)) (by omega))
  have HJ1 := Lib.hid (hj.gave ((k : Int) + 1))
  have HH1 := Lib.hid (h.far (i := off + 2) hz hbl (.int .i64 ((k : Int) + 1)))
  have HO1 := Lib.hid (JobOnly.set (Z := Z) (b := b) (off := off) (w := w) (off + 2) (.inr (.inl rfl)) (.int .i64 ((k : Int) + 1)))
  have HB1 := Lib.hid ((Below.refl base w).setCell (p := ⟨b, off + 2, none⟩) hbb (.int .i64 ((k : Int) + 1)))
  have hpl1 : pb < (w.setCell ⟨b, off + 2, none⟩ (.int .i64 ((k : Int) + 1))).heap.size := by rw [World.size_setCell]; exact hpl
  have hbase : base ≤ (w.setCell ⟨b, off + 2, none⟩ (.int .i64 ((k : Int) + 1))).heap.size := by have := HH1.out.b0; have := HH1.out.lt; omega
  have HX := Lib.hid hx
  have hw : IntKind.i64.wrap ((k : Int) + 1) = ((k : Int) + 1) := by rw [IntKind.wrap_i64]; omega
  have hw2 : IntKind.i64.wrap ((xs.length : Int) - ((k : Int) + 1)) = ((xs.length - (k + 1) : Nat) : Int) := by rw [IntKind.wrap_i64]; omega
  have hlt : ((xs.length - (k + 1) : Nat) : Int) < xs.length := by omega
  clear hj h hx hcell
  have HTK := Lib.hid (fun W (hW : LkAt Z W base lp mb n R) => drop_c who (xs.getD (xs.length - (k + 1)) 0) base lp mb n R W hW HX.out)
  generalize hR2 : Lk.drop R who (xs.getD (xs.length - (k + 1)) 0) = R2 at *
  generalize xs.getD (xs.length - (k + 1)) 0 = y at *
  have HBE := Lib.hid (fun w' (h : JobAt w' b off (.slice (some ⟨pb, po, none⟩) xs.length cap) took ((k : Int) + 1) true) => behind_c b off _ _ cap took ((k : Int) + 1) 3 true w' h)
  generalize (if (true && (((k : Int) + 1) == (xs.length : Int))) = true then (4 : Int) else 3) = r at *
  go_enter Tryz.func33, Tryz.ntmps33
  go_upto_region 2 with fail
  generalize w.setCell ⟨b, off + 2, none⟩ (.int .i64 ((k : Int) + 1)) = w1 at *
  refine wp_region_steady_tail (fun W => Below w1.heap.size w1 W) 18 (by kernel_rfl) (by kernel_rfl) ((Below.refl _ _).drew) ?_
  iterate 18
    refine steady_val ?_ ?_ (by kernel_rfl) (fun W hS => ?_) ?_ ?_
    rotate_left 2
    · have hJ := HJ1.out.low hS
      have d0 := hJ.c0
      have d2 := hJ.c2
      have dk := (hS.cell (p := ⟨pb, po + (xs.length - (k + 1)), none⟩) hpl1).trans ck
      go_simp
      exact rfl
    · go_simp
      exact rfl
  refine steady_nil ?_
  intro W hW
  simp only [List.drop_succ_cons, List.drop_zero]
  have HW := Lib.hid hW
  clear hW ck
  go_wp2_with fail
  refine (HTK.out W (HH1.out.low HW.out)).mono ?_
  rintro e w2 ⟨rfl, hL, hb, hkz⟩
  have HL2 := Lib.hid hL
  have HB2 := Lib.hid (HB1.out.trans ((HW.out.mono hbase).trans hb))
  have HJ2 := Lib.hid ((HJ1.out.low HW.out).on (hkz b hz))
  have HO2 := Lib.hid (HO1.out.trans ((JobOnly.of_kept (off := off) (KeptZ.below HH1.out HW.out) hz).trans (JobOnly.of_kept hkz hz)))
  clear hL hb hkz
  go_wp2_with fail
  refine (HBE.out w2 HJ2.out).mono ?_
  rintro e w3 ⟨rfl, hb3⟩
  have HL3 := Lib.hid (HL2.out.low hb3)
  have HB3 := Lib.hid (HB2.out.trans (hb3.mono (by have := HL2.out.b0; have := HL2.out.lt; omega)))
  have HJ3 := Lib.hid (HJ2.out.low hb3)
  have HO3 := Lib.hid (HO2.out.trans (JobOnly.of_kept (KeptZ.below HL2.out hb3) hz))
  clear hb3
  go_wp2_with fail
  go_ret
  exact ⟨rfl, HL3.out, HB3.out, HO3.out, HJ3.out⟩
end Go.Proofs.YtjeolfcefeglpabGreat
set_option maxRecDepth 20000
namespace Go.Proofs.YtjeolfcefeglpabGreat
open Go.ChangeShapes Go.WideShapes Go.ChangeAt Go.RowKit

theorem step_over (b off : Nat) (p : Option Addr) (m cap : Nat) (took gave who : Int) (did : Bool) (lv f : Value) (w : World) (hj : JobAt w b off (.slice p m cap) took gave did) (hd : (did && (gave == (m : Int))) = true) :
    Calls Tryz.prog 11 #[.pointer (some ⟨b, off, none⟩), lv, .int .i64 who, f] w fun e w' => e = .returned (.int .i64 4) ∧ Below w.heap.size w w' := by
  have HX := Lib.hid (done_c b off p m cap took gave did w hj)
  rw [hd] at HX
  clear hj hd
  go_enter Tryz.func11, Tryz.ntmps11
  go_wp2_with fail
  refine HX.out.mono ?_
  rintro e w1 ⟨rfl, hb⟩
  have HB := Lib.hid hb
  clear hb
  go_wp2_with fail
  go_ret
  exact ⟨rfl, HB.out⟩
set_option maxHeartbeats 2000000 in
theorem step_take (b off : Nat) (p : Option Addr) (m cap : Nat) (took gave who : Int) (did : Bool) (lv f : Value) (Q : Int → World → Prop) (w : World) (hj : JobAt w b off (.slice p m cap) took gave did) (hd : (did && (gave == (m : Int))) = false) (hk : took < (m : Int))
    (H : ∀ W, Below w.heap.size w W → Calls Tryz.prog 31 #[.pointer (some ⟨b, off, none⟩), lv, .int .i64 who] W fun e w' => ∃ r, e = .returned (.int .i64 r) ∧ Q r w') :
    Calls Tryz.prog 11 #[.pointer (some ⟨b, off, none⟩), lv, .int .i64 who, f] w fun e w' => ∃ r, e = .returned (.int .i64 r) ∧ Q r w' := by
  have HX := Lib.hid (done_c b off p m cap took gave did w hj)
  rw [hd] at HX
  have HJ := Lib.hid hj
  have HH := Lib.hid H
  clear hj hd H
  go_enter Tryz.func11, Tryz.ntmps11
  go_wp2_with fail
  refine HX.out.mono ?_
  rintro e w1 ⟨rfl, hb⟩
  have HB := Lib.hid hb
  have hJ := HJ.out.low hb
  have c0 := hJ.c0
  have c1 := hJ.c1
  clear hb hJ
  go_wp2_with fail
  go_quiet (fail)
  have HW := Lib.hid (HH.out (w1.drewN nq) (below_dnS HB.out nq))
  go_wp2_with fail
  refine HW.out.mono ?_
  rintro e w2 ⟨r, rfl, hq⟩
  have HQ := Lib.hid hq
  clear hq
  go_wp2_with fail
  go_ret
  exact ⟨_, rfl, HQ.out⟩
set_option maxHeartbeats 2000000 in
theorem step_act (b off : Nat) (p : Option Addr) (m cap : Nat) (took gave who : Int) (lv f : Value) (Q : Int → World → Prop) (w : World) (hj : JobAt w b off (.slice p m cap) took gave false) (hk : ¬ took < (m : Int))
    (H : ∀ W, Below w.heap.size w W → Calls Tryz.prog 32 #[.pointer (some ⟨b, off, none⟩), f] W fun e w' => ∃ r, e = .returned (.int .i64 r) ∧ Q r w') :
    Calls Tryz.prog 11 #[.pointer (some ⟨b, off, none⟩), lv, .int .i64 who, f] w fun e w' => ∃ r, e = .returned (.int .i64 r) ∧ Q r w' := by
  have HX := Lib.hid (done_c b off p m cap took gave false w hj)
  rw [Bool.false_and] at HX
  have HJ := Lib.hid hj
  have HH := Lib.hid H
  clear hj H
  go_enter Tryz.func11, Tryz.ntmps11
  go_wp2_with fail
  refine HX.out.mono ?_
  rintro e w1 ⟨rfl, hb⟩
  have HB := Lib.hid hb
  have hJ := HJ.out.low hb
  have c0 := hJ.c0
  have c1 := hJ.c1
  clear hb hJ
  go_wp2_with fail
  go_quiet (fail)
  have HW := Lib.hid (HH.out (w1.drewN nq) (below_dnS HB.out nq))
  have c3 := (HJ.out.low (below_dnS HB.out nq)).c3
  go_wp2_with fail
  refine HW.out.mono ?_
  rintro e w2 ⟨r, rfl, hq⟩
  have HQ := Lib.hid hq
  clear hq
  go_wp2_with fail
  go_ret
  exact ⟨_, rfl, HQ.out⟩
set_option maxHeartbeats 2000000 in
theorem step_give (b off : Nat) (p : Option Addr) (m cap : Nat) (took gave who : Int) (lv f : Value) (Q : Int → World → Prop) (w : World) (hj : JobAt w b off (.slice p m cap) took gave true) (hd : (true && (gave == (m : Int))) = false) (hk : ¬ took < (m : Int))
    (H : ∀ W, Below w.heap.size w W → Calls Tryz.prog 33 #[.pointer (some ⟨b, off, none⟩), lv, .int .i64 who] W fun e w' => ∃ r, e = .returned (.int .i64 r) ∧ Q r w') :
    Calls Tryz.prog 11 #[.pointer (some ⟨b, off, none⟩), lv, .int .i64 who, f] w fun e w' => ∃ r, e = .returned (.int .i64 r) ∧ Q r w' := by
  have HX := Lib.hid (done_c b off p m cap took gave true w hj)
  rw [hd] at HX
  have HJ := Lib.hid hj
  have HH := Lib.hid H
  clear hj H hd
  go_enter Tryz.func11, Tryz.ntmps11
  go_wp2_with fail
  refine HX.out.mono ?_
  rintro e w1 ⟨rfl, hb⟩
  have HB := Lib.hid hb
  have hJ := HJ.out.low hb
  have c0 := hJ.c0
  have c1 := hJ.c1
  clear hb hJ
  go_wp2_with fail
  go_quiet (fail)
  have HW := Lib.hid (HH.out (w1.drewN nq) (below_dnS HB.out nq))
  have c3 := (HJ.out.low (below_dnS HB.out nq)).c3
  go_wp2_with fail
  refine HW.out.mono ?_
  rintro e w2 ⟨r, rfl, hq⟩
  have HQ := Lib.hid hq
  clear hq
  go_wp2_with fail
  go_ret
  exact ⟨_, rfl, HQ.out⟩
end Go.Proofs.YtjeolfcefeglpabGreat
