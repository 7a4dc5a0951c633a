/-
  Contracts of asm.register, plain, immediate and operands (layer 6): which operands a format has, as function values in memory.
-/
import Derived.Test.YthehcplogkgkeaaGreatDoorQp
import Derived.Test.YthehcplogkgkeaaGreatDoorQm
import Derived.Deep.RegionHeld3
set_option maxRecDepth 4000
namespace Go.Proofs.YthehcplogkgkeaaGreatDoor
open Go.ChangeShapes Go.WideShapes Go.ChangeAt Go.RowKit Wd

/-- An operand as it stands in a slice: two functions that captured one variable. -/
abbrev opdV (t r pa : Nat) : Value := .agg #[.func (.func t) #[] #[.pointer (some ⟨pa, 0, none⟩)], .func (.func r) #[] #[.pointer (some ⟨pa, 0, none⟩)]]
abbrev fnV (f : Nat) : Value := .func (.func f) #[] #[]
abbrev capV (t pa : Nat) : Value := .func (.func t) #[] #[.pointer (some ⟨pa, 0, none⟩)]
theorem info_opd : (Tryz.prog.info? 57).map (·.size) = some 2 := by kernel_rfl
theorem store_fn (fn : Fn) (x y : Array Value) (p : Addr) (m : Mode) (W : World) : (store p (.func fn x y) m).run Tryz.prog W = stored Tryz.prog W p (.func fn x y) m := run_store _ W p _ m rfl
theorem new2 (w : World) (u : Value) (s t : TypeId) (a b c d : Value) : ((w.alloc (.cells #[u] s)).alloc (.cells #[a, b] t)).cell? ⟨w.heap.size + 1, 0, none⟩ = some a ∧ ((w.alloc (.cells #[u] s)).alloc (.cells #[a, b] t)).frozen? ⟨w.heap.size + 1, 0, none⟩ = false ∧
    (((w.alloc (.cells #[u] s)).alloc (.cells #[a, b] t)).setCell ⟨w.heap.size + 1, 0, none⟩ c).cell? ⟨w.heap.size + 1, 1, none⟩ = some b ∧ (((w.alloc (.cells #[u] s)).alloc (.cells #[a, b] t)).setCell ⟨w.heap.size + 1, 0, none⟩ c).frozen? ⟨w.heap.size + 1, 1, none⟩ = false ∧
    ((((w.alloc (.cells #[u] s)).alloc (.cells #[a, b] t)).setCell ⟨w.heap.size + 1, 0, none⟩ c).setCell ⟨w.heap.size + 1, 1, none⟩ d).cell? ⟨w.heap.size + 1, 0, none⟩ = some c ∧ ((((w.alloc (.cells #[u] s)).alloc (.cells #[a, b] t)).setCell ⟨w.heap.size + 1, 0, none⟩ c).setCell ⟨w.heap.size + 1, 1, none⟩ d).cell? ⟨w.heap.size + 1, 1, none⟩ = some d ∧
    ((((w.alloc (.cells #[u] s)).alloc (.cells #[a, b] t)).setCell ⟨w.heap.size + 1, 0, none⟩ c).setCell ⟨w.heap.size + 1, 1, none⟩ d).cell? ⟨w.heap.size, 0, none⟩ = some u := by
  have h1 : ((w.alloc (.cells #[u] s)).alloc (.cells #[a, b] t)).cell? ⟨w.heap.size + 1, 0, none⟩ = some a := by simp [go_sem]
  have h2 : ((w.alloc (.cells #[u] s)).alloc (.cells #[a, b] t)).cell? ⟨w.heap.size + 1, 1, none⟩ = some b := by simp [go_sem]
  have h3 : ((w.alloc (.cells #[u] s)).alloc (.cells #[a, b] t)).cell? ⟨w.heap.size, 0, none⟩ = some u := by simp [go_sem, World.cell?_alloc_past]
  have f1 : ((w.alloc (.cells #[u] s)).alloc (.cells #[a, b] t)).frozen? ⟨w.heap.size + 1, 0, none⟩ = false := by simp [go_sem]
  have f2 : ((w.alloc (.cells #[u] s)).alloc (.cells #[a, b] t)).frozen? ⟨w.heap.size + 1, 1, none⟩ = false := by simp [go_sem]
  generalize (w.alloc (.cells #[u] s)).alloc (.cells #[a, b] t) = W at *
  have e1 : (W.setCell ⟨w.heap.size + 1, 0, none⟩ c).cell? ⟨w.heap.size + 1, 1, none⟩ = some b := (World.cell?_setCell_other (w := W) (a := ⟨w.heap.size + 1, 0, none⟩) (b := ⟨w.heap.size + 1, 1, none⟩) (v := c) (by simp)).trans h2
  have e0 : (W.setCell ⟨w.heap.size + 1, 0, none⟩ c).cell? ⟨w.heap.size + 1, 0, none⟩ = some c := World.cell?_setCell_same' _ _ _ (by rw [h1]; rfl)
  refine ⟨h1, f1, e1, by rw [World.frozen?_setCell]; exact f2, ?_, World.cell?_setCell_same' _ _ _ (by rw [e1]; rfl), ?_⟩
  · exact (World.cell?_setCell_other (w := W.setCell ⟨w.heap.size + 1, 0, none⟩ c) (a := ⟨w.heap.size + 1, 1, none⟩) (b := ⟨w.heap.size + 1, 0, none⟩) (v := d) (by simp)).trans e0
  · rw [World.cell?_setCell_far _ _ _ _ (by simp), World.cell?_setCell_far _ _ _ _ (by simp)]
    exact h3

set_option maxHeartbeats 1000000 in
theorem register_c (f : Nat) (w : World) : Calls Tryz.prog 60 #[fnV f] w fun e w' => e = .returned (opdV 97 99 w.heap.size) ∧ Below w.heap.size w w' ∧ w.heap.size < w'.heap.size ∧ w'.cell? ⟨w.heap.size, 0, none⟩ = some (fnV f) := by
  show Calls Tryz.prog 60 #[.func (.func f) #[] #[]] w _
  go_enter Tryz.func60, Tryz.ntmps60
  obtain ⟨c0, f0, c1, f1, c2, c3, c4⟩ := new2 w (.func (.func f) #[] #[]) 150 57 .nilFunc .nilFunc (.func (.func 97) #[] #[.pointer (some ⟨w.heap.size, 0, none⟩)]) (.func (.func 99) #[] #[.pointer (some ⟨w.heap.size, 0, none⟩)])
  have hsf := store_fn
  go_wp2
  refine bodyPost_ret (v := opdV 97 99 w.heap.size) (by simp [results, Tryz.results60, go_sem, opdV]) rfl ⟨rfl, ((Below.refl _ _).alloc (Nat.le_refl _) _).alloc (by simp) _, by simp; omega, ?_⟩
  simp [go_sem, World.cell?_alloc_past,]
set_option maxHeartbeats 1000000 in
theorem plain_c (f : Nat) (w : World) : Calls Tryz.prog 63 #[fnV f] w fun e w' => e = .returned (opdV 101 103 w.heap.size) ∧ Below w.heap.size w w' ∧ w.heap.size < w'.heap.size ∧ w'.cell? ⟨w.heap.size, 0, none⟩ = some (fnV f) := by
  show Calls Tryz.prog 63 #[.func (.func f) #[] #[]] w _
  go_enter Tryz.func63, Tryz.ntmps63
  obtain ⟨c0, f0, c1, f1, c2, c3, c4⟩ := new2 w (.func (.func f) #[] #[]) 150 57 .nilFunc .nilFunc (.func (.func 101) #[] #[.pointer (some ⟨w.heap.size, 0, none⟩)]) (.func (.func 103) #[] #[.pointer (some ⟨w.heap.size, 0, none⟩)])
  have hsf := store_fn
  go_wp2
  refine bodyPost_ret (v := opdV 101 103 w.heap.size) (by simp [results, Tryz.results63, go_sem, opdV]) rfl ⟨rfl, ((Below.refl _ _).alloc (Nat.le_refl _) _).alloc (by simp) _, by simp; omega, ?_⟩
  simp [go_sem, World.cell?_alloc_past,]
set_option maxHeartbeats 1000000 in
theorem immediate_c (n : Int) (w : World) : Calls Tryz.prog 65 #[.int .i64 n] w fun e w' => e = .returned (opdV 105 106 w.heap.size) ∧ Below w.heap.size w w' ∧ w.heap.size < w'.heap.size ∧ w'.cell? ⟨w.heap.size, 0, none⟩ = some (.int .i64 n) := by
  show Calls Tryz.prog 65 #[.int .i64 n] w _
  go_enter Tryz.func65, Tryz.ntmps65
  obtain ⟨c0, f0, c1, f1, c2, c3, c4⟩ := new2 w (.int .i64 n) 2 57 .nilFunc .nilFunc (.func (.func 105) #[] #[.pointer (some ⟨w.heap.size, 0, none⟩)]) (.func (.func 106) #[] #[.pointer (some ⟨w.heap.size, 0, none⟩)])
  have hsf := store_fn
  go_wp2
  refine bodyPost_ret (v := opdV 105 106 w.heap.size) (by simp [results, Tryz.results65, go_sem, opdV]) rfl ⟨rfl, ((Below.refl _ _).alloc (Nat.le_refl _) _).alloc (by simp) _, by simp; omega, ?_⟩
  simp [go_sem, World.cell?_alloc_past,]
/-- An operand in a variable of its own, in block b; what it captured is in block pa. -/
structure OB (W : World) (b pa t r : Nat) (box : Value) : Prop where
  c0 : W.cell? ⟨b, 0, none⟩ = some (capV t pa)
  c1 : W.cell? ⟨b, 1, none⟩ = some (capV r pa)
  bx : W.cell? ⟨pa, 0, none⟩ = some box
theorem OB.low {W W' : World} {b pa t r : Nat} {box : Value} (h : OB W b pa t r box) (hb : Below W.heap.size W W') : OB W' b pa t r box :=
  ⟨(hb.cell (p := ⟨b, 0, none⟩) (lt_cell h.c0)).trans h.c0, (hb.cell (p := ⟨b, 1, none⟩) (lt_cell h.c1)).trans h.c1, (hb.cell (p := ⟨pa, 0, none⟩) (lt_cell h.bx)).trans h.bx⟩
theorem OB.new {w1 : World} {pa t r : Nat} {box : Value} (ty : TypeId) (h : w1.cell? ⟨pa, 0, none⟩ = some box) : OB (w1.alloc (.cells #[capV t pa, capV r pa] ty)) w1.heap.size pa t r box :=
  ⟨by simp [go_sem], by simp [go_sem], old_alloc w1 _ h⟩
abbrev Opd := Nat × Nat × Value
/-- A slice of operands: two functions each, and what they captured. -/
def OpsAt (W : World) (v : Value) (L : List Opd) : Prop :=
  ∃ B : Nat, ∃ ps : List Nat, v = .slice (some ⟨B, 0, none⟩) L.length L.length ∧ ∀ j, j < L.length →
    W.cell? ⟨B, 2 * j, none⟩ = some (capV (L.getD j (0, 0, .nilFunc)).1 (ps.getD j 0)) ∧ W.cell? ⟨B, 2 * j + 1, none⟩ = some (capV (L.getD j (0, 0, .nilFunc)).2.1 (ps.getD j 0)) ∧ W.cell? ⟨ps.getD j 0, 0, none⟩ = some (L.getD j (0, 0, .nilFunc)).2.2
def oRd : Opd := (97, 99, fnV 61)
def oRs1 : Opd := (97, 99, fnV 59)
def oRs2 : Opd := (97, 99, fnV 62)
def oCsr : Opd := (101, 103, fnV 64)
def oNum : Opd := (101, 103, fnV 59)
def oImm : Opd := (105, 106, .int .i64 1)
def oUp : Opd := (105, 106, .int .i64 4096)
theorem ops3 {W : World} {a p b q c r : Nat} {A B C : Opd} (ty : TypeId) (h0 : OB W a p A.1 A.2.1 A.2.2) (h1 : OB W b q B.1 B.2.1 B.2.2) (h2 : OB W c r C.1 C.2.1 C.2.2) :
    OpsAt (W.alloc (.cells #[capV A.1 p, capV A.2.1 p, capV B.1 q, capV B.2.1 q, capV C.1 r, capV C.2.1 r] ty)) (.slice (some ⟨W.heap.size, 0, none⟩) 3 3) [A, B, C] := by
  refine ⟨W.heap.size, [p, q, r], rfl, fun j hj => ?_⟩
  match j, hj with
  | 0, _ => exact ⟨by simp [go_sem], by simp [go_sem], old_alloc W _ h0.bx⟩
  | 1, _ => exact ⟨by simp [go_sem], by simp [go_sem], old_alloc W _ h1.bx⟩
  | 2, _ => exact ⟨by simp [go_sem], by simp [go_sem], old_alloc W _ h2.bx⟩
theorem ops3x {W : World} {a p b q r : Nat} {A B C : Opd} (ty : TypeId) (h0 : OB W a p A.1 A.2.1 A.2.2) (h1 : OB W b q B.1 B.2.1 B.2.2) (h2 : W.cell? ⟨r, 0, none⟩ = some C.2.2) :
    OpsAt (W.alloc (.cells #[capV A.1 p, capV A.2.1 p, capV B.1 q, capV B.2.1 q, capV C.1 r, capV C.2.1 r] ty)) (.slice (some ⟨W.heap.size, 0, none⟩) 3 3) [A, B, C] := by
  refine ⟨W.heap.size, [p, q, r], rfl, fun j hj => ?_⟩
  match j, hj with
  | 0, _ => exact ⟨by simp [go_sem], by simp [go_sem], old_alloc W _ h0.bx⟩
  | 1, _ => exact ⟨by simp [go_sem], by simp [go_sem], old_alloc W _ h1.bx⟩
  | 2, _ => exact ⟨by simp [go_sem], by simp [go_sem], old_alloc W _ h2⟩
theorem ops2x {W : World} {a p q : Nat} {A B : Opd} (ty : TypeId) (h0 : OB W a p A.1 A.2.1 A.2.2) (h1 : W.cell? ⟨q, 0, none⟩ = some B.2.2) :
    OpsAt (W.alloc (.cells #[capV A.1 p, capV A.2.1 p, capV B.1 q, capV B.2.1 q] ty)) (.slice (some ⟨W.heap.size, 0, none⟩) 2 2) [A, B] := by
  refine ⟨W.heap.size, [p, q], rfl, fun j hj => ?_⟩
  match j, hj with
  | 0, _ => exact ⟨by simp [go_sem], by simp [go_sem], old_alloc W _ h0.bx⟩
  | 1, _ => exact ⟨by simp [go_sem], by simp [go_sem], old_alloc W _ h1⟩
theorem ops2 {W : World} {a p b q : Nat} {A B : Opd} (ty : TypeId) (h0 : OB W a p A.1 A.2.1 A.2.2) (h1 : OB W b q B.1 B.2.1 B.2.2) :
    OpsAt (W.alloc (.cells #[capV A.1 p, capV A.2.1 p, capV B.1 q, capV B.2.1 q] ty)) (.slice (some ⟨W.heap.size, 0, none⟩) 2 2) [A, B] := by
  refine ⟨W.heap.size, [p, q], rfl, fun j hj => ?_⟩
  match j, hj with
  | 0, _ => exact ⟨by simp [go_sem], by simp [go_sem], old_alloc W _ h0.bx⟩
  | 1, _ => exact ⟨by simp [go_sem], by simp [go_sem], old_alloc W _ h1.bx⟩
set_option maxHeartbeats 4000000 in
theorem operands_1 (w : World) : Calls Tryz.prog 21 #[.int .i64 1] w fun e w' => ∃ v, e = .returned v ∧ Below w.heap.size w w' ∧ OpsAt w' v [oRd, oRs1, oRs2] := by
  have hsf := store_fn
  go_enter Tryz.func21, Tryz.ntmps21
  go_wp2_with fail
  refine (register_c _ _).mono ?_
  rintro e w1 ⟨rfl, hb, hs, hc⟩
  unfold opdV
  have ob0 := Lib.hid (OB.new (t := 97) (r := 99) 57 hc)
  have nb : Below w.heap.size w (w1.alloc (.cells #[capV 97 w.heap.size, capV 99 w.heap.size] 57)) := hb.alloc hb.size _
  have HB := Lib.hid nb
  clear hb hs hc nb
  go_wp2_with fail
  generalize hW : w1.alloc (.cells #[capV 97 w.heap.size, capV 99 w.heap.size] 57) = w2 at *
  clear hW
  refine (register_c _ _).mono ?_
  rintro e w3 ⟨rfl, hb, hs, hc⟩
  unfold opdV
  have ob1 := Lib.hid (OB.new (t := 97) (r := 99) 57 hc)
  have nb : Below w2.heap.size w2 (w3.alloc (.cells #[capV 97 w2.heap.size, capV 99 w2.heap.size] 57)) := hb.alloc hb.size _
  replace HB := Lib.hid (HB.out.trans (nb.mono HB.out.size))
  replace ob0 := Lib.hid (ob0.out.low nb)
  clear hb hs hc nb
  go_wp2_with fail
  generalize hW : w3.alloc (.cells #[capV 97 w2.heap.size, capV 99 w2.heap.size] 57) = w4 at *
  clear hW
  refine (register_c _ _).mono ?_
  rintro e w5 ⟨rfl, hb, hs, hc⟩
  unfold opdV
  have ob2 := Lib.hid (OB.new (t := 97) (r := 99) 57 hc)
  have nb : Below w4.heap.size w4 (w5.alloc (.cells #[capV 97 w4.heap.size, capV 99 w4.heap.size] 57)) := hb.alloc hb.size _
  replace HB := Lib.hid (HB.out.trans (nb.mono HB.out.size))
  replace ob0 := Lib.hid (ob0.out.low nb)
  replace ob1 := Lib.hid (ob1.out.low nb)
  clear hb hs hc nb
  go_wp2_with fail
  generalize hW : w5.alloc (.cells #[capV 97 w4.heap.size, capV 99 w4.heap.size] 57) = w6 at *
  clear hW
  refine (plain_c _ _).mono ?_
  rintro e w7 ⟨rfl, hb, hs, hc⟩
  unfold opdV
  have ob3 := Lib.hid (OB.new (t := 101) (r := 103) 57 hc)
  have nb : Below w6.heap.size w6 (w7.alloc (.cells #[capV 101 w6.heap.size, capV 103 w6.heap.size] 57)) := hb.alloc hb.size _
  replace HB := Lib.hid (HB.out.trans (nb.mono HB.out.size))
  replace ob0 := Lib.hid (ob0.out.low nb)
  replace ob1 := Lib.hid (ob1.out.low nb)
  replace ob2 := Lib.hid (ob2.out.low nb)
  clear hb hs hc nb
  have p0 := ob0.out.c0
  have q0 := ob0.out.c1
  have p1 := ob1.out.c0
  have q1 := ob1.out.c1
  have p2 := ob2.out.c0
  have q2 := ob2.out.c1
  have p3 := ob3.out.c0
  have q3 := ob3.out.c1
  go_wp2_with fail
  generalize hW : w7.alloc (.cells #[capV 101 w6.heap.size, capV 103 w6.heap.size] 57) = w8 at *
  have hs8 : w7.heap.size + 1 = w8.heap.size := by rw [← hW]; simp
  clear hW
  rw [hs8]
  go_ret
  exact ⟨_, rfl, HB.out.alloc HB.out.size _, ops3 (A := oRd) (B := oRs1) (C := oRs2) 57 ob0.out ob1.out ob2.out⟩
set_option maxHeartbeats 4000000 in
theorem operands_2 (w : World) : Calls Tryz.prog 21 #[.int .i64 2] w fun e w' => ∃ v, e = .returned v ∧ Below w.heap.size w w' ∧ OpsAt w' v [oRd, oRs1, oImm] := by
  have hsf := store_fn
  go_enter Tryz.func21, Tryz.ntmps21
  go_wp2_with fail
  refine (register_c _ _).mono ?_
  rintro e w1 ⟨rfl, hb, hs, hc⟩
  unfold opdV
  have ob0 := Lib.hid (OB.new (t := 97) (r := 99) 57 hc)
  have nb : Below w.heap.size w (w1.alloc (.cells #[capV 97 w.heap.size, capV 99 w.heap.size] 57)) := hb.alloc hb.size _
  have HB := Lib.hid nb
  clear hb hs hc nb
  go_wp2_with fail
  generalize hW : w1.alloc (.cells #[capV 97 w.heap.size, capV 99 w.heap.size] 57) = w2 at *
  clear hW
  refine (register_c _ _).mono ?_
  rintro e w3 ⟨rfl, hb, hs, hc⟩
  unfold opdV
  have ob1 := Lib.hid (OB.new (t := 97) (r := 99) 57 hc)
  have nb : Below w2.heap.size w2 (w3.alloc (.cells #[capV 97 w2.heap.size, capV 99 w2.heap.size] 57)) := hb.alloc hb.size _
  replace HB := Lib.hid (HB.out.trans (nb.mono HB.out.size))
  replace ob0 := Lib.hid (ob0.out.low nb)
  clear hb hs hc nb
  go_wp2_with fail
  generalize hW : w3.alloc (.cells #[capV 97 w2.heap.size, capV 99 w2.heap.size] 57) = w4 at *
  clear hW
  refine (register_c _ _).mono ?_
  rintro e w5 ⟨rfl, hb, hs, hc⟩
  unfold opdV
  have ob2 := Lib.hid (OB.new (t := 97) (r := 99) 57 hc)
  have nb : Below w4.heap.size w4 (w5.alloc (.cells #[capV 97 w4.heap.size, capV 99 w4.heap.size] 57)) := hb.alloc hb.size _
  replace HB := Lib.hid (HB.out.trans (nb.mono HB.out.size))
  replace ob0 := Lib.hid (ob0.out.low nb)
  replace ob1 := Lib.hid (ob1.out.low nb)
  clear hb hs hc nb
  go_wp2_with fail
  generalize hW : w5.alloc (.cells #[capV 97 w4.heap.size, capV 99 w4.heap.size] 57) = w6 at *
  clear hW
  refine (plain_c _ _).mono ?_
  rintro e w7 ⟨rfl, hb, hs, hc⟩
  unfold opdV
  have ob3 := Lib.hid (OB.new (t := 101) (r := 103) 57 hc)
  have nb : Below w6.heap.size w6 (w7.alloc (.cells #[capV 101 w6.heap.size, capV 103 w6.heap.size] 57)) := hb.alloc hb.size _
  replace HB := Lib.hid (HB.out.trans (nb.mono HB.out.size))
  replace ob0 := Lib.hid (ob0.out.low nb)
  replace ob1 := Lib.hid (ob1.out.low nb)
  replace ob2 := Lib.hid (ob2.out.low nb)
  clear hb hs hc nb
  have p0 := ob0.out.c0
  have q0 := ob0.out.c1
  have p1 := ob1.out.c0
  have q1 := ob1.out.c1
  have p2 := ob2.out.c0
  have q2 := ob2.out.c1
  have p3 := ob3.out.c0
  have q3 := ob3.out.c1
  go_wp2_with fail
  generalize hW : w7.alloc (.cells #[capV 101 w6.heap.size, capV 103 w6.heap.size] 57) = w8 at *
  clear hW
  have HD := Lib.hid (HB.out.drew)
  have od0 := Lib.hid (ob0.out.low ((Below.refl _ w8).drew))
  have od1 := Lib.hid (ob1.out.low ((Below.refl _ w8).drew))
  go_region_with ((go_at_call 65; refine (immediate_c _ _).mono ?_; rintro e wi ⟨rfl, hb, hs, hc⟩; unfold opdV; have HI := Lib.hid (HD.out.trans (hb.mono HD.out.size)); have obi := Lib.hid hc; have oi0 := Lib.hid (od0.out.low hb); have r0 := oi0.out.c0; have s0 := oi0.out.c1; have oi1 := Lib.hid (od1.out.low hb); have r1 := oi1.out.c0; have s1 := oi1.out.c1))
  all_goals
    go_wp2_with fail
    go_ret
    exact ⟨_, rfl, HI.out.alloc HI.out.size _, ops3x (A := oRd) (B := oRs1) (C := oImm) 57 oi0.out oi1.out obi.out⟩
set_option maxHeartbeats 4000000 in
theorem operands_3 (w : World) : Calls Tryz.prog 21 #[.int .i64 3] w fun e w' => ∃ v, e = .returned v ∧ Below w.heap.size w w' ∧ OpsAt w' v [oRs2, oRs1, oImm] := by
  have hsf := store_fn
  go_enter Tryz.func21, Tryz.ntmps21
  go_wp2_with fail
  refine (register_c _ _).mono ?_
  rintro e w1 ⟨rfl, hb, hs, hc⟩
  unfold opdV
  have ob0 := Lib.hid (OB.new (t := 97) (r := 99) 57 hc)
  have nb : Below w.heap.size w (w1.alloc (.cells #[capV 97 w.heap.size, capV 99 w.heap.size] 57)) := hb.alloc hb.size _
  have HB := Lib.hid nb
  clear hb hs hc nb
  go_wp2_with fail
  generalize hW : w1.alloc (.cells #[capV 97 w.heap.size, capV 99 w.heap.size] 57) = w2 at *
  clear hW
  refine (register_c _ _).mono ?_
  rintro e w3 ⟨rfl, hb, hs, hc⟩
  unfold opdV
  have ob1 := Lib.hid (OB.new (t := 97) (r := 99) 57 hc)
  have nb : Below w2.heap.size w2 (w3.alloc (.cells #[capV 97 w2.heap.size, capV 99 w2.heap.size] 57)) := hb.alloc hb.size _
  replace HB := Lib.hid (HB.out.trans (nb.mono HB.out.size))
  replace ob0 := Lib.hid (ob0.out.low nb)
  clear hb hs hc nb
  go_wp2_with fail
  generalize hW : w3.alloc (.cells #[capV 97 w2.heap.size, capV 99 w2.heap.size] 57) = w4 at *
  clear hW
  refine (register_c _ _).mono ?_
  rintro e w5 ⟨rfl, hb, hs, hc⟩
  unfold opdV
  have ob2 := Lib.hid (OB.new (t := 97) (r := 99) 57 hc)
  have nb : Below w4.heap.size w4 (w5.alloc (.cells #[capV 97 w4.heap.size, capV 99 w4.heap.size] 57)) := hb.alloc hb.size _
  replace HB := Lib.hid (HB.out.trans (nb.mono HB.out.size))
  replace ob0 := Lib.hid (ob0.out.low nb)
  replace ob1 := Lib.hid (ob1.out.low nb)
  clear hb hs hc nb
  go_wp2_with fail
  generalize hW : w5.alloc (.cells #[capV 97 w4.heap.size, capV 99 w4.heap.size] 57) = w6 at *
  clear hW
  refine (plain_c _ _).mono ?_
  rintro e w7 ⟨rfl, hb, hs, hc⟩
  unfold opdV
  have ob3 := Lib.hid (OB.new (t := 101) (r := 103) 57 hc)
  have nb : Below w6.heap.size w6 (w7.alloc (.cells #[capV 101 w6.heap.size, capV 103 w6.heap.size] 57)) := hb.alloc hb.size _
  replace HB := Lib.hid (HB.out.trans (nb.mono HB.out.size))
  replace ob0 := Lib.hid (ob0.out.low nb)
  replace ob1 := Lib.hid (ob1.out.low nb)
  replace ob2 := Lib.hid (ob2.out.low nb)
  clear hb hs hc nb
  have p0 := ob0.out.c0
  have q0 := ob0.out.c1
  have p1 := ob1.out.c0
  have q1 := ob1.out.c1
  have p2 := ob2.out.c0
  have q2 := ob2.out.c1
  have p3 := ob3.out.c0
  have q3 := ob3.out.c1
  go_wp2_with fail
  generalize hW : w7.alloc (.cells #[capV 101 w6.heap.size, capV 103 w6.heap.size] 57) = w8 at *
  clear hW
  have HD := Lib.hid (HB.out.drew)
  have od2 := Lib.hid (ob2.out.low ((Below.refl _ w8).drew))
  have od1 := Lib.hid (ob1.out.low ((Below.refl _ w8).drew))
  go_region_with ((go_at_call 65; refine (immediate_c _ _).mono ?_; rintro e wi ⟨rfl, hb, hs, hc⟩; unfold opdV; have HI := Lib.hid (HD.out.trans (hb.mono HD.out.size)); have obi := Lib.hid hc; have oi2 := Lib.hid (od2.out.low hb); have r2 := oi2.out.c0; have s2 := oi2.out.c1; have oi1 := Lib.hid (od1.out.low hb); have r1 := oi1.out.c0; have s1 := oi1.out.c1))
  all_goals
    go_wp2_with fail
    go_ret
    exact ⟨_, rfl, HI.out.alloc HI.out.size _, ops3x (A := oRs2) (B := oRs1) (C := oImm) 57 oi2.out oi1.out obi.out⟩
set_option maxHeartbeats 4000000 in
theorem operands_4 (w : World) : Calls Tryz.prog 21 #[.int .i64 4] w fun e w' => ∃ v, e = .returned v ∧ Below w.heap.size w w' ∧ OpsAt w' v [oRs1, oRs2, oImm] := by
  have hsf := store_fn
  go_enter Tryz.func21, Tryz.ntmps21
  go_wp2_with fail
  refine (register_c _ _).mono ?_
  rintro e w1 ⟨rfl, hb, hs, hc⟩
  unfold opdV
  have ob0 := Lib.hid (OB.new (t := 97) (r := 99) 57 hc)
  have nb : Below w.heap.size w (w1.alloc (.cells #[capV 97 w.heap.size, capV 99 w.heap.size] 57)) := hb.alloc hb.size _
  have HB := Lib.hid nb
  clear hb hs hc nb
  go_wp2_with fail
  generalize hW : w1.alloc (.cells #[capV 97 w.heap.size, capV 99 w.heap.size] 57) = w2 at *
  clear hW
  refine (register_c _ _).mono ?_
  rintro e w3 ⟨rfl, hb, hs, hc⟩
  unfold opdV
  have ob1 := Lib.hid (OB.new (t := 97) (r := 99) 57 hc)
  have nb : Below w2.heap.size w2 (w3.alloc (.cells #[capV 97 w2.heap.size, capV 99 w2.heap.size] 57)) := hb.alloc hb.size _
  replace HB := Lib.hid (HB.out.trans (nb.mono HB.out.size))
  replace ob0 := Lib.hid (ob0.out.low nb)
  clear hb hs hc nb
  go_wp2_with fail
  generalize hW : w3.alloc (.cells #[capV 97 w2.heap.size, capV 99 w2.heap.size] 57) = w4 at *
  clear hW
  refine (register_c _ _).mono ?_
  rintro e w5 ⟨rfl, hb, hs, hc⟩
  unfold opdV
  have ob2 := Lib.hid (OB.new (t := 97) (r := 99) 57 hc)
  have nb : Below w4.heap.size w4 (w5.alloc (.cells #[capV 97 w4.heap.size, capV 99 w4.heap.size] 57)) := hb.alloc hb.size _
  replace HB := Lib.hid (HB.out.trans (nb.mono HB.out.size))
  replace ob0 := Lib.hid (ob0.out.low nb)
  replace ob1 := Lib.hid (ob1.out.low nb)
  clear hb hs hc nb
  go_wp2_with fail
  generalize hW : w5.alloc (.cells #[capV 97 w4.heap.size, capV 99 w4.heap.size] 57) = w6 at *
  clear hW
  refine (plain_c _ _).mono ?_
  rintro e w7 ⟨rfl, hb, hs, hc⟩
  unfold opdV
  have ob3 := Lib.hid (OB.new (t := 101) (r := 103) 57 hc)
  have nb : Below w6.heap.size w6 (w7.alloc (.cells #[capV 101 w6.heap.size, capV 103 w6.heap.size] 57)) := hb.alloc hb.size _
  replace HB := Lib.hid (HB.out.trans (nb.mono HB.out.size))
  replace ob0 := Lib.hid (ob0.out.low nb)
  replace ob1 := Lib.hid (ob1.out.low nb)
  replace ob2 := Lib.hid (ob2.out.low nb)
  clear hb hs hc nb
  have p0 := ob0.out.c0
  have q0 := ob0.out.c1
  have p1 := ob1.out.c0
  have q1 := ob1.out.c1
  have p2 := ob2.out.c0
  have q2 := ob2.out.c1
  have p3 := ob3.out.c0
  have q3 := ob3.out.c1
  go_wp2_with fail
  generalize hW : w7.alloc (.cells #[capV 101 w6.heap.size, capV 103 w6.heap.size] 57) = w8 at *
  clear hW
  have HD := Lib.hid (HB.out.drew)
  have od1 := Lib.hid (ob1.out.low ((Below.refl _ w8).drew))
  have od2 := Lib.hid (ob2.out.low ((Below.refl _ w8).drew))
  go_region_with ((go_at_call 65; refine (immediate_c _ _).mono ?_; rintro e wi ⟨rfl, hb, hs, hc⟩; unfold opdV; have HI := Lib.hid (HD.out.trans (hb.mono HD.out.size)); have obi := Lib.hid hc; have oi1 := Lib.hid (od1.out.low hb); have r1 := oi1.out.c0; have s1 := oi1.out.c1; have oi2 := Lib.hid (od2.out.low hb); have r2 := oi2.out.c0; have s2 := oi2.out.c1))
  all_goals
    go_wp2_with fail
    go_ret
    exact ⟨_, rfl, HI.out.alloc HI.out.size _, ops3x (A := oRs1) (B := oRs2) (C := oImm) 57 oi1.out oi2.out obi.out⟩
set_option maxHeartbeats 4000000 in
theorem operands_5 (w : World) : Calls Tryz.prog 21 #[.int .i64 5] w fun e w' => ∃ v, e = .returned v ∧ Below w.heap.size w w' ∧ OpsAt w' v [oRd, oUp] := by
  have hsf := store_fn
  go_enter Tryz.func21, Tryz.ntmps21
  go_wp2_with fail
  refine (register_c _ _).mono ?_
  rintro e w1 ⟨rfl, hb, hs, hc⟩
  unfold opdV
  have ob0 := Lib.hid (OB.new (t := 97) (r := 99) 57 hc)
  have nb : Below w.heap.size w (w1.alloc (.cells #[capV 97 w.heap.size, capV 99 w.heap.size] 57)) := hb.alloc hb.size _
  have HB := Lib.hid nb
  clear hb hs hc nb
  go_wp2_with fail
  generalize hW : w1.alloc (.cells #[capV 97 w.heap.size, capV 99 w.heap.size] 57) = w2 at *
  clear hW
  refine (register_c _ _).mono ?_
  rintro e w3 ⟨rfl, hb, hs, hc⟩
  unfold opdV
  have ob1 := Lib.hid (OB.new (t := 97) (r := 99) 57 hc)
  have nb : Below w2.heap.size w2 (w3.alloc (.cells #[capV 97 w2.heap.size, capV 99 w2.heap.size] 57)) := hb.alloc hb.size _
  replace HB := Lib.hid (HB.out.trans (nb.mono HB.out.size))
  replace ob0 := Lib.hid (ob0.out.low nb)
  clear hb hs hc nb
  go_wp2_with fail
  generalize hW : w3.alloc (.cells #[capV 97 w2.heap.size, capV 99 w2.heap.size] 57) = w4 at *
  clear hW
  refine (register_c _ _).mono ?_
  rintro e w5 ⟨rfl, hb, hs, hc⟩
  unfold opdV
  have ob2 := Lib.hid (OB.new (t := 97) (r := 99) 57 hc)
  have nb : Below w4.heap.size w4 (w5.alloc (.cells #[capV 97 w4.heap.size, capV 99 w4.heap.size] 57)) := hb.alloc hb.size _
  replace HB := Lib.hid (HB.out.trans (nb.mono HB.out.size))
  replace ob0 := Lib.hid (ob0.out.low nb)
  replace ob1 := Lib.hid (ob1.out.low nb)
  clear hb hs hc nb
  go_wp2_with fail
  generalize hW : w5.alloc (.cells #[capV 97 w4.heap.size, capV 99 w4.heap.size] 57) = w6 at *
  clear hW
  refine (plain_c _ _).mono ?_
  rintro e w7 ⟨rfl, hb, hs, hc⟩
  unfold opdV
  have ob3 := Lib.hid (OB.new (t := 101) (r := 103) 57 hc)
  have nb : Below w6.heap.size w6 (w7.alloc (.cells #[capV 101 w6.heap.size, capV 103 w6.heap.size] 57)) := hb.alloc hb.size _
  replace HB := Lib.hid (HB.out.trans (nb.mono HB.out.size))
  replace ob0 := Lib.hid (ob0.out.low nb)
  replace ob1 := Lib.hid (ob1.out.low nb)
  replace ob2 := Lib.hid (ob2.out.low nb)
  clear hb hs hc nb
  have p0 := ob0.out.c0
  have q0 := ob0.out.c1
  have p1 := ob1.out.c0
  have q1 := ob1.out.c1
  have p2 := ob2.out.c0
  have q2 := ob2.out.c1
  have p3 := ob3.out.c0
  have q3 := ob3.out.c1
  go_wp2_with fail
  generalize hW : w7.alloc (.cells #[capV 101 w6.heap.size, capV 103 w6.heap.size] 57) = w8 at *
  clear hW
  have HD := Lib.hid (HB.out.drew)
  have od0 := Lib.hid (ob0.out.low ((Below.refl _ w8).drew))
  go_region_with ((go_at_call 65; refine (immediate_c _ _).mono ?_; rintro e wi ⟨rfl, hb, hs, hc⟩; unfold opdV; have HI := Lib.hid (HD.out.trans (hb.mono HD.out.size)); have obi := Lib.hid hc; have oi0 := Lib.hid (od0.out.low hb); have r0 := oi0.out.c0; have s0 := oi0.out.c1))
  all_goals
    go_wp2_with fail
    go_ret
    exact ⟨_, rfl, HI.out.alloc HI.out.size _, ops2x (A := oRd) (B := oUp) 57 oi0.out obi.out⟩
set_option maxHeartbeats 4000000 in
theorem operands_6 (w : World) : Calls Tryz.prog 21 #[.int .i64 6] w fun e w' => ∃ v, e = .returned v ∧ Below w.heap.size w w' ∧ OpsAt w' v [oRd, oImm] := by
  have hsf := store_fn
  go_enter Tryz.func21, Tryz.ntmps21
  go_wp2_with fail
  refine (register_c _ _).mono ?_
  rintro e w1 ⟨rfl, hb, hs, hc⟩
  unfold opdV
  have ob0 := Lib.hid (OB.new (t := 97) (r := 99) 57 hc)
  have nb : Below w.heap.size w (w1.alloc (.cells #[capV 97 w.heap.size, capV 99 w.heap.size] 57)) := hb.alloc hb.size _
  have HB := Lib.hid nb
  clear hb hs hc nb
  go_wp2_with fail
  generalize hW : w1.alloc (.cells #[capV 97 w.heap.size, capV 99 w.heap.size] 57) = w2 at *
  clear hW
  refine (register_c _ _).mono ?_
  rintro e w3 ⟨rfl, hb, hs, hc⟩
  unfold opdV
  have ob1 := Lib.hid (OB.new (t := 97) (r := 99) 57 hc)
  have nb : Below w2.heap.size w2 (w3.alloc (.cells #[capV 97 w2.heap.size, capV 99 w2.heap.size] 57)) := hb.alloc hb.size _
  replace HB := Lib.hid (HB.out.trans (nb.mono HB.out.size))
  replace ob0 := Lib.hid (ob0.out.low nb)
  clear hb hs hc nb
  go_wp2_with fail
  generalize hW : w3.alloc (.cells #[capV 97 w2.heap.size, capV 99 w2.heap.size] 57) = w4 at *
  clear hW
  refine (register_c _ _).mono ?_
  rintro e w5 ⟨rfl, hb, hs, hc⟩
  unfold opdV
  have ob2 := Lib.hid (OB.new (t := 97) (r := 99) 57 hc)
  have nb : Below w4.heap.size w4 (w5.alloc (.cells #[capV 97 w4.heap.size, capV 99 w4.heap.size] 57)) := hb.alloc hb.size _
  replace HB := Lib.hid (HB.out.trans (nb.mono HB.out.size))
  replace ob0 := Lib.hid (ob0.out.low nb)
  replace ob1 := Lib.hid (ob1.out.low nb)
  clear hb hs hc nb
  go_wp2_with fail
  generalize hW : w5.alloc (.cells #[capV 97 w4.heap.size, capV 99 w4.heap.size] 57) = w6 at *
  clear hW
  refine (plain_c _ _).mono ?_
  rintro e w7 ⟨rfl, hb, hs, hc⟩
  unfold opdV
  have ob3 := Lib.hid (OB.new (t := 101) (r := 103) 57 hc)
  have nb : Below w6.heap.size w6 (w7.alloc (.cells #[capV 101 w6.heap.size, capV 103 w6.heap.size] 57)) := hb.alloc hb.size _
  replace HB := Lib.hid (HB.out.trans (nb.mono HB.out.size))
  replace ob0 := Lib.hid (ob0.out.low nb)
  replace ob1 := Lib.hid (ob1.out.low nb)
  replace ob2 := Lib.hid (ob2.out.low nb)
  clear hb hs hc nb
  have p0 := ob0.out.c0
  have q0 := ob0.out.c1
  have p1 := ob1.out.c0
  have q1 := ob1.out.c1
  have p2 := ob2.out.c0
  have q2 := ob2.out.c1
  have p3 := ob3.out.c0
  have q3 := ob3.out.c1
  go_wp2_with fail
  generalize hW : w7.alloc (.cells #[capV 101 w6.heap.size, capV 103 w6.heap.size] 57) = w8 at *
  clear hW
  have HD := Lib.hid (HB.out.drew)
  have od0 := Lib.hid (ob0.out.low ((Below.refl _ w8).drew))
  go_region_with ((go_at_call 65; refine (immediate_c _ _).mono ?_; rintro e wi ⟨rfl, hb, hs, hc⟩; unfold opdV; have HI := Lib.hid (HD.out.trans (hb.mono HD.out.size)); have obi := Lib.hid hc; have oi0 := Lib.hid (od0.out.low hb); have r0 := oi0.out.c0; have s0 := oi0.out.c1))
  all_goals
    go_wp2_with fail
    go_ret
    exact ⟨_, rfl, HI.out.alloc HI.out.size _, ops2x (A := oRd) (B := oImm) 57 oi0.out obi.out⟩
set_option maxHeartbeats 4000000 in
theorem operands_7 (w : World) : Calls Tryz.prog 21 #[.int .i64 7] w fun e w' => ∃ v, e = .returned v ∧ Below w.heap.size w w' ∧ OpsAt w' v [oRd, oRs1, oImm] := by
  have hsf := store_fn
  go_enter Tryz.func21, Tryz.ntmps21
  go_wp2_with fail
  refine (register_c _ _).mono ?_
  rintro e w1 ⟨rfl, hb, hs, hc⟩
  unfold opdV
  have ob0 := Lib.hid (OB.new (t := 97) (r := 99) 57 hc)
  have nb : Below w.heap.size w (w1.alloc (.cells #[capV 97 w.heap.size, capV 99 w.heap.size] 57)) := hb.alloc hb.size _
  have HB := Lib.hid nb
  clear hb hs hc nb
  go_wp2_with fail
  generalize hW : w1.alloc (.cells #[capV 97 w.heap.size, capV 99 w.heap.size] 57) = w2 at *
  clear hW
  refine (register_c _ _).mono ?_
  rintro e w3 ⟨rfl, hb, hs, hc⟩
  unfold opdV
  have ob1 := Lib.hid (OB.new (t := 97) (r := 99) 57 hc)
  have nb : Below w2.heap.size w2 (w3.alloc (.cells #[capV 97 w2.heap.size, capV 99 w2.heap.size] 57)) := hb.alloc hb.size _
  replace HB := Lib.hid (HB.out.trans (nb.mono HB.out.size))
  replace ob0 := Lib.hid (ob0.out.low nb)
  clear hb hs hc nb
  go_wp2_with fail
  generalize hW : w3.alloc (.cells #[capV 97 w2.heap.size, capV 99 w2.heap.size] 57) = w4 at *
  clear hW
  refine (register_c _ _).mono ?_
  rintro e w5 ⟨rfl, hb, hs, hc⟩
  unfold opdV
  have ob2 := Lib.hid (OB.new (t := 97) (r := 99) 57 hc)
  have nb : Below w4.heap.size w4 (w5.alloc (.cells #[capV 97 w4.heap.size, capV 99 w4.heap.size] 57)) := hb.alloc hb.size _
  replace HB := Lib.hid (HB.out.trans (nb.mono HB.out.size))
  replace ob0 := Lib.hid (ob0.out.low nb)
  replace ob1 := Lib.hid (ob1.out.low nb)
  clear hb hs hc nb
  go_wp2_with fail
  generalize hW : w5.alloc (.cells #[capV 97 w4.heap.size, capV 99 w4.heap.size] 57) = w6 at *
  clear hW
  refine (plain_c _ _).mono ?_
  rintro e w7 ⟨rfl, hb, hs, hc⟩
  unfold opdV
  have ob3 := Lib.hid (OB.new (t := 101) (r := 103) 57 hc)
  have nb : Below w6.heap.size w6 (w7.alloc (.cells #[capV 101 w6.heap.size, capV 103 w6.heap.size] 57)) := hb.alloc hb.size _
  replace HB := Lib.hid (HB.out.trans (nb.mono HB.out.size))
  replace ob0 := Lib.hid (ob0.out.low nb)
  replace ob1 := Lib.hid (ob1.out.low nb)
  replace ob2 := Lib.hid (ob2.out.low nb)
  clear hb hs hc nb
  have p0 := ob0.out.c0
  have q0 := ob0.out.c1
  have p1 := ob1.out.c0
  have q1 := ob1.out.c1
  have p2 := ob2.out.c0
  have q2 := ob2.out.c1
  have p3 := ob3.out.c0
  have q3 := ob3.out.c1
  go_wp2_with fail
  generalize hW : w7.alloc (.cells #[capV 101 w6.heap.size, capV 103 w6.heap.size] 57) = w8 at *
  clear hW
  have HD := Lib.hid (HB.out.drew)
  have od0 := Lib.hid (ob0.out.low ((Below.refl _ w8).drew))
  have od1 := Lib.hid (ob1.out.low ((Below.refl _ w8).drew))
  go_region_with ((go_at_call 65; refine (immediate_c _ _).mono ?_; rintro e wi ⟨rfl, hb, hs, hc⟩; unfold opdV; have HI := Lib.hid (HD.out.trans (hb.mono HD.out.size)); have obi := Lib.hid hc; have oi0 := Lib.hid (od0.out.low hb); have r0 := oi0.out.c0; have s0 := oi0.out.c1; have oi1 := Lib.hid (od1.out.low hb); have r1 := oi1.out.c0; have s1 := oi1.out.c1))
  all_goals
    go_wp2_with fail
    go_ret
    exact ⟨_, rfl, HI.out.alloc HI.out.size _, ops3x (A := oRd) (B := oRs1) (C := oImm) 57 oi0.out oi1.out obi.out⟩
set_option maxHeartbeats 4000000 in
theorem operands_8 (w : World) : Calls Tryz.prog 21 #[.int .i64 8] w fun e w' => ∃ v, e = .returned v ∧ Below w.heap.size w w' ∧ OpsAt w' v [oRd, oRs1, oImm] := by
  have hsf := store_fn
  go_enter Tryz.func21, Tryz.ntmps21
  go_wp2_with fail
  refine (register_c _ _).mono ?_
  rintro e w1 ⟨rfl, hb, hs, hc⟩
  unfold opdV
  have ob0 := Lib.hid (OB.new (t := 97) (r := 99) 57 hc)
  have nb : Below w.heap.size w (w1.alloc (.cells #[capV 97 w.heap.size, capV 99 w.heap.size] 57)) := hb.alloc hb.size _
  have HB := Lib.hid nb
  clear hb hs hc nb
  go_wp2_with fail
  generalize hW : w1.alloc (.cells #[capV 97 w.heap.size, capV 99 w.heap.size] 57) = w2 at *
  clear hW
  refine (register_c _ _).mono ?_
  rintro e w3 ⟨rfl, hb, hs, hc⟩
  unfold opdV
  have ob1 := Lib.hid (OB.new (t := 97) (r := 99) 57 hc)
  have nb : Below w2.heap.size w2 (w3.alloc (.cells #[capV 97 w2.heap.size, capV 99 w2.heap.size] 57)) := hb.alloc hb.size _
  replace HB := Lib.hid (HB.out.trans (nb.mono HB.out.size))
  replace ob0 := Lib.hid (ob0.out.low nb)
  clear hb hs hc nb
  go_wp2_with fail
  generalize hW : w3.alloc (.cells #[capV 97 w2.heap.size, capV 99 w2.heap.size] 57) = w4 at *
  clear hW
  refine (register_c _ _).mono ?_
  rintro e w5 ⟨rfl, hb, hs, hc⟩
  unfold opdV
  have ob2 := Lib.hid (OB.new (t := 97) (r := 99) 57 hc)
  have nb : Below w4.heap.size w4 (w5.alloc (.cells #[capV 97 w4.heap.size, capV 99 w4.heap.size] 57)) := hb.alloc hb.size _
  replace HB := Lib.hid (HB.out.trans (nb.mono HB.out.size))
  replace ob0 := Lib.hid (ob0.out.low nb)
  replace ob1 := Lib.hid (ob1.out.low nb)
  clear hb hs hc nb
  go_wp2_with fail
  generalize hW : w5.alloc (.cells #[capV 97 w4.heap.size, capV 99 w4.heap.size] 57) = w6 at *
  clear hW
  refine (plain_c _ _).mono ?_
  rintro e w7 ⟨rfl, hb, hs, hc⟩
  unfold opdV
  have ob3 := Lib.hid (OB.new (t := 101) (r := 103) 57 hc)
  have nb : Below w6.heap.size w6 (w7.alloc (.cells #[capV 101 w6.heap.size, capV 103 w6.heap.size] 57)) := hb.alloc hb.size _
  replace HB := Lib.hid (HB.out.trans (nb.mono HB.out.size))
  replace ob0 := Lib.hid (ob0.out.low nb)
  replace ob1 := Lib.hid (ob1.out.low nb)
  replace ob2 := Lib.hid (ob2.out.low nb)
  clear hb hs hc nb
  have p0 := ob0.out.c0
  have q0 := ob0.out.c1
  have p1 := ob1.out.c0
  have q1 := ob1.out.c1
  have p2 := ob2.out.c0
  have q2 := ob2.out.c1
  have p3 := ob3.out.c0
  have q3 := ob3.out.c1
  go_wp2_with fail
  generalize hW : w7.alloc (.cells #[capV 101 w6.heap.size, capV 103 w6.heap.size] 57) = w8 at *
  clear hW
  have HD := Lib.hid (HB.out.drew)
  have od0 := Lib.hid (ob0.out.low ((Below.refl _ w8).drew))
  have od1 := Lib.hid (ob1.out.low ((Below.refl _ w8).drew))
  go_region_with ((go_at_call 65; refine (immediate_c _ _).mono ?_; rintro e wi ⟨rfl, hb, hs, hc⟩; unfold opdV; have HI := Lib.hid (HD.out.trans (hb.mono HD.out.size)); have obi := Lib.hid hc; have oi0 := Lib.hid (od0.out.low hb); have r0 := oi0.out.c0; have s0 := oi0.out.c1; have oi1 := Lib.hid (od1.out.low hb); have r1 := oi1.out.c0; have s1 := oi1.out.c1))
  all_goals
    go_wp2_with fail
    go_ret
    exact ⟨_, rfl, HI.out.alloc HI.out.size _, ops3x (A := oRd) (B := oRs1) (C := oImm) 57 oi0.out oi1.out obi.out⟩
set_option maxHeartbeats 4000000 in
theorem operands_9 (w : World) : Calls Tryz.prog 21 #[.int .i64 9] w fun e w' => ∃ v, e = .returned v ∧ Below w.heap.size w w' ∧ OpsAt w' v [oRd, oCsr, oRs1] := by
  have hsf := store_fn
  go_enter Tryz.func21, Tryz.ntmps21
  go_wp2_with fail
  refine (register_c _ _).mono ?_
  rintro e w1 ⟨rfl, hb, hs, hc⟩
  unfold opdV
  have ob0 := Lib.hid (OB.new (t := 97) (r := 99) 57 hc)
  have nb : Below w.heap.size w (w1.alloc (.cells #[capV 97 w.heap.size, capV 99 w.heap.size] 57)) := hb.alloc hb.size _
  have HB := Lib.hid nb
  clear hb hs hc nb
  go_wp2_with fail
  generalize hW : w1.alloc (.cells #[capV 97 w.heap.size, capV 99 w.heap.size] 57) = w2 at *
  clear hW
  refine (register_c _ _).mono ?_
  rintro e w3 ⟨rfl, hb, hs, hc⟩
  unfold opdV
  have ob1 := Lib.hid (OB.new (t := 97) (r := 99) 57 hc)
  have nb : Below w2.heap.size w2 (w3.alloc (.cells #[capV 97 w2.heap.size, capV 99 w2.heap.size] 57)) := hb.alloc hb.size _
  replace HB := Lib.hid (HB.out.trans (nb.mono HB.out.size))
  replace ob0 := Lib.hid (ob0.out.low nb)
  clear hb hs hc nb
  go_wp2_with fail
  generalize hW : w3.alloc (.cells #[capV 97 w2.heap.size, capV 99 w2.heap.size] 57) = w4 at *
  clear hW
  refine (register_c _ _).mono ?_
  rintro e w5 ⟨rfl, hb, hs, hc⟩
  unfold opdV
  have ob2 := Lib.hid (OB.new (t := 97) (r := 99) 57 hc)
  have nb : Below w4.heap.size w4 (w5.alloc (.cells #[capV 97 w4.heap.size, capV 99 w4.heap.size] 57)) := hb.alloc hb.size _
  replace HB := Lib.hid (HB.out.trans (nb.mono HB.out.size))
  replace ob0 := Lib.hid (ob0.out.low nb)
  replace ob1 := Lib.hid (ob1.out.low nb)
  clear hb hs hc nb
  go_wp2_with fail
  generalize hW : w5.alloc (.cells #[capV 97 w4.heap.size, capV 99 w4.heap.size] 57) = w6 at *
  clear hW
  refine (plain_c _ _).mono ?_
  rintro e w7 ⟨rfl, hb, hs, hc⟩
  unfold opdV
  have ob3 := Lib.hid (OB.new (t := 101) (r := 103) 57 hc)
  have nb : Below w6.heap.size w6 (w7.alloc (.cells #[capV 101 w6.heap.size, capV 103 w6.heap.size] 57)) := hb.alloc hb.size _
  replace HB := Lib.hid (HB.out.trans (nb.mono HB.out.size))
  replace ob0 := Lib.hid (ob0.out.low nb)
  replace ob1 := Lib.hid (ob1.out.low nb)
  replace ob2 := Lib.hid (ob2.out.low nb)
  clear hb hs hc nb
  have p0 := ob0.out.c0
  have q0 := ob0.out.c1
  have p1 := ob1.out.c0
  have q1 := ob1.out.c1
  have p2 := ob2.out.c0
  have q2 := ob2.out.c1
  have p3 := ob3.out.c0
  have q3 := ob3.out.c1
  go_wp2_with fail
  generalize hW : w7.alloc (.cells #[capV 101 w6.heap.size, capV 103 w6.heap.size] 57) = w8 at *
  have hs8 : w7.heap.size + 1 = w8.heap.size := by rw [← hW]; simp
  clear hW
  rw [hs8]
  go_ret
  exact ⟨_, rfl, HB.out.alloc HB.out.size _, ops3 (A := oRd) (B := oCsr) (C := oRs1) 57 ob0.out ob3.out ob1.out⟩
set_option maxHeartbeats 4000000 in
theorem operands_10 (w : World) : Calls Tryz.prog 21 #[.int .i64 10] w fun e w' => ∃ v, e = .returned v ∧ Below w.heap.size w w' ∧ OpsAt w' v [oRd, oCsr, oNum] := by
  have hsf := store_fn
  go_enter Tryz.func21, Tryz.ntmps21
  go_wp2_with fail
  refine (register_c _ _).mono ?_
  rintro e w1 ⟨rfl, hb, hs, hc⟩
  unfold opdV
  have ob0 := Lib.hid (OB.new (t := 97) (r := 99) 57 hc)
  have nb : Below w.heap.size w (w1.alloc (.cells #[capV 97 w.heap.size, capV 99 w.heap.size] 57)) := hb.alloc hb.size _
  have HB := Lib.hid nb
  clear hb hs hc nb
  go_wp2_with fail
  generalize hW : w1.alloc (.cells #[capV 97 w.heap.size, capV 99 w.heap.size] 57) = w2 at *
  clear hW
  refine (register_c _ _).mono ?_
  rintro e w3 ⟨rfl, hb, hs, hc⟩
  unfold opdV
  have ob1 := Lib.hid (OB.new (t := 97) (r := 99) 57 hc)
  have nb : Below w2.heap.size w2 (w3.alloc (.cells #[capV 97 w2.heap.size, capV 99 w2.heap.size] 57)) := hb.alloc hb.size _
  replace HB := Lib.hid (HB.out.trans (nb.mono HB.out.size))
  replace ob0 := Lib.hid (ob0.out.low nb)
  clear hb hs hc nb
  go_wp2_with fail
  generalize hW : w3.alloc (.cells #[capV 97 w2.heap.size, capV 99 w2.heap.size] 57) = w4 at *
  clear hW
  refine (register_c _ _).mono ?_
  rintro e w5 ⟨rfl, hb, hs, hc⟩
  unfold opdV
  have ob2 := Lib.hid (OB.new (t := 97) (r := 99) 57 hc)
  have nb : Below w4.heap.size w4 (w5.alloc (.cells #[capV 97 w4.heap.size, capV 99 w4.heap.size] 57)) := hb.alloc hb.size _
  replace HB := Lib.hid (HB.out.trans (nb.mono HB.out.size))
  replace ob0 := Lib.hid (ob0.out.low nb)
  replace ob1 := Lib.hid (ob1.out.low nb)
  clear hb hs hc nb
  go_wp2_with fail
  generalize hW : w5.alloc (.cells #[capV 97 w4.heap.size, capV 99 w4.heap.size] 57) = w6 at *
  clear hW
  refine (plain_c _ _).mono ?_
  rintro e w7 ⟨rfl, hb, hs, hc⟩
  unfold opdV
  have ob3 := Lib.hid (OB.new (t := 101) (r := 103) 57 hc)
  have nb : Below w6.heap.size w6 (w7.alloc (.cells #[capV 101 w6.heap.size, capV 103 w6.heap.size] 57)) := hb.alloc hb.size _
  replace HB := Lib.hid (HB.out.trans (nb.mono HB.out.size))
  replace ob0 := Lib.hid (ob0.out.low nb)
  replace ob1 := Lib.hid (ob1.out.low nb)
  replace ob2 := Lib.hid (ob2.out.low nb)
  clear hb hs hc nb
  have p0 := ob0.out.c0
  have q0 := ob0.out.c1
  have p1 := ob1.out.c0
  have q1 := ob1.out.c1
  have p2 := ob2.out.c0
  have q2 := ob2.out.c1
  have p3 := ob3.out.c0
  have q3 := ob3.out.c1
  go_wp2_with fail
  generalize hW : w7.alloc (.cells #[capV 101 w6.heap.size, capV 103 w6.heap.size] 57) = w8 at *
  clear hW
  have HD := Lib.hid (HB.out.drew)
  have od0 := Lib.hid (ob0.out.low ((Below.refl _ w8).drew))
  have od3 := Lib.hid (ob3.out.low ((Below.refl _ w8).drew))
  go_region_with ((go_at_call 63; refine (plain_c _ _).mono ?_; rintro e wi ⟨rfl, hb, hs, hc⟩; unfold opdV; have HI := Lib.hid (HD.out.trans (hb.mono HD.out.size)); have obi := Lib.hid hc; have oi0 := Lib.hid (od0.out.low hb); have r0 := oi0.out.c0; have s0 := oi0.out.c1; have oi3 := Lib.hid (od3.out.low hb); have r3 := oi3.out.c0; have s3 := oi3.out.c1))
  all_goals
    go_wp2_with fail
    go_ret
    exact ⟨_, rfl, HI.out.alloc HI.out.size _, ops3x (A := oRd) (B := oCsr) (C := oNum) 57 oi0.out oi3.out obi.out⟩
set_option maxHeartbeats 4000000 in
theorem operands_11 (w : World) : Calls Tryz.prog 21 #[.int .i64 11] w fun e w' => ∃ v, e = .returned v ∧ Below w.heap.size w w' ∧ OpsAt w' v [oRd, oRs2, oRs1] := by
  have hsf := store_fn
  go_enter Tryz.func21, Tryz.ntmps21
  go_wp2_with fail
  refine (register_c _ _).mono ?_
  rintro e w1 ⟨rfl, hb, hs, hc⟩
  unfold opdV
  have ob0 := Lib.hid (OB.new (t := 97) (r := 99) 57 hc)
  have nb : Below w.heap.size w (w1.alloc (.cells #[capV 97 w.heap.size, capV 99 w.heap.size] 57)) := hb.alloc hb.size _
  have HB := Lib.hid nb
  clear hb hs hc nb
  go_wp2_with fail
  generalize hW : w1.alloc (.cells #[capV 97 w.heap.size, capV 99 w.heap.size] 57) = w2 at *
  clear hW
  refine (register_c _ _).mono ?_
  rintro e w3 ⟨rfl, hb, hs, hc⟩
  unfold opdV
  have ob1 := Lib.hid (OB.new (t := 97) (r := 99) 57 hc)
  have nb : Below w2.heap.size w2 (w3.alloc (.cells #[capV 97 w2.heap.size, capV 99 w2.heap.size] 57)) := hb.alloc hb.size _
  replace HB := Lib.hid (HB.out.trans (nb.mono HB.out.size))
  replace ob0 := Lib.hid (ob0.out.low nb)
  clear hb hs hc nb
  go_wp2_with fail
  generalize hW : w3.alloc (.cells #[capV 97 w2.heap.size, capV 99 w2.heap.size] 57) = w4 at *
  clear hW
  refine (register_c _ _).mono ?_
  rintro e w5 ⟨rfl, hb, hs, hc⟩
  unfold opdV
  have ob2 := Lib.hid (OB.new (t := 97) (r := 99) 57 hc)
  have nb : Below w4.heap.size w4 (w5.alloc (.cells #[capV 97 w4.heap.size, capV 99 w4.heap.size] 57)) := hb.alloc hb.size _
  replace HB := Lib.hid (HB.out.trans (nb.mono HB.out.size))
  replace ob0 := Lib.hid (ob0.out.low nb)
  replace ob1 := Lib.hid (ob1.out.low nb)
  clear hb hs hc nb
  go_wp2_with fail
  generalize hW : w5.alloc (.cells #[capV 97 w4.heap.size, capV 99 w4.heap.size] 57) = w6 at *
  clear hW
  refine (plain_c _ _).mono ?_
  rintro e w7 ⟨rfl, hb, hs, hc⟩
  unfold opdV
  have ob3 := Lib.hid (OB.new (t := 101) (r := 103) 57 hc)
  have nb : Below w6.heap.size w6 (w7.alloc (.cells #[capV 101 w6.heap.size, capV 103 w6.heap.size] 57)) := hb.alloc hb.size _
  replace HB := Lib.hid (HB.out.trans (nb.mono HB.out.size))
  replace ob0 := Lib.hid (ob0.out.low nb)
  replace ob1 := Lib.hid (ob1.out.low nb)
  replace ob2 := Lib.hid (ob2.out.low nb)
  clear hb hs hc nb
  have p0 := ob0.out.c0
  have q0 := ob0.out.c1
  have p1 := ob1.out.c0
  have q1 := ob1.out.c1
  have p2 := ob2.out.c0
  have q2 := ob2.out.c1
  have p3 := ob3.out.c0
  have q3 := ob3.out.c1
  go_wp2_with fail
  generalize hW : w7.alloc (.cells #[capV 101 w6.heap.size, capV 103 w6.heap.size] 57) = w8 at *
  have hs8 : w7.heap.size + 1 = w8.heap.size := by rw [← hW]; simp
  clear hW
  rw [hs8]
  go_ret
  exact ⟨_, rfl, HB.out.alloc HB.out.size _, ops3 (A := oRd) (B := oRs2) (C := oRs1) 57 ob0.out ob2.out ob1.out⟩
set_option maxHeartbeats 4000000 in
theorem operands_12 (w : World) : Calls Tryz.prog 21 #[.int .i64 12] w fun e w' => ∃ v, e = .returned v ∧ Below w.heap.size w w' ∧ OpsAt w' v [oRd, oRs1] := by
  have hsf := store_fn
  go_enter Tryz.func21, Tryz.ntmps21
  go_wp2_with fail
  refine (register_c _ _).mono ?_
  rintro e w1 ⟨rfl, hb, hs, hc⟩
  unfold opdV
  have ob0 := Lib.hid (OB.new (t := 97) (r := 99) 57 hc)
  have nb : Below w.heap.size w (w1.alloc (.cells #[capV 97 w.heap.size, capV 99 w.heap.size] 57)) := hb.alloc hb.size _
  have HB := Lib.hid nb
  clear hb hs hc nb
  go_wp2_with fail
  generalize hW : w1.alloc (.cells #[capV 97 w.heap.size, capV 99 w.heap.size] 57) = w2 at *
  clear hW
  refine (register_c _ _).mono ?_
  rintro e w3 ⟨rfl, hb, hs, hc⟩
  unfold opdV
  have ob1 := Lib.hid (OB.new (t := 97) (r := 99) 57 hc)
  have nb : Below w2.heap.size w2 (w3.alloc (.cells #[capV 97 w2.heap.size, capV 99 w2.heap.size] 57)) := hb.alloc hb.size _
  replace HB := Lib.hid (HB.out.trans (nb.mono HB.out.size))
  replace ob0 := Lib.hid (ob0.out.low nb)
  clear hb hs hc nb
  go_wp2_with fail
  generalize hW : w3.alloc (.cells #[capV 97 w2.heap.size, capV 99 w2.heap.size] 57) = w4 at *
  clear hW
  refine (register_c _ _).mono ?_
  rintro e w5 ⟨rfl, hb, hs, hc⟩
  unfold opdV
  have ob2 := Lib.hid (OB.new (t := 97) (r := 99) 57 hc)
  have nb : Below w4.heap.size w4 (w5.alloc (.cells #[capV 97 w4.heap.size, capV 99 w4.heap.size] 57)) := hb.alloc hb.size _
  replace HB := Lib.hid (HB.out.trans (nb.mono HB.out.size))
  replace ob0 := Lib.hid (ob0.out.low nb)
  replace ob1 := Lib.hid (ob1.out.low nb)
  clear hb hs hc nb
  go_wp2_with fail
  generalize hW : w5.alloc (.cells #[capV 97 w4.heap.size, capV 99 w4.heap.size] 57) = w6 at *
  clear hW
  refine (plain_c _ _).mono ?_
  rintro e w7 ⟨rfl, hb, hs, hc⟩
  unfold opdV
  have ob3 := Lib.hid (OB.new (t := 101) (r := 103) 57 hc)
  have nb : Below w6.heap.size w6 (w7.alloc (.cells #[capV 101 w6.heap.size, capV 103 w6.heap.size] 57)) := hb.alloc hb.size _
  replace HB := Lib.hid (HB.out.trans (nb.mono HB.out.size))
  replace ob0 := Lib.hid (ob0.out.low nb)
  replace ob1 := Lib.hid (ob1.out.low nb)
  replace ob2 := Lib.hid (ob2.out.low nb)
  clear hb hs hc nb
  have p0 := ob0.out.c0
  have q0 := ob0.out.c1
  have p1 := ob1.out.c0
  have q1 := ob1.out.c1
  have p2 := ob2.out.c0
  have q2 := ob2.out.c1
  have p3 := ob3.out.c0
  have q3 := ob3.out.c1
  go_wp2_with fail
  generalize hW : w7.alloc (.cells #[capV 101 w6.heap.size, capV 103 w6.heap.size] 57) = w8 at *
  have hs8 : w7.heap.size + 1 = w8.heap.size := by rw [← hW]; simp
  clear hW
  rw [hs8]
  go_ret
  exact ⟨_, rfl, HB.out.alloc HB.out.size _, ops2 (A := oRd) (B := oRs1) 57 ob0.out ob1.out⟩
set_option maxHeartbeats 4000000 in
theorem operands_14 (w : World) : Calls Tryz.prog 21 #[.int .i64 14] w fun e w' => ∃ v, e = .returned v ∧ Below w.heap.size w w' ∧ OpsAt w' v [oRs1, oRs2] := by
  have hsf := store_fn
  go_enter Tryz.func21, Tryz.ntmps21
  go_wp2_with fail
  refine (register_c _ _).mono ?_
  rintro e w1 ⟨rfl, hb, hs, hc⟩
  unfold opdV
  have ob0 := Lib.hid (OB.new (t := 97) (r := 99) 57 hc)
  have nb : Below w.heap.size w (w1.alloc (.cells #[capV 97 w.heap.size, capV 99 w.heap.size] 57)) := hb.alloc hb.size _
  have HB := Lib.hid nb
  clear hb hs hc nb
  go_wp2_with fail
  generalize hW : w1.alloc (.cells #[capV 97 w.heap.size, capV 99 w.heap.size] 57) = w2 at *
  clear hW
  refine (register_c _ _).mono ?_
  rintro e w3 ⟨rfl, hb, hs, hc⟩
  unfold opdV
  have ob1 := Lib.hid (OB.new (t := 97) (r := 99) 57 hc)
  have nb : Below w2.heap.size w2 (w3.alloc (.cells #[capV 97 w2.heap.size, capV 99 w2.heap.size] 57)) := hb.alloc hb.size _
  replace HB := Lib.hid (HB.out.trans (nb.mono HB.out.size))
  replace ob0 := Lib.hid (ob0.out.low nb)
  clear hb hs hc nb
  go_wp2_with fail
  generalize hW : w3.alloc (.cells #[capV 97 w2.heap.size, capV 99 w2.heap.size] 57) = w4 at *
  clear hW
  refine (register_c _ _).mono ?_
  rintro e w5 ⟨rfl, hb, hs, hc⟩
  unfold opdV
  have ob2 := Lib.hid (OB.new (t := 97) (r := 99) 57 hc)
  have nb : Below w4.heap.size w4 (w5.alloc (.cells #[capV 97 w4.heap.size, capV 99 w4.heap.size] 57)) := hb.alloc hb.size _
  replace HB := Lib.hid (HB.out.trans (nb.mono HB.out.size))
  replace ob0 := Lib.hid (ob0.out.low nb)
  replace ob1 := Lib.hid (ob1.out.low nb)
  clear hb hs hc nb
  go_wp2_with fail
  generalize hW : w5.alloc (.cells #[capV 97 w4.heap.size, capV 99 w4.heap.size] 57) = w6 at *
  clear hW
  refine (plain_c _ _).mono ?_
  rintro e w7 ⟨rfl, hb, hs, hc⟩
  unfold opdV
  have ob3 := Lib.hid (OB.new (t := 101) (r := 103) 57 hc)
  have nb : Below w6.heap.size w6 (w7.alloc (.cells #[capV 101 w6.heap.size, capV 103 w6.heap.size] 57)) := hb.alloc hb.size _
  replace HB := Lib.hid (HB.out.trans (nb.mono HB.out.size))
  replace ob0 := Lib.hid (ob0.out.low nb)
  replace ob1 := Lib.hid (ob1.out.low nb)
  replace ob2 := Lib.hid (ob2.out.low nb)
  clear hb hs hc nb
  have p0 := ob0.out.c0
  have q0 := ob0.out.c1
  have p1 := ob1.out.c0
  have q1 := ob1.out.c1
  have p2 := ob2.out.c0
  have q2 := ob2.out.c1
  have p3 := ob3.out.c0
  have q3 := ob3.out.c1
  go_wp2_with fail
  generalize hW : w7.alloc (.cells #[capV 101 w6.heap.size, capV 103 w6.heap.size] 57) = w8 at *
  have hs8 : w7.heap.size + 1 = w8.heap.size := by rw [← hW]; simp
  clear hW
  rw [hs8]
  go_ret
  exact ⟨_, rfl, HB.out.alloc HB.out.size _, ops2 (A := oRs1) (B := oRs2) 57 ob1.out ob2.out⟩
end Go.Proofs.YthehcplogkgkeaaGreatDoor
