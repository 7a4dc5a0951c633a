/-
  Contracts of locks.Job: act, give, Step.
-/
import Derived.Test.YtgegahnjhaldeaaLkM
namespace Go.Proofs.Ytgegahnjhaldeaa
open Go.ChangeShapes Go.WideShapes Go.ChangeAt Go.RowKit
variable {Z : Nat → Prop}

theorem fn_not_nil (F : FuncId) (cs : Array Value) (w : World) : (binOp .neq 1 (.func (.func F) #[] cs) .nilFunc).run Try.prog w = .ok (.bool true) w := by kernel_rfl
set_option maxHeartbeats 2000000 in
/-- The step that does what the job is for. -/
theorem jact_c (b off : Nat) (p : Option Addr) (m cap : Nat) (took gave : Int) (did : Bool) (F : FuncId) (cs : Array Value) (Post : World → Prop) (w : World) (hj : JobAt w b off (.slice p m cap) took gave did)
    (hA : Calls Try.prog F cs (w.setCell ⟨b, off + 3, none⟩ (.bool true)) fun e w' => e = .returned (.tuple #[]) ∧ Post w') (hJ : ∀ w', Post w' → JobAt w' b off (.slice p m cap) took gave true) (hE : Go.Proofs.Enters Try.prog F) :
    Calls Try.prog 49 #[.pointer (some ⟨b, off, none⟩), .func (.func F) #[] cs] w fun e w' => e = .returned (.int .i64 (if (true && (gave == (m : Int))) = true then 4 else 2)) ∧ ∃ w1, Post w1 ∧ Below w1.heap.size w1 w' := by
  have c3 := hj.c3
  have f3 := hj.f3
  have hq := fn_not_nil F cs
  have HA := Lib.hid hA
  have HJ := Lib.hid hJ
  have HE := Lib.hid hE
  have HB := Lib.hid (fun w' (h : JobAt w' b off (.slice p m cap) took gave true) => behind_c b off p m cap took gave 2 true w' h)
  clear hA hJ hE hj
  generalize (if (true && (gave == (m : Int))) = true then (4 : Int) else 2) = r at *
  go_enter Try.func49, Try.ntmps49
  go_wp2_with fail
  rw [HE.out]
  refine HA.out.mono ?_
  rintro e w1 ⟨rfl, hp⟩
  have HP := Lib.hid hp
  clear hp
  go_wp2_with fail
  refine (HB.out w1 (HJ.out w1 HP.out)).mono ?_
  rintro e w2 ⟨rfl, hb⟩
  have HB2 := Lib.hid hb
  clear hb
  go_wp2_with fail
  go_ret
  exact ⟨rfl, w1, HP.out, HB2.out⟩
set_option maxHeartbeats 4000000 in
/-- The step that gives a lock back, the greatest that the job still has. -/
theorem jgive_c (b off pb po cap : Nat) (xs : List Int) (k : Nat) (took who : Int) (base lp mb n : Nat) (R : Int → List Int) (w : World)
    (hj : JobAt w b off (.slice (some ⟨pb, po, none⟩) xs.length cap) took k true) (hz : Z b) (hbl : b ≠ lp) (hbb : base ≤ b) (hpb : pb ≠ b) (hpl : pb < w.heap.size) (hcell : ∀ j, j < xs.length → w.cell? ⟨pb, po + j, none⟩ = some (.int .i64 (xs.getD j 0)))
    (hk : k < xs.length) (hx : InI (xs.getD (xs.length - (k + 1)) 0)) (hl : xs.length ≤ 1000000) (h : LkAt Z w base lp mb n R) :
    Calls Try.prog 50 #[.pointer (some ⟨b, off, none⟩), .pointer (some ⟨lp, 0, none⟩), .int .i64 who] w fun e w' =>
      e = .returned (.int .i64 (if (true && (((k : Int) + 1) == (xs.length : Int))) = true then 4 else 3)) ∧ LkAt Z w' base lp mb n (Lk.drop R who (xs.getD (xs.length - (k + 1)) 0)) ∧ Below base w w' ∧ JobOnly Z b off w w' ∧
        JobAt w' b off (.slice (some ⟨pb, po, none⟩) xs.length cap) took ((k : Int) + 1) true := by
  have c2 := hj.c2
  have f2 := hj.f2
  have ck := (World.cell?_of_block (w := w) (a := ⟨pb, po + (xs.length - (k + 1)), none⟩) (heap_setCell_other w ⟨b, off + 2, none⟩ pb (.int .i64 ((k : Int) + 1)) hpb)).trans (hcell (xs.length - (k + 1)) (by omega))
  have HJ1 := Lib.hid (hj.gave ((k : Int) + 1))
  have HH1 := Lib.hid (h.far (i := off + 2) hz hbl (.int .i64 ((k : Int) + 1)))
  have HO1 := Lib.hid (JobOnly.set (Z := Z) (b := b) (off := off) (w := w) (off + 2) (.inr (.inl rfl)) (.int .i64 ((k : Int) + 1)))
  have HB1 := Lib.hid ((Below.refl base w).setCell (p := ⟨b, off + 2, none⟩) hbb (.int .i64 ((k : Int) + 1)))
  have hpl1 : pb < (w.setCell ⟨b, off + 2, none⟩ (.int .i64 ((k : Int) + 1))).heap.size := by rw [World.size_setCell]; exact hpl
  have hbase : base ≤ (w.setCell ⟨b, off + 2, none⟩ (.int .i64 ((k : Int) + 1))).heap.size := by have := HH1.out.b0; have := HH1.out.lt; omega
  have HX := Lib.hid hx
  have hw : IntKind.i64.wrap ((k : Int) + 1) = ((k : Int) + 1) := by rw [IntKind.wrap_i64]; omega
  have hw2 : IntKind.i64.wrap ((xs.length : Int) - ((k : Int) + 1)) = ((xs.length - (k + 1) : Nat) : Int) := by rw [IntKind.wrap_i64]; omega
  have hlt : ((xs.length - (k + 1) : Nat) : Int) < xs.length := by omega
  clear hj h hx hcell
  have HTK := Lib.hid (fun W (hW : LkAt Z W base lp mb n R) => drop_c who (xs.getD (xs.length - (k + 1)) 0) base lp mb n R W hW HX.out)
  generalize hR2 : Lk.drop R who (xs.getD (xs.length - (k + 1)) 0) = R2 at *
  generalize xs.getD (xs.length - (k + 1)) 0 = y at *
  have HBE := Lib.hid (fun w' (h : JobAt w' b off (.slice (some ⟨pb, po, none⟩) xs.length cap) took ((k : Int) + 1) true) => behind_c b off _ _ cap took ((k : Int) + 1) 3 true w' h)
  generalize (if (true && (((k : Int) + 1) == (xs.length : Int))) = true then (4 : Int) else 3) = r at *
  go_enter Try.func50, Try.ntmps50
  go_upto_region 2 with fail
  generalize w.setCell ⟨b, off + 2, none⟩ (.int .i64 ((k : Int) + 1)) = w1 at *
  refine wp_region_steady_tail (fun W => Below w1.heap.size w1 W) 18 (by kernel_rfl) (by kernel_rfl) ((Below.refl _ _).drew) ?_
  iterate 18
    refine steady_val ?_ ?_ (by kernel_rfl) (fun W hS => ?_) ?_ ?_
    rotate_left 2
    · have hJ := HJ1.out.low hS
      have d0 := hJ.c0
      have d2 := hJ.c2
      have dk := (hS.cell (p := ⟨pb, po + (xs.length - (k + 1)), none⟩) hpl1).trans ck
      go_simp
      exact rfl
    · go_simp
      exact rfl
  refine steady_nil ?_
  intro W hW
  simp only [List.drop_succ_cons, List.drop_zero]
  have HW := Lib.hid hW
  clear hW ck
  go_wp2_with fail
  refine (HTK.out W (HH1.out.low HW.out)).mono ?_
  rintro e w2 ⟨rfl, hL, hb, hkz⟩
  have HL2 := Lib.hid hL
  have HB2 := Lib.hid (HB1.out.trans ((HW.out.mono hbase).trans hb))
  have HJ2 := Lib.hid ((HJ1.out.low HW.out).on (hkz b hz))
  have HO2 := Lib.hid (HO1.out.trans ((JobOnly.of_kept (off := off) (KeptZ.below HH1.out HW.out) hz).trans (JobOnly.of_kept hkz hz)))
  clear hL hb hkz
  go_wp2_with fail
  refine (HBE.out w2 HJ2.out).mono ?_
  rintro e w3 ⟨rfl, hb3⟩
  have HL3 := Lib.hid (HL2.out.low hb3)
  have HB3 := Lib.hid (HB2.out.trans (hb3.mono (by have := HL2.out.b0; have := HL2.out.lt; omega)))
  have HJ3 := Lib.hid (HJ2.out.low hb3)
  have HO3 := Lib.hid (HO2.out.trans (JobOnly.of_kept (KeptZ.below HL2.out hb3) hz))
  clear hb3
  go_wp2_with fail
  go_ret
  exact ⟨rfl, HL3.out, HB3.out, HO3.out, HJ3.out⟩
end Go.Proofs.Ytgegahnjhaldeaa
