/-
  Contract of locks.Job.Step: which of its steps it is. Contract of the law's Ints: are two lists of numbers the same? Contract of what the law's step hands over: what a job is for.
-/
import Derived.Test.YtjeolfcefeglpabGreatWbf
import Derived.Test.YtjeolfcefeglpabGreatWbc
set_option maxRecDepth 20000
namespace Go.Proofs.YtjeolfcefeglpabGreat
open Go.ChangeShapes Go.WideShapes Go.ChangeAt Go.RowKit

theorem step_over (b off : Nat) (p : Option Addr) (m cap : Nat) (took gave who : Int) (did : Bool) (lv f : Value) (w : World) (hj : JobAt w b off (.slice p m cap) took gave did) (hd : (did && (gave == (m : Int))) = true) :
    Calls Tryz.prog 11 #[.pointer (some ⟨b, off, none⟩), lv, .int .i64 who, f] w fun e w' => e = .returned (.int .i64 4) ∧ Below w.heap.size w w' := by
  have HX := Lib.hid (done_c b off p m cap took gave did w hj)
  rw [hd] at HX
  clear hj hd
  go_enter Tryz.func11, Tryz.ntmps11
  go_wp2_with fail
  refine HX.out.mono ?_
  rintro e w1 ⟨rfl, hb⟩
  have HB := Lib.hid hb
  clear hb
  go_wp2_with fail
  go_ret
  exact ⟨rfl, HB.out⟩
set_option maxHeartbeats 2000000 in
theorem step_take (b off : Nat) (p : Option Addr) (m cap : Nat) (took gave who : Int) (did : Bool) (lv f : Value) (Q : Int → World → Prop) (w : World) (hj : JobAt w b off (.slice p m cap) took gave did) (hd : (did && (gave == (m : Int))) = false) (hk : took < (m : Int))
    (H : ∀ W, Below w.heap.size w W → Calls Tryz.prog 31 #[.pointer (some ⟨b, off, none⟩), lv, .int .i64 who] W fun e w' => ∃ r, e = .returned (.int .i64 r) ∧ Q r w') :
    Calls Tryz.prog 11 #[.pointer (some ⟨b, off, none⟩), lv, .int .i64 who, f] w fun e w' => ∃ r, e = .returned (.int .i64 r) ∧ Q r w' := by
  have HX := Lib.hid (done_c b off p m cap took gave did w hj)
  rw [hd] at HX
  have HJ := Lib.hid hj
  have HH := Lib.hid H
  clear hj hd H
  go_enter Tryz.func11, Tryz.ntmps11
  go_wp2_with fail
  refine HX.out.mono ?_
  rintro e w1 ⟨rfl, hb⟩
  have HB := Lib.hid hb
  have hJ := HJ.out.low hb
  have c0 := hJ.c0
  have c1 := hJ.c1
  clear hb hJ
  go_wp2_with fail
  go_quiet (fail)
  have HW := Lib.hid (HH.out (w1.drewN nq) (below_dnS HB.out nq))
  go_wp2_with fail
  refine HW.out.mono ?_
  rintro e w2 ⟨r, rfl, hq⟩
  have HQ := Lib.hid hq
  clear hq
  go_wp2_with fail
  go_ret
  exact ⟨_, rfl, HQ.out⟩
set_option maxHeartbeats 2000000 in
theorem step_act (b off : Nat) (p : Option Addr) (m cap : Nat) (took gave who : Int) (lv f : Value) (Q : Int → World → Prop) (w : World) (hj : JobAt w b off (.slice p m cap) took gave false) (hk : ¬ took < (m : Int))
    (H : ∀ W, Below w.heap.size w W → Calls Tryz.prog 32 #[.pointer (some ⟨b, off, none⟩), f] W fun e w' => ∃ r, e = .returned (.int .i64 r) ∧ Q r w') :
    Calls Tryz.prog 11 #[.pointer (some ⟨b, off, none⟩), lv, .int .i64 who, f] w fun e w' => ∃ r, e = .returned (.int .i64 r) ∧ Q r w' := by
  have HX := Lib.hid (done_c b off p m cap took gave false w hj)
  rw [Bool.false_and] at HX
  have HJ := Lib.hid hj
  have HH := Lib.hid H
  clear hj H
  go_enter Tryz.func11, Tryz.ntmps11
  go_wp2_with fail
  refine HX.out.mono ?_
  rintro e w1 ⟨rfl, hb⟩
  have HB := Lib.hid hb
  have hJ := HJ.out.low hb
  have c0 := hJ.c0
  have c1 := hJ.c1
  clear hb hJ
  go_wp2_with fail
  go_quiet (fail)
  have HW := Lib.hid (HH.out (w1.drewN nq) (below_dnS HB.out nq))
  have c3 := (HJ.out.low (below_dnS HB.out nq)).c3
  go_wp2_with fail
  refine HW.out.mono ?_
  rintro e w2 ⟨r, rfl, hq⟩
  have HQ := Lib.hid hq
  clear hq
  go_wp2_with fail
  go_ret
  exact ⟨_, rfl, HQ.out⟩
set_option maxHeartbeats 2000000 in
theorem step_give (b off : Nat) (p : Option Addr) (m cap : Nat) (took gave who : Int) (lv f : Value) (Q : Int → World → Prop) (w : World) (hj : JobAt w b off (.slice p m cap) took gave true) (hd : (true && (gave == (m : Int))) = false) (hk : ¬ took < (m : Int))
    (H : ∀ W, Below w.heap.size w W → Calls Tryz.prog 33 #[.pointer (some ⟨b, off, none⟩), lv, .int .i64 who] W fun e w' => ∃ r, e = .returned (.int .i64 r) ∧ Q r w') :
    Calls Tryz.prog 11 #[.pointer (some ⟨b, off, none⟩), lv, .int .i64 who, f] w fun e w' => ∃ r, e = .returned (.int .i64 r) ∧ Q r w' := by
  have HX := Lib.hid (done_c b off p m cap took gave true w hj)
  rw [hd] at HX
  have HJ := Lib.hid hj
  have HH := Lib.hid H
  clear hj H hd
  go_enter Tryz.func11, Tryz.ntmps11
  go_wp2_with fail
  refine HX.out.mono ?_
  rintro e w1 ⟨rfl, hb⟩
  have HB := Lib.hid hb
  have hJ := HJ.out.low hb
  have c0 := hJ.c0
  have c1 := hJ.c1
  clear hb hJ
  go_wp2_with fail
  go_quiet (fail)
  have HW := Lib.hid (HH.out (w1.drewN nq) (below_dnS HB.out nq))
  have c3 := (HJ.out.low (below_dnS HB.out nq)).c3
  go_wp2_with fail
  refine HW.out.mono ?_
  rintro e w2 ⟨r, rfl, hq⟩
  have HQ := Lib.hid hq
  clear hq
  go_wp2_with fail
  go_ret
  exact ⟨_, rfl, HQ.out⟩
end Go.Proofs.YtjeolfcefeglpabGreat
set_option maxRecDepth 20000
namespace Go.Proofs.YtjeolfcefeglpabGreat
open Go.ChangeShapes Go.WideShapes Go.ChangeAt Go.RowKit

theorem eq_of_at {xs ys : List Int} (h : xs.length = ys.length) (he : ∀ i, i < xs.length → (xs.getD i 0 != ys.getD i 0) = false) : xs = ys := by
  apply List.ext_getElem h
  intro i h1 h2
  have := he i h1
  rw [List.getD, List.getD, List.getElem?_eq_getElem h1, List.getElem?_eq_getElem h2] at this
  simpa using this
end Go.Proofs.YtjeolfcefeglpabGreat
set_option maxRecDepth 20000
namespace Go.Proofs.YtjeolfcefeglpabGreat
open Go.ChangeShapes Go.WideShapes Go.ChangeAt Go.RowKit

end Go.Proofs.YtjeolfcefeglpabGreat
