/-
  A file of CSRs that is not there: Set, Turn, Get, May, Do.
-/
import Derived.Test.YtfjdalepaacmgaaDoorCfO
set_option maxRecDepth 20000
namespace Go.Proofs.YtfjdalepaacmgaaDoor
open Go.ChangeShapes Go.WideShapes Go.ChangeAt Go.RowKit Wd Csr Sta Cf

theorem zset_c (n v : Int) (w : World) : Calls Tryd.prog 38 #[.pointer none, .int .i64 n, .int .u64 v] w fun e w' => e = .returned (.tuple #[]) ∧ Below w.heap.size w w' := by
  have HB := Lib.hid (show Below w.heap.size w ((w.alloc (.cells #[.int .i64 n] 3)).alloc (.cells #[.int .u64 v] 24)) from ((Below.refl _ _).alloc (Nat.le_refl _) _).alloc (by simp) _)
  go_enter Tryd.func38, Tryd.ntmps38
  go_wp2_with fail
  (try simp only [Exit.inBlock, Exit.then])
  exact bodyPost_ret (results_none rfl _ _ _) rfl ⟨rfl, HB.out⟩
theorem zget_c (n l : Int) (w : World) : Calls Tryd.prog 39 #[.pointer none, .int .i64 n, .int .u64 l] w fun e w' => e = .returned (.int .u64 0) ∧ Below w.heap.size w w' := by
  go_enter Tryd.func39, Tryd.ntmps39
  go_wp2_with fail
  go_ret
  exact ⟨rfl, Below.refl _ _⟩
theorem zturn_c (r : Bool) (w : World) : Calls Tryd.prog 36 #[.pointer none, .bool r] w fun e w' => e = .returned (.tuple #[]) ∧ Below w.heap.size w w' := by
  go_enter Tryd.func36, Tryd.ntmps36
  go_wp2_with fail
  (try simp only [Exit.inBlock, Exit.then])
  exact bodyPost_ret (results_none rfl _ _ _) rfl ⟨rfl, Below.refl _ _⟩
theorem zmay_c (n p : Int) (wr : Bool) (w : World) : Calls Tryd.prog 40 #[.pointer none, .int .i64 n, .int .i64 p, .bool wr] w fun e w' => e = .returned (.bool false) ∧ Below w.heap.size w w' := by
  go_enter Tryd.func40, Tryd.ntmps40
  go_wp2_with fail
  go_ret
  exact ⟨rfl, Below.refl _ _⟩
structure ZxS (w W : World) (bx : Nat) (cs : Array Value) : Prop where
  b : CsAt W bx InT cs
  bel : Below w.heap.size w W
theorem ZxS.low {w W W' : World} {bx : Nat} {cs : Array Value} (h : ZxS w W bx cs) (hb : Below W.heap.size W W') : ZxS w W' bx cs := ⟨h.b.low hb, h.bel.trans (hb.mono h.bel.size)⟩
theorem ZxS.drew {w W : World} {bx : Nat} {cs : Array Value} (h : ZxS w W bx cs) : ZxS w W.drew bx cs := ⟨h.b, h.bel.drew⟩
set_option maxHeartbeats 4000000 in
theorem zdo_c (n : Int) (w : World) :
    Calls Tryd.prog 41 #[.pointer none, .agg #[.int .i64 89, .int .i64 0, .int .i64 0, .int .i64 0, .int .i64 0, .int .i64 n, .bool false, .bool false], .int .u64 1, .int .u64 1] w fun e w' => e = .returned (.int .u64 0) ∧ Below w.heap.size w w' := by
  have HS := Lib.hid (show ZxS w (w.alloc (.cells #[.int .i64 89, .int .i64 0, .int .i64 0, .int .i64 0, .int .i64 0, .int .i64 n, .bool false, .bool false] InT)) w.heap.size #[.int .i64 89, .int .i64 0, .int .i64 0, .int .i64 0, .int .i64 0, .int .i64 n, .bool false, .bool false] from ⟨CsAt.new w InT _, (Below.refl _ _).alloc (Nat.le_refl _) _⟩)
  have HC := Lib.hid (fun W => class_c 89 W)
  have HW := Lib.hid (fun W => fwrites_c 89 0 W)
  rw [show classS 89 = 8 by kernel_rfl] at HC
  rw [show wrS 89 0 = true by kernel_rfl] at HW
  have q0 := HS.out.b.cell 0
  have q2 := HS.out.b.cell 2
  have q5 := HS.out.b.cell 5
  simp only [List.getElem?_toArray, List.getElem?_cons_zero, List.getElem?_cons_succ] at q0 q2 q5
  go_enter Tryd.func41, Tryd.ntmps41
  go_upto_region 1 with fail
  generalize w.alloc (.cells #[.int .i64 89, .int .i64 0, .int .i64 0, .int .i64 0, .int .i64 0, .int .i64 n, .bool false, .bool false] InT) = w1 at *
  go_wp2_with fail
  refine (HC.out _).mono ?_
  rintro e w2 ⟨rfl, rfl⟩
  go_wp2_with fail
  refine (zget_c n 1 _).mono ?_
  rintro e w3 ⟨rfl, hb⟩
  have HS3 := Lib.hid (HS.out.low hb)
  clear hb HS q0 q2 q5
  have q0 := HS3.out.b.cell 0
  have q2 := HS3.out.b.cell 2
  simp only [List.getElem?_toArray, List.getElem?_cons_zero, List.getElem?_cons_succ] at q0 q2
  go_wp2_with fail
  refine (HW.out _).mono ?_
  rintro e w4 ⟨rfl, rfl⟩
  go_upto_region 5 with fail
  refine wp_region_steady_tail (fun W => ZxS w W w.heap.size #[.int .i64 89, .int .i64 0, .int .i64 0, .int .i64 0, .int .i64 0, .int .i64 n, .bool false, .bool false]) 11 (by kernel_rfl) (by kernel_rfl) HS3.out.drew ?_
  iterate 2
    refine steady_val ?_ ?_ (by kernel_rfl) (fun W hS => ?_) ?_ ?_
    rotate_left 2
    · go_simp
      exact rfl
    · go_simp
      exact rfl
  refine steady_val ?_ ?_ (by kernel_rfl) (fun W hS => ?_) ?_ ?_
  rotate_left 2
  · have q := hS.b.cell 5; simp only [List.getElem?_toArray, List.getElem?_cons_zero, List.getElem?_cons_succ] at q; go_simp
    exact rfl
  · go_simp
    exact rfl
  refine steady_val ?_ ?_ (by kernel_rfl) (fun W hS => ?_) ?_ ?_
  rotate_left 2
  · go_simp
    exact rfl
  · go_simp
    exact rfl
  refine steady_val ?_ ?_ (by kernel_rfl) (fun W hS => ?_) ?_ ?_
  rotate_left 2
  · have q := hS.b.cell 0; simp only [List.getElem?_toArray, List.getElem?_cons_zero] at q; go_simp
    exact rfl
  · go_simp
    exact rfl
  iterate 2
    refine steady_val ?_ ?_ (by kernel_rfl) (fun W hS => ?_) ?_ ?_
    rotate_left 2
    · go_simp
      exact rfl
    · go_simp
      exact rfl
  refine steady_val ?_ ?_ (by kernel_rfl) (fun W hS => ?_) ?_ ?_
  rotate_left 2
  · have q := hS.b.cell 5; simp only [List.getElem?_toArray, List.getElem?_cons_zero, List.getElem?_cons_succ] at q; go_simp
    exact rfl
  · go_simp
    exact rfl
  refine steady_enter (.int .u64 0) 39 #[.pointer none, .int .i64 n, .int .u64 0] ?_ (by kernel_rfl) (fun W hS => ?_) (fun W hS => (zget_c n 0 W).mono (by rintro e w' ⟨rfl, hb⟩; exact ⟨rfl, hS.low hb⟩)) ?_ ?_
  rotate_left 1
  · go_simp
  · go_simp
    exact rfl
  refine steady_val ?_ ?_ (by kernel_rfl) (fun W hS => ?_) ?_ ?_
  rotate_left 2
  · go_simp
    exact rfl
  · go_simp
    exact rfl
  refine steady_enter (.int .u64 (wtS 89 0 1)) 77 #[.int .i64 89, .int .u64 0, .int .u64 1] ?_ (by kernel_rfl) (fun W hS => ?_) (fun W hS => (fwritten_c 89 0 1 W).mono (by rintro e w' ⟨rfl, rfl⟩; exact ⟨rfl, hS⟩)) ?_ ?_
  rotate_left 1
  · go_simp
  · go_simp
    exact rfl
  refine steady_nil ?_
  intro W hS
  have HSET := Lib.hid (zset_c n (wtS 89 0 1) W)
  have HBW := Lib.hid hS.bel
  clear hS HS3 q0 q2
  simp only [List.drop_succ_cons, List.drop_zero]
  go_wp2_with fail
  refine HSET.out.mono ?_
  rintro e w5 ⟨rfl, hb⟩
  have HQ := Lib.hid (HBW.out.trans (hb.mono HBW.out.size))
  clear hb
  go_wp2_with fail
  go_ret
  exact ⟨rfl, HQ.out⟩
end Go.Proofs.YtfjdalepaacmgaaDoor
