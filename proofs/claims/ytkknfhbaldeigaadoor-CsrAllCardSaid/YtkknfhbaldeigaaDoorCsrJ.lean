/-
  The iterator of csr.All, called outright with a function literal; CsrAll walked.
-/
import Derived.Test.YtkknfhbaldeigaaDoorCsrH
import Derived.Test.YtkknfhbaldeigaaDoorSteady
namespace Go.Proofs.YtkknfhbaldeigaaDoor
open Go.ChangeShapes Go.WideShapes Go.ChangeAt Go.RowKit Wd Csr

theorem allc_c (w : World) : Calls Tryd.prog 21 #[] w fun e w' => e = .returned (.func (.func 43) #[] #[]) ∧ w = w' := by
  go_enter Tryd.func21, Tryd.ntmps21
  go_wp2_with fail
  go_ret
  exact ⟨rfl, rfl⟩
theorem cell_ltC {W : World} {b o : Nat} {v : Value} (h : W.cell? ⟨b, o, none⟩ = some v) : b < W.heap.size := by
  apply Classical.byContradiction
  intro hn
  have : W.heap[b]? = none := Array.getElem?_eq_none (by omega)
  simp [World.cell?, this] at h
/-- What stands in the boxes that the function literal has captured, when m rows have been told. -/
structure CqAt (W : World) (most : Int) (pn pf pl pm g m : Nat) : Prop where
  n : W.cell? ⟨pn, 0, none⟩ = some (.int .i64 m)
  nf : W.frozen? ⟨pn, 0, none⟩ = false
  f : W.cell? ⟨pf, 0, none⟩ = some (.bool true)
  ff : W.frozen? ⟨pf, 0, none⟩ = false
  l : W.cell? ⟨pl, 0, none⟩ = some (.slice (some ⟨g, 0, none⟩) 34 34)
  mo : W.cell? ⟨pm, 0, none⟩ = some (.int .i64 most)
  c : RRAt W g
theorem CqAt.low {W W' : World} {most : Int} {pn pf pl pm g m : Nat} (h : CqAt W most pn pf pl pm g m) (hb : Below W.heap.size W W') : CqAt W' most pn pf pl pm g m :=
  ⟨(hb.cell (p := ⟨pn, 0, none⟩) (cell_ltC h.n)).trans h.n, (hb.frozen (p := ⟨pn, 0, none⟩) (cell_ltC h.n)).trans h.nf, (hb.cell (p := ⟨pf, 0, none⟩) (cell_ltC h.f)).trans h.f, (hb.frozen (p := ⟨pf, 0, none⟩) (cell_ltC h.f)).trans h.ff,
    (hb.cell (p := ⟨pl, 0, none⟩) (cell_ltC h.l)).trans h.l, (hb.cell (p := ⟨pm, 0, none⟩) (cell_ltC h.mo)).trans h.mo, h.c.low hb⟩
abbrev cqWorld (W : World) (pn pf : Nat) (m : Nat) : World := (W.setCell ⟨pf, 0, none⟩ (.bool true)).setCell ⟨pn, 0, none⟩ (.int .i64 ((m : Int) + 1))
theorem CqAt.step {W : World} {most : Int} {pn pf pl pm g m : Nat} (h : CqAt W most pn pf pl pm g m) (n1 : pn ≠ pf) (n2 : pn ≠ pl) (n3 : pn ≠ pm) (n4 : pn ≠ g) (n5 : pf ≠ pl) (n6 : pf ≠ pm) (n7 : pf ≠ g) : CqAt (cqWorld W pn pf m) most pn pf pl pm g (m + 1) := by
  have far : ∀ b o, pf ≠ b → pn ≠ b → (cqWorld W pn pf m).cell? ⟨b, o, none⟩ = W.cell? ⟨b, o, none⟩ := fun b o e1 e2 => by
    rw [World.cell?_setCell_far _ _ _ _ e2, World.cell?_setCell_far _ _ _ _ e1]
  have fz : ∀ b o, (cqWorld W pn pf m).frozen? ⟨b, o, none⟩ = W.frozen? ⟨b, o, none⟩ := fun b o => by rw [World.frozen?_setCell, World.frozen?_setCell]
  refine ⟨?_, (fz _ _).trans h.nf, ?_, (fz _ _).trans h.ff, (far _ _ n5 n2).trans h.l, (far _ _ n6 n3).trans h.mo, ⟨by have := h.c.1; simpa [World.setCell] using this, fun k hk => ?_⟩⟩
  · rw [show (((m + 1 : Nat)) : Int) = (m : Int) + 1 by omega]
    refine World.cell?_setCell_same' _ _ _ ?_
    rw [World.cell?_setCell_far _ _ _ _ (Ne.symm n1), h.n]; rfl
  · rw [World.cell?_setCell_far _ _ _ _ n1]
    exact World.cell?_setCell_same' _ _ _ (by rw [h.f]; rfl)
  · obtain ⟨a, b, c⟩ := h.c.2 k hk
    exact ⟨(far _ _ n7 n4).trans a, (far _ _ n7 n4).trans b, (far _ _ n7 n4).trans c⟩
set_option maxHeartbeats 2000000 in
theorem call1_c (most : Int) (pn pf pl pm g m : Nat) (hm : m < 34) (W : World) (h : CqAt W most pn pf pl pm g m) (n1 : pn ≠ pf) (n2 : pn ≠ pl) (n3 : pn ≠ pm) (n4 : pn ≠ g) (n5 : pf ≠ pl) (n6 : pf ≠ pm) (n7 : pf ≠ g) :
    Calls Tryd.prog 23 #[.int .i64 ((rowC m).1 : Nat), .string (cB (rowC m).2.1), .pointer (some ⟨pf, 0, none⟩), .pointer (some ⟨pn, 0, none⟩), .pointer (some ⟨pl, 0, none⟩), .pointer (some ⟨pm, 0, none⟩)] W
      fun e W' => e = .returned (.bool ((m : Int) + 1 != most)) ∧ cqWorld W pn pf m = W' := by
  obtain ⟨c0, c1, -⟩ := h.c.2 m hm
  have d1 := h.n
  have d2 := h.nf
  have d3 := h.f
  have d4 := h.ff
  have d5 := h.l
  have hl : (m : Int) < 34 := by omega
  have hl2 : decide ((m : Int) < 34) = true := decide_eq_true hl
  have q1 : ((((rowC m).1 : Nat) : Int) == (((rowC m).1 : Nat) : Int)) = true := by simp
  have q2 : ((cB (rowC m).2.1).toList == (cB (rowC m).2.1).toList) = true := by simp
  have e1 : (W.setCell ⟨pf, 0, none⟩ (.bool true)).cell? ⟨pn, 0, none⟩ = some (.int .i64 m) := by rw [World.cell?_setCell_far _ _ _ _ (Ne.symm n1)]; exact d1
  have e2 : (W.setCell ⟨pf, 0, none⟩ (.bool true)).frozen? ⟨pn, 0, none⟩ = false := by rw [World.frozen?_setCell]; exact d2
  have hst := h.step n1 n2 n3 n4 n5 n6 n7
  have e3 := hst.n
  have e4 := hst.mo
  rw [show (((m + 1 : Nat)) : Int) = (m : Int) + 1 by omega] at e3
  generalize (((rowC m).1 : Nat) : Int) = a at *
  generalize cB (rowC m).2.1 = b at *
  clear hst h n1 n2 n3 n4 n5 n6 n7
  go_enter Tryd.func23, Tryd.ntmps23
  go_wp2_with fail
  go_ret
  exact ⟨rfl, rfl⟩
/-- How many are told. -/
def wantC (most : Int) : Nat := if 1 ≤ most ∧ most < 34 then most.toNat else 34
set_option maxHeartbeats 4000000 in
set_option maxRecDepth 100000 in
theorem all1_c (most : Int) (pn pf pl pm g : Nat) (w0 W : World) (hN : RowsIn w0) (n1 : pn ≠ pf) (n2 : pn ≠ pl) (n3 : pn ≠ pm) (n4 : pn ≠ g) (n5 : pf ≠ pl) (n6 : pf ≠ pm) (n7 : pf ≠ g) (b1 : w0.heap.size ≤ pn) (b2 : w0.heap.size ≤ pf)
    (h0 : CqAt W most pn pf pl pm g 0) (hB : Below w0.heap.size w0 W) :
    Calls Tryd.prog 43 #[.func (.func 23) #[] #[.pointer (some ⟨pf, 0, none⟩), .pointer (some ⟨pn, 0, none⟩), .pointer (some ⟨pl, 0, none⟩), .pointer (some ⟨pm, 0, none⟩)]] W
      fun e W' => e = .returned (.tuple #[]) ∧ CqAt W' most pn pf pl pm g (wantC most) ∧ Below w0.heap.size w0 W' := by
  have HN := Lib.hid hN
  have H0 := Lib.hid h0
  have HB0 := Lib.hid hB
  have HCL := Lib.hid (fun m hm W h => call1_c most pn pf pl pm g m hm W h n1 n2 n3 n4 n5 n6 n7)
  have HST := Lib.hid (fun (m : Nat) (W : World) (h : CqAt W most pn pf pl pm g m) => h.step n1 n2 n3 n4 n5 n6 n7)
  clear hN h0 hB n1 n2 n3 n4 n5 n6 n7
  go_enter Tryd.func43, Tryd.ntmps43
  go_wp2_with fail
  go_loopw [2, 3] (fun _ iv wr => ∃ k : Nat, k ≤ 34 ∧ iv = .int .i64 k ∧ CqAt wr most pn pf pl pm g k ∧ (1 ≤ most → (k : Int) < most) ∧ Below w0.heap.size w0 wr) (fun _ iv _ => 34 - (intOf iv).toNat)
  case atStart => exact ⟨0, Nat.zero_le _, rfl, H0.out, fun h => by omega, HB0.out⟩
  case round =>
    obtain ⟨k, hk, rfl, hq, hmost, hb⟩ := hrel
    have HQ := Lib.hid hq
    have HM := Lib.hid hmost
    have HB := Lib.hid hb
    clear hq hmost hb
    by_cases hlt : k < 34
    · obtain ⟨c0, c1, -⟩ := (HN.out.low HB.out).2 k hlt
      have hl2 : (k : Int) < 34 := by omega
      have HC := Lib.hid (HCL.out k hlt wr.drew ⟨HQ.out.n, HQ.out.nf, HQ.out.f, HQ.out.ff, HQ.out.l, HQ.out.mo, HQ.out.c⟩)
      have HQ2 := Lib.hid (HST.out k wr.drew ⟨HQ.out.n, HQ.out.nf, HQ.out.f, HQ.out.ff, HQ.out.l, HQ.out.mo, HQ.out.c⟩)
      have HB2 := Lib.hid (show Below w0.heap.size w0 (cqWorld wr.drew pn pf k) from ((HB.out.drew).setCell (p := ⟨pf, 0, none⟩) b2 _).setCell (p := ⟨pn, 0, none⟩) b1 _)
      generalize (((rowC k).1 : Nat) : Int) = a at *
      generalize cB (rowC k).2.1 = b at *
      by_cases he : (k : Int) + 1 = most
      · have hm' : ((k : Int) + 1 != most) = false := by simp [he]
        have HW := Lib.hid (show wantC most = k + 1 by
          unfold wantC
          by_cases h : most < 34
          · rw [if_pos (by omega)]; omega
          · rw [if_neg (by omega)]; omega)
        rw [hm'] at HC
        clear he hm'
        go_upto_region 3 with fail
        refine wp_region_steady_tail (fun W => W = wr.drew) 9 (by kernel_rfl) (by kernel_rfl) rfl ?_
        iterate 9
          refine steady_val ?_ ?_ (by rfl) (fun W hS => ?_) ?_ ?_
          rotate_left 2
          · subst hS
            go_simp
            exact rfl
          · go_simp
            exact rfl
        refine steady_nil ?_
        rintro W rfl
        simp only [List.drop_succ_cons, List.drop_zero]

        go_wp2_with fail
        refine HC.out.mono ?_
        rintro e W3 ⟨rfl, rfl⟩
        go_wp2_with fail
        refine bodyPost_ret (results_none rfl _ _ _) rfl ?_
        exact ⟨rfl, by rw [HW.out]; exact HQ2.out, HB2.out⟩
      · have hm' : ((k : Int) + 1 != most) = true := by simpa using he
        have HM2 := Lib.hid (show 1 ≤ most → ((k + 1 : Nat) : Int) < most from fun h => by have := HM.out h; omega)
        rw [hm'] at HC
        clear he hm'
        go_upto_region 3 with fail
        refine wp_region_steady_tail (fun W => W = wr.drew) 9 (by kernel_rfl) (by kernel_rfl) rfl ?_
        iterate 9
          refine steady_val ?_ ?_ (by rfl) (fun W hS => ?_) ?_ ?_
          rotate_left 2
          · subst hS
            go_simp
            exact rfl
          · go_simp
            exact rfl
        refine steady_nil ?_
        rintro W rfl
        simp only [List.drop_succ_cons, List.drop_zero]

        go_wp2_with fail
        refine HC.out.mono ?_
        rintro e W3 ⟨rfl, rfl⟩
        go_wp2_with fail
        go_roundw
        case rel => exact ⟨k + 1, by omega, by go_num, HQ2.out, HM2.out, HB2.out⟩
        case measure => simp [intOf]; omega
    · obtain rfl : k = 34 := by omega
      go_wp2_with fail
      go_end0
      refine ⟨rfl, ?_, HB.out⟩
      unfold wantC
      rw [if_neg (fun h => by have := HM.out h.1; omega)]
      exact HQ.out
end Go.Proofs.YtkknfhbaldeigaaDoor
