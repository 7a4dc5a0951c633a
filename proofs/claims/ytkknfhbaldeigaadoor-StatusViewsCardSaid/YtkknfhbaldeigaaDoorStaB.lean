/-
  Contracts of status: field.get, field.put, bit, stackOf, number, privilege.
-/
import Derived.Test.YtkknfhbaldeigaaDoorRow
import Derived.Test.YtkknfhbaldeigaaDoorStaA
import Derived.ProofKit
import Derived.WalkLawsBesides
import Derived.IntWalk
import Derived.Deep.DeepCutAuto
namespace Go.Proofs.YtkknfhbaldeigaaDoor
open Go.ChangeShapes Go.WideShapes Go.ChangeAt Go.RowKit Wd Csr Sta

abbrev fV (k s : Nat) : Value := .agg #[.int .u64 k, .int .u64 s]
theorem wrap_ones {s : Nat} (hs : s < 64) : IntKind.u64.wrap (IntKind.u64.wrap (2 ^ s) - 1) = 2 ^ s - 1 := by
  have p := pow_le (k := s) (by omega)
  rw [IntKind.wrap_u64, IntKind.wrap_u64]
  generalize (2 : Int) ^ s = q at *
  omega
set_option maxHeartbeats 1000000 in
theorem fget_c (k s : Nat) (hk : k < 64) (_hs0 : 1 ≤ s) (hs : s ≤ 2) (x : Int) (hx : W64 x) (w : World) :
    Calls Tryd.prog 50 #[fV k s, .int .u64 x] w fun e w' => e = .returned (.int .u64 (cutS x k s)) ∧ Below w.heap.size w w' := by
  have HE := Lib.hid (shr_cut hx hk (s := s) (by omega))
  have HO := Lib.hid (wrap_ones (s := s) (by omega))
  have HB := Lib.hid (show Below w.heap.size w (w.alloc (.cells #[.int .u64 k, .int .u64 s] 80)) from (Below.refl _ _).alloc (Nat.le_refl _) _)
  go_enter Tryd.func50, Tryd.ntmps50
  go_wp2_with fail
  go_ret
  exact ⟨by rw [HO.out, HE.out]; rfl, HB.out⟩
set_option maxHeartbeats 1000000 in
theorem fput_c (k s : Nat) (hk : k < 64) (hs0 : 1 ≤ s) (hs : s ≤ 2) (x n : Int) (hx : W64 x) (hn : W64 n) (w : World) :
    Calls Tryd.prog 57 #[fV k s, .int .u64 x, .int .u64 n] w fun e w' => e = .returned (.int .u64 (putS x k s n)) ∧ Below w.heap.size w w' := by
  have HO := Lib.hid (wrap_ones (s := s) (by omega))
  have HM := Lib.hid (shl_ones (k := k) hs0 (by omega : s < 64))
  have HP := Lib.hid (shl_put hx hn k s)
  have hkk : min k 64 = k := by omega
  have HB := Lib.hid (show Below w.heap.size w (w.alloc (.cells #[.int .u64 k, .int .u64 s] 80)) from (Below.refl _ _).alloc (Nat.le_refl _) _)
  go_enter Tryd.func57, Tryd.ntmps57
  go_wp2_with fail
  go_ret
  exact ⟨by rw [HO.out, HM.out, HP.out]; rfl, HB.out⟩
set_option maxHeartbeats 1000000 in
theorem fbit_c (k : Nat) (w : World) : Calls Tryd.prog 49 #[.int .u64 k] w fun e w' => e = .returned (fV k 1) ∧ Below w.heap.size w w' := by
  go_enter Tryd.func49, Tryd.ntmps49
  go_wp2_with fail
  exact bodyPost_ret (v := fV k 1) (by simp [results, Tryd.results49, go_sem]) rfl ⟨rfl, (Below.refl _ _).alloc (Nat.le_refl _) _⟩
theorem fprv_c (x : Int) (_h0 : 0 ≤ x) (_h3 : x ≤ 3) (w : World) : Calls Tryd.prog 51 #[.int .u64 x] w fun e w' => e = .returned (.int .i64 (prvS x)) ∧ w' = w := by
  by_cases h : x = 2
  · subst h
    have HI := Lib.hid (show prvS 2 = 0 from rfl)
    go_enter Tryd.func51, Tryd.ntmps51
    go_wp2_with fail
    go_ret
    exact ⟨by rw [HI.out]; rfl, rfl⟩
  · have h2 : (x == 2) = false := by simpa using h
    have hw : IntKind.i64.wrap x = x := IntWalk.i64_in _ (by omega)
    have HI := Lib.hid (show prvS x = x from if_neg h)
    have hw2 : wrap64 x = x := by unfold wrap64; omega
    clear h
    go_enter Tryd.func51, Tryd.ntmps51
    go_wp2_with fail
    go_ret
    exact ⟨by rw [HI.out]; rfl, rfl⟩
abbrev skC : Array Value := #[.int .u64 0, .int .u64 0, .int .u64 0, .int .u64 0, .int .u64 0, .int .u64 0]
abbrev skM : Array Value := #[.int .u64 3, .int .u64 1, .int .u64 7, .int .u64 1, .int .u64 11, .int .u64 2]
abbrev skU : Array Value := #[.int .u64 1, .int .u64 1, .int .u64 5, .int .u64 1, .int .u64 8, .int .u64 1]
abbrev SkT : TypeId := 85
set_option maxHeartbeats 2000000 in
theorem fstk3_c (w : World) : Calls Tryd.prog 53 #[.int .i64 3] w fun e w' => e = .returned (.tuple #[.agg skM, .bool true]) ∧ Below w.heap.size w w' := by
  go_enter Tryd.func53, Tryd.ntmps53
  go_upto_region 1 with (fail)
  have h0 := CsAt.new w SkT skC
  have hB0 : Below w.heap.size w (w.alloc (.cells skC SkT)) := (Below.refl _ _).alloc (Nat.le_refl _) _
  generalize (w.alloc (.cells skC SkT)) = w1 at *
  have HB := Lib.hid hB0
  have H := Lib.hid h0
  clear h0 hB0
  go_wp2_with fail
  refine (fbit_c 3 _).mono ?_
  rintro e w2 ⟨rfl, hb⟩
  replace HB := Lib.hid (HB.out.trans (hb.mono HB.out.size))
  replace H := Lib.hid (H.out.low hb)
  clear hb
  go_wp2_with fail
  refine (fbit_c 7 _).mono ?_
  rintro e w3 ⟨rfl, hb⟩
  replace HB := Lib.hid (HB.out.trans (hb.mono HB.out.size))
  replace H := Lib.hid (H.out.low hb)
  clear hb
  have h3 := H.out
  have z0 := h3.cell 0
  have z1 := h3.cell 1
  have z2 := h3.cell 2
  have z3 := h3.cell 3
  have z4 := h3.cell 4
  have z5 := h3.cell 5
  have y0 := h3.frozen 0
  have y1 := h3.frozen 1
  have y2 := h3.frozen 2
  have y3 := h3.frozen 3
  have y4 := h3.frozen 4
  have y5 := h3.frozen 5
  simp only [List.getElem?_toArray, List.getElem?_cons_zero, List.getElem?_cons_succ] at z0 z1 z2 z3 z4 z5
  clear h3
  go_wp2_with fail
  refine bodyPost_ret (v := .tuple #[.agg skM, .bool true]) (by simp [results, Tryd.results53, go_sem, z0, z1, z2, z3, z4, z5]) rfl ⟨rfl, ?_⟩
  exact (((((HB.out.setCell (by exact Nat.le_refl _) _).setCell (by exact Nat.le_refl _) _).setCell (by exact Nat.le_refl _) _).setCell (by exact Nat.le_refl _) _).setCell (by exact Nat.le_refl _) _).setCell (by exact Nat.le_refl _) _
set_option maxHeartbeats 2000000 in
theorem fstk1_c (w : World) : Calls Tryd.prog 53 #[.int .i64 1] w fun e w' => e = .returned (.tuple #[.agg skU, .bool true]) ∧ Below w.heap.size w w' := by
  go_enter Tryd.func53, Tryd.ntmps53
  go_upto_region 1 with (fail)
  have h0 := CsAt.new w SkT skC
  have hB0 : Below w.heap.size w (w.alloc (.cells skC SkT)) := (Below.refl _ _).alloc (Nat.le_refl _) _
  generalize (w.alloc (.cells skC SkT)) = w1 at *
  have HB := Lib.hid hB0
  have H := Lib.hid h0
  clear h0 hB0
  go_wp2_with fail
  refine (fbit_c 1 _).mono ?_
  rintro e w2 ⟨rfl, hb⟩
  replace HB := Lib.hid (HB.out.trans (hb.mono HB.out.size))
  replace H := Lib.hid (H.out.low hb)
  clear hb
  go_wp2_with fail
  refine (fbit_c 5 _).mono ?_
  rintro e w3 ⟨rfl, hb⟩
  replace HB := Lib.hid (HB.out.trans (hb.mono HB.out.size))
  replace H := Lib.hid (H.out.low hb)
  clear hb
  go_wp2_with fail
  refine (fbit_c 8 _).mono ?_
  rintro e w4 ⟨rfl, hb⟩
  replace HB := Lib.hid (HB.out.trans (hb.mono HB.out.size))
  replace H := Lib.hid (H.out.low hb)
  clear hb
  have h3 := H.out
  have z0 := h3.cell 0
  have z1 := h3.cell 1
  have z2 := h3.cell 2
  have z3 := h3.cell 3
  have z4 := h3.cell 4
  have z5 := h3.cell 5
  have y0 := h3.frozen 0
  have y1 := h3.frozen 1
  have y2 := h3.frozen 2
  have y3 := h3.frozen 3
  have y4 := h3.frozen 4
  have y5 := h3.frozen 5
  simp only [List.getElem?_toArray, List.getElem?_cons_zero, List.getElem?_cons_succ] at z0 z1 z2 z3 z4 z5
  clear h3
  go_wp2_with fail
  refine bodyPost_ret (v := .tuple #[.agg skU, .bool true]) (by simp [results, Tryd.results53, go_sem, z0, z1, z2, z3, z4, z5]) rfl ⟨rfl, ?_⟩
  exact (((((HB.out.setCell (by exact Nat.le_refl _) _).setCell (by exact Nat.le_refl _) _).setCell (by exact Nat.le_refl _) _).setCell (by exact Nat.le_refl _) _).setCell (by exact Nat.le_refl _) _).setCell (by exact Nat.le_refl _) _
set_option maxHeartbeats 2000000 in
theorem fstk0_c (dst : Int) (h3 : dst ≠ 3) (h1 : dst ≠ 1) (w : World) : Calls Tryd.prog 53 #[.int .i64 dst] w fun e w' => e = .returned (.tuple #[.agg skC, .bool false]) ∧ Below w.heap.size w w' := by
  have e3 : (dst == 3) = false := by simpa using h3
  have e1 : (dst == 1) = false := by simpa using h1
  clear h3 h1
  go_enter Tryd.func53, Tryd.ntmps53
  go_upto_region 1 with (fail)
  have h0 := CsAt.new w SkT skC
  have hB0 : Below w.heap.size w (w.alloc (.cells skC SkT)) := (Below.refl _ _).alloc (Nat.le_refl _) _
  generalize (w.alloc (.cells skC SkT)) = w1 at *
  have HB := Lib.hid hB0
  have H := Lib.hid h0
  clear h0 hB0
  have h3 := H.out
  have z0 := h3.cell 0
  have z1 := h3.cell 1
  have z2 := h3.cell 2
  have z3 := h3.cell 3
  have z4 := h3.cell 4
  have z5 := h3.cell 5
  have y0 := h3.frozen 0
  have y1 := h3.frozen 1
  have y2 := h3.frozen 2
  have y3 := h3.frozen 3
  have y4 := h3.frozen 4
  have y5 := h3.frozen 5
  simp only [List.getElem?_toArray, List.getElem?_cons_zero, List.getElem?_cons_succ] at z0 z1 z2 z3 z4 z5
  clear h3
  go_wp2_with fail
  refine bodyPost_ret (v := .tuple #[.agg skC, .bool false]) (by simp [results, Tryd.results53, go_sem, z0, z1, z2, z3, z4, z5]) rfl ⟨rfl, ?_⟩
  exact (((((HB.out.setCell (by exact Nat.le_refl _) _).setCell (by exact Nat.le_refl _) _).setCell (by exact Nat.le_refl _) _).setCell (by exact Nat.le_refl _) _).setCell (by exact Nat.le_refl _) _).setCell (by exact Nat.le_refl _) _
/-- What a privilege is held as. -/
def numS (frm dst : Int) : Int := if frm = 3 ∧ dst = 1 then 0 else frm
set_option maxHeartbeats 2000000 in
theorem fnum_c (frm dst : Int) (h : frm = 0 ∨ frm = 1 ∨ frm = 3) (w : World) : Calls Tryd.prog 56 #[.int .i64 frm, .int .i64 dst] w fun e w' => e = .returned (.tuple #[.int .u64 (numS frm dst), .bool true]) ∧ w' = w := by
  have HN := Lib.hid (show numS frm dst = if frm = 3 ∧ dst = 1 then 0 else frm from rfl)
  rcases h with rfl | rfl | rfl
  · have HI := Lib.hid (show numS 0 dst = 0 by rw [HN.out]; split <;> rfl)
    go_enter Tryd.func56, Tryd.ntmps56
    go_wp2_with fail
    go_ret2
    exact ⟨by rw [HI.out]; rfl, rfl⟩
  · have HI := Lib.hid (show numS 1 dst = 1 by rw [HN.out, if_neg (by omega)])
    go_enter Tryd.func56, Tryd.ntmps56
    go_wp2_with fail
    go_ret2
    exact ⟨by rw [HI.out]; rfl, rfl⟩
  · by_cases h1 : dst = 1
    · subst h1
      have HI := Lib.hid (show numS 3 1 = 0 from rfl)
      go_enter Tryd.func56, Tryd.ntmps56
      go_wp2_with fail
      go_ret2
      exact ⟨by rw [HI.out]; rfl, rfl⟩
    · have HI := Lib.hid (show numS 3 dst = 3 by rw [HN.out, if_neg (by omega)])
      have e1 : (dst == 1) = false := by simpa using h1
      clear h1
      go_enter Tryd.func56, Tryd.ntmps56
      go_wp2_with fail
      go_ret2
      exact ⟨by rw [HI.out]; rfl, rfl⟩
set_option maxHeartbeats 2000000 in
theorem fnum0_c (frm dst : Int) (h : ¬ (frm = 0 ∨ frm = 1 ∨ frm = 3)) (w : World) : Calls Tryd.prog 56 #[.int .i64 frm, .int .i64 dst] w fun e w' => e = .returned (.tuple #[.int .u64 0, .bool false]) ∧ w' = w := by
  have e0 : (frm == 0) = false := by simp; omega
  have e1 : (frm == 1) = false := by simp; omega
  have e3 : (frm == 3) = false := by simp; omega
  clear h
  go_enter Tryd.func56, Tryd.ntmps56
  go_wp2_with fail
  go_ret2
  exact ⟨rfl, rfl⟩
/-- A stack of fields in a block of its own. -/
structure SkS (w W : World) (b : Nat) (cs : Array Value) : Prop where
  row : CsAt W b SkT cs
  bel : Below w.heap.size w W
theorem SkS.low {w W W' : World} {b : Nat} {cs : Array Value} (h : SkS w W b cs) (hb : Below W.heap.size W W') : SkS w W' b cs := ⟨h.row.low hb, h.bel.trans (hb.mono h.bel.size)⟩
theorem SkS.drew {w W : World} {b : Nat} {cs : Array Value} (h : SkS w W b cs) : SkS w W.drew b cs := ⟨h.row, h.bel.drew⟩
theorem SkS.new {w W : World} (hb : Below w.heap.size w W) (cs : Array Value) : SkS w (W.alloc (.cells cs SkT)) W.heap.size cs := ⟨CsAt.new W SkT cs, hb.alloc hb.size _⟩
end Go.Proofs.YtkknfhbaldeigaaDoor
