/-
  Contracts of status: field.get, field.put, bit, stackOf, number, privilege. Contracts of status.Enter, Leave. The table csr.rows in memory; contracts of csr.find, of the functions that are handed to it, of numbered, Known, Name, Find, Mask, Least, ReadOnly, privilege, May.
-/
import Derived.Test.YtkbgmppbkllnmaaDoorUac
import Derived.Test.YtkbgmppbkllnmaaDoorUab
import Derived.ProofKit
import Derived.WalkLawsBesides
import Derived.IntWalk
import Derived.Deep.DeepCutAuto
import Derived.Test.YtkbgmppbkllnmaaDoorUad
import Derived.Test.YtkbgmppbkllnmaaDoorUaa
import Derived.Shelf.Abstract
set_option maxRecDepth 20000
namespace Go.Proofs.YtkbgmppbkllnmaaDoor
open Go.ChangeShapes Go.WideShapes Go.ChangeAt Go.RowKit Wd Csr Sta

abbrev fV (k s : Nat) : Value := .agg #[.int .u64 k, .int .u64 s]
theorem wrap_ones {s : Nat} (hs : s < 64) : IntKind.u64.wrap (IntKind.u64.wrap (2 ^ s) - 1) = 2 ^ s - 1 := by
  have p := pow_le (k := s) (by omega)
  rw [IntKind.wrap_u64, IntKind.wrap_u64]
  generalize (2 : Int) ^ s = q at *
  omega
set_option maxHeartbeats 1000000 in
theorem fget_c (k s : Nat) (hk : k < 64) (_hs0 : 1 ≤ s) (hs : s ≤ 2) (x : Int) (hx : W64 x) (w : World) :
    Calls Tryd.prog 63 #[fV k s, .int .u64 x] w fun e w' => e = .returned (.int .u64 (cutS x k s)) ∧ Below w.heap.size w w' := by
  have HE := Lib.hid (shr_cut hx hk (s := s) (by omega))
  have HO := Lib.hid (wrap_ones (s := s) (by omega))
  have HB := Lib.hid (show Below w.heap.size w (w.alloc (.cells #[.int .u64 k, .int .u64 s] 116)) from (Below.refl _ _).alloc (Nat.le_refl _) _)
  go_enter Tryd.func63, Tryd.ntmps63
  go_wp2_with fail
  go_ret
  exact ⟨by rw [HO.out, HE.out]; rfl, HB.out⟩
set_option maxHeartbeats 1000000 in
theorem fput_c (k s : Nat) (hk : k < 64) (hs0 : 1 ≤ s) (hs : s ≤ 2) (x n : Int) (hx : W64 x) (hn : W64 n) (w : World) :
    Calls Tryd.prog 62 #[fV k s, .int .u64 x, .int .u64 n] w fun e w' => e = .returned (.int .u64 (putS x k s n)) ∧ Below w.heap.size w w' := by
  have HO := Lib.hid (wrap_ones (s := s) (by omega))
  have HM := Lib.hid (shl_ones (k := k) hs0 (by omega : s < 64))
  have HP := Lib.hid (shl_put hx hn k s)
  have hkk : min k 64 = k := by omega
  have HB := Lib.hid (show Below w.heap.size w (w.alloc (.cells #[.int .u64 k, .int .u64 s] 116)) from (Below.refl _ _).alloc (Nat.le_refl _) _)
  go_enter Tryd.func62, Tryd.ntmps62
  go_wp2_with fail
  go_ret
  exact ⟨by rw [HO.out, HM.out, HP.out]; rfl, HB.out⟩
set_option maxHeartbeats 1000000 in
theorem fbit_c (k : Nat) (w : World) : Calls Tryd.prog 65 #[.int .u64 k] w fun e w' => e = .returned (fV k 1) ∧ Below w.heap.size w w' := by
  go_enter Tryd.func65, Tryd.ntmps65
  go_wp2_with fail
  exact bodyPost_ret (v := fV k 1) (by simp [results, Tryd.results65, go_sem]) rfl ⟨rfl, (Below.refl _ _).alloc (Nat.le_refl _) _⟩
theorem fprv_c (x : Int) (_h0 : 0 ≤ x) (_h3 : x ≤ 3) (w : World) : Calls Tryd.prog 64 #[.int .u64 x] w fun e w' => e = .returned (.int .i64 (prvS x)) ∧ w' = w := by
  by_cases h : x = 2
  · subst h
    have HI := Lib.hid (show prvS 2 = 0 from rfl)
    go_enter Tryd.func64, Tryd.ntmps64
    go_wp2_with fail
    go_ret
    exact ⟨by rw [HI.out]; rfl, rfl⟩
  · have h2 : (x == 2) = false := by simpa using h
    have hw : IntKind.i64.wrap x = x := IntWalk.i64_in _ (by omega)
    have HI := Lib.hid (show prvS x = x from if_neg h)
    have hw2 : wrap64 x = x := by unfold wrap64; omega
    clear h
    go_enter Tryd.func64, Tryd.ntmps64
    go_wp2_with fail
    go_ret
    exact ⟨by rw [HI.out]; rfl, rfl⟩
abbrev skC : Array Value := #[.int .u64 0, .int .u64 0, .int .u64 0, .int .u64 0, .int .u64 0, .int .u64 0]
abbrev skM : Array Value := #[.int .u64 3, .int .u64 1, .int .u64 7, .int .u64 1, .int .u64 11, .int .u64 2]
abbrev skU : Array Value := #[.int .u64 1, .int .u64 1, .int .u64 5, .int .u64 1, .int .u64 8, .int .u64 1]
abbrev SkT : TypeId := 118
set_option maxHeartbeats 2000000 in
theorem fstk3_c (w : World) : Calls Tryd.prog 60 #[.int .i64 3] w fun e w' => e = .returned (.tuple #[.agg skM, .bool true]) ∧ Below w.heap.size w w' := by
  go_enter Tryd.func60, Tryd.ntmps60
  go_upto_region 1 with (fail)
  have h0 := CsAt.new w SkT skC
  have hB0 : Below w.heap.size w (w.alloc (.cells skC SkT)) := (Below.refl _ _).alloc (Nat.le_refl _) _
  generalize (w.alloc (.cells skC SkT)) = w1 at *
  have HB := Lib.hid hB0
  have H := Lib.hid h0
  clear h0 hB0
  go_wp2_with fail
  refine (fbit_c 3 _).mono ?_
  rintro e w2 ⟨rfl, hb⟩
  replace HB := Lib.hid (HB.out.trans (hb.mono HB.out.size))
  replace H := Lib.hid (H.out.low hb)
  clear hb
  go_wp2_with fail
  refine (fbit_c 7 _).mono ?_
  rintro e w3 ⟨rfl, hb⟩
  replace HB := Lib.hid (HB.out.trans (hb.mono HB.out.size))
  replace H := Lib.hid (H.out.low hb)
  clear hb
  have h3 := H.out
  have z0 := h3.cell 0
  have z1 := h3.cell 1
  have z2 := h3.cell 2
  have z3 := h3.cell 3
  have z4 := h3.cell 4
  have z5 := h3.cell 5
  have y0 := h3.frozen 0
  have y1 := h3.frozen 1
  have y2 := h3.frozen 2
  have y3 := h3.frozen 3
  have y4 := h3.frozen 4
  have y5 := h3.frozen 5
  simp only [List.getElem?_toArray, List.getElem?_cons_zero, List.getElem?_cons_succ] at z0 z1 z2 z3 z4 z5
  clear h3
  go_wp2_with fail
  refine bodyPost_ret (v := .tuple #[.agg skM, .bool true]) (by simp [results, Tryd.results60, go_sem, z0, z1, z2, z3, z4, z5]) rfl ⟨rfl, ?_⟩
  exact (((((HB.out.setCell (by exact Nat.le_refl _) _).setCell (by exact Nat.le_refl _) _).setCell (by exact Nat.le_refl _) _).setCell (by exact Nat.le_refl _) _).setCell (by exact Nat.le_refl _) _).setCell (by exact Nat.le_refl _) _
set_option maxHeartbeats 2000000 in
theorem fstk1_c (w : World) : Calls Tryd.prog 60 #[.int .i64 1] w fun e w' => e = .returned (.tuple #[.agg skU, .bool true]) ∧ Below w.heap.size w w' := by
  go_enter Tryd.func60, Tryd.ntmps60
  go_upto_region 1 with (fail)
  have h0 := CsAt.new w SkT skC
  have hB0 : Below w.heap.size w (w.alloc (.cells skC SkT)) := (Below.refl _ _).alloc (Nat.le_refl _) _
  generalize (w.alloc (.cells skC SkT)) = w1 at *
  have HB := Lib.hid hB0
  have H := Lib.hid h0
  clear h0 hB0
  go_wp2_with fail
  refine (fbit_c 1 _).mono ?_
  rintro e w2 ⟨rfl, hb⟩
  replace HB := Lib.hid (HB.out.trans (hb.mono HB.out.size))
  replace H := Lib.hid (H.out.low hb)
  clear hb
  go_wp2_with fail
  refine (fbit_c 5 _).mono ?_
  rintro e w3 ⟨rfl, hb⟩
  replace HB := Lib.hid (HB.out.trans (hb.mono HB.out.size))
  replace H := Lib.hid (H.out.low hb)
  clear hb
  go_wp2_with fail
  refine (fbit_c 8 _).mono ?_
  rintro e w4 ⟨rfl, hb⟩
  replace HB := Lib.hid (HB.out.trans (hb.mono HB.out.size))
  replace H := Lib.hid (H.out.low hb)
  clear hb
  have h3 := H.out
  have z0 := h3.cell 0
  have z1 := h3.cell 1
  have z2 := h3.cell 2
  have z3 := h3.cell 3
  have z4 := h3.cell 4
  have z5 := h3.cell 5
  have y0 := h3.frozen 0
  have y1 := h3.frozen 1
  have y2 := h3.frozen 2
  have y3 := h3.frozen 3
  have y4 := h3.frozen 4
  have y5 := h3.frozen 5
  simp only [List.getElem?_toArray, List.getElem?_cons_zero, List.getElem?_cons_succ] at z0 z1 z2 z3 z4 z5
  clear h3
  go_wp2_with fail
  refine bodyPost_ret (v := .tuple #[.agg skU, .bool true]) (by simp [results, Tryd.results60, go_sem, z0, z1, z2, z3, z4, z5]) rfl ⟨rfl, ?_⟩
  exact (((((HB.out.setCell (by exact Nat.le_refl _) _).setCell (by exact Nat.le_refl _) _).setCell (by exact Nat.le_refl _) _).setCell (by exact Nat.le_refl _) _).setCell (by exact Nat.le_refl _) _).setCell (by exact Nat.le_refl _) _
set_option maxHeartbeats 2000000 in
theorem fstk0_c (dst : Int) (h3 : dst ≠ 3) (h1 : dst ≠ 1) (w : World) : Calls Tryd.prog 60 #[.int .i64 dst] w fun e w' => e = .returned (.tuple #[.agg skC, .bool false]) ∧ Below w.heap.size w w' := by
  have e3 : (dst == 3) = false := by simpa using h3
  have e1 : (dst == 1) = false := by simpa using h1
  clear h3 h1
  go_enter Tryd.func60, Tryd.ntmps60
  go_upto_region 1 with (fail)
  have h0 := CsAt.new w SkT skC
  have hB0 : Below w.heap.size w (w.alloc (.cells skC SkT)) := (Below.refl _ _).alloc (Nat.le_refl _) _
  generalize (w.alloc (.cells skC SkT)) = w1 at *
  have HB := Lib.hid hB0
  have H := Lib.hid h0
  clear h0 hB0
  have h3 := H.out
  have z0 := h3.cell 0
  have z1 := h3.cell 1
  have z2 := h3.cell 2
  have z3 := h3.cell 3
  have z4 := h3.cell 4
  have z5 := h3.cell 5
  have y0 := h3.frozen 0
  have y1 := h3.frozen 1
  have y2 := h3.frozen 2
  have y3 := h3.frozen 3
  have y4 := h3.frozen 4
  have y5 := h3.frozen 5
  simp only [List.getElem?_toArray, List.getElem?_cons_zero, List.getElem?_cons_succ] at z0 z1 z2 z3 z4 z5
  clear h3
  go_wp2_with fail
  refine bodyPost_ret (v := .tuple #[.agg skC, .bool false]) (by simp [results, Tryd.results60, go_sem, z0, z1, z2, z3, z4, z5]) rfl ⟨rfl, ?_⟩
  exact (((((HB.out.setCell (by exact Nat.le_refl _) _).setCell (by exact Nat.le_refl _) _).setCell (by exact Nat.le_refl _) _).setCell (by exact Nat.le_refl _) _).setCell (by exact Nat.le_refl _) _).setCell (by exact Nat.le_refl _) _
/-- What a privilege is held as. -/
def numS (frm dst : Int) : Int := if frm = 3 ∧ dst = 1 then 0 else frm
set_option maxHeartbeats 2000000 in
theorem fnum_c (frm dst : Int) (h : frm = 0 ∨ frm = 1 ∨ frm = 3) (w : World) : Calls Tryd.prog 61 #[.int .i64 frm, .int .i64 dst] w fun e w' => e = .returned (.tuple #[.int .u64 (numS frm dst), .bool true]) ∧ w' = w := by
  have HN := Lib.hid (show numS frm dst = if frm = 3 ∧ dst = 1 then 0 else frm from rfl)
  rcases h with rfl | rfl | rfl
  · have HI := Lib.hid (show numS 0 dst = 0 by rw [HN.out]; split <;> rfl)
    go_enter Tryd.func61, Tryd.ntmps61
    go_wp2_with fail
    go_ret2
    exact ⟨by rw [HI.out]; rfl, rfl⟩
  · have HI := Lib.hid (show numS 1 dst = 1 by rw [HN.out, if_neg (by omega)])
    go_enter Tryd.func61, Tryd.ntmps61
    go_wp2_with fail
    go_ret2
    exact ⟨by rw [HI.out]; rfl, rfl⟩
  · by_cases h1 : dst = 1
    · subst h1
      have HI := Lib.hid (show numS 3 1 = 0 from rfl)
      go_enter Tryd.func61, Tryd.ntmps61
      go_wp2_with fail
      go_ret2
      exact ⟨by rw [HI.out]; rfl, rfl⟩
    · have HI := Lib.hid (show numS 3 dst = 3 by rw [HN.out, if_neg (by omega)])
      have e1 : (dst == 1) = false := by simpa using h1
      clear h1
      go_enter Tryd.func61, Tryd.ntmps61
      go_wp2_with fail
      go_ret2
      exact ⟨by rw [HI.out]; rfl, rfl⟩
set_option maxHeartbeats 2000000 in
theorem fnum0_c (frm dst : Int) (h : ¬ (frm = 0 ∨ frm = 1 ∨ frm = 3)) (w : World) : Calls Tryd.prog 61 #[.int .i64 frm, .int .i64 dst] w fun e w' => e = .returned (.tuple #[.int .u64 0, .bool false]) ∧ w' = w := by
  have e0 : (frm == 0) = false := by simp; omega
  have e1 : (frm == 1) = false := by simp; omega
  have e3 : (frm == 3) = false := by simp; omega
  clear h
  go_enter Tryd.func61, Tryd.ntmps61
  go_wp2_with fail
  go_ret2
  exact ⟨rfl, rfl⟩
/-- A stack of fields in a block of its own. -/
structure SkS (w W : World) (b : Nat) (cs : Array Value) : Prop where
  row : CsAt W b SkT cs
  bel : Below w.heap.size w W
theorem SkS.low {w W W' : World} {b : Nat} {cs : Array Value} (h : SkS w W b cs) (hb : Below W.heap.size W W') : SkS w W' b cs := ⟨h.row.low hb, h.bel.trans (hb.mono h.bel.size)⟩
theorem SkS.drew {w W : World} {b : Nat} {cs : Array Value} (h : SkS w W b cs) : SkS w W.drew b cs := ⟨h.row, h.bel.drew⟩
theorem SkS.new {w W : World} (hb : Below w.heap.size w W) (cs : Array Value) : SkS w (W.alloc (.cells cs SkT)) W.heap.size cs := ⟨CsAt.new W SkT cs, hb.alloc hb.size _⟩
end Go.Proofs.YtkbgmppbkllnmaaDoor
set_option maxRecDepth 20000
namespace Go.Proofs.YtkbgmppbkllnmaaDoor
open Go.ChangeShapes Go.WideShapes Go.ChangeAt Go.RowKit Wd Csr Sta

theorem SkS.cells {w W : World} {b : Nat} {a0 a1 a2 a3 a4 a5 : Value} (h : SkS w W b #[a0, a1, a2, a3, a4, a5]) : W.cell? ⟨b, 0, none⟩ = some a0 ∧ W.cell? ⟨b, 1, none⟩ = some a1 ∧ W.cell? ⟨b, 2, none⟩ = some a2 ∧ W.cell? ⟨b, 3, none⟩ = some a3 ∧ W.cell? ⟨b, 4, none⟩ = some a4 ∧ W.cell? ⟨b, 5, none⟩ = some a5 :=
  ⟨h.row.cell 0, h.row.cell 1, h.row.cell 2, h.row.cell 3, h.row.cell 4, h.row.cell 5⟩
theorem prv_cases {p : Int} (h : isPriv p = true) : p = 0 ∨ p = 1 ∨ p = 3 := by
  unfold isPriv at h
  simp at h
  omega
theorem prv_no {p : Int} (h : isPriv p = false) : ¬ (p = 0 ∨ p = 1 ∨ p = 3) := by
  unfold isPriv at h
  simp at h
  omega
set_option maxHeartbeats 4000000 in
set_option maxRecDepth 100000 in
theorem enter3_c (x frm : Int) (hx : W64 x) (hf : frm = 0 ∨ frm = 1 ∨ frm = 3) (w : World) : Calls Tryd.prog 29 #[.int .u64 x, .int .i64 frm, .int .i64 3] w fun e w' => e = .returned (.int .u64 (enterM x (numS frm 3))) ∧ Below w.heap.size w w' := by
  have hn0 : W64 (numS frm 3) := by unfold numS; rcases hf with rfl | rfl | rfl <;> decide
  have HNC := Lib.hid (fun W => fnum_c frm 3 hf W)
  have HV := Lib.hid (show enterM x (numS frm 3) = putS (putS (putS x 7 1 (cutS x 3 1)) 3 1 0) 11 2 (numS frm 3) from rfl)
  clear hf
  generalize numS frm 3 = n at *
  have hy : W64 (putS x 7 1 (cutS x 3 1)) := putS_range _ _ _ _
  have hz : W64 (putS (putS x 7 1 (cutS x 3 1)) 3 1 0) := putS_range _ _ _ _
  go_enter Tryd.func29, Tryd.ntmps29
  go_wp2_with fail
  refine (fstk3_c _).mono ?_
  rintro e w1 ⟨rfl, hb⟩
  have HB := Lib.hid hb
  clear hb
  go_wp2_with fail
  have hS := SkS.new HB.out skM
  generalize w1.alloc (.cells skM SkT) = w2 at *
  generalize w1.heap.size = b at *
  have HS := Lib.hid hS
  clear hS
  refine (HNC.out _).mono ?_
  rintro e w3 ⟨rfl, rfl⟩
  go_upto_region 5 with fail
  refine wp_region_steady (fun W => SkS w W b skM) (by kernel_rfl) (by kernel_rfl) HS.out.drew ?_
  refine steady_val ?_ ?_ (by kernel_rfl) (fun W hS => ?_) ?_ ?_
  rotate_left 2
  · go_simp
    exact rfl
  · go_simp
    exact rfl
  refine steady_val ?_ ?_ (by kernel_rfl) (fun W hS => ?_) ?_ ?_
  rotate_left 2
  · (obtain ⟨s0, s1, s2, s3, s4, s5⟩ := hS.cells); go_simp
    exact rfl
  · go_simp
    exact rfl
  iterate 2
    refine steady_val ?_ ?_ (by kernel_rfl) (fun W hS => ?_) ?_ ?_
    rotate_left 2
    · go_simp
      exact rfl
    · go_simp
      exact rfl
  refine steady_val ?_ ?_ (by kernel_rfl) (fun W hS => ?_) ?_ ?_
  rotate_left 2
  · (obtain ⟨s0, s1, s2, s3, s4, s5⟩ := hS.cells); go_simp
    exact rfl
  · go_simp
    exact rfl
  refine steady_val ?_ ?_ (by kernel_rfl) (fun W hS => ?_) ?_ ?_
  rotate_left 2
  · go_simp
    exact rfl
  · go_simp
    exact rfl
  refine steady_enter (.int .u64 (cutS x 3 1)) 63 #[fV 3 1, .int .u64 x] ?_ (by kernel_rfl) (fun W hS => ?_) (fun W hS => (fget_c 3 1 (by omega) (by omega) (by omega) x hx W).mono (by rintro e w' ⟨rfl, hb⟩; exact ⟨rfl, hS.low hb⟩)) ?_ ?_
  rotate_left 1
  · go_simp
  · go_simp
    exact rfl
  refine steady_enter (.int .u64 (putS x 7 1 (cutS x 3 1))) 62 #[fV 7 1, .int .u64 x, .int .u64 (cutS x 3 1)] ?_ (by kernel_rfl) (fun W hS => ?_) (fun W hS => (fput_c 7 1 (by omega) (by omega) (by omega) x _ hx (cutS_range _ _ _) W).mono (by rintro e w' ⟨rfl, hb⟩; exact ⟨rfl, hS.low hb⟩)) ?_ ?_
  rotate_left 1
  · go_simp
  · go_simp
    exact rfl
  refine steady_val ?_ ?_ (by kernel_rfl) (fun W hS => ?_) ?_ ?_
  rotate_left 2
  · go_simp
    exact rfl
  · go_simp
    exact rfl
  refine steady_nil ?_
  intro W hS
  have HS5 := Lib.hid hS
  obtain ⟨s0, s1, s2, s3, s4, s5⟩ := hS.cells
  clear hS HS
  generalize putS x 7 1 (cutS x 3 1) = y at *
  go_wp2_with fail
  refine (fput_c 3 1 (by omega) (by omega) (by omega) y 0 hy (by decide) _).mono ?_
  rintro e w4 ⟨rfl, hb⟩
  have HS6 := Lib.hid (HS5.out.low hb)
  clear hb s0 s1 s2 s3 s4 s5
  obtain ⟨s0, s1, s2, s3, s4, s5⟩ := HS6.out.cells
  generalize putS y 3 1 0 = z at *
  go_wp2_with fail
  refine (fput_c 11 2 (by omega) (by omega) (by omega) z n hz hn0 _).mono ?_
  rintro e w5 ⟨rfl, hb⟩
  have HS7 := Lib.hid (HS6.out.low hb)
  clear hb
  go_wp2_with fail
  go_ret
  exact ⟨by rw [HV.out]; rfl, HS7.out.bel⟩
set_option maxHeartbeats 4000000 in
set_option maxRecDepth 100000 in
theorem enter1_c (x frm : Int) (hx : W64 x) (hf : frm = 0 ∨ frm = 1 ∨ frm = 3) (w : World) : Calls Tryd.prog 29 #[.int .u64 x, .int .i64 frm, .int .i64 1] w fun e w' => e = .returned (.int .u64 (enterU x (numS frm 1))) ∧ Below w.heap.size w w' := by
  have hn0 : W64 (numS frm 1) := by unfold numS; rcases hf with rfl | rfl | rfl <;> decide
  have HNC := Lib.hid (fun W => fnum_c frm 1 hf W)
  have HV := Lib.hid (show enterU x (numS frm 1) = putS (putS (putS x 5 1 (cutS x 1 1)) 1 1 0) 8 1 (numS frm 1) from rfl)
  clear hf
  generalize numS frm 1 = n at *
  have hy : W64 (putS x 5 1 (cutS x 1 1)) := putS_range _ _ _ _
  have hz : W64 (putS (putS x 5 1 (cutS x 1 1)) 1 1 0) := putS_range _ _ _ _
  go_enter Tryd.func29, Tryd.ntmps29
  go_wp2_with fail
  refine (fstk1_c _).mono ?_
  rintro e w1 ⟨rfl, hb⟩
  have HB := Lib.hid hb
  clear hb
  go_wp2_with fail
  have hS := SkS.new HB.out skU
  generalize w1.alloc (.cells skU SkT) = w2 at *
  generalize w1.heap.size = b at *
  have HS := Lib.hid hS
  clear hS
  refine (HNC.out _).mono ?_
  rintro e w3 ⟨rfl, rfl⟩
  go_upto_region 5 with fail
  refine wp_region_steady (fun W => SkS w W b skU) (by kernel_rfl) (by kernel_rfl) HS.out.drew ?_
  refine steady_val ?_ ?_ (by kernel_rfl) (fun W hS => ?_) ?_ ?_
  rotate_left 2
  · go_simp
    exact rfl
  · go_simp
    exact rfl
  refine steady_val ?_ ?_ (by kernel_rfl) (fun W hS => ?_) ?_ ?_
  rotate_left 2
  · (obtain ⟨s0, s1, s2, s3, s4, s5⟩ := hS.cells); go_simp
    exact rfl
  · go_simp
    exact rfl
  iterate 2
    refine steady_val ?_ ?_ (by kernel_rfl) (fun W hS => ?_) ?_ ?_
    rotate_left 2
    · go_simp
      exact rfl
    · go_simp
      exact rfl
  refine steady_val ?_ ?_ (by kernel_rfl) (fun W hS => ?_) ?_ ?_
  rotate_left 2
  · (obtain ⟨s0, s1, s2, s3, s4, s5⟩ := hS.cells); go_simp
    exact rfl
  · go_simp
    exact rfl
  refine steady_val ?_ ?_ (by kernel_rfl) (fun W hS => ?_) ?_ ?_
  rotate_left 2
  · go_simp
    exact rfl
  · go_simp
    exact rfl
  refine steady_enter (.int .u64 (cutS x 1 1)) 63 #[fV 1 1, .int .u64 x] ?_ (by kernel_rfl) (fun W hS => ?_) (fun W hS => (fget_c 1 1 (by omega) (by omega) (by omega) x hx W).mono (by rintro e w' ⟨rfl, hb⟩; exact ⟨rfl, hS.low hb⟩)) ?_ ?_
  rotate_left 1
  · go_simp
  · go_simp
    exact rfl
  refine steady_enter (.int .u64 (putS x 5 1 (cutS x 1 1))) 62 #[fV 5 1, .int .u64 x, .int .u64 (cutS x 1 1)] ?_ (by kernel_rfl) (fun W hS => ?_) (fun W hS => (fput_c 5 1 (by omega) (by omega) (by omega) x _ hx (cutS_range _ _ _) W).mono (by rintro e w' ⟨rfl, hb⟩; exact ⟨rfl, hS.low hb⟩)) ?_ ?_
  rotate_left 1
  · go_simp
  · go_simp
    exact rfl
  refine steady_val ?_ ?_ (by kernel_rfl) (fun W hS => ?_) ?_ ?_
  rotate_left 2
  · go_simp
    exact rfl
  · go_simp
    exact rfl
  refine steady_nil ?_
  intro W hS
  have HS5 := Lib.hid hS
  obtain ⟨s0, s1, s2, s3, s4, s5⟩ := hS.cells
  clear hS HS
  generalize putS x 5 1 (cutS x 1 1) = y at *
  go_wp2_with fail
  refine (fput_c 1 1 (by omega) (by omega) (by omega) y 0 hy (by decide) _).mono ?_
  rintro e w4 ⟨rfl, hb⟩
  have HS6 := Lib.hid (HS5.out.low hb)
  clear hb s0 s1 s2 s3 s4 s5
  obtain ⟨s0, s1, s2, s3, s4, s5⟩ := HS6.out.cells
  generalize putS y 1 1 0 = z at *
  go_wp2_with fail
  refine (fput_c 8 1 (by omega) (by omega) (by omega) z n hz hn0 _).mono ?_
  rintro e w5 ⟨rfl, hb⟩
  have HS7 := Lib.hid (HS6.out.low hb)
  clear hb
  go_wp2_with fail
  go_ret
  exact ⟨by rw [HV.out]; rfl, HS7.out.bel⟩
theorem numS_1 {frm : Int} (h : frm = 0 ∨ frm = 1 ∨ frm = 3) : numS frm 1 = if frm = 1 then 1 else 0 := by rcases h with rfl | rfl | rfl <;> rfl
theorem numS_3 (frm : Int) : numS frm 3 = frm := by unfold numS; rw [if_neg (by omega)]
set_option maxHeartbeats 4000000 in
theorem enter0_c (x frm dst : Int) (h : ¬ (frm = 0 ∨ frm = 1 ∨ frm = 3) ∨ (dst ≠ 3 ∧ dst ≠ 1)) (w : World) : Calls Tryd.prog 29 #[.int .u64 x, .int .i64 frm, .int .i64 dst] w fun e w' => e = .returned (.int .u64 x) ∧ Below w.heap.size w w' := by
  by_cases hd : dst ≠ 3 ∧ dst ≠ 1
  · have HNC := Lib.hid (show ∀ W, ∃ n o, Calls Tryd.prog 61 #[.int .i64 frm, .int .i64 dst] W fun e w' => e = .returned (.tuple #[.int .u64 n, .bool o]) ∧ w' = W from fun W => by
      by_cases hf : frm = 0 ∨ frm = 1 ∨ frm = 3
      · exact ⟨_, _, fnum_c frm dst hf W⟩
      · exact ⟨_, _, fnum0_c frm dst hf W⟩)
    have HK := Lib.hid (fun W => fstk0_c dst hd.1 hd.2 W)
    clear h hd
    go_enter Tryd.func29, Tryd.ntmps29
    go_wp2_with fail
    refine (HK.out _).mono ?_
    rintro e w1 ⟨rfl, hb⟩
    have HB := Lib.hid hb
    clear hb
    go_wp2_with fail
    obtain ⟨n, o, hc⟩ := HNC.out (w1.alloc (.cells skC SkT))
    refine hc.mono ?_
    rintro e w3 ⟨rfl, rfl⟩
    go_wp2_with fail
    go_ret
    exact ⟨rfl, HB.out.alloc HB.out.size _⟩
  · have hf : ¬ (frm = 0 ∨ frm = 1 ∨ frm = 3) := by rcases h with h | h; exact h; exact absurd h hd
    have HNC := Lib.hid (fun W => fnum0_c frm dst hf W)
    have hd2 : dst = 3 ∨ dst = 1 := by omega
    clear h hd hf
    rcases hd2 with rfl | rfl
    · go_enter Tryd.func29, Tryd.ntmps29
      go_wp2_with fail
      refine (fstk3_c _).mono ?_
      rintro e w1 ⟨rfl, hb⟩
      have HB := Lib.hid hb
      clear hb
      go_wp2_with fail
      refine (HNC.out _).mono ?_
      rintro e w3 ⟨rfl, rfl⟩
      go_wp2_with fail
      go_ret
      exact ⟨rfl, HB.out.alloc HB.out.size _⟩
    · go_enter Tryd.func29, Tryd.ntmps29
      go_wp2_with fail
      refine (fstk1_c _).mono ?_
      rintro e w1 ⟨rfl, hb⟩
      have HB := Lib.hid hb
      clear hb
      go_wp2_with fail
      refine (HNC.out _).mono ?_
      rintro e w3 ⟨rfl, rfl⟩
      go_wp2_with fail
      go_ret
      exact ⟨rfl, HB.out.alloc HB.out.size _⟩
theorem enter_c (x frm dst : Int) (hx : W64 x) (w : World) : Calls Tryd.prog 29 #[.int .u64 x, .int .i64 frm, .int .i64 dst] w fun e w' => e = .returned (.int .u64 (enterV x frm dst)) ∧ Below w.heap.size w w' := by
  unfold enterV
  cases hp : isPriv frm
  · exact enter0_c x frm dst (.inl (prv_no hp)) w
  · have hf := prv_cases hp
    rw [if_pos rfl]
    by_cases h3 : dst = 3
    · subst h3
      have := enter3_c x frm hx hf w
      rw [numS_3] at this
      rw [if_pos rfl]; exact this
    · by_cases h1 : dst = 1
      · subst h1
        have := enter1_c x frm hx hf w
        rw [numS_1 hf] at this
        rw [if_neg (by omega), if_pos rfl]; exact this
      · rw [if_neg h3, if_neg h1]
        exact enter0_c x frm dst (.inr ⟨h3, h1⟩) w
set_option maxHeartbeats 4000000 in
theorem leave0_c (x dst : Int) (h3 : dst ≠ 3) (h1 : dst ≠ 1) (w : World) : Calls Tryd.prog 30 #[.int .u64 x, .int .i64 dst] w fun e w' => e = .returned (.tuple #[.int .u64 x, .int .i64 0]) ∧ Below w.heap.size w w' := by
  have HK := Lib.hid (fun W => fstk0_c dst h3 h1 W)
  clear h3 h1
  go_enter Tryd.func30, Tryd.ntmps30
  go_wp2_with fail
  refine (HK.out _).mono ?_
  rintro e w1 ⟨rfl, hb⟩
  have HB := Lib.hid hb
  clear hb
  go_wp2_with fail
  go_ret2
  exact ⟨rfl, HB.out.alloc HB.out.size _⟩
theorem cut1_lt (x : Int) {k : Nat} (hk : k < 64) : 0 ≤ cutS x k 1 ∧ cutS x k 1 ≤ 1 := by rw [cut1 x hk]; exact bi_range _
theorem prv_cut8 (x : Int) : prvS (cutS x 8 1) = cutS x 8 1 := by
  have := cut1_lt x (k := 8) (by omega)
  unfold prvS
  rw [if_neg (by have h : cutS x ((8 : Nat) : Int) 1 = cutS x 8 1 := rfl; rw [h] at this; omega)]
set_option maxHeartbeats 4000000 in
set_option maxRecDepth 100000 in
theorem leave3n_c (x p r : Int) (hr : putS (putS (putS (putS x 3 1 (cutS x 7 1)) 7 1 1) 11 2 0) 17 1 0 = r) (hx : W64 x) (hp : prvS (cutS x 11 2) = p) (h03 : 0 ≤ cutS x 11 2 ∧ cutS x 11 2 ≤ 3) (hm : p ≠ 3) (w : World) : Calls Tryd.prog 30 #[.int .u64 x, .int .i64 3] w fun e w' => e = .returned (.tuple #[.int .u64 r, .int .i64 p]) ∧ Below w.heap.size w w' := by
  have HRR := Lib.hid hr
  clear hr
  have HG := Lib.hid (fun W => fget_c 11 2 (by omega) (by omega) (by omega) x hx W)
  have HP := Lib.hid (fun W => fprv_c (cutS x 11 2) h03.1 h03.2 W)
  rw [hp] at HP
  have hpm : (p != 3) = true := by simpa using hm
  have hy : W64 (putS x 3 1 (cutS x 7 1)) := putS_range _ _ _ _
  have hz : W64 (putS (putS x 3 1 (cutS x 7 1)) 7 1 1) := putS_range _ _ _ _
  have hu : W64 (putS (putS (putS x 3 1 (cutS x 7 1)) 7 1 1) 11 2 0) := putS_range _ _ _ _
  clear hp h03 hm
  go_enter Tryd.func30, Tryd.ntmps30
  go_wp2_with fail
  refine (fstk3_c _).mono ?_
  rintro e w1 ⟨rfl, hb⟩
  have HB := Lib.hid hb
  clear hb
  go_wp2_with fail
  have hS := SkS.new HB.out skM
  obtain ⟨s0, s1, s2, s3, s4, s5⟩ := hS.cells
  generalize w1.alloc (.cells skM SkT) = w2 at *
  generalize w1.heap.size = b at *
  have HS := Lib.hid hS
  clear hS
  go_wp2_with fail
  refine (HG.out _).mono ?_
  rintro e w3 ⟨rfl, hb⟩
  replace HS := Lib.hid (HS.out.low hb)
  clear hb s0 s1 s2 s3 s4 s5
  go_wp2_with fail
  refine (HP.out _).mono ?_
  rintro e w4 ⟨rfl, rfl⟩
  go_upto_region 5 with fail
  refine wp_region_steady (fun W => SkS w W b skM) (by kernel_rfl) (by kernel_rfl) HS.out.drew ?_
  refine steady_val ?_ ?_ (by kernel_rfl) (fun W hS => ?_) ?_ ?_
  rotate_left 2
  · go_simp
    exact rfl
  · go_simp
    exact rfl
  refine steady_val ?_ ?_ (by kernel_rfl) (fun W hS => ?_) ?_ ?_
  rotate_left 2
  · (obtain ⟨s0, s1, s2, s3, s4, s5⟩ := hS.cells); go_simp
    exact rfl
  · go_simp
    exact rfl
  iterate 2
    refine steady_val ?_ ?_ (by kernel_rfl) (fun W hS => ?_) ?_ ?_
    rotate_left 2
    · go_simp
      exact rfl
    · go_simp
      exact rfl
  refine steady_val ?_ ?_ (by kernel_rfl) (fun W hS => ?_) ?_ ?_
  rotate_left 2
  · (obtain ⟨s0, s1, s2, s3, s4, s5⟩ := hS.cells); go_simp
    exact rfl
  · go_simp
    exact rfl
  refine steady_val ?_ ?_ (by kernel_rfl) (fun W hS => ?_) ?_ ?_
  rotate_left 2
  · go_simp
    exact rfl
  · go_simp
    exact rfl
  refine steady_enter (.int .u64 (cutS x 7 1)) 63 #[fV 7 1, .int .u64 x] ?_ (by kernel_rfl) (fun W hS => ?_) (fun W hS => (fget_c 7 1 (by omega) (by omega) (by omega) x hx W).mono (by rintro e w' ⟨rfl, hb⟩; exact ⟨rfl, hS.low hb⟩)) ?_ ?_
  rotate_left 1
  · go_simp
  · go_simp
    exact rfl
  refine steady_enter (.int .u64 (putS x 3 1 (cutS x 7 1))) 62 #[fV 3 1, .int .u64 x, .int .u64 (cutS x 7 1)] ?_ (by kernel_rfl) (fun W hS => ?_) (fun W hS => (fput_c 3 1 (by omega) (by omega) (by omega) x _ hx (cutS_range _ _ _) W).mono (by rintro e w' ⟨rfl, hb⟩; exact ⟨rfl, hS.low hb⟩)) ?_ ?_
  rotate_left 1
  · go_simp
  · go_simp
    exact rfl
  refine steady_val ?_ ?_ (by kernel_rfl) (fun W hS => ?_) ?_ ?_
  rotate_left 2
  · go_simp
    exact rfl
  · go_simp
    exact rfl
  refine steady_nil ?_
  intro W hS
  have HS5 := Lib.hid hS
  obtain ⟨s0, s1, s2, s3, s4, s5⟩ := hS.cells
  clear hS HS
  generalize putS x 3 1 (cutS x 7 1) = y at *
  go_wp2_with fail
  refine (fput_c 7 1 (by omega) (by omega) (by omega) y 1 hy (by decide) _).mono ?_
  rintro e w4 ⟨rfl, hb⟩
  have HS6 := Lib.hid (HS5.out.low hb)
  clear hb s0 s1 s2 s3 s4 s5
  obtain ⟨s0, s1, s2, s3, s4, s5⟩ := HS6.out.cells
  generalize putS y 7 1 1 = z at *
  go_wp2_with fail
  refine (fput_c 11 2 (by omega) (by omega) (by omega) z 0 hz (by decide) _).mono ?_
  rintro e w5 ⟨rfl, hb⟩
  have HS7 := Lib.hid (HS6.out.low hb)
  clear hb
  generalize putS z 11 2 0 = u at *
  go_wp2_with fail
  refine (fbit_c 17 _).mono ?_
  rintro e w6 ⟨rfl, hb⟩
  have HS8 := Lib.hid (HS7.out.low hb)
  clear hb
  go_wp2_with fail
  refine (fput_c 17 1 (by omega) (by omega) (by omega) u 0 hu (by decide) _).mono ?_
  rintro e w7 ⟨rfl, hb⟩
  have HS9 := Lib.hid (HS8.out.low hb)
  clear hb
  go_wp2_with fail
  go_ret2
  exact ⟨by rw [← HRR.out]; rfl, HS9.out.bel⟩
set_option maxHeartbeats 4000000 in
set_option maxRecDepth 100000 in
theorem leave3y_c (x p r : Int) (hr : putS (putS (putS x 3 1 (cutS x 7 1)) 7 1 1) 11 2 0 = r) (hx : W64 x) (hp : prvS (cutS x 11 2) = p) (h03 : 0 ≤ cutS x 11 2 ∧ cutS x 11 2 ≤ 3) (hm : p = 3) (w : World) : Calls Tryd.prog 30 #[.int .u64 x, .int .i64 3] w fun e w' => e = .returned (.tuple #[.int .u64 r, .int .i64 p]) ∧ Below w.heap.size w w' := by
  have HRR := Lib.hid hr
  clear hr
  have HG := Lib.hid (fun W => fget_c 11 2 (by omega) (by omega) (by omega) x hx W)
  have HP := Lib.hid (fun W => fprv_c (cutS x 11 2) h03.1 h03.2 W)
  rw [hp] at HP
  have hpm : (p != 3) = false := by simpa using hm
  have hy : W64 (putS x 3 1 (cutS x 7 1)) := putS_range _ _ _ _
  have hz : W64 (putS (putS x 3 1 (cutS x 7 1)) 7 1 1) := putS_range _ _ _ _
  have hu : W64 (putS (putS (putS x 3 1 (cutS x 7 1)) 7 1 1) 11 2 0) := putS_range _ _ _ _
  clear hp h03 hm
  go_enter Tryd.func30, Tryd.ntmps30
  go_wp2_with fail
  refine (fstk3_c _).mono ?_
  rintro e w1 ⟨rfl, hb⟩
  have HB := Lib.hid hb
  clear hb
  go_wp2_with fail
  have hS := SkS.new HB.out skM
  obtain ⟨s0, s1, s2, s3, s4, s5⟩ := hS.cells
  generalize w1.alloc (.cells skM SkT) = w2 at *
  generalize w1.heap.size = b at *
  have HS := Lib.hid hS
  clear hS
  go_wp2_with fail
  refine (HG.out _).mono ?_
  rintro e w3 ⟨rfl, hb⟩
  replace HS := Lib.hid (HS.out.low hb)
  clear hb s0 s1 s2 s3 s4 s5
  go_wp2_with fail
  refine (HP.out _).mono ?_
  rintro e w4 ⟨rfl, rfl⟩
  go_upto_region 5 with fail
  refine wp_region_steady (fun W => SkS w W b skM) (by kernel_rfl) (by kernel_rfl) HS.out.drew ?_
  refine steady_val ?_ ?_ (by kernel_rfl) (fun W hS => ?_) ?_ ?_
  rotate_left 2
  · go_simp
    exact rfl
  · go_simp
    exact rfl
  refine steady_val ?_ ?_ (by kernel_rfl) (fun W hS => ?_) ?_ ?_
  rotate_left 2
  · (obtain ⟨s0, s1, s2, s3, s4, s5⟩ := hS.cells); go_simp
    exact rfl
  · go_simp
    exact rfl
  iterate 2
    refine steady_val ?_ ?_ (by kernel_rfl) (fun W hS => ?_) ?_ ?_
    rotate_left 2
    · go_simp
      exact rfl
    · go_simp
      exact rfl
  refine steady_val ?_ ?_ (by kernel_rfl) (fun W hS => ?_) ?_ ?_
  rotate_left 2
  · (obtain ⟨s0, s1, s2, s3, s4, s5⟩ := hS.cells); go_simp
    exact rfl
  · go_simp
    exact rfl
  refine steady_val ?_ ?_ (by kernel_rfl) (fun W hS => ?_) ?_ ?_
  rotate_left 2
  · go_simp
    exact rfl
  · go_simp
    exact rfl
  refine steady_enter (.int .u64 (cutS x 7 1)) 63 #[fV 7 1, .int .u64 x] ?_ (by kernel_rfl) (fun W hS => ?_) (fun W hS => (fget_c 7 1 (by omega) (by omega) (by omega) x hx W).mono (by rintro e w' ⟨rfl, hb⟩; exact ⟨rfl, hS.low hb⟩)) ?_ ?_
  rotate_left 1
  · go_simp
  · go_simp
    exact rfl
  refine steady_enter (.int .u64 (putS x 3 1 (cutS x 7 1))) 62 #[fV 3 1, .int .u64 x, .int .u64 (cutS x 7 1)] ?_ (by kernel_rfl) (fun W hS => ?_) (fun W hS => (fput_c 3 1 (by omega) (by omega) (by omega) x _ hx (cutS_range _ _ _) W).mono (by rintro e w' ⟨rfl, hb⟩; exact ⟨rfl, hS.low hb⟩)) ?_ ?_
  rotate_left 1
  · go_simp
  · go_simp
    exact rfl
  refine steady_val ?_ ?_ (by kernel_rfl) (fun W hS => ?_) ?_ ?_
  rotate_left 2
  · go_simp
    exact rfl
  · go_simp
    exact rfl
  refine steady_nil ?_
  intro W hS
  have HS5 := Lib.hid hS
  obtain ⟨s0, s1, s2, s3, s4, s5⟩ := hS.cells
  clear hS HS
  generalize putS x 3 1 (cutS x 7 1) = y at *
  go_wp2_with fail
  refine (fput_c 7 1 (by omega) (by omega) (by omega) y 1 hy (by decide) _).mono ?_
  rintro e w4 ⟨rfl, hb⟩
  have HS6 := Lib.hid (HS5.out.low hb)
  clear hb s0 s1 s2 s3 s4 s5
  obtain ⟨s0, s1, s2, s3, s4, s5⟩ := HS6.out.cells
  generalize putS y 7 1 1 = z at *
  go_wp2_with fail
  refine (fput_c 11 2 (by omega) (by omega) (by omega) z 0 hz (by decide) _).mono ?_
  rintro e w5 ⟨rfl, hb⟩
  have HS7 := Lib.hid (HS6.out.low hb)
  clear hb
  generalize putS z 11 2 0 = u at *
  go_wp2_with fail
  go_ret2
  exact ⟨by rw [← HRR.out]; rfl, HS7.out.bel⟩
set_option maxHeartbeats 4000000 in
set_option maxRecDepth 100000 in
theorem leave1_c (x p r : Int) (hr : putS (putS (putS (putS x 1 1 (cutS x 5 1)) 5 1 1) 8 1 0) 17 1 0 = r) (hx : W64 x) (hp : prvS (cutS x 8 1) = p) (h03 : 0 ≤ cutS x 8 1 ∧ cutS x 8 1 ≤ 3) (hm : p ≠ 3) (w : World) : Calls Tryd.prog 30 #[.int .u64 x, .int .i64 1] w fun e w' => e = .returned (.tuple #[.int .u64 r, .int .i64 p]) ∧ Below w.heap.size w w' := by
  have HRR := Lib.hid hr
  clear hr
  have HG := Lib.hid (fun W => fget_c 8 1 (by omega) (by omega) (by omega) x hx W)
  have HP := Lib.hid (fun W => fprv_c (cutS x 8 1) h03.1 h03.2 W)
  rw [hp] at HP
  have hpm : (p != 3) = true := by simpa using hm
  have hy : W64 (putS x 1 1 (cutS x 5 1)) := putS_range _ _ _ _
  have hz : W64 (putS (putS x 1 1 (cutS x 5 1)) 5 1 1) := putS_range _ _ _ _
  have hu : W64 (putS (putS (putS x 1 1 (cutS x 5 1)) 5 1 1) 8 1 0) := putS_range _ _ _ _
  clear hp h03 hm
  go_enter Tryd.func30, Tryd.ntmps30
  go_wp2_with fail
  refine (fstk1_c _).mono ?_
  rintro e w1 ⟨rfl, hb⟩
  have HB := Lib.hid hb
  clear hb
  go_wp2_with fail
  have hS := SkS.new HB.out skU
  obtain ⟨s0, s1, s2, s3, s4, s5⟩ := hS.cells
  generalize w1.alloc (.cells skU SkT) = w2 at *
  generalize w1.heap.size = b at *
  have HS := Lib.hid hS
  clear hS
  go_wp2_with fail
  refine (HG.out _).mono ?_
  rintro e w3 ⟨rfl, hb⟩
  replace HS := Lib.hid (HS.out.low hb)
  clear hb s0 s1 s2 s3 s4 s5
  go_wp2_with fail
  refine (HP.out _).mono ?_
  rintro e w4 ⟨rfl, rfl⟩
  go_upto_region 5 with fail
  refine wp_region_steady (fun W => SkS w W b skU) (by kernel_rfl) (by kernel_rfl) HS.out.drew ?_
  refine steady_val ?_ ?_ (by kernel_rfl) (fun W hS => ?_) ?_ ?_
  rotate_left 2
  · go_simp
    exact rfl
  · go_simp
    exact rfl
  refine steady_val ?_ ?_ (by kernel_rfl) (fun W hS => ?_) ?_ ?_
  rotate_left 2
  · (obtain ⟨s0, s1, s2, s3, s4, s5⟩ := hS.cells); go_simp
    exact rfl
  · go_simp
    exact rfl
  iterate 2
    refine steady_val ?_ ?_ (by kernel_rfl) (fun W hS => ?_) ?_ ?_
    rotate_left 2
    · go_simp
      exact rfl
    · go_simp
      exact rfl
  refine steady_val ?_ ?_ (by kernel_rfl) (fun W hS => ?_) ?_ ?_
  rotate_left 2
  · (obtain ⟨s0, s1, s2, s3, s4, s5⟩ := hS.cells); go_simp
    exact rfl
  · go_simp
    exact rfl
  refine steady_val ?_ ?_ (by kernel_rfl) (fun W hS => ?_) ?_ ?_
  rotate_left 2
  · go_simp
    exact rfl
  · go_simp
    exact rfl
  refine steady_enter (.int .u64 (cutS x 5 1)) 63 #[fV 5 1, .int .u64 x] ?_ (by kernel_rfl) (fun W hS => ?_) (fun W hS => (fget_c 5 1 (by omega) (by omega) (by omega) x hx W).mono (by rintro e w' ⟨rfl, hb⟩; exact ⟨rfl, hS.low hb⟩)) ?_ ?_
  rotate_left 1
  · go_simp
  · go_simp
    exact rfl
  refine steady_enter (.int .u64 (putS x 1 1 (cutS x 5 1))) 62 #[fV 1 1, .int .u64 x, .int .u64 (cutS x 5 1)] ?_ (by kernel_rfl) (fun W hS => ?_) (fun W hS => (fput_c 1 1 (by omega) (by omega) (by omega) x _ hx (cutS_range _ _ _) W).mono (by rintro e w' ⟨rfl, hb⟩; exact ⟨rfl, hS.low hb⟩)) ?_ ?_
  rotate_left 1
  · go_simp
  · go_simp
    exact rfl
  refine steady_val ?_ ?_ (by kernel_rfl) (fun W hS => ?_) ?_ ?_
  rotate_left 2
  · go_simp
    exact rfl
  · go_simp
    exact rfl
  refine steady_nil ?_
  intro W hS
  have HS5 := Lib.hid hS
  obtain ⟨s0, s1, s2, s3, s4, s5⟩ := hS.cells
  clear hS HS
  generalize putS x 1 1 (cutS x 5 1) = y at *
  go_wp2_with fail
  refine (fput_c 5 1 (by omega) (by omega) (by omega) y 1 hy (by decide) _).mono ?_
  rintro e w4 ⟨rfl, hb⟩
  have HS6 := Lib.hid (HS5.out.low hb)
  clear hb s0 s1 s2 s3 s4 s5
  obtain ⟨s0, s1, s2, s3, s4, s5⟩ := HS6.out.cells
  generalize putS y 5 1 1 = z at *
  go_wp2_with fail
  refine (fput_c 8 1 (by omega) (by omega) (by omega) z 0 hz (by decide) _).mono ?_
  rintro e w5 ⟨rfl, hb⟩
  have HS7 := Lib.hid (HS6.out.low hb)
  clear hb
  generalize putS z 8 1 0 = u at *
  go_wp2_with fail
  refine (fbit_c 17 _).mono ?_
  rintro e w6 ⟨rfl, hb⟩
  have HS8 := Lib.hid (HS7.out.low hb)
  clear hb
  go_wp2_with fail
  refine (fput_c 17 1 (by omega) (by omega) (by omega) u 0 hu (by decide) _).mono ?_
  rintro e w7 ⟨rfl, hb⟩
  have HS9 := Lib.hid (HS8.out.low hb)
  clear hb
  go_wp2_with fail
  go_ret2
  exact ⟨by rw [← HRR.out]; rfl, HS9.out.bel⟩
theorem leave_c (x dst : Int) (hx : W64 x) (w : World) : Calls Tryd.prog 30 #[.int .u64 x, .int .i64 dst] w fun e w' => e = .returned (.tuple #[.int .u64 (leaveV x dst), .int .i64 (leaveP x dst)]) ∧ Below w.heap.size w w' := by
  unfold leaveV leaveP
  by_cases h3 : dst = 3
  · subst h3
    rw [if_pos rfl, if_pos rfl]
    have h4 := cut2_lt x
    have h5 := cutS_range x 11 2
    unfold leaveM
    by_cases hm : mppS x = 3
    · rw [if_pos hm]
      exact leave3y_c x _ _ rfl hx rfl (by omega) hm w
    · rw [if_neg hm]
      exact leave3n_c x _ _ rfl hx rfl (by omega) hm w
  · by_cases h1 : dst = 1
    · subst h1
      rw [if_neg h3, if_pos rfl, if_neg h3, if_pos rfl]
      have h5 := cut1_lt x (k := 8) (by omega)
      have h6 : cutS x ((8 : Nat) : Int) 1 = cutS x 8 1 := rfl
      rw [h6] at h5
      exact leave1_c x _ _ rfl hx (prv_cut8 x) (by omega) (by omega) w
    · rw [if_neg h3, if_neg h1, if_neg h3, if_neg h1]
      exact leave0_c x dst h3 h1 w
end Go.Proofs.YtkbgmppbkllnmaaDoor
set_option maxRecDepth 20000
namespace Go.Proofs.YtkbgmppbkllnmaaDoor
open Go.ChangeShapes Go.WideShapes Go.ChangeAt Go.RowKit Wd Csr

def cB (l : List UInt8) : ByteArray := ⟨l.toArray⟩
abbrev CrT : TypeId := 158
/-- The program's table in memory. -/
def RowsIn (w : World) : Prop := 2 < w.heap.size ∧ ∀ k, k < 34 → w.cell? ⟨2, k * 3, none⟩ = some (.int .i64 ((rowC k).1 : Nat)) ∧ w.cell? ⟨2, k * 3 + 1, none⟩ = some (.string (cB (rowC k).2.1)) ∧ w.cell? ⟨2, k * 3 + 2, none⟩ = some (.int .u64 ((rowC k).2.2 : Nat))
theorem RowsIn.low {w w' : World} (h : RowsIn w) (hb : Below w.heap.size w w') : RowsIn w' :=
  ⟨Nat.le_trans h.1 hb.size, fun k hk => by
    obtain ⟨a, b, c⟩ := h.2 k hk
    exact ⟨(hb.cell (p := ⟨2, k * 3, none⟩) h.1).trans a, (hb.cell (p := ⟨2, k * 3 + 1, none⟩) h.1).trans b, (hb.cell (p := ⟨2, k * 3 + 2, none⟩) h.1).trans c⟩⟩
def rAgg (r : RowC) : Value := .agg #[.int .i64 (r.1 : Nat), .string (cB r.2.1), .int .u64 (r.2.2 : Nat)]
def rVal (r : Option RowC) : Value := .tuple #[rAgg (r.getD noRow), .bool r.isSome]
set_option maxHeartbeats 1000000 in
theorem num1_c (r : RowC) (n : Int) (pb : Nat) (w : World) (hc : w.cell? ⟨pb, 0, none⟩ = some (.int .i64 n)) :
    Calls Tryd.prog 107 #[rAgg r, .pointer (some ⟨pb, 0, none⟩)] w fun e w' => e = .returned (.bool (isNum n r)) ∧ Below w.heap.size w w' := by
  obtain ⟨a, l, m⟩ := r
  have hlt : pb < w.heap.size := by
    apply Classical.byContradiction
    intro hn
    have : w.heap[pb]? = none := Array.getElem?_eq_none (by omega)
    simp [World.cell?, this] at hc
  unfold rAgg isNum
  dsimp only
  generalize ((a : Nat) : Int) = a'
  generalize ((m : Nat) : Int) = m'
  generalize cB l = s
  have hB : Below w.heap.size w (w.alloc (.cells #[.int .i64 a', .string s, .int .u64 m'] CrT)) := (Below.refl _ _).alloc (Nat.le_refl _) _
  have hc2 := (hB.cell (p := ⟨pb, 0, none⟩) hlt).trans hc
  have HB := Lib.hid hB
  clear hc hB
  go_enter Tryd.func107, Tryd.ntmps107
  go_wp2_with fail
  go_ret
  exact ⟨rfl, HB.out⟩
abbrev zRow : Array Value := #[.int .i64 0, .string ⟨#[]⟩, .int .u64 0]
theorem rAgg_no : rAgg noRow = .agg zRow := rfl
set_option maxHeartbeats 2000000 in
theorem cfind_c (F : FuncId) (cs : Array Value) (p : RowC → Bool) (w : World) (hN : RowsIn w)
    (hT : ∀ k W, k < 34 → Below w.heap.size w W → Calls Tryd.prog F (#[rAgg (rowC k)] ++ cs) W fun e W' => e = .returned (.bool (p (rowC k))) ∧ Below W.heap.size W W') (hE : Go.Proofs.Enters Tryd.prog F) :
    Calls Tryd.prog 106 #[.func (.func F) #[] cs] w fun e w' => e = .returned (rVal (fstC p)) ∧ Below w.heap.size w w' := by
  have HT := Lib.hid hT
  have HN := Lib.hid hN
  clear hT hN
  go_enter Tryd.func106, Tryd.ntmps106
  go_wp2_with fail
  have h0 := CsAt.new w CrT zRow
  have hB0 : Below w.heap.size w (w.alloc (.cells zRow CrT)) := (Below.refl _ _).alloc (Nat.le_refl _) _
  generalize (w.alloc (.cells zRow CrT)) = w1 at *
  have HB1 := Lib.hid hB0
  have H0 := Lib.hid h0
  clear h0 hB0
  go_loopw [4, 5] (fun _ iv wr => ∃ k : Nat, k ≤ 34 ∧ iv = .int .i64 k ∧ (∀ j, j < k → p (rowC j) = false) ∧ Below w1.heap.size w1 wr) (fun _ iv _ => 34 - (intOf iv).toNat)
  case atStart => exact ⟨0, Nat.zero_le _, rfl, fun i h => by omega, Below.refl _ _⟩
  case round =>
    obtain ⟨k, hk, rfl, hn, hb⟩ := hrel
    have HN' := Lib.hid hn
    have HB := Lib.hid hb
    have HR := Lib.hid (H0.out.low hb)
    have hW := (HB1.out.trans (hb.mono HB1.out.size))
    have HW := Lib.hid hW
    clear hn hb hW
    by_cases hlt : k < 34
    · obtain ⟨c0, c1, c2⟩ := (HN.out.low HW.out).2 k hlt
      have hl2 : (k : Int) < 34 := by omega
      cases hp : p (rowC k)
      · have HC := Lib.hid (HT.out k wr hlt HW.out)
        have HP := Lib.hid hp
        rw [hp] at HC
        clear hp
        unfold rAgg at HC
        generalize (((rowC k).1 : Nat) : Int) = a at *
        generalize (((rowC k).2.2 : Nat) : Int) = m at *
        generalize cB (rowC k).2.1 = s at *
        go_wp2_with fail
        rw [hE]
        refine HC.out.mono ?_
        rintro e w2 ⟨rfl, hb2⟩
        have HB2 := Lib.hid (HB.out.trans (hb2.mono HB.out.size))
        clear hb2
        go_wp2_with fail
        go_roundw
        case rel => exact ⟨k + 1, by omega, by go_num, fun i hi => if e : i = k then e ▸ HP.out else HN'.out i (by omega), HB2.out⟩
        case measure => simp [intOf]; omega
      · have HC := Lib.hid (HT.out k wr hlt HW.out)
        have HP := Lib.hid (fst_hit hlt HN'.out hp)
        rw [hp] at HC
        clear hp
        have HA := Lib.hid (show rAgg (rowC k) = .agg #[.int .i64 ((rowC k).1 : Nat), .string (cB (rowC k).2.1), .int .u64 ((rowC k).2.2 : Nat)] from rfl)
        rw [HA.out] at HC
        have HX := Lib.hid (fun W (hb : Below wr.heap.size wr W) => (HN.out.low (HW.out.trans (hb.mono HW.out.size))).2 k hlt)
        generalize (((rowC k).1 : Nat) : Int) = a at *
        generalize (((rowC k).2.2 : Nat) : Int) = m at *
        generalize cB (rowC k).2.1 = s at *
        go_wp2_with fail
        rw [hE]
        refine HC.out.mono ?_
        rintro e w2 ⟨rfl, hb2⟩
        have hR2 := HR.out.low hb2
        obtain ⟨d0, d1, d2⟩ := HX.out w2 hb2
        have HB2 := Lib.hid (HW.out.trans (hb2.mono HW.out.size))
        have z0 := hR2.cell 0
        have z1 := hR2.cell 1
        have z2 := hR2.cell 2
        have y0 := hR2.frozen 0
        have y1 := hR2.frozen 1
        have y2 := hR2.frozen 2
        clear hb2 c0 c1 c2 hR2
        simp only [List.getElem?_toArray, List.getElem?_cons_zero, List.getElem?_cons_succ] at z0 z1 z2
        go_wp2_with fail
        refine bodyPost_ret (v := .tuple #[.agg #[.int .i64 a, .string s, .int .u64 m], .bool true]) (by simp [results, Tryd.results106, go_sem, z0, z1, z2]) rfl ⟨by rw [HP.out]; unfold rVal; rw [show (some (rowC k)).getD noRow = rowC k from rfl, HA.out]; rfl, ?_⟩
        exact ((HB2.out.setCell (by exact Nat.le_refl _) _).setCell (by exact Nat.le_refl _) _).setCell (by exact Nat.le_refl _) _
    · obtain rfl : k = 34 := by omega
      have HP := Lib.hid (fst_none HN'.out)
      have hR2 := HR.out
      have z0 := hR2.cell 0
      have z1 := hR2.cell 1
      have z2 := hR2.cell 2
      have y0 := hR2.frozen 0
      have y1 := hR2.frozen 1
      have y2 := hR2.frozen 2
      clear hR2
      simp only [List.getElem?_toArray, List.getElem?_cons_zero, List.getElem?_cons_succ] at z0 z1 z2
      go_wp2_with fail
      refine bodyPost_ret (v := .tuple #[.agg zRow, .bool false]) (by simp [results, Tryd.results106, go_sem, z0, z1, z2]) rfl ⟨by rw [HP.out]; rfl, ?_⟩
      exact ((HW.out.setCell (by exact Nat.le_refl _) _).setCell (by exact Nat.le_refl _) _).setCell (by exact Nat.le_refl _) _
end Go.Proofs.YtkbgmppbkllnmaaDoor
