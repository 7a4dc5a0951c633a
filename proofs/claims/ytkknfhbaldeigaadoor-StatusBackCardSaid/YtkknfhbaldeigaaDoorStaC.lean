/-
  Contracts of status.Enter, Leave.
-/
import Derived.Test.YtkknfhbaldeigaaDoorStaB
import Derived.Test.YtkknfhbaldeigaaDoorSteady
namespace Go.Proofs.YtkknfhbaldeigaaDoor
open Go.ChangeShapes Go.WideShapes Go.ChangeAt Go.RowKit Wd Csr Sta

theorem SkS.cells {w W : World} {b : Nat} {a0 a1 a2 a3 a4 a5 : Value} (h : SkS w W b #[a0, a1, a2, a3, a4, a5]) : W.cell? ⟨b, 0, none⟩ = some a0 ∧ W.cell? ⟨b, 1, none⟩ = some a1 ∧ W.cell? ⟨b, 2, none⟩ = some a2 ∧ W.cell? ⟨b, 3, none⟩ = some a3 ∧ W.cell? ⟨b, 4, none⟩ = some a4 ∧ W.cell? ⟨b, 5, none⟩ = some a5 :=
  ⟨h.row.cell 0, h.row.cell 1, h.row.cell 2, h.row.cell 3, h.row.cell 4, h.row.cell 5⟩
theorem prv_cases {p : Int} (h : isPriv p = true) : p = 0 ∨ p = 1 ∨ p = 3 := by
  unfold isPriv at h
  simp at h
  omega
theorem prv_no {p : Int} (h : isPriv p = false) : ¬ (p = 0 ∨ p = 1 ∨ p = 3) := by
  unfold isPriv at h
  simp at h
  omega
set_option maxHeartbeats 4000000 in
set_option maxRecDepth 100000 in
theorem enter3_c (x frm : Int) (hx : W64 x) (hf : frm = 0 ∨ frm = 1 ∨ frm = 3) (w : World) : Calls Tryd.prog 37 #[.int .u64 x, .int .i64 frm, .int .i64 3] w fun e w' => e = .returned (.int .u64 (enterM x (numS frm 3))) ∧ Below w.heap.size w w' := by
  have hn0 : W64 (numS frm 3) := by unfold numS; rcases hf with rfl | rfl | rfl <;> decide
  have HNC := Lib.hid (fun W => fnum_c frm 3 hf W)
  have HV := Lib.hid (show enterM x (numS frm 3) = putS (putS (putS x 7 1 (cutS x 3 1)) 3 1 0) 11 2 (numS frm 3) from rfl)
  clear hf
  generalize numS frm 3 = n at *
  have hy : W64 (putS x 7 1 (cutS x 3 1)) := putS_range _ _ _ _
  have hz : W64 (putS (putS x 7 1 (cutS x 3 1)) 3 1 0) := putS_range _ _ _ _
  go_enter Tryd.func37, Tryd.ntmps37
  go_wp2_with fail
  refine (fstk3_c _).mono ?_
  rintro e w1 ⟨rfl, hb⟩
  have HB := Lib.hid hb
  clear hb
  go_wp2_with fail
  have hS := SkS.new HB.out skM
  generalize w1.alloc (.cells skM SkT) = w2 at *
  generalize w1.heap.size = b at *
  have HS := Lib.hid hS
  clear hS
  refine (HNC.out _).mono ?_
  rintro e w3 ⟨rfl, rfl⟩
  go_upto_region 5 with fail
  refine wp_region_steady (fun W => SkS w W b skM) (by kernel_rfl) (by kernel_rfl) HS.out.drew ?_
  refine steady_val ?_ ?_ (by kernel_rfl) (fun W hS => ?_) ?_ ?_
  rotate_left 2
  · go_simp
    exact rfl
  · go_simp
    exact rfl
  refine steady_val ?_ ?_ (by kernel_rfl) (fun W hS => ?_) ?_ ?_
  rotate_left 2
  · (obtain ⟨s0, s1, s2, s3, s4, s5⟩ := hS.cells); go_simp
    exact rfl
  · go_simp
    exact rfl
  iterate 2
    refine steady_val ?_ ?_ (by kernel_rfl) (fun W hS => ?_) ?_ ?_
    rotate_left 2
    · go_simp
      exact rfl
    · go_simp
      exact rfl
  refine steady_val ?_ ?_ (by kernel_rfl) (fun W hS => ?_) ?_ ?_
  rotate_left 2
  · (obtain ⟨s0, s1, s2, s3, s4, s5⟩ := hS.cells); go_simp
    exact rfl
  · go_simp
    exact rfl
  refine steady_val ?_ ?_ (by kernel_rfl) (fun W hS => ?_) ?_ ?_
  rotate_left 2
  · go_simp
    exact rfl
  · go_simp
    exact rfl
  refine steady_enter (.int .u64 (cutS x 3 1)) 50 #[fV 3 1, .int .u64 x] ?_ (by kernel_rfl) (fun W hS => ?_) (fun W hS => (fget_c 3 1 (by omega) (by omega) (by omega) x hx W).mono (by rintro e w' ⟨rfl, hb⟩; exact ⟨rfl, hS.low hb⟩)) ?_ ?_
  rotate_left 1
  · go_simp
  · go_simp
    exact rfl
  refine steady_enter (.int .u64 (putS x 7 1 (cutS x 3 1))) 57 #[fV 7 1, .int .u64 x, .int .u64 (cutS x 3 1)] ?_ (by kernel_rfl) (fun W hS => ?_) (fun W hS => (fput_c 7 1 (by omega) (by omega) (by omega) x _ hx (cutS_range _ _ _) W).mono (by rintro e w' ⟨rfl, hb⟩; exact ⟨rfl, hS.low hb⟩)) ?_ ?_
  rotate_left 1
  · go_simp
  · go_simp
    exact rfl
  refine steady_val ?_ ?_ (by kernel_rfl) (fun W hS => ?_) ?_ ?_
  rotate_left 2
  · go_simp
    exact rfl
  · go_simp
    exact rfl
  refine steady_nil ?_
  intro W hS
  have HS5 := Lib.hid hS
  obtain ⟨s0, s1, s2, s3, s4, s5⟩ := hS.cells
  clear hS HS
  generalize putS x 7 1 (cutS x 3 1) = y at *
  go_wp2_with fail
  refine (fput_c 3 1 (by omega) (by omega) (by omega) y 0 hy (by decide) _).mono ?_
  rintro e w4 ⟨rfl, hb⟩
  have HS6 := Lib.hid (HS5.out.low hb)
  clear hb s0 s1 s2 s3 s4 s5
  obtain ⟨s0, s1, s2, s3, s4, s5⟩ := HS6.out.cells
  generalize putS y 3 1 0 = z at *
  go_wp2_with fail
  refine (fput_c 11 2 (by omega) (by omega) (by omega) z n hz hn0 _).mono ?_
  rintro e w5 ⟨rfl, hb⟩
  have HS7 := Lib.hid (HS6.out.low hb)
  clear hb
  go_wp2_with fail
  go_ret
  exact ⟨by rw [HV.out]; rfl, HS7.out.bel⟩
set_option maxHeartbeats 4000000 in
set_option maxRecDepth 100000 in
theorem enter1_c (x frm : Int) (hx : W64 x) (hf : frm = 0 ∨ frm = 1 ∨ frm = 3) (w : World) : Calls Tryd.prog 37 #[.int .u64 x, .int .i64 frm, .int .i64 1] w fun e w' => e = .returned (.int .u64 (enterU x (numS frm 1))) ∧ Below w.heap.size w w' := by
  have hn0 : W64 (numS frm 1) := by unfold numS; rcases hf with rfl | rfl | rfl <;> decide
  have HNC := Lib.hid (fun W => fnum_c frm 1 hf W)
  have HV := Lib.hid (show enterU x (numS frm 1) = putS (putS (putS x 5 1 (cutS x 1 1)) 1 1 0) 8 1 (numS frm 1) from rfl)
  clear hf
  generalize numS frm 1 = n at *
  have hy : W64 (putS x 5 1 (cutS x 1 1)) := putS_range _ _ _ _
  have hz : W64 (putS (putS x 5 1 (cutS x 1 1)) 1 1 0) := putS_range _ _ _ _
  go_enter Tryd.func37, Tryd.ntmps37
  go_wp2_with fail
  refine (fstk1_c _).mono ?_
  rintro e w1 ⟨rfl, hb⟩
  have HB := Lib.hid hb
  clear hb
  go_wp2_with fail
  have hS := SkS.new HB.out skU
  generalize w1.alloc (.cells skU SkT) = w2 at *
  generalize w1.heap.size = b at *
  have HS := Lib.hid hS
  clear hS
  refine (HNC.out _).mono ?_
  rintro e w3 ⟨rfl, rfl⟩
  go_upto_region 5 with fail
  refine wp_region_steady (fun W => SkS w W b skU) (by kernel_rfl) (by kernel_rfl) HS.out.drew ?_
  refine steady_val ?_ ?_ (by kernel_rfl) (fun W hS => ?_) ?_ ?_
  rotate_left 2
  · go_simp
    exact rfl
  · go_simp
    exact rfl
  refine steady_val ?_ ?_ (by kernel_rfl) (fun W hS => ?_) ?_ ?_
  rotate_left 2
  · (obtain ⟨s0, s1, s2, s3, s4, s5⟩ := hS.cells); go_simp
    exact rfl
  · go_simp
    exact rfl
  iterate 2
    refine steady_val ?_ ?_ (by kernel_rfl) (fun W hS => ?_) ?_ ?_
    rotate_left 2
    · go_simp
      exact rfl
    · go_simp
      exact rfl
  refine steady_val ?_ ?_ (by kernel_rfl) (fun W hS => ?_) ?_ ?_
  rotate_left 2
  · (obtain ⟨s0, s1, s2, s3, s4, s5⟩ := hS.cells); go_simp
    exact rfl
  · go_simp
    exact rfl
  refine steady_val ?_ ?_ (by kernel_rfl) (fun W hS => ?_) ?_ ?_
  rotate_left 2
  · go_simp
    exact rfl
  · go_simp
    exact rfl
  refine steady_enter (.int .u64 (cutS x 1 1)) 50 #[fV 1 1, .int .u64 x] ?_ (by kernel_rfl) (fun W hS => ?_) (fun W hS => (fget_c 1 1 (by omega) (by omega) (by omega) x hx W).mono (by rintro e w' ⟨rfl, hb⟩; exact ⟨rfl, hS.low hb⟩)) ?_ ?_
  rotate_left 1
  · go_simp
  · go_simp
    exact rfl
  refine steady_enter (.int .u64 (putS x 5 1 (cutS x 1 1))) 57 #[fV 5 1, .int .u64 x, .int .u64 (cutS x 1 1)] ?_ (by kernel_rfl) (fun W hS => ?_) (fun W hS => (fput_c 5 1 (by omega) (by omega) (by omega) x _ hx (cutS_range _ _ _) W).mono (by rintro e w' ⟨rfl, hb⟩; exact ⟨rfl, hS.low hb⟩)) ?_ ?_
  rotate_left 1
  · go_simp
  · go_simp
    exact rfl
  refine steady_val ?_ ?_ (by kernel_rfl) (fun W hS => ?_) ?_ ?_
  rotate_left 2
  · go_simp
    exact rfl
  · go_simp
    exact rfl
  refine steady_nil ?_
  intro W hS
  have HS5 := Lib.hid hS
  obtain ⟨s0, s1, s2, s3, s4, s5⟩ := hS.cells
  clear hS HS
  generalize putS x 5 1 (cutS x 1 1) = y at *
  go_wp2_with fail
  refine (fput_c 1 1 (by omega) (by omega) (by omega) y 0 hy (by decide) _).mono ?_
  rintro e w4 ⟨rfl, hb⟩
  have HS6 := Lib.hid (HS5.out.low hb)
  clear hb s0 s1 s2 s3 s4 s5
  obtain ⟨s0, s1, s2, s3, s4, s5⟩ := HS6.out.cells
  generalize putS y 1 1 0 = z at *
  go_wp2_with fail
  refine (fput_c 8 1 (by omega) (by omega) (by omega) z n hz hn0 _).mono ?_
  rintro e w5 ⟨rfl, hb⟩
  have HS7 := Lib.hid (HS6.out.low hb)
  clear hb
  go_wp2_with fail
  go_ret
  exact ⟨by rw [HV.out]; rfl, HS7.out.bel⟩
theorem numS_1 {frm : Int} (h : frm = 0 ∨ frm = 1 ∨ frm = 3) : numS frm 1 = if frm = 1 then 1 else 0 := by rcases h with rfl | rfl | rfl <;> rfl
theorem numS_3 (frm : Int) : numS frm 3 = frm := by unfold numS; rw [if_neg (by omega)]
set_option maxHeartbeats 4000000 in
theorem enter0_c (x frm dst : Int) (h : ¬ (frm = 0 ∨ frm = 1 ∨ frm = 3) ∨ (dst ≠ 3 ∧ dst ≠ 1)) (w : World) : Calls Tryd.prog 37 #[.int .u64 x, .int .i64 frm, .int .i64 dst] w fun e w' => e = .returned (.int .u64 x) ∧ Below w.heap.size w w' := by
  by_cases hd : dst ≠ 3 ∧ dst ≠ 1
  · have HNC := Lib.hid (show ∀ W, ∃ n o, Calls Tryd.prog 56 #[.int .i64 frm, .int .i64 dst] W fun e w' => e = .returned (.tuple #[.int .u64 n, .bool o]) ∧ w' = W from fun W => by
      by_cases hf : frm = 0 ∨ frm = 1 ∨ frm = 3
      · exact ⟨_, _, fnum_c frm dst hf W⟩
      · exact ⟨_, _, fnum0_c frm dst hf W⟩)
    have HK := Lib.hid (fun W => fstk0_c dst hd.1 hd.2 W)
    clear h hd
    go_enter Tryd.func37, Tryd.ntmps37
    go_wp2_with fail
    refine (HK.out _).mono ?_
    rintro e w1 ⟨rfl, hb⟩
    have HB := Lib.hid hb
    clear hb
    go_wp2_with fail
    obtain ⟨n, o, hc⟩ := HNC.out (w1.alloc (.cells skC SkT))
    refine hc.mono ?_
    rintro e w3 ⟨rfl, rfl⟩
    go_wp2_with fail
    go_ret
    exact ⟨rfl, HB.out.alloc HB.out.size _⟩
  · have hf : ¬ (frm = 0 ∨ frm = 1 ∨ frm = 3) := by rcases h with h | h; exact h; exact absurd h hd
    have HNC := Lib.hid (fun W => fnum0_c frm dst hf W)
    have hd2 : dst = 3 ∨ dst = 1 := by omega
    clear h hd hf
    rcases hd2 with rfl | rfl
    · go_enter Tryd.func37, Tryd.ntmps37
      go_wp2_with fail
      refine (fstk3_c _).mono ?_
      rintro e w1 ⟨rfl, hb⟩
      have HB := Lib.hid hb
      clear hb
      go_wp2_with fail
      refine (HNC.out _).mono ?_
      rintro e w3 ⟨rfl, rfl⟩
      go_wp2_with fail
      go_ret
      exact ⟨rfl, HB.out.alloc HB.out.size _⟩
    · go_enter Tryd.func37, Tryd.ntmps37
      go_wp2_with fail
      refine (fstk1_c _).mono ?_
      rintro e w1 ⟨rfl, hb⟩
      have HB := Lib.hid hb
      clear hb
      go_wp2_with fail
      refine (HNC.out _).mono ?_
      rintro e w3 ⟨rfl, rfl⟩
      go_wp2_with fail
      go_ret
      exact ⟨rfl, HB.out.alloc HB.out.size _⟩
theorem enter_c (x frm dst : Int) (hx : W64 x) (w : World) : Calls Tryd.prog 37 #[.int .u64 x, .int .i64 frm, .int .i64 dst] w fun e w' => e = .returned (.int .u64 (enterV x frm dst)) ∧ Below w.heap.size w w' := by
  unfold enterV
  cases hp : isPriv frm
  · exact enter0_c x frm dst (.inl (prv_no hp)) w
  · have hf := prv_cases hp
    rw [if_pos rfl]
    by_cases h3 : dst = 3
    · subst h3
      have := enter3_c x frm hx hf w
      rw [numS_3] at this
      rw [if_pos rfl]; exact this
    · by_cases h1 : dst = 1
      · subst h1
        have := enter1_c x frm hx hf w
        rw [numS_1 hf] at this
        rw [if_neg (by omega), if_pos rfl]; exact this
      · rw [if_neg h3, if_neg h1]
        exact enter0_c x frm dst (.inr ⟨h3, h1⟩) w
set_option maxHeartbeats 4000000 in
theorem leave0_c (x dst : Int) (h3 : dst ≠ 3) (h1 : dst ≠ 1) (w : World) : Calls Tryd.prog 38 #[.int .u64 x, .int .i64 dst] w fun e w' => e = .returned (.tuple #[.int .u64 x, .int .i64 0]) ∧ Below w.heap.size w w' := by
  have HK := Lib.hid (fun W => fstk0_c dst h3 h1 W)
  clear h3 h1
  go_enter Tryd.func38, Tryd.ntmps38
  go_wp2_with fail
  refine (HK.out _).mono ?_
  rintro e w1 ⟨rfl, hb⟩
  have HB := Lib.hid hb
  clear hb
  go_wp2_with fail
  go_ret2
  exact ⟨rfl, HB.out.alloc HB.out.size _⟩
theorem cut1_lt (x : Int) {k : Nat} (hk : k < 64) : 0 ≤ cutS x k 1 ∧ cutS x k 1 ≤ 1 := by rw [cut1 x hk]; exact bi_range _
theorem prv_cut8 (x : Int) : prvS (cutS x 8 1) = cutS x 8 1 := by
  have := cut1_lt x (k := 8) (by omega)
  unfold prvS
  rw [if_neg (by have h : cutS x ((8 : Nat) : Int) 1 = cutS x 8 1 := rfl; rw [h] at this; omega)]
set_option maxHeartbeats 4000000 in
set_option maxRecDepth 100000 in
theorem leave3n_c (x p r : Int) (hr : putS (putS (putS (putS x 3 1 (cutS x 7 1)) 7 1 1) 11 2 0) 17 1 0 = r) (hx : W64 x) (hp : prvS (cutS x 11 2) = p) (h03 : 0 ≤ cutS x 11 2 ∧ cutS x 11 2 ≤ 3) (hm : p ≠ 3) (w : World) : Calls Tryd.prog 38 #[.int .u64 x, .int .i64 3] w fun e w' => e = .returned (.tuple #[.int .u64 r, .int .i64 p]) ∧ Below w.heap.size w w' := by
  have HRR := Lib.hid hr
  clear hr
  have HG := Lib.hid (fun W => fget_c 11 2 (by omega) (by omega) (by omega) x hx W)
  have HP := Lib.hid (fun W => fprv_c (cutS x 11 2) h03.1 h03.2 W)
  rw [hp] at HP
  have hpm : (p != 3) = true := by simpa using hm
  have hy : W64 (putS x 3 1 (cutS x 7 1)) := putS_range _ _ _ _
  have hz : W64 (putS (putS x 3 1 (cutS x 7 1)) 7 1 1) := putS_range _ _ _ _
  have hu : W64 (putS (putS (putS x 3 1 (cutS x 7 1)) 7 1 1) 11 2 0) := putS_range _ _ _ _
  clear hp h03 hm
  go_enter Tryd.func38, Tryd.ntmps38
  go_wp2_with fail
  refine (fstk3_c _).mono ?_
  rintro e w1 ⟨rfl, hb⟩
  have HB := Lib.hid hb
  clear hb
  go_wp2_with fail
  have hS := SkS.new HB.out skM
  obtain ⟨s0, s1, s2, s3, s4, s5⟩ := hS.cells
  generalize w1.alloc (.cells skM SkT) = w2 at *
  generalize w1.heap.size = b at *
  have HS := Lib.hid hS
  clear hS
  go_wp2_with fail
  refine (HG.out _).mono ?_
  rintro e w3 ⟨rfl, hb⟩
  replace HS := Lib.hid (HS.out.low hb)
  clear hb s0 s1 s2 s3 s4 s5
  go_wp2_with fail
  refine (HP.out _).mono ?_
  rintro e w4 ⟨rfl, rfl⟩
  go_upto_region 5 with fail
  refine wp_region_steady (fun W => SkS w W b skM) (by kernel_rfl) (by kernel_rfl) HS.out.drew ?_
  refine steady_val ?_ ?_ (by kernel_rfl) (fun W hS => ?_) ?_ ?_
  rotate_left 2
  · go_simp
    exact rfl
  · go_simp
    exact rfl
  refine steady_val ?_ ?_ (by kernel_rfl) (fun W hS => ?_) ?_ ?_
  rotate_left 2
  · (obtain ⟨s0, s1, s2, s3, s4, s5⟩ := hS.cells); go_simp
    exact rfl
  · go_simp
    exact rfl
  iterate 2
    refine steady_val ?_ ?_ (by kernel_rfl) (fun W hS => ?_) ?_ ?_
    rotate_left 2
    · go_simp
      exact rfl
    · go_simp
      exact rfl
  refine steady_val ?_ ?_ (by kernel_rfl) (fun W hS => ?_) ?_ ?_
  rotate_left 2
  · (obtain ⟨s0, s1, s2, s3, s4, s5⟩ := hS.cells); go_simp
    exact rfl
  · go_simp
    exact rfl
  refine steady_val ?_ ?_ (by kernel_rfl) (fun W hS => ?_) ?_ ?_
  rotate_left 2
  · go_simp
    exact rfl
  · go_simp
    exact rfl
  refine steady_enter (.int .u64 (cutS x 7 1)) 50 #[fV 7 1, .int .u64 x] ?_ (by kernel_rfl) (fun W hS => ?_) (fun W hS => (fget_c 7 1 (by omega) (by omega) (by omega) x hx W).mono (by rintro e w' ⟨rfl, hb⟩; exact ⟨rfl, hS.low hb⟩)) ?_ ?_
  rotate_left 1
  · go_simp
  · go_simp
    exact rfl
  refine steady_enter (.int .u64 (putS x 3 1 (cutS x 7 1))) 57 #[fV 3 1, .int .u64 x, .int .u64 (cutS x 7 1)] ?_ (by kernel_rfl) (fun W hS => ?_) (fun W hS => (fput_c 3 1 (by omega) (by omega) (by omega) x _ hx (cutS_range _ _ _) W).mono (by rintro e w' ⟨rfl, hb⟩; exact ⟨rfl, hS.low hb⟩)) ?_ ?_
  rotate_left 1
  · go_simp
  · go_simp
    exact rfl
  refine steady_val ?_ ?_ (by kernel_rfl) (fun W hS => ?_) ?_ ?_
  rotate_left 2
  · go_simp
    exact rfl
  · go_simp
    exact rfl
  refine steady_nil ?_
  intro W hS
  have HS5 := Lib.hid hS
  obtain ⟨s0, s1, s2, s3, s4, s5⟩ := hS.cells
  clear hS HS
  generalize putS x 3 1 (cutS x 7 1) = y at *
  go_wp2_with fail
  refine (fput_c 7 1 (by omega) (by omega) (by omega) y 1 hy (by decide) _).mono ?_
  rintro e w4 ⟨rfl, hb⟩
  have HS6 := Lib.hid (HS5.out.low hb)
  clear hb s0 s1 s2 s3 s4 s5
  obtain ⟨s0, s1, s2, s3, s4, s5⟩ := HS6.out.cells
  generalize putS y 7 1 1 = z at *
  go_wp2_with fail
  refine (fput_c 11 2 (by omega) (by omega) (by omega) z 0 hz (by decide) _).mono ?_
  rintro e w5 ⟨rfl, hb⟩
  have HS7 := Lib.hid (HS6.out.low hb)
  clear hb
  generalize putS z 11 2 0 = u at *
  go_wp2_with fail
  refine (fbit_c 17 _).mono ?_
  rintro e w6 ⟨rfl, hb⟩
  have HS8 := Lib.hid (HS7.out.low hb)
  clear hb
  go_wp2_with fail
  refine (fput_c 17 1 (by omega) (by omega) (by omega) u 0 hu (by decide) _).mono ?_
  rintro e w7 ⟨rfl, hb⟩
  have HS9 := Lib.hid (HS8.out.low hb)
  clear hb
  go_wp2_with fail
  go_ret2
  exact ⟨by rw [← HRR.out]; rfl, HS9.out.bel⟩
set_option maxHeartbeats 4000000 in
set_option maxRecDepth 100000 in
theorem leave3y_c (x p r : Int) (hr : putS (putS (putS x 3 1 (cutS x 7 1)) 7 1 1) 11 2 0 = r) (hx : W64 x) (hp : prvS (cutS x 11 2) = p) (h03 : 0 ≤ cutS x 11 2 ∧ cutS x 11 2 ≤ 3) (hm : p = 3) (w : World) : Calls Tryd.prog 38 #[.int .u64 x, .int .i64 3] w fun e w' => e = .returned (.tuple #[.int .u64 r, .int .i64 p]) ∧ Below w.heap.size w w' := by
  have HRR := Lib.hid hr
  clear hr
  have HG := Lib.hid (fun W => fget_c 11 2 (by omega) (by omega) (by omega) x hx W)
  have HP := Lib.hid (fun W => fprv_c (cutS x 11 2) h03.1 h03.2 W)
  rw [hp] at HP
  have hpm : (p != 3) = false := by simpa using hm
  have hy : W64 (putS x 3 1 (cutS x 7 1)) := putS_range _ _ _ _
  have hz : W64 (putS (putS x 3 1 (cutS x 7 1)) 7 1 1) := putS_range _ _ _ _
  have hu : W64 (putS (putS (putS x 3 1 (cutS x 7 1)) 7 1 1) 11 2 0) := putS_range _ _ _ _
  clear hp h03 hm
  go_enter Tryd.func38, Tryd.ntmps38
  go_wp2_with fail
  refine (fstk3_c _).mono ?_
  rintro e w1 ⟨rfl, hb⟩
  have HB := Lib.hid hb
  clear hb
  go_wp2_with fail
  have hS := SkS.new HB.out skM
  obtain ⟨s0, s1, s2, s3, s4, s5⟩ := hS.cells
  generalize w1.alloc (.cells skM SkT) = w2 at *
  generalize w1.heap.size = b at *
  have HS := Lib.hid hS
  clear hS
  go_wp2_with fail
  refine (HG.out _).mono ?_
  rintro e w3 ⟨rfl, hb⟩
  replace HS := Lib.hid (HS.out.low hb)
  clear hb s0 s1 s2 s3 s4 s5
  go_wp2_with fail
  refine (HP.out _).mono ?_
  rintro e w4 ⟨rfl, rfl⟩
  go_upto_region 5 with fail
  refine wp_region_steady (fun W => SkS w W b skM) (by kernel_rfl) (by kernel_rfl) HS.out.drew ?_
  refine steady_val ?_ ?_ (by kernel_rfl) (fun W hS => ?_) ?_ ?_
  rotate_left 2
  · go_simp
    exact rfl
  · go_simp
    exact rfl
  refine steady_val ?_ ?_ (by kernel_rfl) (fun W hS => ?_) ?_ ?_
  rotate_left 2
  · (obtain ⟨s0, s1, s2, s3, s4, s5⟩ := hS.cells); go_simp
    exact rfl
  · go_simp
    exact rfl
  iterate 2
    refine steady_val ?_ ?_ (by kernel_rfl) (fun W hS => ?_) ?_ ?_
    rotate_left 2
    · go_simp
      exact rfl
    · go_simp
      exact rfl
  refine steady_val ?_ ?_ (by kernel_rfl) (fun W hS => ?_) ?_ ?_
  rotate_left 2
  · (obtain ⟨s0, s1, s2, s3, s4, s5⟩ := hS.cells); go_simp
    exact rfl
  · go_simp
    exact rfl
  refine steady_val ?_ ?_ (by kernel_rfl) (fun W hS => ?_) ?_ ?_
  rotate_left 2
  · go_simp
    exact rfl
  · go_simp
    exact rfl
  refine steady_enter (.int .u64 (cutS x 7 1)) 50 #[fV 7 1, .int .u64 x] ?_ (by kernel_rfl) (fun W hS => ?_) (fun W hS => (fget_c 7 1 (by omega) (by omega) (by omega) x hx W).mono (by rintro e w' ⟨rfl, hb⟩; exact ⟨rfl, hS.low hb⟩)) ?_ ?_
  rotate_left 1
  · go_simp
  · go_simp
    exact rfl
  refine steady_enter (.int .u64 (putS x 3 1 (cutS x 7 1))) 57 #[fV 3 1, .int .u64 x, .int .u64 (cutS x 7 1)] ?_ (by kernel_rfl) (fun W hS => ?_) (fun W hS => (fput_c 3 1 (by omega) (by omega) (by omega) x _ hx (cutS_range _ _ _) W).mono (by rintro e w' ⟨rfl, hb⟩; exact ⟨rfl, hS.low hb⟩)) ?_ ?_
  rotate_left 1
  · go_simp
  · go_simp
    exact rfl
  refine steady_val ?_ ?_ (by kernel_rfl) (fun W hS => ?_) ?_ ?_
  rotate_left 2
  · go_simp
    exact rfl
  · go_simp
    exact rfl
  refine steady_nil ?_
  intro W hS
  have HS5 := Lib.hid hS
  obtain ⟨s0, s1, s2, s3, s4, s5⟩ := hS.cells
  clear hS HS
  generalize putS x 3 1 (cutS x 7 1) = y at *
  go_wp2_with fail
  refine (fput_c 7 1 (by omega) (by omega) (by omega) y 1 hy (by decide) _).mono ?_
  rintro e w4 ⟨rfl, hb⟩
  have HS6 := Lib.hid (HS5.out.low hb)
  clear hb s0 s1 s2 s3 s4 s5
  obtain ⟨s0, s1, s2, s3, s4, s5⟩ := HS6.out.cells
  generalize putS y 7 1 1 = z at *
  go_wp2_with fail
  refine (fput_c 11 2 (by omega) (by omega) (by omega) z 0 hz (by decide) _).mono ?_
  rintro e w5 ⟨rfl, hb⟩
  have HS7 := Lib.hid (HS6.out.low hb)
  clear hb
  generalize putS z 11 2 0 = u at *
  go_wp2_with fail
  go_ret2
  exact ⟨by rw [← HRR.out]; rfl, HS7.out.bel⟩
set_option maxHeartbeats 4000000 in
set_option maxRecDepth 100000 in
theorem leave1_c (x p r : Int) (hr : putS (putS (putS (putS x 1 1 (cutS x 5 1)) 5 1 1) 8 1 0) 17 1 0 = r) (hx : W64 x) (hp : prvS (cutS x 8 1) = p) (h03 : 0 ≤ cutS x 8 1 ∧ cutS x 8 1 ≤ 3) (hm : p ≠ 3) (w : World) : Calls Tryd.prog 38 #[.int .u64 x, .int .i64 1] w fun e w' => e = .returned (.tuple #[.int .u64 r, .int .i64 p]) ∧ Below w.heap.size w w' := by
  have HRR := Lib.hid hr
  clear hr
  have HG := Lib.hid (fun W => fget_c 8 1 (by omega) (by omega) (by omega) x hx W)
  have HP := Lib.hid (fun W => fprv_c (cutS x 8 1) h03.1 h03.2 W)
  rw [hp] at HP
  have hpm : (p != 3) = true := by simpa using hm
  have hy : W64 (putS x 1 1 (cutS x 5 1)) := putS_range _ _ _ _
  have hz : W64 (putS (putS x 1 1 (cutS x 5 1)) 5 1 1) := putS_range _ _ _ _
  have hu : W64 (putS (putS (putS x 1 1 (cutS x 5 1)) 5 1 1) 8 1 0) := putS_range _ _ _ _
  clear hp h03 hm
  go_enter Tryd.func38, Tryd.ntmps38
  go_wp2_with fail
  refine (fstk1_c _).mono ?_
  rintro e w1 ⟨rfl, hb⟩
  have HB := Lib.hid hb
  clear hb
  go_wp2_with fail
  have hS := SkS.new HB.out skU
  obtain ⟨s0, s1, s2, s3, s4, s5⟩ := hS.cells
  generalize w1.alloc (.cells skU SkT) = w2 at *
  generalize w1.heap.size = b at *
  have HS := Lib.hid hS
  clear hS
  go_wp2_with fail
  refine (HG.out _).mono ?_
  rintro e w3 ⟨rfl, hb⟩
  replace HS := Lib.hid (HS.out.low hb)
  clear hb s0 s1 s2 s3 s4 s5
  go_wp2_with fail
  refine (HP.out _).mono ?_
  rintro e w4 ⟨rfl, rfl⟩
  go_upto_region 5 with fail
  refine wp_region_steady (fun W => SkS w W b skU) (by kernel_rfl) (by kernel_rfl) HS.out.drew ?_
  refine steady_val ?_ ?_ (by kernel_rfl) (fun W hS => ?_) ?_ ?_
  rotate_left 2
  · go_simp
    exact rfl
  · go_simp
    exact rfl
  refine steady_val ?_ ?_ (by kernel_rfl) (fun W hS => ?_) ?_ ?_
  rotate_left 2
  · (obtain ⟨s0, s1, s2, s3, s4, s5⟩ := hS.cells); go_simp
    exact rfl
  · go_simp
    exact rfl
  iterate 2
    refine steady_val ?_ ?_ (by kernel_rfl) (fun W hS => ?_) ?_ ?_
    rotate_left 2
    · go_simp
      exact rfl
    · go_simp
      exact rfl
  refine steady_val ?_ ?_ (by kernel_rfl) (fun W hS => ?_) ?_ ?_
  rotate_left 2
  · (obtain ⟨s0, s1, s2, s3, s4, s5⟩ := hS.cells); go_simp
    exact rfl
  · go_simp
    exact rfl
  refine steady_val ?_ ?_ (by kernel_rfl) (fun W hS => ?_) ?_ ?_
  rotate_left 2
  · go_simp
    exact rfl
  · go_simp
    exact rfl
  refine steady_enter (.int .u64 (cutS x 5 1)) 50 #[fV 5 1, .int .u64 x] ?_ (by kernel_rfl) (fun W hS => ?_) (fun W hS => (fget_c 5 1 (by omega) (by omega) (by omega) x hx W).mono (by rintro e w' ⟨rfl, hb⟩; exact ⟨rfl, hS.low hb⟩)) ?_ ?_
  rotate_left 1
  · go_simp
  · go_simp
    exact rfl
  refine steady_enter (.int .u64 (putS x 1 1 (cutS x 5 1))) 57 #[fV 1 1, .int .u64 x, .int .u64 (cutS x 5 1)] ?_ (by kernel_rfl) (fun W hS => ?_) (fun W hS => (fput_c 1 1 (by omega) (by omega) (by omega) x _ hx (cutS_range _ _ _) W).mono (by rintro e w' ⟨rfl, hb⟩; exact ⟨rfl, hS.low hb⟩)) ?_ ?_
  rotate_left 1
  · go_simp
  · go_simp
    exact rfl
  refine steady_val ?_ ?_ (by kernel_rfl) (fun W hS => ?_) ?_ ?_
  rotate_left 2
  · go_simp
    exact rfl
  · go_simp
    exact rfl
  refine steady_nil ?_
  intro W hS
  have HS5 := Lib.hid hS
  obtain ⟨s0, s1, s2, s3, s4, s5⟩ := hS.cells
  clear hS HS
  generalize putS x 1 1 (cutS x 5 1) = y at *
  go_wp2_with fail
  refine (fput_c 5 1 (by omega) (by omega) (by omega) y 1 hy (by decide) _).mono ?_
  rintro e w4 ⟨rfl, hb⟩
  have HS6 := Lib.hid (HS5.out.low hb)
  clear hb s0 s1 s2 s3 s4 s5
  obtain ⟨s0, s1, s2, s3, s4, s5⟩ := HS6.out.cells
  generalize putS y 5 1 1 = z at *
  go_wp2_with fail
  refine (fput_c 8 1 (by omega) (by omega) (by omega) z 0 hz (by decide) _).mono ?_
  rintro e w5 ⟨rfl, hb⟩
  have HS7 := Lib.hid (HS6.out.low hb)
  clear hb
  generalize putS z 8 1 0 = u at *
  go_wp2_with fail
  refine (fbit_c 17 _).mono ?_
  rintro e w6 ⟨rfl, hb⟩
  have HS8 := Lib.hid (HS7.out.low hb)
  clear hb
  go_wp2_with fail
  refine (fput_c 17 1 (by omega) (by omega) (by omega) u 0 hu (by decide) _).mono ?_
  rintro e w7 ⟨rfl, hb⟩
  have HS9 := Lib.hid (HS8.out.low hb)
  clear hb
  go_wp2_with fail
  go_ret2
  exact ⟨by rw [← HRR.out]; rfl, HS9.out.bel⟩
theorem leave_c (x dst : Int) (hx : W64 x) (w : World) : Calls Tryd.prog 38 #[.int .u64 x, .int .i64 dst] w fun e w' => e = .returned (.tuple #[.int .u64 (leaveV x dst), .int .i64 (leaveP x dst)]) ∧ Below w.heap.size w w' := by
  unfold leaveV leaveP
  by_cases h3 : dst = 3
  · subst h3
    rw [if_pos rfl, if_pos rfl]
    have h4 := cut2_lt x
    have h5 := cutS_range x 11 2
    unfold leaveM
    by_cases hm : mppS x = 3
    · rw [if_pos hm]
      exact leave3y_c x _ _ rfl hx rfl (by omega) hm w
    · rw [if_neg hm]
      exact leave3n_c x _ _ rfl hx rfl (by omega) hm w
  · by_cases h1 : dst = 1
    · subst h1
      rw [if_neg h3, if_pos rfl, if_neg h3, if_pos rfl]
      have h5 := cut1_lt x (k := 8) (by omega)
      have h6 : cutS x ((8 : Nat) : Int) 1 = cutS x 8 1 := rfl
      rw [h6] at h5
      exact leave1_c x _ _ rfl hx (prv_cut8 x) (by omega) (by omega) w
    · rw [if_neg h3, if_neg h1, if_neg h3, if_neg h1]
      exact leave0_c x dst h3 h1 w
end Go.Proofs.YtkknfhbaldeigaaDoor
