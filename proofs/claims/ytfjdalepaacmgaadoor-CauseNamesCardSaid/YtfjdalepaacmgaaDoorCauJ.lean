/-
  CauseNames walked.
-/
import Derived.Test.YtfjdalepaacmgaaDoorCauF
set_option maxRecDepth 20000
namespace Go.Proofs.YtfjdalepaacmgaaDoor
open Go.ChangeShapes Go.WideShapes Go.ChangeAt Go.RowKit Wd Cau

/-- What stands while CauseNames compares. -/
structure NmS (w W : World) (b : Bool) (n : Int) : Prop where
  c : CsAt W w.heap.size CaT #[.bool b, .int .i64 n]
  x : CsAt W (w.heap.size + 1) RcT #[.bool b, .int .i64 n]
  k : CausesIn W
  o : OrderIn W
  gk : 1 < w.heap.size
  go : 0 < w.heap.size
  bel : Below w.heap.size w W
section
variable {w W W' : World} {b : Bool} {n : Int}
theorem NmS.low (h : NmS w W b n) (hb : Below W.heap.size W W') : NmS w W' b n := ⟨h.c.low hb, h.x.low hb, h.k.low hb, h.o.low hb, h.gk, h.go, h.bel.trans (hb.mono h.bel.size)⟩
theorem NmS.drew (h : NmS w W b n) : NmS w W.drew b n := ⟨h.c, h.x, h.k, h.o, h.gk, h.go, h.bel.drew⟩
theorem NmS.c0 (h : NmS w W b n) : W.cell? ⟨w.heap.size, 0, none⟩ = some (.bool b) := h.c.cell 0
theorem NmS.c1 (h : NmS w W b n) : W.cell? ⟨w.heap.size, 1, none⟩ = some (.int .i64 n) := h.c.cell 1
theorem NmS.x0 (h : NmS w W b n) : W.cell? ⟨w.heap.size + 1, 0, none⟩ = some (.bool b) := h.x.cell 0
theorem NmS.x1 (h : NmS w W b n) : W.cell? ⟨w.heap.size + 1, 1, none⟩ = some (.int .i64 n) := h.x.cell 1
end
theorem NmS.new (w : World) (hK : CausesIn w) (hO : OrderIn w) (b : Bool) (n : Int) : NmS w ((w.alloc (.cells #[.bool b, .int .i64 n] CaT)).alloc (.cells #[.bool b, .int .i64 n] RcT)) b n := by
  have hB : Below w.heap.size w ((w.alloc (.cells #[.bool b, .int .i64 n] CaT)).alloc (.cells #[.bool b, .int .i64 n] RcT)) := ((Below.refl _ _).alloc (Nat.le_refl _) _).alloc (by simp) _
  refine ⟨(CsAt.new w CaT _).alloc _, ?_, hK.low hB, hO.low hB, hK.1, hO.1, hB⟩
  have := CsAt.new (w.alloc (.cells #[.bool b, .int .i64 n] CaT)) RcT #[.bool b, .int .i64 n]
  simpa using this
theorem ne_self (b : Bool) {n : Int} (hn : I64 n) (W : World) : (binOp .neq RcT (.agg #[.bool b, .int .i64 n]) (.agg #[.bool b, .int .i64 n])).run Tryd.prog W = .ok (.bool false) W := by
  rw [neq_rc b b hn hn W]; simp
theorem eq_selfR (b : Bool) {n : Int} (hn : I64 n) (W : World) : (binOp .eql RcT (.agg #[.bool b, .int .i64 n]) (.agg #[.bool b, .int .i64 n])).run Tryd.prog W = .ok (.bool true) W := by
  rw [eql_rc b b hn hn W]; simp
theorem info_ca : (Tryd.prog.info? CaT).map (·.size) = some 2 := by kernel_rfl
theorem info_rc : (Tryd.prog.info? RcT).map (·.size) = some 2 := by kernel_rfl
theorem NmS.store {w W : World} {b : Bool} {n : Int} (h : NmS w W b n) {g : Nat} (cs : Array Value) (hg : w.heap.size + 1 < g) : NmS w (W.setRow g cs) b n := by
  have hB : Below (w.heap.size + 2) W (W.setRow g cs) := below_setRow (Below.refl _ _) (by omega) cs
  have gk := h.gk
  have go := h.go
  exact ⟨h.c.on hB (by omega), h.x.on hB (by omega), ⟨Nat.lt_of_lt_of_le h.k.1 hB.size, fun k hk => by
    obtain ⟨a, b, c⟩ := h.k.2 k hk
    exact ⟨(hB.cell (p := ⟨1, k * 3, none⟩) (by simp only; omega)).trans a, (hB.cell (p := ⟨1, k * 3 + 1, none⟩) (by simp only; omega)).trans b, (hB.cell (p := ⟨1, k * 3 + 2, none⟩) (by simp only; omega)).trans c⟩⟩,
    ⟨Nat.lt_of_lt_of_le h.o.1 hB.size, fun k hk => (hB.cell (p := ⟨0, k, none⟩) (by simp only; omega)).trans (h.o.2 k hk)⟩, h.gk, h.go, below_setRow h.bel (by omega) cs⟩
theorem kCV_parts (p : RowK → Bool) : ∃ (b : Bool) (n : Int) (k : Bool), kCV (fstK p) = .tuple #[.agg #[.bool b, .int .i64 n], .bool k] ∧ I64 n := by
  refine ⟨_, _, _, rfl, ?_⟩
  rcases kfst_cases p with e | ⟨k, hk, e, -⟩
  · rw [e]; exact ⟨by decide, by decide⟩
  · rw [e]; exact code_i64 k hk
theorem known_nm (p : RowK → Bool) : ((kB ((fstK p).getD noK).2.2).toList == []) = !(fstK p).isSome := by
  rw [known_named p]
  unfold kB
  simp
set_option maxHeartbeats 8000000 in
theorem cnames_walk (b : Bool) (n x : Int) (s : ByteArray) (hn : -9223372036854775808 ≤ n ∧ n ≤ 9223372036854775807) (_hx : 0 ≤ x ∧ x ≤ 18446744073709551615) (_hs : s.size ≤ maxLen) (w : World) (hKO : CausesIn w ∧ OrderIn w) :
    Calls Tryd.prog 3 #[.agg #[.bool b, .int .i64 n], .int .u64 x, .string s] w fun e w' => e = .returned (.bool true) ∧ Below w.heap.size w w' := by
  have HL := Lib.hid (fun W h => live21_c W h)
  by_cases hl : 50 < s.size
  · have el : decide (50 < (s.size : Int)) = true := by simp; omega
    unfold maxLen at _hs
    have HO := Lib.hid hKO.2
    have HB := Lib.hid ((Below.refl w.heap.size w).alloc (Nat.le_refl _) (.cells #[.bool b, .int .i64 n] CaT))
    clear hKO hn _hx
    go_enter Tryd.func3, Tryd.ntmps3
    go_wp2_with fail
    refine (HL.out _ (HO.out.low HB.out)).mono ?_
    rintro e w1 ⟨rfl, hb⟩
    have HB1 := Lib.hid (HB.out.trans (hb.mono HB.out.size))
    clear hb
    go_wp2_with fail
    go_ret
    exact ⟨rfl, HB1.out⟩
  · have el : decide (50 < (s.size : Int)) = false := by simp; omega
    have hI : I64 n := hn
    have HS := Lib.hid (NmS.new w hKO.1 hKO.2 b n)
    have HN1 := Lib.hid (fun W h => kname_c b n hI W h)
    have HN2 := Lib.hid (fun W => krname_c b n hI W)
    have HK1 := Lib.hid (fun W h => kknown_c b n hI W h)
    have HW1 := Lib.hid (fun W => kword_c b n W)
    have HW2 := Lib.hid (fun W => krword_c b n W)
    have HF1 := Lib.hid (fun W h => kfindn_c s W h)
    have HF2 := Lib.hid (fun W => krfind_c s W)
    have HO1 := Lib.hid (fun W h => kof_c x W h)
    have HO2 := Lib.hid (fun W => krof_c x W)
    obtain ⟨b1, n1, k1, hv1, hi1⟩ := kCV_parts (isNamK s)
    obtain ⟨b2, n2, k2, hv2, hi2⟩ := kCV_parts (isWrd x)
    rw [hv1] at HF1 HF2
    rw [hv2] at HO1 HO2
    have HE1 := Lib.hid (fun W => ne_self b1 hi1 W)
    have HE2 := Lib.hid (fun W => eq_selfR b2 hi2 W)
    have hkn := known_nm (isC b n)
    clear hKO hn _hx _hs hl hv1 hv2 hi1 hi2 hI
    generalize wordK b n = z at *
    generalize (fstK (isC b n)).isSome = k at *
    generalize kB ((fstK (isC b n)).getD noK).2.2 = nm at *
    have q1 : (k == k) = true := by simp
    have q2 : (nm.toList == nm.toList) = true := by simp
    have q3 : (z == z) = true := by simp
    have q4 : (k1 == k1) = true := by simp
    have q5 : (k2 == k2) = true := by simp
    go_enter Tryd.func3, Tryd.ntmps3
    go_upto_region 4 with fail
    generalize ((w.alloc (.cells #[.bool b, .int .i64 n] CaT)).alloc (.cells #[.bool b, .int .i64 n] RcT)) = w1 at *
    refine wp_region_steady (fun W => NmS w W b n) (by kernel_rfl) (by kernel_rfl) HS.out.drew ?_
    refine steady_val ?_ ?_ (by kernel_rfl) (fun W hS => ?_) ?_ ?_
    rotate_left 2
    · have q0 := hS.c0; have q1 := hS.c1; go_simp
      exact rfl
    · go_simp
      exact rfl
    refine steady_enter (.string nm) 10 #[.agg #[.bool b, .int .i64 n]] ?_ (by kernel_rfl) (fun W hS => ?_) (fun W hS => (HN1.out W hS.k).mono (by rintro e w' ⟨rfl, hb⟩; exact ⟨rfl, hS.low hb⟩)) ?_ ?_
    rotate_left 1
    · go_simp
    · go_simp
      exact rfl
    refine steady_val ?_ ?_ (by kernel_rfl) (fun W hS => ?_) ?_ ?_
    rotate_left 2
    · have q0 := hS.x0; have q1 := hS.x1; go_simp
      exact rfl
    · go_simp
      exact rfl
    refine steady_enter (.string nm) 11 #[.agg #[.bool b, .int .i64 n]] ?_ (by kernel_rfl) (fun W hS => ?_) (fun W hS => (HN2.out W).mono (by rintro e w' ⟨rfl, hb⟩; exact ⟨rfl, hS.low hb⟩)) ?_ ?_
    rotate_left 1
    · go_simp
    · go_simp
      exact rfl
    iterate 2
      refine steady_val ?_ ?_ (by kernel_rfl) (fun W hS => ?_) ?_ ?_
      rotate_left 2
      · go_simp
        exact rfl
      · go_simp
        exact rfl
    refine steady_val ?_ ?_ (by kernel_rfl) (fun W hS => ?_) ?_ ?_
    rotate_left 2
    · have q0 := hS.c0; have q1 := hS.c1; go_simp
      exact rfl
    · go_simp
      exact rfl
    refine steady_enter (.bool k) 12 #[.agg #[.bool b, .int .i64 n]] ?_ (by kernel_rfl) (fun W hS => ?_) (fun W hS => (HK1.out W hS.k).mono (by rintro e w' ⟨rfl, hb⟩; exact ⟨rfl, hS.low hb⟩)) ?_ ?_
    rotate_left 1
    · go_simp
    · go_simp
      exact rfl
    refine steady_val ?_ ?_ (by kernel_rfl) (fun W hS => ?_) ?_ ?_
    rotate_left 2
    · have q0 := hS.x0; have q1 := hS.x1; go_simp
      exact rfl
    · go_simp
      exact rfl
    refine steady_enter (.string nm) 11 #[.agg #[.bool b, .int .i64 n]] ?_ (by kernel_rfl) (fun W hS => ?_) (fun W hS => (HN2.out W).mono (by rintro e w' ⟨rfl, hb⟩; exact ⟨rfl, hS.low hb⟩)) ?_ ?_
    rotate_left 1
    · go_simp
    · go_simp
      exact rfl
    iterate 4
      refine steady_val ?_ ?_ (by kernel_rfl) (fun W hS => ?_) ?_ ?_
      rotate_left 2
      · go_simp
        exact rfl
      · go_simp
        exact rfl
    refine steady_val ?_ ?_ (by kernel_rfl) (fun W hS => ?_) ?_ ?_
    rotate_left 2
    · have q0 := hS.c0; have q1 := hS.c1; go_simp
      exact rfl
    · go_simp
      exact rfl
    refine steady_enter (.int .u64 z) 13 #[.agg #[.bool b, .int .i64 n]] ?_ (by kernel_rfl) (fun W hS => ?_) (fun W hS => (HW1.out W).mono (by rintro e w' ⟨rfl, hb⟩; exact ⟨rfl, hS.low hb⟩)) ?_ ?_
    rotate_left 1
    · go_simp
    · go_simp
      exact rfl
    refine steady_val ?_ ?_ (by kernel_rfl) (fun W hS => ?_) ?_ ?_
    rotate_left 2
    · have q0 := hS.x0; have q1 := hS.x1; go_simp
      exact rfl
    · go_simp
      exact rfl
    refine steady_enter (.int .u64 z) 14 #[.agg #[.bool b, .int .i64 n]] ?_ (by kernel_rfl) (fun W hS => ?_) (fun W hS => (HW2.out W).mono (by rintro e w' ⟨rfl, hb⟩; exact ⟨rfl, hS.low hb⟩)) ?_ ?_
    rotate_left 1
    · go_simp
    · go_simp
      exact rfl
    iterate 2
      refine steady_val ?_ ?_ (by kernel_rfl) (fun W hS => ?_) ?_ ?_
      rotate_left 2
      · go_simp
        exact rfl
      · go_simp
        exact rfl
    refine steady_nil ?_
    intro W hS
    have HS := Lib.hid hS
    clear hS
    go_wp2_with fail
    refine (HF1.out _ HS.out.k).mono ?_
    rintro e w2 ⟨rfl, hb⟩
    have HS2 := Lib.hid (HS.out.low hb)
    clear hb HS
    go_upto_region 7 with fail
    have a3 := CsAt.new w2 CaT #[.bool b1, .int .i64 n1]
    have HS3 := Lib.hid (HS2.out.low ((Below.refl w2.heap.size w2).alloc (Nat.le_refl _) (.cells #[.bool b1, .int .i64 n1] CaT)))
    generalize (w2.alloc (.cells #[.bool b1, .int .i64 n1] CaT)) = w3 at *
    have A3 := Lib.hid a3
    clear a3
    have HG0 := Lib.hid HS2.out.x.lt
    have h23 : w2.heap.size < w3.heap.size := A3.out.lt
    clear HS2
    go_wp2_with fail
    refine (HF2.out _).mono ?_
    rintro e w4 ⟨rfl, hb⟩
    have HS4 := Lib.hid (HS3.out.low hb)
    have A4 := Lib.hid (A3.out.low hb)
    have HG := Lib.hid (show w2.heap.size < w4.heap.size from Nat.lt_of_lt_of_le h23 hb.size)
    clear hb HS3 A3 h23
    go_upto_region 8 with fail
    have a5 := A4.out.alloc (.cells #[.bool b1, .int .i64 n1] RcT)
    have b5 := CsAt.new w4 RcT #[.bool b1, .int .i64 n1]
    have HS5 := Lib.hid (HS4.out.low ((Below.refl w4.heap.size w4).alloc (Nat.le_refl _) (.cells #[.bool b1, .int .i64 n1] RcT)))
    generalize (w4.alloc (.cells #[.bool b1, .int .i64 n1] RcT)) = w5 at *
    have z0 := a5.cell 0
    have z1 := a5.cell 1
    have x0 := b5.cell 0
    have x1 := b5.cell 1
    simp only [List.getElem?_toArray, List.getElem?_cons_zero, List.getElem?_cons_succ] at z0 z1 x0 x1
    have A5 := Lib.hid a5
    have B5 := Lib.hid b5
    clear a5 b5 HS4 A4
    go_upto_region 10 with (refine wpList_cmp rfl .neq RcT _ _ _ rfl #[.bool b1, .int .i64 n1] #[.bool b1, .int .i64 n1] rfl rfl guard_rc _ (HE1.out _) ?_)
    clear z0 z1 x0 x1
    go_wp2_with fail
    refine (HO1.out _ HS5.out.k).mono ?_
    rintro e w6 ⟨rfl, hb⟩
    have HS6 := Lib.hid (HS5.out.low hb)
    have a6 := A5.out.low hb
    have B6 := Lib.hid (B5.out.low hb)
    clear hb
    go_upto_region 11 with (refine wpList_store_row rfl CaT _ _ rfl w2.heap.size #[.bool b2, .int .i64 n2] rfl rfl CaT #[.bool b1, .int .i64 n1] a6 info_ca rfl (by kernel_rfl) ?_)
    have hne : w4.heap.size ≠ w2.heap.size := by have := HG.out; omega
    have A7 := Lib.hid (a6.row #[.bool b2, .int .i64 n2])
    have B7 := Lib.hid (B6.out.rowFar hne #[.bool b2, .int .i64 n2])
    have HS7 := Lib.hid (HS6.out.store (g := w2.heap.size) #[.bool b2, .int .i64 n2] (by have := HG0.out; omega))
    generalize w6.setRow w2.heap.size #[.bool b2, .int .i64 n2] = w7 at *
    clear a6 A5 B5 B6 HS5 HS6
    go_wp2_with fail
    refine (HO2.out _).mono ?_
    rintro e w8 ⟨rfl, hb⟩
    have HS8 := Lib.hid (HS7.out.low hb)
    have A8 := Lib.hid (A7.out.low hb)
    have b8 := B7.out.low hb
    clear hb
    go_upto_region 12 with (refine wpList_store_row rfl RcT _ _ rfl w4.heap.size #[.bool b2, .int .i64 n2] rfl rfl RcT #[.bool b1, .int .i64 n1] b8 info_rc rfl (by kernel_rfl) ?_)
    have A9 := Lib.hid (A8.out.rowFar (Ne.symm hne) #[.bool b2, .int .i64 n2])
    have B9 := Lib.hid (b8.row #[.bool b2, .int .i64 n2])
    have HS9 := Lib.hid (HS8.out.store (g := w4.heap.size) #[.bool b2, .int .i64 n2] (by have := HG0.out; have := HG.out; omega))
    generalize w8.setRow w4.heap.size #[.bool b2, .int .i64 n2] = w9 at *
    clear b8 A7 B7 HS7 A8 HS8
    have z0 := A9.out.cell 0
    have z1 := A9.out.cell 1
    have x0 := B9.out.cell 0
    have x1 := B9.out.cell 1
    simp only [List.getElem?_toArray, List.getElem?_cons_zero, List.getElem?_cons_succ] at z0 z1 x0 x1
    go_wp2_with (refine wpList_cmp rfl .eql RcT _ _ _ rfl #[.bool b2, .int .i64 n2] #[.bool b2, .int .i64 n2] rfl rfl guard_rc _ (HE2.out _) ?_)
    refine (HL.out _ HS9.out.o).mono ?_
    rintro e wa ⟨rfl, hb⟩
    have HSa := Lib.hid (HS9.out.low hb)
    clear hb
    go_wp2_with fail
    go_ret
    exact ⟨rfl, HSa.out.bel⟩
end Go.Proofs.YtfjdalepaacmgaaDoor
