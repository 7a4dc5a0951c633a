/-
  The laws PteLets and PteMarks walked.
-/
import Derived.Test.YtmieabafiijfjaaDoorPtL
set_option maxRecDepth 4000
namespace Go.Proofs.YtmieabafiijfjaaDoor
open Go.ChangeShapes Go.WideShapes Go.ChangeAt Go.RowKit Wd Csr Sta

/-- The boxes of two arguments and the table stand, and nothing that was there is changed. -/
structure B2S (w W : World) (t1 : TypeId) (c1 : Array Value) (t2 : TypeId) (c2 : Array Value) : Prop where
  x : W.heap[w.heap.size]? = some (.cells c1 t1 (0, 0))
  y : W.heap[w.heap.size + 1]? = some (.cells c2 t2 (0, 0))
  r : ReqIn W
  bel : Below w.heap.size w W
section
variable {w W W' : World} {t1 t2 : TypeId} {c1 c2 : Array Value}
theorem B2S.lt (h : B2S w W t1 c1 t2 c2) : w.heap.size + 1 < W.heap.size := (Array.getElem?_eq_some_iff.1 h.y).1
theorem B2S.low (h : B2S w W t1 c1 t2 c2) (hb : Below W.heap.size W W') : B2S w W' t1 c1 t2 c2 := ⟨(hb.block _ (Nat.lt_of_succ_lt h.lt)).trans h.x, (hb.block _ h.lt).trans h.y, h.r.low hb, h.bel.trans (hb.mono h.bel.size)⟩
theorem B2S.drew (h : B2S w W t1 c1 t2 c2) : B2S w W.drew t1 c1 t2 c2 := ⟨h.x, h.y, h.r, h.bel.drew⟩
theorem B2S.new (w : World) (hN : ReqIn w) (t1 : TypeId) (c1 : Array Value) (t2 : TypeId) (c2 : Array Value) : B2S w ((w.alloc (.cells c1 t1)).alloc (.cells c2 t2)) t1 c1 t2 c2 := by
  have b1 : Below w.heap.size w (w.alloc (.cells c1 t1)) := (Below.refl _ _).alloc (Nat.le_refl _) _
  have s1 : (w.alloc (.cells c1 t1)).heap.size = w.heap.size + 1 := by simp
  have b2 : Below (w.alloc (.cells c1 t1)).heap.size (w.alloc (.cells c1 t1)) ((w.alloc (.cells c1 t1)).alloc (.cells c2 t2)) := (Below.refl _ _).alloc (Nat.le_refl _) _
  refine ⟨?_, ?_, (hN.low b1).low b2, b1.trans (b2.mono b1.size)⟩
  · show ((w.heap.push _).push _)[w.heap.size]? = _
    rw [Array.getElem?_push_lt (by simp)]
    simp
  · show ((w.heap.push _).push _)[w.heap.size + 1]? = _
    rw [Array.getElem?_push, if_pos (by simp)]
theorem B2S.cx (h : B2S w W t1 c1 t2 c2) (i : Nat) : W.cell? ⟨w.heap.size, i, none⟩ = c1[i]? := cell_of_row W _ i _ t1 _ h.x
theorem B2S.cy (h : B2S w W t1 c1 t2 c2) (i : Nat) : W.cell? ⟨w.heap.size + 1, i, none⟩ = c2[i]? := cell_of_row W _ i _ t2 _ h.y
end
set_option maxRecDepth 100000 in
set_option maxHeartbeats 16000000 in
theorem plets_walk (p acc priv : Int) (sum mxr : Bool) (x y : Int) (hp0 : 0 ≤ p ∧ p ≤ 18446744073709551615) (_ha : -9223372036854775808 ≤ acc ∧ acc ≤ 9223372036854775807) (_hq : -9223372036854775808 ≤ priv ∧ priv ≤ 9223372036854775807) (hx0 : 0 ≤ x ∧ x ≤ 18446744073709551615) (hy0 : 0 ≤ y ∧ y ≤ 18446744073709551615) (w : World) (hN : ReqIn w) :
    Calls Tryd.prog 3 #[.int .u64 p, .agg #[.int .i64 acc, .int .i64 priv, .bool sum, .bool mxr], .agg #[.int .u64 x, .int .u64 y]] w fun e w' => e = .returned (.bool true) ∧ Below w.heap.size w w' := by
  have hp : W64 p := by unfold W64; omega
  have hy : W64 y := by unfold W64; omega
  have HS := Lib.hid (B2S.new w hN 24 #[.int .i64 acc, .int .i64 priv, .bool sum, .bool mxr] 25 #[.int .u64 x, .int .u64 y])
  have HM := Lib.hid (fun W => marked_c p acc hp W)
  have HRM := Lib.hid (fun W => rmarkS_c p acc hp W)
  have HE := Lib.hid (fun W h => lets_c p acc priv sum mxr hp W h)
  have HRE := Lib.hid (fun W => rletsE_c p acc priv sum mxr hp W)
  have HF := Lib.hid (fun W => frame_c p (wrap64 x) y hp hy W)
  have HRF := Lib.hid (fun W => rframeS_c p (wrap64 x) y hp hy W)
  have HL := Lib.hid (fun W => live25_c W)
  have hx1 := hx0.1
  have hx2 : x < 18446744073709551616 := by omega
  clear hp hy hp0 hy0 _ha _hq hN hx0
  generalize markS p acc = m at *
  generalize hmp : (m != p) = c at *
  generalize letsE p acc priv sum mxr = le at *
  generalize frameS p (wrap64 x) y = f at *
  have q1 := eqq m
  have q2 := eqq c
  have q3 := eqq le
  have q4 := eqq f
  go_enter Tryd.func3, Tryd.ntmps3
  go_upto_region 1 with fail
  generalize (w.alloc (.cells #[.int .i64 acc, .int .i64 priv, .bool sum, .bool mxr] 24)).alloc (.cells #[.int .u64 x, .int .u64 y] 25) = w1 at *
  have z0 : w1.cell? ⟨w.heap.size + 1, 0, none⟩ = some (.int .u64 x) := HS.out.cy 0
  have y0 : w1.cell? ⟨w.heap.size, 0, none⟩ = some (.int .i64 acc) := HS.out.cx 0
  go_wp2_with fail
  refine (HM.out _).mono ?_
  rintro e w2 ⟨rfl, rfl⟩
  go_wp2_with fail
  refine (HRM.out _).mono ?_
  rintro e w2 ⟨rfl, hb⟩
  replace HS := Lib.hid (HS.out.low hb)
  clear hb
  clear z0 y0
  go_upto_region 6 with fail
  refine wp_region_steady (fun W => B2S w W 24 #[.int .i64 acc, .int .i64 priv, .bool sum, .bool mxr] 25 #[.int .u64 x, .int .u64 y]) (by kernel_rfl) (by kernel_rfl) HS.out.drew ?_
  refine steady_val ?_ ?_ (by kernel_rfl) (fun W hS => ?_) ?_ ?_
  rotate_left 2
  · go_simp
    exact rfl
  · go_simp
    exact rfl
  refine steady_val ?_ ?_ (by kernel_rfl) (fun W hS => ?_) ?_ ?_
  rotate_left 2
  · go_simp
    exact rfl
  · go_simp
    exact rfl
  refine steady_val ?_ ?_ (by kernel_rfl) (fun W hS => ?_) ?_ ?_
  rotate_left 2
  · have y0 : W.cell? ⟨w.heap.size, 0, none⟩ = some (.int .i64 acc) := hS.cx 0; go_simp
    exact rfl
  · go_simp
    exact rfl
  refine steady_val ?_ ?_ (by kernel_rfl) (fun W hS => ?_) ?_ ?_
  rotate_left 2
  · go_simp
    exact rfl
  · go_simp
    exact rfl
  refine steady_val ?_ ?_ (by kernel_rfl) (fun W hS => ?_) ?_ ?_
  rotate_left 2
  · have y1 : W.cell? ⟨w.heap.size, 1, none⟩ = some (.int .i64 priv) := hS.cx 1; go_simp
    exact rfl
  · go_simp
    exact rfl
  refine steady_val ?_ ?_ (by kernel_rfl) (fun W hS => ?_) ?_ ?_
  rotate_left 2
  · go_simp
    exact rfl
  · go_simp
    exact rfl
  refine steady_val ?_ ?_ (by kernel_rfl) (fun W hS => ?_) ?_ ?_
  rotate_left 2
  · have y2 : W.cell? ⟨w.heap.size, 2, none⟩ = some (.bool sum) := hS.cx 2; go_simp
    exact rfl
  · go_simp
    exact rfl
  refine steady_val ?_ ?_ (by kernel_rfl) (fun W hS => ?_) ?_ ?_
  rotate_left 2
  · go_simp
    exact rfl
  · go_simp
    exact rfl
  refine steady_val ?_ ?_ (by kernel_rfl) (fun W hS => ?_) ?_ ?_
  rotate_left 2
  · have y3 : W.cell? ⟨w.heap.size, 3, none⟩ = some (.bool mxr) := hS.cx 3; go_simp
    exact rfl
  · go_simp
    exact rfl
  refine steady_enter (.bool le) 7 #[.int .u64 p, .int .i64 acc, .int .i64 priv, .bool sum, .bool mxr] ?_ (by kernel_rfl) (fun W hS => ?_) (fun W hS => (HE.out W hS.r).mono (by rintro e w' ⟨rfl, hb⟩; exact ⟨rfl, hS.low hb⟩)) ?_ ?_
  rotate_left 1
  · go_simp
  · go_simp
    exact rfl
  refine steady_val ?_ ?_ (by kernel_rfl) (fun W hS => ?_) ?_ ?_
  rotate_left 2
  · go_simp
    exact rfl
  · go_simp
    exact rfl
  refine steady_val ?_ ?_ (by kernel_rfl) (fun W hS => ?_) ?_ ?_
  rotate_left 2
  · go_simp
    exact rfl
  · go_simp
    exact rfl
  refine steady_val ?_ ?_ (by kernel_rfl) (fun W hS => ?_) ?_ ?_
  rotate_left 2
  · have y0 : W.cell? ⟨w.heap.size, 0, none⟩ = some (.int .i64 acc) := hS.cx 0; go_simp
    exact rfl
  · go_simp
    exact rfl
  refine steady_val ?_ ?_ (by kernel_rfl) (fun W hS => ?_) ?_ ?_
  rotate_left 2
  · go_simp
    exact rfl
  · go_simp
    exact rfl
  refine steady_val ?_ ?_ (by kernel_rfl) (fun W hS => ?_) ?_ ?_
  rotate_left 2
  · have y1 : W.cell? ⟨w.heap.size, 1, none⟩ = some (.int .i64 priv) := hS.cx 1; go_simp
    exact rfl
  · go_simp
    exact rfl
  refine steady_val ?_ ?_ (by kernel_rfl) (fun W hS => ?_) ?_ ?_
  rotate_left 2
  · go_simp
    exact rfl
  · go_simp
    exact rfl
  refine steady_val ?_ ?_ (by kernel_rfl) (fun W hS => ?_) ?_ ?_
  rotate_left 2
  · have y2 : W.cell? ⟨w.heap.size, 2, none⟩ = some (.bool sum) := hS.cx 2; go_simp
    exact rfl
  · go_simp
    exact rfl
  refine steady_val ?_ ?_ (by kernel_rfl) (fun W hS => ?_) ?_ ?_
  rotate_left 2
  · go_simp
    exact rfl
  · go_simp
    exact rfl
  refine steady_val ?_ ?_ (by kernel_rfl) (fun W hS => ?_) ?_ ?_
  rotate_left 2
  · have y3 : W.cell? ⟨w.heap.size, 3, none⟩ = some (.bool mxr) := hS.cx 3; go_simp
    exact rfl
  · go_simp
    exact rfl
  refine steady_enter (.bool le) 8 #[.int .u64 p, .int .i64 acc, .int .i64 priv, .bool sum, .bool mxr] ?_ (by kernel_rfl) (fun W hS => ?_) (fun W hS => (HRE.out W).mono (by rintro e w' ⟨rfl, rfl⟩; exact ⟨rfl, hS⟩)) ?_ ?_
  rotate_left 1
  · go_simp
  · go_simp
    exact rfl
  refine steady_val (.bool true) ?_ (by kernel_rfl) (fun W hS => by go_simp) ?_ ?_
  rotate_left 1
  · go_simp
    exact rfl
  refine steady_val ?_ ?_ (by kernel_rfl) (fun W hS => ?_) ?_ ?_
  rotate_left 2
  · go_simp
    exact rfl
  · go_simp
    exact rfl
  iterate 3
    refine steady_val ?_ ?_ (by kernel_rfl) (fun W hS => ?_) ?_ ?_
    rotate_left 2
    · go_simp
      exact rfl
    · go_simp
      exact rfl
  refine steady_val ?_ ?_ (by kernel_rfl) (fun W hS => ?_) ?_ ?_
  rotate_left 2
  · have z1 : W.cell? ⟨w.heap.size + 1, 1, none⟩ = some (.int .u64 y) := hS.cy 1; go_simp
    exact rfl
  · go_simp
    exact rfl
  refine steady_enter (.int .u64 f) 9 #[.int .u64 p, .int .i64 (wrap64 x), .int .u64 y] ?_ (by kernel_rfl) (fun W hS => ?_) (fun W hS => (HF.out W).mono (by rintro e w' ⟨rfl, rfl⟩; exact ⟨rfl, hS⟩)) ?_ ?_
  rotate_left 1
  · go_simp
  · go_simp
    exact rfl
  iterate 3
    refine steady_val ?_ ?_ (by kernel_rfl) (fun W hS => ?_) ?_ ?_
    rotate_left 2
    · go_simp
      exact rfl
    · go_simp
      exact rfl
  refine steady_val ?_ ?_ (by kernel_rfl) (fun W hS => ?_) ?_ ?_
  rotate_left 2
  · have z1 : W.cell? ⟨w.heap.size + 1, 1, none⟩ = some (.int .u64 y) := hS.cy 1; go_simp
    exact rfl
  · go_simp
    exact rfl
  refine steady_enter (.int .u64 f) 10 #[.int .u64 p, .int .i64 (wrap64 x), .int .u64 y] ?_ (by kernel_rfl) (fun W hS => ?_) (fun W hS => (HRF.out W).mono (by rintro e w' ⟨rfl, hb⟩; exact ⟨rfl, hS.low hb⟩)) ?_ ?_
  rotate_left 1
  · go_simp
  · go_simp
    exact rfl
  refine steady_val (.bool true) ?_ (by kernel_rfl) (fun W hS => by go_simp) ?_ ?_
  rotate_left 1
  · go_simp
    exact rfl
  iterate 2
    refine steady_val ?_ ?_ (by kernel_rfl) (fun W hS => ?_) ?_ ?_
    rotate_left 2
    · go_simp
      exact rfl
    · go_simp
      exact rfl
  refine steady_enter (.bool true) 11 #[] ?_ (by kernel_rfl) (fun W hS => ?_) (fun W hS => (HL.out W).mono (by rintro e w' ⟨rfl, hb⟩; exact ⟨rfl, hS.low hb⟩)) ?_ ?_
  rotate_left 1
  · go_simp
  · go_simp
    exact rfl
  iterate 2
    refine steady_val ?_ ?_ (by kernel_rfl) (fun W hS => ?_) ?_ ?_
    rotate_left 2
    · go_simp
      exact rfl
    · go_simp
      exact rfl
  refine steady_nil ?_
  intro W hS
  have HB := Lib.hid hS.bel
  clear hS
  go_wp2_with fail
  go_ret
  exact ⟨rfl, HB.out⟩
theorem marks_facts {p l : Int} (acc : Int) {x1 : Int} (x2 : Int) (h1 : W64 x1) (hk : kindS p l = 2) {M : Int} (hM : 2 ^ pgBits l - 1 = M) :
    bits .andNot .u64 (frameS p l x1) M = cutS p 10 44 * 4096 ∧ bits .andNot .u64 (frameS (markS p acc) l x2) M = cutS p 10 44 * 4096 ∧ bits .and .u64 (frameS p l x1) M = bits .and .u64 x1 M ∧ kindS (markS p acc) l = 2 := by
  have hl := (leaf_parts hk).1
  subst hM
  refine ⟨frame_hi x1 hk, ?_, frame_lo p x1 h1 hl, mark_kind acc hk⟩
  rw [frame_hi x2 (mark_kind acc hk), mark_ppn]
set_option maxRecDepth 100000 in
set_option maxHeartbeats 32000000 in
theorem pmarks_walk (p acc priv : Int) (sum mxr : Bool) (x y z : Int) (hp0 : 0 ≤ p ∧ p ≤ 18446744073709551615) (_ha : -9223372036854775808 ≤ acc ∧ acc ≤ 9223372036854775807) (_hq : -9223372036854775808 ≤ priv ∧ priv ≤ 9223372036854775807) (hx0 : 0 ≤ x ∧ x ≤ 18446744073709551615) (hy0 : 0 ≤ y ∧ y ≤ 18446744073709551615) (hz0 : 0 ≤ z ∧ z ≤ 18446744073709551615) (w : World) (hN : ReqIn w) :
    Calls Tryd.prog 4 #[.int .u64 p, .agg #[.int .i64 acc, .int .i64 priv, .bool sum, .bool mxr], .agg #[.int .u64 x, .int .u64 y, .int .u64 z]] w fun e w' => e = .returned (.bool true) ∧ Below w.heap.size w w' := by
  have hp : W64 p := by unfold W64; omega
  have hy : W64 y := by unfold W64; omega
  have hz : W64 z := by unfold W64; omega
  have hm := mark_rng p acc
  obtain ⟨l, hl⟩ : ∃ l : Int, x % 3 = l := ⟨_, rfl⟩
  have hl3 : l = 0 ∨ l = 1 ∨ l = 2 := by omega
  have hxt : x.tmod 3 = l := by rw [Int.tmod_eq_emod_of_nonneg hx0.1]; exact hl
  have HS := Lib.hid (B2S.new w hN 24 #[.int .i64 acc, .int .i64 priv, .bool sum, .bool mxr] 35 #[.int .u64 x, .int .u64 y, .int .u64 z])
  have HM := Lib.hid (fun W => marked_c p acc hp W)
  have HM2 := Lib.hid (fun W => marked_c (markS p acc) acc hm W)
  rw [mark_again, show (markS p acc != markS p acc) = false by simp] at HM2
  have HE := Lib.hid (fun W h => lets_c p acc priv sum mxr hp W h)
  have HE2 := Lib.hid (fun W h => lets_c (markS p acc) acc priv sum mxr hm W h)
  rw [mark_lets] at HE2
  have HK := Lib.hid (fun W => kind_c p l hp W)
  have HK2 := Lib.hid (fun W => kind_c (markS p acc) l hm W)
  have HF := Lib.hid (fun W => frame_c p l y hp hy W)
  have HF2 := Lib.hid (fun W => frame_c (markS p acc) l z hm hz W)
  have HP := Lib.hid (fun W => ppn_c p hp W)
  have HL := Lib.hid (fun W => live25_c W)
  have HFX := Lib.hid (fun (hk : kindS p l = 2) (M : Int) (hM : 2 ^ pgBits l - 1 = M) => marks_facts acc z hy hk hM)
  have hn := ppn_lt p
  have hn1 := hn.1
  have hn2 := hn.2
  have hx1 := hx0.1
  have hx2 : x < 18446744073709551616 := by omega
  clear hp hy hz hm hp0 hx0 hy0 hz0 _ha _hq hN hn hl
  generalize hmk : markS p acc = m at *
  clear hmk
  generalize hmp : (m != p) = c at *
  clear hmp
  generalize letsE p acc priv sum mxr = le at *
  generalize frameS p l y = f at *
  generalize frameS m l z = g at *
  generalize kindS p l = k at *
  generalize kindS m l = k2 at *
  generalize cutS p 10 44 = n at *
  have q1 := eqq m
  have q3 := eqq le
  have hw3 : IntKind.u64.wrap l = l := by rw [IntKind.wrap_u64]; omega
  have hw4 : wrap64 l = l := by unfold wrap64; omega
  go_enter Tryd.func4, Tryd.ntmps4
  go_upto_region 1 with fail
  generalize (w.alloc (.cells #[.int .i64 acc, .int .i64 priv, .bool sum, .bool mxr] 24)).alloc (.cells #[.int .u64 x, .int .u64 y, .int .u64 z] 35) = w1 at *
  have z0 : w1.cell? ⟨w.heap.size + 1, 0, none⟩ = some (.int .u64 x) := HS.out.cy 0
  have y0 : w1.cell? ⟨w.heap.size, 0, none⟩ = some (.int .i64 acc) := HS.out.cx 0
  go_wp2_with fail
  refine (HM.out _).mono ?_
  rintro e w2 ⟨rfl, rfl⟩
  go_wp2_with fail
  refine (HM2.out _).mono ?_
  rintro e w2 ⟨rfl, rfl⟩
  clear z0 y0
  go_upto_region 4 with fail
  refine wp_region_steady (fun W => B2S w W 24 #[.int .i64 acc, .int .i64 priv, .bool sum, .bool mxr] 35 #[.int .u64 x, .int .u64 y, .int .u64 z]) (by kernel_rfl) (by kernel_rfl) HS.out.drew ?_
  iterate 2
    refine steady_val ?_ ?_ (by kernel_rfl) (fun W hS => ?_) ?_ ?_
    rotate_left 2
    · go_simp
      exact rfl
    · go_simp
      exact rfl
  refine steady_val (.bool false) ?_ (by kernel_rfl) (fun W hS => by go_simp) ?_ ?_
  rotate_left 1
  · go_simp
    exact rfl
  iterate 4
    refine steady_val ?_ ?_ (by kernel_rfl) (fun W hS => ?_) ?_ ?_
    rotate_left 2
    · go_simp
      exact rfl
    · go_simp
      exact rfl
  refine steady_val ?_ ?_ (by kernel_rfl) (fun W hS => ?_) ?_ ?_
  rotate_left 2
  · go_simp
    exact rfl
  · go_simp
    exact rfl
  refine steady_val ?_ ?_ (by kernel_rfl) (fun W hS => ?_) ?_ ?_
  rotate_left 2
  · go_simp
    exact rfl
  · go_simp
    exact rfl
  refine steady_val ?_ ?_ (by kernel_rfl) (fun W hS => ?_) ?_ ?_
  rotate_left 2
  · have y0 : W.cell? ⟨w.heap.size, 0, none⟩ = some (.int .i64 acc) := hS.cx 0; go_simp
    exact rfl
  · go_simp
    exact rfl
  refine steady_val ?_ ?_ (by kernel_rfl) (fun W hS => ?_) ?_ ?_
  rotate_left 2
  · go_simp
    exact rfl
  · go_simp
    exact rfl
  refine steady_val ?_ ?_ (by kernel_rfl) (fun W hS => ?_) ?_ ?_
  rotate_left 2
  · have y1 : W.cell? ⟨w.heap.size, 1, none⟩ = some (.int .i64 priv) := hS.cx 1; go_simp
    exact rfl
  · go_simp
    exact rfl
  refine steady_val ?_ ?_ (by kernel_rfl) (fun W hS => ?_) ?_ ?_
  rotate_left 2
  · go_simp
    exact rfl
  · go_simp
    exact rfl
  refine steady_val ?_ ?_ (by kernel_rfl) (fun W hS => ?_) ?_ ?_
  rotate_left 2
  · have y2 : W.cell? ⟨w.heap.size, 2, none⟩ = some (.bool sum) := hS.cx 2; go_simp
    exact rfl
  · go_simp
    exact rfl
  refine steady_val ?_ ?_ (by kernel_rfl) (fun W hS => ?_) ?_ ?_
  rotate_left 2
  · go_simp
    exact rfl
  · go_simp
    exact rfl
  refine steady_val ?_ ?_ (by kernel_rfl) (fun W hS => ?_) ?_ ?_
  rotate_left 2
  · have y3 : W.cell? ⟨w.heap.size, 3, none⟩ = some (.bool mxr) := hS.cx 3; go_simp
    exact rfl
  · go_simp
    exact rfl
  refine steady_enter (.bool le) 7 #[.int .u64 m, .int .i64 acc, .int .i64 priv, .bool sum, .bool mxr] ?_ (by kernel_rfl) (fun W hS => ?_) (fun W hS => (HE2.out W hS.r).mono (by rintro e w' ⟨rfl, hb⟩; exact ⟨rfl, hS.low hb⟩)) ?_ ?_
  rotate_left 1
  · go_simp
  · go_simp
    exact rfl
  refine steady_val ?_ ?_ (by kernel_rfl) (fun W hS => ?_) ?_ ?_
  rotate_left 2
  · go_simp
    exact rfl
  · go_simp
    exact rfl
  refine steady_val ?_ ?_ (by kernel_rfl) (fun W hS => ?_) ?_ ?_
  rotate_left 2
  · go_simp
    exact rfl
  · go_simp
    exact rfl
  refine steady_val ?_ ?_ (by kernel_rfl) (fun W hS => ?_) ?_ ?_
  rotate_left 2
  · have y0 : W.cell? ⟨w.heap.size, 0, none⟩ = some (.int .i64 acc) := hS.cx 0; go_simp
    exact rfl
  · go_simp
    exact rfl
  refine steady_val ?_ ?_ (by kernel_rfl) (fun W hS => ?_) ?_ ?_
  rotate_left 2
  · go_simp
    exact rfl
  · go_simp
    exact rfl
  refine steady_val ?_ ?_ (by kernel_rfl) (fun W hS => ?_) ?_ ?_
  rotate_left 2
  · have y1 : W.cell? ⟨w.heap.size, 1, none⟩ = some (.int .i64 priv) := hS.cx 1; go_simp
    exact rfl
  · go_simp
    exact rfl
  refine steady_val ?_ ?_ (by kernel_rfl) (fun W hS => ?_) ?_ ?_
  rotate_left 2
  · go_simp
    exact rfl
  · go_simp
    exact rfl
  refine steady_val ?_ ?_ (by kernel_rfl) (fun W hS => ?_) ?_ ?_
  rotate_left 2
  · have y2 : W.cell? ⟨w.heap.size, 2, none⟩ = some (.bool sum) := hS.cx 2; go_simp
    exact rfl
  · go_simp
    exact rfl
  refine steady_val ?_ ?_ (by kernel_rfl) (fun W hS => ?_) ?_ ?_
  rotate_left 2
  · go_simp
    exact rfl
  · go_simp
    exact rfl
  refine steady_val ?_ ?_ (by kernel_rfl) (fun W hS => ?_) ?_ ?_
  rotate_left 2
  · have y3 : W.cell? ⟨w.heap.size, 3, none⟩ = some (.bool mxr) := hS.cx 3; go_simp
    exact rfl
  · go_simp
    exact rfl
  refine steady_enter (.bool le) 7 #[.int .u64 p, .int .i64 acc, .int .i64 priv, .bool sum, .bool mxr] ?_ (by kernel_rfl) (fun W hS => ?_) (fun W hS => (HE.out W hS.r).mono (by rintro e w' ⟨rfl, hb⟩; exact ⟨rfl, hS.low hb⟩)) ?_ ?_
  rotate_left 1
  · go_simp
  · go_simp
    exact rfl
  refine steady_val (.bool false) ?_ (by kernel_rfl) (fun W hS => by go_simp) ?_ ?_
  rotate_left 1
  · go_simp
    exact rfl
  refine steady_val ?_ ?_ (by kernel_rfl) (fun W hS => ?_) ?_ ?_
  rotate_left 2
  · go_simp
    exact rfl
  · go_simp
    exact rfl
  refine steady_nil ?_
  intro W hS
  replace HS := Lib.hid hS
  clear hS HM HM2 HE HE2
  go_wp2_with fail
  refine (HK.out _).mono ?_
  rintro e w2 ⟨rfl, hb⟩
  replace HS := Lib.hid (HS.out.low hb)
  clear hb
  by_cases hk : k = 2
  · subst hk
    have HFY := Lib.hid (HFX.out rfl)
    clear HFX
    obtain rfl | rfl | rfl := hl3
    · have hfx := HFY.out 4095 (by decide +kernel)
      obtain ⟨f1, f2, f3, f4⟩ := hfx
      have f4' : k2 = 2 := f4
      clear f4 HFY HK
      subst f4'
      have q5 := eqq (bits .and .u64 y 4095)
      have q6 := eqq (n * 4096)
      go_upto_region 9 with fail
      refine wp_region_steady (fun W => B2S w W 24 #[.int .i64 acc, .int .i64 priv, .bool sum, .bool mxr] 35 #[.int .u64 x, .int .u64 y, .int .u64 z]) (by kernel_rfl) (by kernel_rfl) HS.out.drew ?_
      iterate 3
        refine steady_val ?_ ?_ (by kernel_rfl) (fun W hS => ?_) ?_ ?_
        rotate_left 2
        · go_simp
          exact rfl
        · go_simp
          exact rfl
      refine steady_val ?_ ?_ (by kernel_rfl) (fun W hS => ?_) ?_ ?_
      rotate_left 2
      · have z1 : W.cell? ⟨w.heap.size + 1, 1, none⟩ = some (.int .u64 y) := hS.cy 1; go_simp
        exact rfl
      · go_simp
        exact rfl
      refine steady_enter (.int .u64 f) 9 #[.int .u64 p, .int .i64 0, .int .u64 y] ?_ (by kernel_rfl) (fun W hS => ?_) (fun W hS => (HF.out W).mono (by rintro e w' ⟨rfl, rfl⟩; exact ⟨rfl, hS⟩)) ?_ ?_
      rotate_left 1
      · go_simp
      · go_simp
        exact rfl
      iterate 3
        refine steady_val ?_ ?_ (by kernel_rfl) (fun W hS => ?_) ?_ ?_
        rotate_left 2
        · go_simp
          exact rfl
        · go_simp
          exact rfl
      refine steady_val ?_ ?_ (by kernel_rfl) (fun W hS => ?_) ?_ ?_
      rotate_left 2
      · have z2 : W.cell? ⟨w.heap.size + 1, 2, none⟩ = some (.int .u64 z) := hS.cy 2; go_simp
        exact rfl
      · go_simp
        exact rfl
      refine steady_enter (.int .u64 g) 9 #[.int .u64 m, .int .i64 0, .int .u64 z] ?_ (by kernel_rfl) (fun W hS => ?_) (fun W hS => (HF2.out W).mono (by rintro e w' ⟨rfl, rfl⟩; exact ⟨rfl, hS⟩)) ?_ ?_
      rotate_left 1
      · go_simp
      · go_simp
        exact rfl
      iterate 2
        refine steady_val ?_ ?_ (by kernel_rfl) (fun W hS => ?_) ?_ ?_
        rotate_left 2
        · go_simp
          exact rfl
        · go_simp
          exact rfl
      refine steady_nil ?_
      intro W hS
      replace HS := Lib.hid hS
      clear hS HF HF2
      go_wp2_with fail
      refine (HK2.out _).mono ?_
      rintro e w2 ⟨rfl, hb⟩
      replace HS := Lib.hid (HS.out.low hb)
      clear hb
      have z1 : w2.cell? ⟨w.heap.size + 1, 1, none⟩ = some (.int .u64 y) := HS.out.cy 1
      go_wp2_with fail
      refine (HP.out _).mono ?_
      rintro e w2 ⟨rfl, rfl⟩
      clear z1
      go_wp2_with fail
      refine (HL.out _).mono ?_
      rintro e w2 ⟨rfl, hb⟩
      replace HS := Lib.hid (HS.out.low hb)
      clear hb
      go_wp2_with fail
      go_ret
      exact ⟨rfl, HS.out.bel⟩
    · have hfx := HFY.out 2097151 (by decide +kernel)
      obtain ⟨f1, f2, f3, f4⟩ := hfx
      have f4' : k2 = 2 := f4
      clear f4 HFY HK
      subst f4'
      have q5 := eqq (bits .and .u64 y 2097151)
      have q6 := eqq (n * 4096)
      go_upto_region 9 with fail
      refine wp_region_steady (fun W => B2S w W 24 #[.int .i64 acc, .int .i64 priv, .bool sum, .bool mxr] 35 #[.int .u64 x, .int .u64 y, .int .u64 z]) (by kernel_rfl) (by kernel_rfl) HS.out.drew ?_
      iterate 3
        refine steady_val ?_ ?_ (by kernel_rfl) (fun W hS => ?_) ?_ ?_
        rotate_left 2
        · go_simp
          exact rfl
        · go_simp
          exact rfl
      refine steady_val ?_ ?_ (by kernel_rfl) (fun W hS => ?_) ?_ ?_
      rotate_left 2
      · have z1 : W.cell? ⟨w.heap.size + 1, 1, none⟩ = some (.int .u64 y) := hS.cy 1; go_simp
        exact rfl
      · go_simp
        exact rfl
      refine steady_enter (.int .u64 f) 9 #[.int .u64 p, .int .i64 1, .int .u64 y] ?_ (by kernel_rfl) (fun W hS => ?_) (fun W hS => (HF.out W).mono (by rintro e w' ⟨rfl, rfl⟩; exact ⟨rfl, hS⟩)) ?_ ?_
      rotate_left 1
      · go_simp
      · go_simp
        exact rfl
      iterate 3
        refine steady_val ?_ ?_ (by kernel_rfl) (fun W hS => ?_) ?_ ?_
        rotate_left 2
        · go_simp
          exact rfl
        · go_simp
          exact rfl
      refine steady_val ?_ ?_ (by kernel_rfl) (fun W hS => ?_) ?_ ?_
      rotate_left 2
      · have z2 : W.cell? ⟨w.heap.size + 1, 2, none⟩ = some (.int .u64 z) := hS.cy 2; go_simp
        exact rfl
      · go_simp
        exact rfl
      refine steady_enter (.int .u64 g) 9 #[.int .u64 m, .int .i64 1, .int .u64 z] ?_ (by kernel_rfl) (fun W hS => ?_) (fun W hS => (HF2.out W).mono (by rintro e w' ⟨rfl, rfl⟩; exact ⟨rfl, hS⟩)) ?_ ?_
      rotate_left 1
      · go_simp
      · go_simp
        exact rfl
      iterate 2
        refine steady_val ?_ ?_ (by kernel_rfl) (fun W hS => ?_) ?_ ?_
        rotate_left 2
        · go_simp
          exact rfl
        · go_simp
          exact rfl
      refine steady_nil ?_
      intro W hS
      replace HS := Lib.hid hS
      clear hS HF HF2
      go_wp2_with fail
      refine (HK2.out _).mono ?_
      rintro e w2 ⟨rfl, hb⟩
      replace HS := Lib.hid (HS.out.low hb)
      clear hb
      have z1 : w2.cell? ⟨w.heap.size + 1, 1, none⟩ = some (.int .u64 y) := HS.out.cy 1
      go_wp2_with fail
      refine (HP.out _).mono ?_
      rintro e w2 ⟨rfl, rfl⟩
      clear z1
      go_wp2_with fail
      refine (HL.out _).mono ?_
      rintro e w2 ⟨rfl, hb⟩
      replace HS := Lib.hid (HS.out.low hb)
      clear hb
      go_wp2_with fail
      go_ret
      exact ⟨rfl, HS.out.bel⟩
    · have hfx := HFY.out 1073741823 (by decide +kernel)
      obtain ⟨f1, f2, f3, f4⟩ := hfx
      have f4' : k2 = 2 := f4
      clear f4 HFY HK
      subst f4'
      have q5 := eqq (bits .and .u64 y 1073741823)
      have q6 := eqq (n * 4096)
      go_upto_region 9 with fail
      refine wp_region_steady (fun W => B2S w W 24 #[.int .i64 acc, .int .i64 priv, .bool sum, .bool mxr] 35 #[.int .u64 x, .int .u64 y, .int .u64 z]) (by kernel_rfl) (by kernel_rfl) HS.out.drew ?_
      iterate 3
        refine steady_val ?_ ?_ (by kernel_rfl) (fun W hS => ?_) ?_ ?_
        rotate_left 2
        · go_simp
          exact rfl
        · go_simp
          exact rfl
      refine steady_val ?_ ?_ (by kernel_rfl) (fun W hS => ?_) ?_ ?_
      rotate_left 2
      · have z1 : W.cell? ⟨w.heap.size + 1, 1, none⟩ = some (.int .u64 y) := hS.cy 1; go_simp
        exact rfl
      · go_simp
        exact rfl
      refine steady_enter (.int .u64 f) 9 #[.int .u64 p, .int .i64 2, .int .u64 y] ?_ (by kernel_rfl) (fun W hS => ?_) (fun W hS => (HF.out W).mono (by rintro e w' ⟨rfl, rfl⟩; exact ⟨rfl, hS⟩)) ?_ ?_
      rotate_left 1
      · go_simp
      · go_simp
        exact rfl
      iterate 3
        refine steady_val ?_ ?_ (by kernel_rfl) (fun W hS => ?_) ?_ ?_
        rotate_left 2
        · go_simp
          exact rfl
        · go_simp
          exact rfl
      refine steady_val ?_ ?_ (by kernel_rfl) (fun W hS => ?_) ?_ ?_
      rotate_left 2
      · have z2 : W.cell? ⟨w.heap.size + 1, 2, none⟩ = some (.int .u64 z) := hS.cy 2; go_simp
        exact rfl
      · go_simp
        exact rfl
      refine steady_enter (.int .u64 g) 9 #[.int .u64 m, .int .i64 2, .int .u64 z] ?_ (by kernel_rfl) (fun W hS => ?_) (fun W hS => (HF2.out W).mono (by rintro e w' ⟨rfl, rfl⟩; exact ⟨rfl, hS⟩)) ?_ ?_
      rotate_left 1
      · go_simp
      · go_simp
        exact rfl
      iterate 2
        refine steady_val ?_ ?_ (by kernel_rfl) (fun W hS => ?_) ?_ ?_
        rotate_left 2
        · go_simp
          exact rfl
        · go_simp
          exact rfl
      refine steady_nil ?_
      intro W hS
      replace HS := Lib.hid hS
      clear hS HF HF2
      go_wp2_with fail
      refine (HK2.out _).mono ?_
      rintro e w2 ⟨rfl, hb⟩
      replace HS := Lib.hid (HS.out.low hb)
      clear hb
      have z1 : w2.cell? ⟨w.heap.size + 1, 1, none⟩ = some (.int .u64 y) := HS.out.cy 1
      go_wp2_with fail
      refine (HP.out _).mono ?_
      rintro e w2 ⟨rfl, rfl⟩
      clear z1
      go_wp2_with fail
      refine (HL.out _).mono ?_
      rintro e w2 ⟨rfl, hb⟩
      replace HS := Lib.hid (HS.out.low hb)
      clear hb
      go_wp2_with fail
      go_ret
      exact ⟨rfl, HS.out.bel⟩
  · have hkn : (k == 2) = false := by simpa using hk
    clear HFX HK2 HF HF2 HP hk
    go_wp2_with fail
    refine (HL.out _).mono ?_
    rintro e w2 ⟨rfl, hb⟩
    replace HS := Lib.hid (HS.out.low hb)
    clear hb
    go_wp2_with fail
    go_ret
    exact ⟨rfl, HS.out.bel⟩
end Go.Proofs.YtmieabafiijfjaaDoor
