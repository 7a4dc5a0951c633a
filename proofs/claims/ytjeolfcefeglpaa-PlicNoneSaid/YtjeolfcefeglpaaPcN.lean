/-
  The law of layer 16: a controller that isn't there, or of no harts (PlicNone walked).
-/
import Derived.Test.YtjeolfcefeglpaaPcH
set_option maxRecDepth 20000
namespace Go.Proofs.Ytjeolfcefeglpaa
open Go.ChangeShapes Go.WideShapes Go.ChangeAt Go.RowKit

theorem eq_pt0 (w : World) : (binOp .eql PT (.agg (ctV 0 Pc.zeros)) (.agg (ctV 0 Pc.zeros))).run Try.prog w = .ok (.bool true) w := by kernel_rfl
theorem guard_pt : Try.prog.eqGuardType Try.prog.depth PT = false := by kernel_rfl
abbrev T77 : TypeId := 77
namespace Pc
theorem at_0 {off size : Int} : at_ ((0 : Nat) : Int) off size = (0, 0) := at_bad (by omega)
theorem is_0 {off size : Int} : is ((0 : Nat) : Int) off size = false := by unfold is; rw [at_0]; rfl
theorem read_0 {ws : List Int} {off size : Int} : readV 0 ws off size = 0 ∧ readW 0 ws off size = ws := by unfold readV readW; rw [at_0]; exact ⟨rfl, rfl⟩
theorem write_0 {ws : List Int} {off size v : Int} : writeW 0 ws off size v = ws := by unfold writeW; rw [at_0]; rfl
theorem wires_0 {s : Int} : wires 0 s = false := by unfold wires; simp
theorem wire_0 {ws : List Int} {s : Int} {on : Bool} : wireW 0 ws s on = ws := by unfold wireW; rw [wires_0]; rfl
theorem line_0 {ws : List Int} {c : Int} : lineP 0 ws c = false := by unfold lineP; simp; omega
end Pc
/-- What stands while PlicNone goes on: a controller of no harts, and the two numbers. -/
structure NoS (w W : World) (bb bz : Nat) (a b : Int) : Prop where
  z : PcAt W bz 0 Pc.zeros
  r : CsAt W bb T77 #[.int .i64 a, .int .i64 b]
  bel : Below w.heap.size w W
section
variable {w W W' : World} {bb bz : Nat} {a b : Int}
theorem NoS.low (h : NoS w W bb bz a b) (hb : Below W.heap.size W W') : NoS w W' bb bz a b := ⟨h.z.low hb, h.r.low hb, h.bel.trans (hb.mono h.bel.size)⟩
theorem NoS.och (h : NoS w W bb bz a b) (hne : bz ≠ bb) (hge : w.heap.size ≤ bz) (hz : PcP W' (some ⟨bz, 0, none⟩) 0 Pc.zeros) (ho : Och (some bz) W W') : NoS w W' bb bz a b :=
  ⟨hz.of, h.r.och ho (by simp; omega), h.bel.trans (ho.below (B := w.heap.size) (fun c hc => by cases hc; exact hge) h.bel.size)⟩
theorem NoS.c (h : NoS w W bb bz a b) : W.cell? ⟨bb, 0, none⟩ = some (.int .i64 a) ∧ W.cell? ⟨bb, 1, none⟩ = some (.int .i64 b) := ⟨by rw [h.r.cell]; rfl, by rw [h.r.cell]; rfl⟩
theorem och_none {u v : World} (h : Och .none u v) : Below u.heap.size u v := ⟨h.os, h.tape, h.output, h.size, fun k hk => h.block k hk (by simp)⟩
end
theorem pcp_none (w : World) : PcP w none 0 Pc.zeros := .inl ⟨rfl, rfl⟩
set_option maxRecDepth 100000 in
set_option maxHeartbeats 8000000 in
theorem pnone_walk (w : World) (off a b : Int) (h0 : 0 ≤ off ∧ off ≤ 18446744073709551615) (_h1 : -9223372036854775808 ≤ a ∧ a ≤ 9223372036854775807) (h2 : -9223372036854775808 ≤ b ∧ b ≤ 9223372036854775807) :
    Calls Try.prog 7 #[.int .u64 off, .agg #[.int .i64 a, .int .i64 b]] w fun e w' => e = .returned (.bool true) ∧ Below w.heap.size w w' := by
  obtain ⟨o0, o1⟩ := h0
  obtain ⟨b0, b1⟩ := h2
  have hz := zero_pt
  go_enter Try.func7, Try.ntmps7
  go_upto_region 1 with fail
  have hb1 := (Below.refl w.heap.size w).alloc (Nat.le_refl _) (Obj.cells #[.int .i64 a, .int .i64 b] T77)
  have hr1 := CsAt.new w T77 #[.int .i64 a, .int .i64 b]
  generalize hw1 : w.alloc (Obj.cells #[.int .i64 a, .int .i64 b] T77) = w1 at *
  have hbb : w.heap.size < w1.heap.size := hr1.lt
  clear hw1
  go_upto_region 3 with fail
  have HS3 := Lib.hid (show NoS w (w1.alloc (Obj.cells (ctV 0 Pc.zeros) PT)) w.heap.size w1.heap.size a b from ⟨⟨CsAt.new w1 PT _, Pc.zeros_ok (by omega)⟩, hr1.alloc _, hb1.alloc hb1.size _⟩)
  clear hb1 hr1
  generalize w1.alloc (Obj.cells (ctV 0 Pc.zeros) PT) = w3 at *
  have hne : w1.heap.size ≠ w.heap.size := by omega
  have hge : w.heap.size ≤ w1.heap.size := by omega
  generalize w1.heap.size = bz at *
  clear hbb
  obtain ⟨q0, q1⟩ := HS3.out.c
  go_wp2_with fail
  refine (pread_c none 0 Pc.zeros off a o0 o1 w3 (pcp_none w3)).mono ?_
  rintro e w4 ⟨rfl, -, ho⟩
  rw [Pc.is_0, Pc.read_0.1]
  have HS4 := Lib.hid (HS3.out.low (och_none ho))
  clear HS3 q0 q1 ho
  obtain ⟨q0, q1⟩ := HS4.out.c
  go_wp2_with fail
  refine (pread_c (some ⟨bz, 0, none⟩) 0 Pc.zeros off a o0 o1 w4 HS4.out.z.at_).mono ?_
  rintro e w5 ⟨rfl, hA, ho⟩
  rw [Pc.is_0, Pc.read_0.1]
  have HS5 := Lib.hid (HS4.out.och hne hge (by rw [Pc.read_0.2] at hA; exact hA) ho)
  clear HS4 q0 q1 hA ho
  obtain ⟨q0, q1⟩ := HS5.out.c
  go_wp2_with fail
  refine (pwrite_c none 0 Pc.zeros off a o0 o1 1 (by omega) (by omega) w5 (pcp_none w5)).mono ?_
  rintro e w6 ⟨rfl, -, ho⟩
  rw [Pc.is_0]
  have HS6 := Lib.hid (HS5.out.low (och_none ho))
  clear HS5 q0 q1 ho
  obtain ⟨q0, q1⟩ := HS6.out.c
  go_wp2_with fail
  refine (pwrite_c (some ⟨bz, 0, none⟩) 0 Pc.zeros off a o0 o1 1 (by omega) (by omega) w6 HS6.out.z.at_).mono ?_
  rintro e w7 ⟨rfl, hA, ho⟩
  rw [Pc.is_0]
  have HS7 := Lib.hid (HS6.out.och hne hge (by rw [Pc.write_0] at hA; exact hA) ho)
  clear HS6 q0 q1 hA ho
  obtain ⟨q0, q1⟩ := HS7.out.c
  go_wp2_with fail
  refine (pwire_c none 0 Pc.zeros b b0 b1 true w7 (pcp_none w7)).mono ?_
  rintro e w8 ⟨rfl, -, ho⟩
  rw [Pc.wires_0]
  have HS8 := Lib.hid (HS7.out.low (och_none ho))
  clear HS7 q0 q1 ho
  obtain ⟨q0, q1⟩ := HS8.out.c
  go_wp2_with fail
  refine (pwire_c (some ⟨bz, 0, none⟩) 0 Pc.zeros b b0 b1 true w8 HS8.out.z.at_).mono ?_
  rintro e w9 ⟨rfl, hA, ho⟩
  rw [Pc.wires_0]
  have HS9 := Lib.hid (HS8.out.och hne hge (by rw [Pc.wire_0] at hA; exact hA) ho)
  clear HS8 q0 q1 hA ho
  obtain ⟨q0, q1⟩ := HS9.out.c
  go_wp2_with fail
  refine (pwaits_c none 0 Pc.zeros w9 (pcp_none w9) (fun _ => Pc.zeros_get 1)).mono ?_
  rintro e w10 ⟨rfl, hE⟩
  rw [Pc.zeros_get]
  have HS10 := Lib.hid (show NoS w w10 w.heap.size bz a b by rw [hE]; exact HS9.out)
  clear HS9 q0 q1 hE
  obtain ⟨q0, q1⟩ := HS10.out.c
  go_wp2_with fail
  refine (pserved_c none 0 Pc.zeros w10 (pcp_none w10) (fun _ => Pc.zeros_get 2)).mono ?_
  rintro e w11 ⟨rfl, hE⟩
  rw [Pc.zeros_get]
  have HS11 := Lib.hid (show NoS w w11 w.heap.size bz a b by rw [hE]; exact HS10.out)
  clear HS10 q0 q1 hE
  obtain ⟨q0, q1⟩ := HS11.out.c
  go_wp2_with fail
  refine (pline_c none 0 Pc.zeros b b0 b1 w11 (pcp_none w11)).mono ?_
  rintro e w12 ⟨rfl, hb⟩
  rw [Pc.line_0]
  have HS12 := Lib.hid (HS11.out.low hb)
  clear HS11 q0 q1 hb
  obtain ⟨q0, q1⟩ := HS12.out.c
  go_wp2_with fail
  refine (pline_c (some ⟨bz, 0, none⟩) 0 Pc.zeros b b0 b1 w12 HS12.out.z.at_).mono ?_
  rintro e w13 ⟨rfl, hb⟩
  rw [Pc.line_0]
  have HS13 := Lib.hid (HS12.out.low hb)
  clear HS12 q0 q1 hb
  go_upto_region 7 with fail
  refine wp_region_steady (fun W => NoS w W w.heap.size bz a b) (by kernel_rfl) (by kernel_rfl) (HS13.out.low (below_dnC (Below.refl _ _) 1)) ?_
  refine steady_val (.agg (ctV 0 Pc.zeros)) ?_ (by kernel_rfl) (fun W hS => exec_load_row _ _ rfl _ rfl _ _ _ hS.z.row Try.underlying58 rfl (iPT rfl)) ?_ ?_
  rotate_left 1
  · go_simp
    exact rfl
  refine steady_val (.agg (ctV 0 Pc.zeros)) ?_ (by kernel_rfl) (fun W hS => (by go_simp)) ?_ ?_
  rotate_left 1
  · go_simp
    exact rfl
  refine steady_val (.bool true) ?_ (by kernel_rfl) (fun W hS => exec_cmp .eql 58 _ _ _ rfl (ctV 0 Pc.zeros) (ctV 0 Pc.zeros) rfl rfl guard_pt _ (eq_pt0 W)) ?_ ?_
  rotate_left 1
  · go_simp
    exact rfl
  refine steady_val ?_ ?_ (by kernel_rfl) (fun W hS => ?_) ?_ ?_
  rotate_left 2
  · go_simp
    exact rfl
  · go_simp
    exact rfl
  refine steady_enter (.agg (ctV 0 Pc.zeros)) 24 #[.int .i64 0] ?_ (by kernel_rfl) (fun W hS => ?_) (fun W hS => (pnew_c 0 W).mono (by rintro e w' ⟨rfl, hb⟩; exact ⟨rfl, hS.low hb⟩)) ?_ ?_
  rotate_left 1
  · go_simp
  · go_simp
    exact rfl
  refine steady_val (.agg (ctV 0 Pc.zeros)) ?_ (by kernel_rfl) (fun W hS => exec_load_row _ _ rfl _ rfl _ _ _ hS.z.row Try.underlying58 rfl (iPT rfl)) ?_ ?_
  rotate_left 1
  · go_simp
    exact rfl
  refine steady_val (.bool true) ?_ (by kernel_rfl) (fun W hS => exec_cmp .eql 58 _ _ _ rfl (ctV 0 Pc.zeros) (ctV 0 Pc.zeros) rfl rfl guard_pt _ (eq_pt0 W)) ?_ ?_
  rotate_left 1
  · go_simp
    exact rfl
  iterate 4
    refine steady_val ?_ ?_ (by kernel_rfl) (fun W hS => ?_) ?_ ?_
    rotate_left 2
    · go_simp
      exact rfl
    · go_simp
      exact rfl
  refine steady_val ?_ ?_ (by kernel_rfl) (fun W hS => ?_) ?_ ?_
  rotate_left 2
  · (have q0 := hS.c.1; skip); go_simp
    exact rfl
  · go_simp
    exact rfl
  refine steady_enter (.bool false) 27 #[.int .i64 0, .int .u64 off, .int .i64 a] ?_ (by kernel_rfl) (fun W hS => ?_) (fun W hS => (pfits_c 0 off a o0 o1 W).mono (by rintro e w' ⟨rfl, hb⟩; exact ⟨by rw [show Pc.is 0 off a = false from Pc.is_0], hS.low hb⟩)) ?_ ?_
  rotate_left 1
  · go_simp
  · go_simp
    exact rfl
  iterate 3
    refine steady_val ?_ ?_ (by kernel_rfl) (fun W hS => ?_) ?_ ?_
    rotate_left 2
    · go_simp
      exact rfl
    · go_simp
      exact rfl
  refine steady_enter (.bool true) 23 #[] ?_ (by kernel_rfl) (fun W hS => ?_) (fun W hS => (live16_c W).mono (by rintro e w' ⟨rfl, hb⟩; exact ⟨rfl, hS.low hb⟩)) ?_ ?_
  rotate_left 1
  · go_simp
  · go_simp
    exact rfl
  iterate 2
    refine steady_val ?_ ?_ (by kernel_rfl) (fun W hS => ?_) ?_ ?_
    rotate_left 2
    · go_simp
      exact rfl
    · go_simp
      exact rfl
  refine steady_nil ?_
  intro W hS
  have HS := Lib.hid hS.bel
  go_wp2_with fail
  go_ret
  exact ⟨rfl, HS.out⟩
end Go.Proofs.Ytjeolfcefeglpaa
