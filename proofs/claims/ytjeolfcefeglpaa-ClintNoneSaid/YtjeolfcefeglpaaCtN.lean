/-
  The law of layer 15: a clint that isn't there, or that nobody made (ClintNone walked).
-/
import Derived.Test.YtjeolfcefeglpaaCtG
set_option maxRecDepth 20000
namespace Go.Proofs.Ytjeolfcefeglpaa
open Go.ChangeShapes Go.WideShapes Go.ChangeAt Go.RowKit
theorem eq_ct0 (w : World) : (binOp .eql CT (.agg (ctV 0 (Ct.newW 0))) (.agg (ctV 0 (Ct.newW 0)))).run Try.prog w = .ok (.bool true) w := by kernel_rfl
theorem guard_ct : Try.prog.eqGuardType Try.prog.depth CT = false := by kernel_rfl
namespace Ct
theorem at_0 {off size : Int} (h : 0 ≤ off) : at_ 0 off size = (0, 0, 0) := by
  unfold at_
  repeat (first | rw [if_neg (by omega)])
theorem read_0 {ws : List Int} {off size : Int} (h : 0 ≤ off) : readC 0 ws off size = 0 := by unfold readC; rw [at_0 h]; rfl
theorem is_0 {off size : Int} (h : 0 ≤ off) : is 0 off size = false := by unfold is; rw [at_0 h]; rfl
theorem write_0 {ws : List Int} {off size v : Int} (h : 0 ≤ off) : writeC 0 ws off size v = ws := by unfold writeC; rw [at_0 h]; rfl
theorem tick_0 {ws : List Int} {t : Int} : tickC 0 ws t = ws := by unfold tickC; rw [if_neg (by omega)]
theorem line_0 {ws : List Int} {h : Int} : lineC 0 ws h = 0 := by unfold lineC; rw [if_neg (by omega)]
end Ct
abbrev W0 : List Int := Ct.newW 0
theorem ctp_none (w : World) : CtP w none 0 W0 := .inl ⟨rfl, rfl⟩
theorem Och.none {u v : World} (h : Och .none u v) : Below u.heap.size u v := ⟨h.os, h.tape, h.output, h.size, fun k hk => h.block k hk (by simp)⟩
set_option maxRecDepth 100000 in
set_option maxHeartbeats 8000000 in
theorem cnone_walk (w : World) (off size n : Int) (h0 : 0 ≤ off ∧ off ≤ 18446744073709551615) (_h1 : -9223372036854775808 ≤ size ∧ size ≤ 9223372036854775807) (h2 : -9223372036854775808 ≤ n ∧ n ≤ 9223372036854775807) :
    Calls Try.prog 4 #[.int .u64 off, .int .i64 size, .int .i64 n] w fun e w' => e = .returned (.bool true) ∧ Below w.heap.size w w' := by
  obtain ⟨o0, o1⟩ := h0
  obtain ⟨n0, n1⟩ := h2
  have HI := Lib.hid (Ct.is_0 (size := size) o0)
  have HR := Lib.hid (fun ws => Ct.read_0 (ws := ws) (size := size) o0)
  have HW := Lib.hid (fun ws v => Ct.write_0 (ws := ws) (size := size) (v := v) o0)
  go_enter Try.func4, Try.ntmps4
  go_upto_region 3 with fail
  rw [zero_ct]
  have hb1 := (Below.refl w.heap.size w).alloc (Nat.le_refl _) (Obj.cells (ctV 0 (Ct.newW 0)) CT)
  have HA1 := Lib.hid (show CtAt (w.alloc (Obj.cells (ctV 0 (Ct.newW 0)) CT)) w.heap.size 0 (Ct.newW 0) from ⟨CsAt.new w CT _, Ct.newW_ok 0 (by omega) (by omega)⟩)
  have HB1 := Lib.hid hb1
  clear hb1
  generalize w.alloc (Obj.cells (ctV 0 (Ct.newW 0)) CT) = w1 at *
  have hlt : w.heap.size ≤ w.heap.size := Nat.le_refl _
  go_wp2_with fail
  refine (read_c none 0 W0 off o0 o1 size w1 (ctp_none w1)).mono ?_
  rintro e w2 ⟨rfl, hb2⟩
  rw [HI.out, HR.out]
  have HA2 := Lib.hid (HA1.out.low hb2)
  have HB2 := Lib.hid (HB1.out.trans (hb2.mono HB1.out.size))
  clear hb2 HA1 HB1
  go_wp2_with fail
  refine (read_c (some ⟨w.heap.size, 0, none⟩) 0 W0 off o0 o1 size w2 HA2.out.p).mono ?_
  rintro e w3 ⟨rfl, hb3⟩
  rw [HI.out, HR.out]
  have HA3 := Lib.hid (HA2.out.low hb3)
  have HB3 := Lib.hid (HB2.out.trans (hb3.mono HB2.out.size))
  clear hb3 HA2 HB2
  go_wp2_with fail
  refine (write_c none 0 W0 off o0 o1 size 1 (by omega) (by omega) w3 (ctp_none w3)).mono ?_
  rintro e w4 ⟨rfl, -, ho4⟩
  rw [HI.out]
  have HA4 := Lib.hid (HA3.out.low ho4.none)
  have HB4 := Lib.hid (HB3.out.trans (ho4.none.mono HB3.out.size))
  clear ho4 HA3 HB3
  go_wp2_with fail
  refine (write_c (some ⟨w.heap.size, 0, none⟩) 0 W0 off o0 o1 size 1 (by omega) (by omega) w4 HA4.out.p).mono ?_
  rintro e w5 ⟨rfl, hA5, ho5⟩
  rw [HI.out]
  rw [HW.out] at hA5
  have HA5 := Lib.hid hA5.of
  have HB5 := Lib.hid (HB4.out.trans (ho5.below (B := w.heap.size) (fun c hc => by cases hc; exact hlt) HB4.out.size))
  clear hA5 ho5 HA4 HB4
  go_wp2_with fail
  refine (time_c none 0 W0 w5 (ctp_none w5) (fun _ => rfl)).mono ?_
  rintro e w6 ⟨rfl, rfl⟩
  rw [show W0.getD 0 0 = 0 from rfl]
  go_wp2_with fail
  refine (lines_c none 0 W0 n n0 n1 w6 (ctp_none w6)).mono ?_
  rintro e w7 ⟨rfl, hb7⟩
  rw [Ct.line_0]
  have HA7 := Lib.hid (HA5.out.low hb7)
  have HB7 := Lib.hid (HB5.out.trans (hb7.mono HB5.out.size))
  clear hb7 HA5 HB5
  go_wp2_with fail
  refine (tick_c none 0 W0 n n0 n1 w7 (ctp_none w7)).mono ?_
  rintro e w8 ⟨rfl, -, ho8⟩
  have HA8 := Lib.hid (HA7.out.low ho8.none)
  have HB8 := Lib.hid (HB7.out.trans (ho8.none.mono HB7.out.size))
  clear ho8 HA7 HB7
  go_wp2_with fail
  refine (tick_c (some ⟨w.heap.size, 0, none⟩) 0 W0 n n0 n1 w8 HA8.out.p).mono ?_
  rintro e w9 ⟨rfl, hA9, ho9⟩
  rw [Ct.tick_0] at hA9
  have HA9 := Lib.hid hA9.of
  have HB9 := Lib.hid (HB8.out.trans (ho9.below (B := w.heap.size) (fun c hc => by cases hc; exact hlt) HB8.out.size))
  clear hA9 ho9 HA8 HB8
  go_upto_region 9 with fail
  refine wp_region_steady (fun W => CtAt W w.heap.size 0 W0 ∧ Below w.heap.size w W) (by kernel_rfl) (by kernel_rfl) ⟨HA9.out.low (below_dnC (Below.refl _ _) 1), below_dnC HB9.out 1⟩ ?_
  refine steady_val (.agg (ctV 0 W0)) ?_ (by kernel_rfl) (fun W hS => exec_load_row _ _ rfl _ rfl _ _ _ hS.1.row Try.underlying27 rfl (iCT rfl)) ?_ ?_
  rotate_left 1
  · go_simp
    exact rfl
  refine steady_val (.agg (ctV 0 W0)) ?_ (by kernel_rfl) (fun W hS => (by go_simp; rfl)) ?_ ?_
  rotate_left 1
  · go_simp
    exact rfl
  refine steady_val (.bool true) ?_ (by kernel_rfl) (fun W hS => exec_cmp .eql 27 _ _ _ rfl (ctV 0 W0) (ctV 0 W0) rfl rfl guard_ct _ (eq_ct0 W)) ?_ ?_
  rotate_left 1
  · go_simp
    exact rfl
  refine steady_val ?_ ?_ (by kernel_rfl) (fun W hS => ?_) ?_ ?_
  rotate_left 2
  · go_simp
    exact rfl
  · go_simp
    exact rfl
  refine steady_enter (.int .u64 0) 20 #[.pointer (some ⟨w.heap.size, 0, none⟩)] ?_ (by kernel_rfl) (fun W hS => ?_) (fun W hS => (time_c _ 0 W0 W hS.1.p (fun _ => rfl)).mono (by rintro e w' ⟨rfl, rfl⟩; exact ⟨rfl, hS⟩)) ?_ ?_
  rotate_left 1
  · go_simp
  · go_simp
    exact rfl
  iterate 4
    refine steady_val ?_ ?_ (by kernel_rfl) (fun W hS => ?_) ?_ ?_
    rotate_left 2
    · go_simp
      exact rfl
    · go_simp
      exact rfl
  refine steady_enter (.int .u64 0) 21 #[.pointer (some ⟨w.heap.size, 0, none⟩), .int .i64 n] ?_ (by kernel_rfl) (fun W hS => ?_) (fun W hS => (lines_c _ 0 W0 n n0 n1 W hS.1.p).mono (by rintro e w' ⟨rfl, hb⟩; exact ⟨by rw [Ct.line_0], hS.1.low hb, hS.2.trans (hb.mono hS.2.size)⟩)) ?_ ?_
  rotate_left 1
  · go_simp
  · go_simp
    exact rfl
  iterate 3
    refine steady_val ?_ ?_ (by kernel_rfl) (fun W hS => ?_) ?_ ?_
    rotate_left 2
    · go_simp
      exact rfl
    · go_simp
      exact rfl
  refine steady_enter (.agg (ctV 0 W0)) 10 #[.int .i64 0] ?_ (by kernel_rfl) (fun W hS => ?_) (fun W hS => (new15_c 0 W).mono (by rintro e w' ⟨rfl, hb⟩; exact ⟨rfl, hS.1.low hb, hS.2.trans (hb.mono hS.2.size)⟩)) ?_ ?_
  rotate_left 1
  · go_simp
  · go_simp
    exact rfl
  refine steady_val (.agg (ctV 0 W0)) ?_ (by kernel_rfl) (fun W hS => exec_load_row _ _ rfl _ rfl _ _ _ hS.1.row Try.underlying27 rfl (iCT rfl)) ?_ ?_
  rotate_left 1
  · go_simp
    exact rfl
  refine steady_val (.bool true) ?_ (by kernel_rfl) (fun W hS => exec_cmp .eql 27 _ _ _ rfl (ctV 0 W0) (ctV 0 W0) rfl rfl guard_ct _ (eq_ct0 W)) ?_ ?_
  rotate_left 1
  · go_simp
    exact rfl
  iterate 2
    refine steady_val ?_ ?_ (by kernel_rfl) (fun W hS => ?_) ?_ ?_
    rotate_left 2
    · go_simp
      exact rfl
    · go_simp
      exact rfl
  refine steady_enter (.bool true) 9 #[] ?_ (by kernel_rfl) (fun W hS => ?_) (fun W hS => (live15_c W).mono (by rintro e w' ⟨rfl, hb⟩; exact ⟨rfl, hS.1.low hb, hS.2.trans (hb.mono hS.2.size)⟩)) ?_ ?_
  rotate_left 1
  · go_simp
  · go_simp
    exact rfl
  iterate 2
    refine steady_val ?_ ?_ (by kernel_rfl) (fun W hS => ?_) ?_ ?_
    rotate_left 2
    · go_simp
      exact rfl
    · go_simp
      exact rfl
  refine steady_nil ?_
  intro W hS
  have HS := Lib.hid hS.2
  go_wp2_with fail
  go_ret
  exact ⟨rfl, HS.out⟩
end Go.Proofs.Ytjeolfcefeglpaa
