/-
  The law RamSome: the function that the lines are told, and the telling.
-/
import Derived.Test.YtdlollkieihjpaaRpB
namespace Go.Proofs.Ytdlollkieihjpaa
open Go.ChangeShapes Go.WideShapes Go.ChangeAt Go.RowKit Wd

/-- The law's own three variables. -/
structure Cb (W : World) (pn : Nat) (n last : Int) : Prop where
  n : CsAt W pn 3 #[.int .i64 n]
  l : CsAt W (pn + 1) 3 #[.int .i64 last]
  f : CsAt W (pn + 2) 4 #[.bool true]
theorem Cb.low {W W' : World} {pn : Nat} {n last : Int} (h : Cb W pn n last) (hb : Below W.heap.size W W') : Cb W' pn n last := ⟨h.n.low hb, h.l.low hb, h.f.low hb⟩
/-- What the iteration reads. -/
structure Cx (W : World) (rb mb g xb bb pm cap : Nat) (B : List Int) (most : Int) : Prop where
  ram : RamAt W rb mb 30 B
  ref : RefAt W g 5 30 B
  x : CsAt W xb 34 #[.slice (some ⟨g, 0, none⟩) (64 * 30) cap]
  m : CsAt W pm 3 #[.int .i64 most]
  b : CsAt W bb 27 #[.pointer (some ⟨rb, 0, none⟩)]
theorem Cx.on {W W' : World} {rb mb g xb bb pm cap N : Nat} {B : List Int} {most : Int} (h : Cx W rb mb g xb bb pm cap B most) (hb : Below N W W') (h1 : rb < N) (h2 : mb < N) (h3 : g < N) (h4 : xb < N) (h5 : bb < N) (h6 : pm < N) : Cx W' rb mb g xb bb pm cap B most :=
  ⟨h.ram.on hb h1 h2, h.ref.on hb h3, CsAt.on h.x hb h4, CsAt.on h.m hb h6, CsAt.on h.b hb h5⟩
set_option maxHeartbeats 4000000 in
theorem cb_c {W : World} {rb mb g xb bb pm cap pn : Nat} {B : List Int} {most c last : Int} (k : Nat) (hk : k < 30) (h : Cb W pn c last) (hx : Cx W rb mb g xb bb pm cap B most) (h1 : rb < pn) (h2 : mb < pn) (h3 : g < pn) (h4 : xb < pn) (h5 : bb < pn) (h6 : pm < pn) (hf : Rm.full B k = true) (hl : last < k) (hc : 0 ≤ c ∧ c ≤ 30) :
    Calls Try.prog 24 #[.int .i64 (k : Int), .agg (aV .u8 (Rm.row B k)), .pointer (some ⟨pn, 0, none⟩), .pointer (some ⟨pn + 2, 0, none⟩), .pointer (some ⟨pn + 1, 0, none⟩), .pointer (some ⟨xb, 0, none⟩), .pointer (some ⟨pm, 0, none⟩)] W
      fun e W' => e = .returned (.bool (c + 1 != most)) ∧ Cb W' pn (c + 1) k ∧ Below pn W W' := by
  have hsz : pn + 2 < W.heap.size := h.f.lt
  have hB := (Below.refl W.heap.size W).alloc (Nat.le_refl _) (.cells (aV .u8 (Rm.row B k)) 49)
  have HB := Lib.hid (hB.mono (show pn ≤ W.heap.size by omega))
  have HCB := Lib.hid (h.low hB)
  have HR := Lib.hid (RowAt.new .u8 W 49 (Rm.row B k))
  have HX := Lib.hid hx
  have HLT := Lib.hid (And.intro h1 (And.intro h2 (And.intro h3 (And.intro h4 (And.intro h5 h6)))))
  have HQ1 := Lib.hid (show (!(Rm.row B k == List.replicate 64 (0 : Int))) = true from hf)
  have HQ2 := Lib.hid (show (Rm.row B k == Rm.row B k) = true by simp)
  have HRO := Lib.hid (row_at (B := B) (n := 30) k hk)
  have d1 : decide (last < (k : Int)) = true := by simpa using hl
  have cn := HCB.out.n.cell 0
  have fn := HCB.out.n.frozen 0
  clear h hx hB hf hl h1 h2 h3 h5
  go_enter Try.func24, Try.ntmps24
  go_upto_region 2 with (fail)
  generalize W.alloc (.cells (aV .u8 (Rm.row B k)) 49) = W1 at *
  have HCB2 := Lib.hid (show Cb (W1.setCell ⟨pn, 0, none⟩ (.int .i64 (c + 1))) pn (c + 1) last from ⟨CsAt.setc HCB.out.n 0 _, CsAt.farc HCB.out.l (by omega) _, CsAt.farc HCB.out.f (by omega) _⟩)
  have HB2 := Lib.hid (HB.out.setCell (p := ⟨pn, 0, none⟩) (Nat.le_refl _) (.int .i64 (c + 1)))
  have HR2 := Lib.hid (HR.out.far (c := pn) (i := 0) (by omega) (.int .i64 (c + 1)))
  clear HCB HB HR cn fn
  generalize W1.setCell ⟨pn, 0, none⟩ (.int .i64 (c + 1)) = W2 at *
  refine wp_region_steady_tail (fun V => Cb V pn (c + 1) last ∧ RowAt .u8 V W.heap.size 49 (Rm.row B k) ∧ Below pn W V) 18 (by kernel_rfl) (by kernel_rfl) ⟨HCB2.out.low (Below.refl _ _).drew, HR2.out, HB2.out.drew⟩ ?_
  iterate 7
    refine steady_val ?_ ?_ (by kernel_rfl) (fun W hS => ?_) ?_ ?_
    rotate_left 2
    · have cf := hS.1.f.cell 0; have cl := hS.1.l.cell 0; have cx := (CsAt.on HX.out.x hS.2.2 h4).cell 0; go_simp
      exact rfl
    · go_simp
      exact rfl
  refine steady_val (.agg (aV .u8 (Rm.row B k))) ?_ (by kernel_rfl) (fun W hS => exec_load_row _ _ rfl _ rfl _ _ _ hS.2.1 Try.underlying49 rfl (iL (row_len _ _))) ?_ ?_
  rotate_left 1
  · go_simp
    exact rfl
  refine steady_val (.agg (aV .u8 (List.replicate 64 0))) ?_ (by kernel_rfl) (fun W hS => exec_buildZ rfl) ?_ ?_
  rotate_left 1
  · go_simp
    exact rfl
  refine steady_val (.bool true) ?_ (by kernel_rfl) (fun W hS => exec_cmp .neq 49 _ _ _ rfl _ _ rfl rfl guard_line _ (ne_is _ _ _ (row_len _ _) zeros_len _ HQ1.out)) ?_ ?_
  rotate_left 1
  · go_simp
    exact rfl
  iterate 2
    refine steady_val ?_ ?_ (by kernel_rfl) (fun W hS => ?_) ?_ ?_
    rotate_left 2
    · have cf := hS.1.f.cell 0; have cl := hS.1.l.cell 0; have cx := (CsAt.on HX.out.x hS.2.2 h4).cell 0; go_simp
      exact rfl
    · go_simp
      exact rfl
  refine steady_val (.agg (aV .u8 (Rm.row B k))) ?_ (by kernel_rfl) (fun W hS => exec_load_row _ _ rfl _ rfl _ _ _ hS.2.1 Try.underlying49 rfl (iL (row_len _ _))) ?_ ?_
  rotate_left 1
  · go_simp
    exact rfl
  iterate 2
    refine steady_val ?_ ?_ (by kernel_rfl) (fun W hS => ?_) ?_ ?_
    rotate_left 2
    · have cf := hS.1.f.cell 0; have cl := hS.1.l.cell 0; have cx := (CsAt.on HX.out.x hS.2.2 h4).cell 0; go_simp
      exact rfl
    · go_simp
      exact rfl
  refine steady_enter (.agg (aV .u8 (Rm.row B k))) 25 #[.agg #[.slice (some ⟨g, 0, none⟩) (64 * 30) cap], .int .i64 (k : Int)] ?_ (by kernel_rfl) (fun W hS => ?_) (fun W hS => (rline_c cap (HX.out.ref.on hS.2.2 HLT.out.2.2.1) (k : Int) ⟨by omega, by omega⟩).mono fun e V' ⟨he, hb⟩ => ⟨HRO.out ▸ he, hS.1.low hb, hS.2.1.low hb, hS.2.2.trans (hb.mono (by have := hS.1.n.lt; omega))⟩) ?_ ?_
  rotate_left 1
  · go_simp
  · go_simp
    exact rfl
  refine steady_val (.bool true) ?_ (by kernel_rfl) (fun W hS => exec_cmp .eql 49 _ _ _ rfl _ _ rfl rfl guard_line _ (eq_is _ _ _ (row_len _ _) (row_len _ _) _ HQ2.out)) ?_ ?_
  rotate_left 1
  · go_simp
    exact rfl
  refine steady_val ?_ ?_ (by kernel_rfl) (fun W hS => ?_) ?_ ?_
  rotate_left 2
  · have cf := hS.1.f.cell 0; have cl := hS.1.l.cell 0; have cx := (CsAt.on HX.out.x hS.2.2 h4).cell 0; go_simp
    exact rfl
  · go_simp
    exact rfl
  refine steady_nil ?_
  intro V hS
  simp only [List.drop_succ_cons, List.drop_zero]
  have HV := Lib.hid hS
  have cf := hS.1.f.cell 0
  have ff := hS.1.f.frozen 0
  clear hS HCB2 HR2 HB2
  go_upto_region 3 with (fail)
  have HV3 := Lib.hid (show Cb (V.setCell ⟨pn + 2, 0, none⟩ (.bool true)) pn (c + 1) last from ⟨CsAt.farc HV.out.1.n (by omega) _, CsAt.farc HV.out.1.l (by omega) _, CsAt.setc HV.out.1.f 0 _⟩)
  have HB3 := Lib.hid (HV.out.2.2.setCell (p := ⟨pn + 2, 0, none⟩) (show pn ≤ pn + 2 by omega) (.bool true))
  clear HV cf ff
  generalize V.setCell ⟨pn + 2, 0, none⟩ (.bool true) = V3 at *
  have cl := HV3.out.l.cell 0
  have fl := HV3.out.l.frozen 0
  go_upto_region 4 with (fail)
  have HV4 := Lib.hid (show Cb (V3.setCell ⟨pn + 1, 0, none⟩ (.int .i64 (k : Int))) pn (c + 1) k from ⟨CsAt.farc HV3.out.n (by omega) _, CsAt.setc HV3.out.l 0 _, CsAt.farc HV3.out.f (by omega) _⟩)
  have HB4 := Lib.hid (HB3.out.setCell (p := ⟨pn + 1, 0, none⟩) (show pn ≤ pn + 1 by omega) (.int .i64 (k : Int)))
  clear HV3 HB3 cl fl
  generalize V3.setCell ⟨pn + 1, 0, none⟩ (.int .i64 (k : Int)) = V4 at *
  have cn := HV4.out.n.cell 0
  have cm := (CsAt.on HX.out.m HB4.out h6).cell 0
  go_wp2_with fail
  go_ret
  exact ⟨rfl, HV4.out, HB4.out⟩
end Go.Proofs.Ytdlollkieihjpaa
