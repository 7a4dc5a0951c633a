/-
  The contract of ram.Same (layer 10).
-/
import Derived.Test.YtdlollkieihjpaaRmH
import Derived.Test.YtdlollkieihjpaaSteadyI
namespace Go.Proofs.Ytdlollkieihjpaa
open Go.RowKit Go.Shelf
attribute [local go_sem] Oper.semAt_some

theorem same_nils (w : World) : Calls Try.prog 14 #[.pointer none, .pointer none] w fun e w' => e = .returned (.bool true) ∧ Below w.heap.size w w' := by
  have hB := ((Below.refl w.heap.size w).alloc (Nat.le_refl _) (.cells #[.pointer none] 27)).alloc (by simp) (.cells #[.bool true] 4)
  go_enter Try.func14, Try.ntmps14
  go_wp2_with fail
  exact bodyPost_ret (v := .bool true) (by simp [results, Try.results14, go_sem]) rfl ⟨rfl, hB⟩
theorem same_nil1 (p : Addr) (w : World) : Calls Try.prog 14 #[.pointer none, .pointer (some p)] w fun e w' => e = .returned (.bool false) ∧ Below w.heap.size w w' := by
  have hB := ((Below.refl w.heap.size w).alloc (Nat.le_refl _) (.cells #[.pointer (some p)] 27)).alloc (by simp) (.cells #[.bool false] 4)
  go_enter Try.func14, Try.ntmps14
  go_wp2_with fail
  exact bodyPost_ret (v := .bool false) (by simp [results, Try.results14, go_sem]) rfl ⟨rfl, hB⟩
theorem same_nil2 (p : Addr) (w : World) : Calls Try.prog 14 #[.pointer (some p), .pointer none] w fun e w' => e = .returned (.bool false) ∧ Below w.heap.size w w' := by
  have hB := ((Below.refl w.heap.size w).alloc (Nat.le_refl _) (.cells #[.pointer none] 27)).alloc (by simp) (.cells #[.bool false] 4)
  go_enter Try.func14, Try.ntmps14
  go_wp2_with fail
  exact bodyPost_ret (v := .bool false) (by simp [results, Try.results14, go_sem]) rfl ⟨rfl, hB⟩

theorem exec_lenR {o : Oper} {a : Act} {w : World} (m : Operand) (ho : o.op = .call { callee := .builtin .len, args := #[m], argTypes := #[67] }) {rb mb n : Nat} {B : List Int} (h : RamAt w rb mb n B) (hm : a.eval m = .map (some mb)) (X : Int) (hX : X = ((Rm.cnt B n : Nat) : Int)) :
    (execOp a.eval o).run Try.prog w = .ok (.value (.int .i64 X)) w := by
  obtain ⟨D, hD, hF⟩ := h.own
  have hl := hD.len Try.underlying67 o.type
  rw [hF.size, ← hX] at hl
  unfold execOp
  simp [ho, resolve, invoke, builtin, hm, hl, Result.andThen]
/-- What stands while two memories are compared. -/
structure SameAt (w0 W : World) (N ob rr rb mb sb sm n : Nat) (B C : List Int) : Prop where
  m : RamAt W rb mb n B
  o : RamAt W sb sm n C
  b : W.cell? ⟨ob, 0, none⟩ = some (.pointer (some ⟨sb, 0, none⟩))
  r : W.cell? ⟨rr, 0, none⟩ = some (.bool false)
  rf : W.frozen? ⟨rr, 0, none⟩ = false
  bel : Below w0.heap.size w0 W
  size : N ≤ W.heap.size
structure SameB (w0 : World) (N ob rr rb mb sb sm : Nat) : Prop where
  h1 : ob < N
  h2 : rr < N
  h3 : rb < N
  h4 : mb < N
  h5 : sb < N
  h6 : sm < N
  h7 : w0.heap.size ≤ rr
  h8 : w0.heap.size ≤ N
theorem SameAt.low {w0 W W' : World} {N ob rr rb mb sb sm n : Nat} {B C : List Int} (hb : SameB w0 N ob rr rb mb sb sm) (h : SameAt w0 W N ob rr rb mb sb sm n B C) (hl : Below W.heap.size W W') : SameAt w0 W' N ob rr rb mb sb sm n B C :=
  have hs := h.size
  have h1 := hb.h1
  have h2 := hb.h2
  ⟨h.m.low hl, h.o.low hl, (hl.cell (p := ⟨ob, 0, none⟩) (by show ob < W.heap.size; omega)).trans h.b, (hl.cell (p := ⟨rr, 0, none⟩) (by show rr < W.heap.size; omega)).trans h.r, (hl.frozen (p := ⟨rr, 0, none⟩) (by show rr < W.heap.size; omega)).trans h.rf, h.bel.trans (hl.mono h.bel.size), Nat.le_trans hs hl.size⟩
theorem SameAt.grown {w0 W W' : World} {N ob rr rb mb sb sm n : Nat} {B C : List Int} (hb : SameB w0 N ob rr rb mb sb sm) (h : SameAt w0 W N ob rr rb mb sb sm n B C) {row : Option Nat} (hg : W.grownBy W' row) (hr : ∀ r, row = some r → N ≤ r) : SameAt w0 W' N ob rr rb mb sb sm n B C := by
  have hk : Keep N N W W' := Keep.of_grown hg h.size hr
  have h1 := hb.h1
  have h2 := hb.h2
  have h3 := hb.h3
  have h4 := hb.h4
  have h5 := hb.h5
  have h6 := hb.h6
  have h8 := hb.h8
  exact ⟨h.m.keep hk (by omega) (by omega) (by omega) (by omega), h.o.keep hk (by omega) (by omega) (by omega) (by omega), (hk.cell (p := ⟨ob, 0, none⟩) h1 (by show ob ≠ N; omega)).trans h.b, (hk.cell (p := ⟨rr, 0, none⟩) h2 (by show rr ≠ N; omega)).trans h.r,
    (World.frozen?_of_block (w := W) (a := ⟨rr, 0, none⟩) (hk.block rr h2 (by omega))).trans h.rf, h.bel.grown hg h.bel.size (fun r e => by have := hr r e; omega), Nat.le_trans h.size hg.size⟩
theorem mem_told {B : List Int} {n : Nat} (i : Nat) (hi : i < n) (hf : Rm.full B i = true) : (⟨i, hi, hf⟩ : FullAt B n) ∈ told B n n := by
  unfold told
  rw [List.mem_filterMap]
  exact ⟨i, List.mem_range.2 hi, by unfold pick; rw [dif_pos ⟨hi, hf⟩]⟩
/-- How a comparison may be left: an unlike line was met. -/
structure UnAt (w0 W : World) (N rr : Nat) (B C : List Int) : Prop where
  ne : B ≠ C
  r : W.cell? ⟨rr, 0, none⟩ = some (.bool false)
  bel : Below w0.heap.size w0 W
  size : N ≤ W.heap.size
theorem UnAt.grown {w0 W W' : World} {N rr : Nat} {B C : List Int} (h2 : rr < N) (h8 : w0.heap.size ≤ N) (h : UnAt w0 W N rr B C) {row : Option Nat} (hg : W.grownBy W' row) (hr : ∀ r, row = some r → N ≤ r) : UnAt w0 W' N rr B C := by
  have hk : Keep N N W W' := Keep.of_grown hg h.size hr
  exact ⟨h.ne, (hk.cell (p := ⟨rr, 0, none⟩) h2 (by show rr ≠ N; omega)).trans h.r, h.bel.grown hg h.bel.size (fun r e => by have := hr r e; omega), Nat.le_trans h.size hg.size⟩
set_option maxRecDepth 100000 in
set_option maxHeartbeats 4000000 in
theorem same_in (m : Nat) (hm : 3 ≤ m) {w : World} {rb mb sb sm n : Nat} {B C : List Int} (h : RamAt w rb mb n B) (g : RamAt w sb sm n C) :
    CallsIn Fence.wide m Try.prog 14 #[.pointer (some ⟨rb, 0, none⟩), .pointer (some ⟨sb, 0, none⟩)] w fun e w' => e = .returned (.bool (B == C)) ∧ Below w.heap.size w w' := by
  have h1 : 1 ≤ m := by omega
  have hB := ((Below.refl w.heap.size w).alloc (Nat.le_refl _) (.cells #[.pointer (some ⟨sb, 0, none⟩)] 27)).alloc (by simp) (.cells #[.bool false] 4)
  have hob : ((w.alloc (.cells #[.pointer (some ⟨sb, 0, none⟩)] 27)).alloc (.cells #[.bool false] 4)).cell? ⟨w.heap.size, 0, none⟩ = some (.pointer (some ⟨sb, 0, none⟩)) :=
    ((CsAt.new w 27 #[.pointer (some ⟨sb, 0, none⟩)]).alloc (.cells #[.bool false] 4)).cell 0
  have hrr : ((w.alloc (.cells #[.pointer (some ⟨sb, 0, none⟩)] 27)).alloc (.cells #[.bool false] 4)).cell? ⟨w.heap.size + 1, 0, none⟩ = some (.bool false) := by simp
  have hrf : ((w.alloc (.cells #[.pointer (some ⟨sb, 0, none⟩)] 27)).alloc (.cells #[.bool false] 4)).frozen? ⟨w.heap.size + 1, 0, none⟩ = false := by simp
  have hs0 : SameAt w ((w.alloc (.cells #[.pointer (some ⟨sb, 0, none⟩)] 27)).alloc (.cells #[.bool false] 4)) (w.heap.size + 2) w.heap.size (w.heap.size + 1) rb mb sb sm n B C :=
    ⟨h.low hB, g.low hB, hob, hrr, hrf, hB, by simp⟩
  have hSB : SameB w (w.heap.size + 2) w.heap.size (w.heap.size + 1) rb mb sb sm := ⟨by omega, by omega, by have := h.lt; omega, by have := h.mlt; omega, by have := g.lt; omega, by have := g.mlt; omega, by omega, by omega⟩
  have HS0 := Lib.hid hs0
  have HN := Lib.hid h.n1
  clear hB hob hrr hrf hs0 h g
  refine callsIn_of_wp_marks Try.func14 rfl trivial ?_ rfl
  simp only [Try.ntmps14, List.size_toArray, List.length_cons, List.length_nil, Nat.reduceAdd, Nat.reduceSub, Array.replicate_succ, Array.replicate_zero, List.push_toArray, List.append_toArray, List.nil_append, List.cons_append]
  gi_wp2_with fail
  generalize (w.alloc (.cells #[.pointer (some ⟨sb, 0, none⟩)] 27)).alloc (.cells #[.bool false] 4) = w2 at *
  obtain ⟨X, hX⟩ : ∃ X : Int, X = ((Rm.cnt B n : Nat) : Int) := ⟨_, rfl⟩
  obtain ⟨Y, hY⟩ : ∃ Y : Int, Y = ((Rm.cnt C n : Nat) : Int) := ⟨_, rfl⟩
  have HX := Lib.hid hX
  have HY := Lib.hid hY
  clear hX hY
  refine wpIn_wide.2 ?_
  by_cases hc : X = Y
  · have hxy : (X != Y) = false := by simpa using hc
    have HC := Lib.hid hc
    clear hc
    refine wp_region_steady (fun W => SameAt w W (w.heap.size + 2) w.heap.size (w.heap.size + 1) rb mb sb sm n B C) (by kernel_rfl) (by kernel_rfl) (HS0.out.low hSB ((Below.refl _ _).drew)) ?_
    iterate 14
      refine steady_val ?_ ?_ (by kernel_rfl) (fun W hS => ?_) ?_ ?_
      rotate_left 2
      · have c0 := hS.m.c0; have c1 := hS.m.c1; have d0 := hS.o.c0; have d1 := hS.o.c1; have ob := hS.b; go_simp
        exact rfl
      · go_simp
        exact rfl
    refine steady_val (.int .i64 X) ?_ (by kernel_rfl) (fun W hS => exec_lenR _ rfl hS.m rfl X HX.out) ?_ ?_
    rotate_left 1
    · go_simp
      exact rfl
    iterate 4
      refine steady_val ?_ ?_ (by kernel_rfl) (fun W hS => ?_) ?_ ?_
      rotate_left 2
      · have c0 := hS.m.c0; have c1 := hS.m.c1; have d0 := hS.o.c0; have d1 := hS.o.c1; have ob := hS.b; go_simp
        exact rfl
      · go_simp
        exact rfl
    refine steady_val (.int .i64 Y) ?_ (by kernel_rfl) (fun W hS => exec_lenR _ rfl hS.o rfl Y HY.out) ?_ ?_
    rotate_left 1
    · go_simp
      exact rfl
    iterate 2
      refine steady_val ?_ ?_ (by kernel_rfl) (fun W hS => ?_) ?_ ?_
      rotate_left 2
      · go_simp
        exact rfl
      · go_simp
        exact rfl
    refine steady_nil ?_
    intro w3 h3
    have HS3 := Lib.hid h3
    clear h3 HS0
    gi_wp2_with fail
    refine ⟨trivial, (callsIn_wide.2 (some_c _ _)).mono ?_⟩
    rintro e w4 ⟨rfl, rfl⟩
    gi_wp2_with fail
    have hbb : (w3.alloc (.cells #[.pointer (some ⟨rb, 0, none⟩)] 27)).cell? ⟨w3.heap.size, 0, none⟩ = some (.pointer (some ⟨rb, 0, none⟩)) := (CsAt.new w3 27 #[.pointer (some ⟨rb, 0, none⟩)]).cell 0
    have hs4 := HS3.out.low hSB ((Below.refl w3.heap.size w3).alloc (Nat.le_refl _) (.cells #[.pointer (some ⟨rb, 0, none⟩)] 27))
    have hsz : (w3.alloc (.cells #[.pointer (some ⟨rb, 0, none⟩)] 27)).heap.size = w3.heap.size + 1 := by simp
    have hz3 := HS3.out.size
    generalize (w3.alloc (.cells #[.pointer (some ⟨rb, 0, none⟩)] 27)) = w4 at *
    have hs5 : SameAt w w4 w4.heap.size w.heap.size (w.heap.size + 1) rb mb sb sm n B C := ⟨hs4.m, hs4.o, hs4.b, hs4.r, hs4.rf, hs4.bel, Nat.le_refl _⟩
    have hb1 := hSB.h3
    have hb2 := hSB.h4
    have hb3 := hSB.h5
    have hb4 := hSB.h6
    have hS5 : SameB w w4.heap.size w.heap.size (w.heap.size + 1) rb mb sb sm := ⟨by omega, by omega, by omega, by omega, by omega, by omega, by omega, by omega⟩
    clear HS3 hs4
    refine wpIn_rangeFunc_ownH rfl h1 (gf := 39) (lb := #[.pointer (some ⟨w3.heap.size, 0, none⟩)]) rfl trivial (enters_of Try.func39 (by kernel_rfl) rfl)
      (some1_stops w4.heap.size w4.heap.size w3.heap.size rb mb n B (m - 1) (by omega) w4 hbb hs5.m (Nat.le_refl _) (by omega) (by omega) (by omega) (by omega) (by omega) (by omega)) Keep.trans (keep_b (Nat.le_refl _)) (Below.refl _ _) (fun _ => rfl)
      (fun pre W => (∀ x ∈ pre, Rm.row C x.1 = Rm.row B x.1) ∧ SameAt w W w4.heap.size w.heap.size (w.heap.size + 1) rb mb sb sm n B C)
      (fun c _ W => c = .ret ∧ UnAt w W w4.heap.size (w.heap.size + 1) B C)
      (fun pre W W' row hs hg hr => ⟨hs.1, hs.2.grown hS5 hg (fun r e => (hr r e).1)⟩)
      (fun c pre W W' row hs hg hr => ⟨hs.1, hs.2.grown hS5.h2 hS5.h8 hg (fun r e => (hr r e).1)⟩)
      ⟨fun x hx => absurd hx (by simp), hs5⟩
      (fun x a' W => ∃ Bx, w4.heap.size ≤ Bx ∧ RowAt .u8 W Bx 49 (Rm.row B x.1) ∧ a' = { tmps := #[.pointer (some ⟨rb, 0, none⟩), .pointer (some ⟨sb, 0, none⟩), undef, .pointer (some ⟨w.heap.size, 0, none⟩), .pointer (some ⟨w.heap.size + 1, 0, none⟩), .int .i64 (x.1 : Int), .pointer (some ⟨Bx, 0, none⟩), .pointer (some ⟨rb, 0, none⟩), .bool false, .bool false, .pointer (some ⟨sb, 0, none⟩), .bool false, .bool false, undef, undef, undef, undef, undef, undef, .pointer (some ⟨rb, 0, none⟩), .pointer (some ⟨rb, 0, none⟩), .pointer (some ⟨rb, 0, none⟩), .int .i64 (n : Int), .pointer (some ⟨sb, 0, none⟩), .pointer (some ⟨sb, 0, none⟩), .pointer (some ⟨sb, 0, none⟩), .int .i64 (n : Int), .bool false, .bool false, .pointer (some ⟨rb, 0, none⟩), .pointer (some ⟨rb, 0, none⟩), .pointer (some ⟨rb, 1, none⟩), .map (some mb), .int .i64 X, .pointer (some ⟨sb, 0, none⟩), .pointer (some ⟨sb, 0, none⟩), .pointer (some ⟨sb, 1, none⟩), .map (some sm), .int .i64 Y, .bool false, .bool false, .pointer (some ⟨rb, 0, none⟩), .func (.func 39) #[] #[.pointer (some ⟨w3.heap.size, 0, none⟩)], .int .i64 (x.1 : Int), .agg (aV .u8 (Rm.row B x.1)), undef, undef, undef, undef, undef], defers := [] })
      (fun x a' => by
        rintro - W W' row ⟨Bx, hBx, hR, ha⟩ hg hr
        exact ⟨Bx, hBx, rowAt_own hR hg hr, ha⟩) ?assign ?body ?done ?stop
    case assign =>
      rintro l pre x W K hI hK
      have HL := Lib.hid (Rm.row_is hI.2.m.ok x.1).1
      gi_wp2_with (refine wpListIn_unit _ (by rfl) (by rfl) (fun _ h => by cases h) (exec_storeNew 49 _ _ rfl _ _ _ rfl rfl (iL HL.out) (zeros_size HL.out) (aV_one _ _)) ?_)
      have hbx := (Below.refl W.heap.size W).alloc (Nat.le_refl _) (.cells (aV .u8 (Rm.row B x.1)) 49)
      exact hK _ _ ((KeepsOthers.alloc _ _).from _) (Keep.of_below hbx hI.2.size) ⟨hI.1, hI.2.low hS5 hbx⟩ ⟨W.heap.size, hI.2.size, RowAt.new _ _ _ _, rfl⟩
    case body =>
      rintro l pre x a' W hl ⟨r, hr⟩ ⟨hI1, hI2⟩ ⟨Bx, hBx, hRow, rfl⟩ hlen
      have HL := Lib.hid (Rm.row_is hI2.m.ok x.1).1
      have HL2 := Lib.hid (Rm.row_is hI2.o.ok x.1).1
      have HI1 := Lib.hid hI1
      have hx1 := x.2.1
      have hlow : Below W.heap.size W W.drew := (Below.refl _ _).drew
      have HS := Lib.hid (show SameAt w W.drew w4.heap.size w.heap.size (w.heap.size + 1) rb mb sb sm n B C ∧ RowAt .u8 W.drew Bx 49 (Rm.row B x.1) ∧ Below W.heap.size W W.drew from ⟨hI2.low hS5 hlow, hRow.low hlow, hlow⟩)
      have hW4 := hI2.size
      clear hI1 hI2 hRow hr hlow
      gi_wp2_with fail
      by_cases he : Rm.row C x.1 = Rm.row B x.1
      · have HE := Lib.hid (show (!(Rm.row C x.1 == Rm.row B x.1)) = false by rw [he]; simp)
        have HQ := Lib.hid he
        clear he
        refine wp_region_steady_in (F := Fence.wide.inRound l) (n := m - 1 - 1) (fun W' => SameAt w W' w4.heap.size w.heap.size (w.heap.size + 1) rb mb sb sm n B C ∧ RowAt .u8 W' Bx 49 (Rm.row B x.1) ∧ Below W.heap.size W W') (fun _ => trivial) rfl wide_call (by kernel_rfl) (by kernel_rfl) (by kernel_rfl) HS.out ?_
        iterate 2
          refine steady_val ?_ ?_ (by kernel_rfl) (fun W hS => ?_) ?_ ?_
          rotate_left 2
          · have ob := hS.1.b; go_simp
            exact rfl
          · go_simp
            exact rfl
        refine steady_enter (.agg (aV .u8 (Rm.row C x.1))) 20 #[.pointer (some ⟨sb, 0, none⟩), .int .i64 (x.1 : Int)] ?_ (by kernel_rfl) (fun W hS => ?_) (fun W hS => (line_yes hS.1.o x.1 hx1).mono fun e W' ⟨he, hb⟩ => ⟨he, hS.1.low hS5 hb, hS.2.1.low hb, hS.2.2.trans (hb.mono hS.2.2.size)⟩) ?_ ?_
        rotate_left 1
        · go_simp
        · go_simp
          exact rfl
        refine steady_val (.agg (aV .u8 (Rm.row B x.1))) ?_ (by kernel_rfl) (fun W hS => exec_load_row _ _ rfl _ rfl _ _ _ hS.2.1 Try.underlying49 rfl (iL HL.out)) ?_ ?_
        rotate_left 1
        · go_simp
          exact rfl
        refine steady_val (.bool false) ?_ (by kernel_rfl) (fun W hS => exec_cmp .neq 49 _ _ _ rfl _ _ rfl rfl guard_line _ (ne_is _ _ _ HL2.out HL.out false HE.out)) ?_ ?_
        rotate_left 1
        · go_simp
          exact rfl
        refine steady_nil ?_
        rintro W' ⟨q1, -, q3⟩
        have HF := Lib.hid (And.intro q1 q3)
        clear q1 q3 HS
        gi_wp2_with fail
        refine ⟨⟨HF.out.2.size, fun k o hk h0 _ => (HF.out.2.block k (Array.getElem?_eq_some_iff.1 h0).1).trans h0⟩, Keep.of_below HF.out.2 hW4, fun y hy => ?_, HF.out.1⟩
        rcases List.mem_append.1 hy with hy | hy
        · exact HI1.out y hy
        · obtain rfl := List.mem_singleton.1 hy
          exact HQ.out
      · have HE := Lib.hid (show (!(Rm.row C x.1 == Rm.row B x.1)) = true by simpa using he)
        have HQ := Lib.hid (show B ≠ C from fun e => he (congrArg (fun Z => Rm.row Z (Subtype.val x)) e.symm))
        clear he
        refine wp_region_steady_in (F := Fence.wide.inRound l) (n := m - 1 - 1) (fun W' => SameAt w W' w4.heap.size w.heap.size (w.heap.size + 1) rb mb sb sm n B C ∧ RowAt .u8 W' Bx 49 (Rm.row B x.1) ∧ Below W.heap.size W W') (fun _ => trivial) rfl wide_call (by kernel_rfl) (by kernel_rfl) (by kernel_rfl) HS.out ?_
        iterate 2
          refine steady_val ?_ ?_ (by kernel_rfl) (fun W hS => ?_) ?_ ?_
          rotate_left 2
          · have ob := hS.1.b; go_simp
            exact rfl
          · go_simp
            exact rfl
        refine steady_enter (.agg (aV .u8 (Rm.row C x.1))) 20 #[.pointer (some ⟨sb, 0, none⟩), .int .i64 (x.1 : Int)] ?_ (by kernel_rfl) (fun W hS => ?_) (fun W hS => (line_yes hS.1.o x.1 hx1).mono fun e W' ⟨he, hb⟩ => ⟨he, hS.1.low hS5 hb, hS.2.1.low hb, hS.2.2.trans (hb.mono hS.2.2.size)⟩) ?_ ?_
        rotate_left 1
        · go_simp
        · go_simp
          exact rfl
        refine steady_val (.agg (aV .u8 (Rm.row B x.1))) ?_ (by kernel_rfl) (fun W hS => exec_load_row _ _ rfl _ rfl _ _ _ hS.2.1 Try.underlying49 rfl (iL HL.out)) ?_ ?_
        rotate_left 1
        · go_simp
          exact rfl
        refine steady_val (.bool true) ?_ (by kernel_rfl) (fun W hS => exec_cmp .neq 49 _ _ _ rfl _ _ rfl rfl guard_line _ (ne_is _ _ _ HL2.out HL.out true HE.out)) ?_ ?_
        rotate_left 1
        · go_simp
          exact rfl
        refine steady_nil ?_
        rintro W' ⟨q1, -, q3⟩
        have HF := Lib.hid (And.intro q1 q3)
        have cr := q1.r
        have cf := q1.rf
        clear q1 q3 HS
        gi_wp2_with fail
        have hks : KeepsFrom w4.heap.size W W' := ⟨HF.out.2.size, fun k o hk h0 _ => (HF.out.2.block k (Array.getElem?_eq_some_iff.1 h0).1).trans h0⟩
        exact ⟨hks.trans ((KeepsOthers.setCell _ _ _).from _), rfl, HQ.out, World.cell?_setCell_same' _ _ _ (by rw [HF.out.1.r]; rfl), HF.out.1.bel.setCell (p := ⟨w.heap.size + 1, 0, none⟩) (by simp) _, by simpa using HF.out.1.size⟩
    case done =>
      rintro D xs W hD rfl ⟨hI1, hI2⟩ hK
      have HI := Lib.hid hI2
      have HE := Lib.hid (show (B == C) = true by
        have hcn : Rm.cnt B n = Rm.cnt C n := by
          have h1 := HX.out
          have h2 := HY.out
          have h3 := HC.out
          omega
        have := Rm.cnt_eq n (fun i hi hf => hI1 ⟨i, hi, hf⟩ (mem_told i hi hf)) hcn
        rw [Rm.eq_rows hI2.o.ok hI2.m.ok this]
        simp)
      have cr := hI2.r
      have cf := hI2.rf
      clear hI1 hI2
      gi_wp2_with fail
      have hK' := (KeepsOthers.setCell W ⟨w.heap.size + 1, 0, none⟩ (.bool true)).same D _ hK rfl
      refine ⟨by simp, .inl ⟨_, _, rfl, run_takeDeferred hK', ?_⟩⟩
      have e1 := cell_kept (World.cell?_setCell_same' W ⟨w.heap.size + 1, 0, none⟩ (.bool true) (by rw [HI.out.r]; rfl)) (grownBy_putObj' _ D (.deferred none)) (fun r e => by cases e; exact ⟨_, hK', rfl⟩)
      refine ⟨.bool true, ?_, by rw [HE.out], (HI.out.bel.setCell (p := ⟨w.heap.size + 1, 0, none⟩) (by simp) _).trans (belowK_b (n₀ := w.heap.size) (w := w4) (by omega) _ D _ _ hD hK' rfl rfl)⟩
      simp [results, Try.f14, go_sem, e1]
    case stop =>
      rintro D c pre W hD ⟨k, hk, rfl⟩ ⟨rfl, hu⟩ hK
      have HE := Lib.hid (show (B == C) = false by simpa using hu.ne)
      gi_wp2_with fail
      refine ⟨by simp, .inl ⟨_, _, rfl, run_takeDeferred hK, ?_⟩⟩
      have e1 := cell_kept hu.r (grownBy_putObj' _ D (.deferred none)) (fun r e => by cases e; exact ⟨_, hK, rfl⟩)
      refine ⟨.bool false, ?_, by rw [HE.out], hu.bel.trans (belowK_b (n₀ := w.heap.size) (w := w4) (by omega) W D _ _ hD hK rfl rfl)⟩
      simp [results, Try.f14, go_sem, e1]
  · have hxy : (X != Y) = true := by simpa using hc
    have HC := Lib.hid hc
    clear hc
    refine wp_region_steady (fun W => SameAt w W (w.heap.size + 2) w.heap.size (w.heap.size + 1) rb mb sb sm n B C) (by kernel_rfl) (by kernel_rfl) (HS0.out.low hSB ((Below.refl _ _).drew)) ?_
    iterate 14
      refine steady_val ?_ ?_ (by kernel_rfl) (fun W hS => ?_) ?_ ?_
      rotate_left 2
      · have c0 := hS.m.c0; have c1 := hS.m.c1; have d0 := hS.o.c0; have d1 := hS.o.c1; have ob := hS.b; go_simp
        exact rfl
      · go_simp
        exact rfl
    refine steady_val (.int .i64 X) ?_ (by kernel_rfl) (fun W hS => exec_lenR _ rfl hS.m rfl X HX.out) ?_ ?_
    rotate_left 1
    · go_simp
      exact rfl
    iterate 4
      refine steady_val ?_ ?_ (by kernel_rfl) (fun W hS => ?_) ?_ ?_
      rotate_left 2
      · have c0 := hS.m.c0; have c1 := hS.m.c1; have d0 := hS.o.c0; have d1 := hS.o.c1; have ob := hS.b; go_simp
        exact rfl
      · go_simp
        exact rfl
    refine steady_val (.int .i64 Y) ?_ (by kernel_rfl) (fun W hS => exec_lenR _ rfl hS.o rfl Y HY.out) ?_ ?_
    rotate_left 1
    · go_simp
      exact rfl
    iterate 2
      refine steady_val ?_ ?_ (by kernel_rfl) (fun W hS => ?_) ?_ ?_
      rotate_left 2
      · go_simp
        exact rfl
      · go_simp
        exact rfl
    refine steady_nil ?_
    intro w3 h3
    have HE := Lib.hid (show (B == C) = false by
      have h1 := HX.out
      have h2 := HY.out
      have h3 := HC.out
      rw [beq_eq_false_iff_ne]
      intro e
      rw [e] at h1
      omega)
    have HS3 := Lib.hid h3
    have cr := h3.r
    have cf := h3.rf
    clear h3 HS0
    gi_wp2_with fail
    have e1 := World.cell?_setCell_same' w3 ⟨w.heap.size + 1, 0, none⟩ (.bool false) (by rw [HS3.out.r]; rfl)
    refine ⟨.bool false, ?_, by rw [HE.out], HS3.out.bel.setCell (p := ⟨w.heap.size + 1, 0, none⟩) (by simp) _⟩
    simp [results, Try.f14, go_sem, e1]
theorem same_c {w : World} {rb mb sb sm n : Nat} {B C : List Int} (h : RamAt w rb mb n B) (g : RamAt w sb sm n C) :
    Calls Try.prog 14 #[.pointer (some ⟨rb, 0, none⟩), .pointer (some ⟨sb, 0, none⟩)] w fun e w' => e = .returned (.bool (B == C)) ∧ Below w.heap.size w w' :=
  (callsIn_wide (n := 3)).1 (same_in 3 (by decide) h g)
end Go.Proofs.Ytdlollkieihjpaa
