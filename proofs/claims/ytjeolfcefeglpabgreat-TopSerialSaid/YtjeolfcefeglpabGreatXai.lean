/-
  Contracts of package ram (layer 10): empty, New, Lines, hasLine, placeOf, find, Has, hasNumber, Line, SetLine. Contracts of package ram (layer 10): SetLine, put, Has, hasNumber, empty, New. Contracts of package ram (layer 10): Load, Store.
-/
import Derived.Test.YtjeolfcefeglpabGreatXah
import Derived.Carry
set_option maxRecDepth 20000
namespace Go.Proofs.YtjeolfcefeglpabGreat
open Go.ChangeShapes Go.WideShapes Go.ChangeAt Go.RowKit Wd

theorem lines_c {w : World} {rb mb n : Nat} {B : List Int} (h : RamAt w rb mb n B) : Calls Tryz.prog 98 #[.pointer (some ⟨rb, 0, none⟩)] w fun e w' => e = .returned (.int .i64 (n : Int)) ∧ w = w' := by
  have c0 := h.c0
  clear h
  go_enter Tryz.func98, Tryz.ntmps98
  go_wp2_with fail
  go_ret
  exact ⟨rfl, rfl⟩
theorem lines_nil (w : World) : Calls Tryz.prog 98 #[.pointer none] w fun e w' => e = .returned (.int .i64 0) ∧ w = w' := by
  go_enter Tryz.func98, Tryz.ntmps98
  go_wp2_with fail
  go_ret
  exact ⟨rfl, rfl⟩
/-- How many lines a receiver has. -/
def linesV (w : World) (p : Option Addr) (n : Nat) : Prop := Calls Tryz.prog 98 #[.pointer p] w fun e w' => e = .returned (.int .i64 (n : Int)) ∧ w = w'
theorem hasLine_c {w : World} {p : Option Addr} {n : Nat} (h : linesV w p n) (i : Int) : Calls Tryz.prog 54 #[.pointer p, .int .i64 i] w fun e w' => e = .returned (.bool (decide (0 ≤ i ∧ i < n))) ∧ w = w' := by
  have H := Lib.hid h
  clear h
  by_cases h0 : 0 ≤ i
  · have g0 : decide (0 ≤ i) = true := by simpa using h0
    have HE := Lib.hid (show decide (0 ≤ i ∧ i < (n : Int)) = decide (i < (n : Int)) from decide_eq_decide.2 (by omega))
    go_enter Tryz.func54, Tryz.ntmps54
    go_wp2_with fail
    refine H.out.mono ?_
    rintro e w' ⟨rfl, rfl⟩
    go_wp2_with fail
    go_ret
    exact ⟨lret_b HE.out.symm, rfl⟩
  · have g0 : decide (0 ≤ i) = false := by simpa using h0
    have HE := Lib.hid (show decide (0 ≤ i ∧ i < (n : Int)) = false by simp; omega)
    go_enter Tryz.func54, Tryz.ntmps54
    go_wp2_with fail
    go_ret
    exact ⟨by first | rfl | exact lret_b HE.out.symm, rfl⟩
theorem info_place : (Tryz.prog.info? 134).map (·.size) = some 2 := by kernel_rfl
theorem place_c (i : Nat) (hi : i < 1000000) (w : World) : Calls Tryz.prog 55 #[.int .i64 (i : Int)] w fun e w' => e = .returned (plV i) ∧ Below w.heap.size w w' := by
  have HE := Lib.hid (show Ending.returned (.agg #[.int .i64 ((i : Int) / 64), .int .i64 ((i : Int) % 64)]) = .returned (plV i) by
    unfold plV
    rw [show (i : Int) / 64 = ((i / 64 : Nat) : Int) by omega, show (i : Int) % 64 = ((i % 64 : Nat) : Int) by omega])
  go_enter Tryz.func55, Tryz.ntmps55
  go_wp2_with fail
  exact bodyPost_ret (results_cell_row Tryz.results55 _ _ _ _ _ _ _ rfl (heap_alloc_last w _) Tryz.underlying134 rfl info_place) rfl ⟨HE.out, (Below.refl _ _).alloc (Nat.le_refl _) _⟩
theorem find_c (x : Int) (w : World) (h0 : 2147483648 ≤ x) (h1 : x < 2147483648 + 262144) : Calls Tryz.prog 117 #[.int .u64 x] w fun e w' => e = .returned (.tuple #[.int .i64 ((x - 2147483648) / 64), .int .i64 ((x - 2147483648) % 64)]) ∧ w = w' := by
  go_enter Tryz.func117, Tryz.ntmps117
  go_wp2_with fail
  go_ret2
  exact ⟨rfl, rfl⟩

/-- The line of a number, or noughts. -/
def lineAt (B : List Int) (n : Nat) (i : Int) : List Int := if 0 ≤ i ∧ i < n then Rm.row B i.toNat else Ln.zeros
theorem lineAt_is {B : List Int} {n : Nat} (h : Rm.Ok B n) (i : Int) : Ln.Is (lineAt B n i) := by
  unfold lineAt
  split
  · exact Rm.row_is h _
  · exact Ln.zeros_is
theorem built_line : Tryz.prog.built 73 [] = some (aV .u8 (List.replicate 64 0)) := by kernel_rfl
theorem wpList_buildZ {ops : Array Oper} {rest : List Oper} {o : Oper} {a : Act} {w : World} {Q : Exit → Act → World → Prop} (hg : o.guard = none) (ho : o.op = .build 73 #[])
    (h : wpList Tryz.prog ops Q rest (a.put o.dst (.agg (aV .u8 (List.replicate 64 0)))) w) : wpList Tryz.prog ops Q (o :: rest) a w :=
  wpList_buildTo hg 73 _ ho _ rfl _ (by simpa using built_line) h
set_option maxHeartbeats 1000000 in
theorem line_no {w : World} {p : Option Addr} {n : Nat} (hl : ∀ W, Below w.heap.size w W → linesV W p n) (i : Int) (hi : ¬ (0 ≤ i ∧ i < n)) : Calls Tryz.prog 19 #[.pointer p, .int .i64 i] w fun e w' => e = .returned (.agg (aV .u8 Ln.zeros)) ∧ Below w.heap.size w w' := by
  have hB := (Below.refl w.heap.size w).alloc (Nat.le_refl _) (.cells (aV .u8 (List.replicate 64 0)) 73)
  have HV := Lib.hid (hl _ hB)
  have HB := Lib.hid hB
  have HR := Lib.hid (RowAt.new .u8 w 73 (List.replicate 64 0))
  have HD := Lib.hid (show decide (0 ≤ i ∧ i < (n : Int)) = false by simpa using hi)
  clear hl hi hB
  go_enter Tryz.func19, Tryz.ntmps19
  go_wp2_with fail
  rw [← zeros64]
  generalize w.alloc (.cells (aV .u8 (List.replicate 64 0)) 73) = w1 at *
  refine (hasLine_c HV.out i).mono ?_
  rintro e w2 ⟨rfl, rfl⟩
  rw [HD.out]
  go_wp2_with (first | (refine wpList_buildZ rfl rfl ?_) | (refine wpList_store_row rfl 73 _ _ rfl w.heap.size _ rfl rfl 73 _ HR.out (iL (by rfl)) rfl (aV_one _ _) ?_))
  exact bodyPost_ret (results_cell_row Tryz.results19 _ _ _ _ _ _ _ rfl (HR.out.row _) Tryz.underlying73 rfl (iL (by rfl))) rfl ⟨rfl, below_setRow HB.out (Nat.le_refl _) _⟩
set_option maxHeartbeats 2000000 in
theorem line_yes {w : World} {rb mb n : Nat} {B : List Int} (h : RamAt w rb mb n B) (i : Nat) (hi : i < n) : Calls Tryz.prog 19 #[.pointer (some ⟨rb, 0, none⟩), .int .i64 (i : Int)] w fun e w' => e = .returned (.agg (aV .u8 (Rm.row B i))) ∧ Below w.heap.size w w' := by
  have hB := (Below.refl w.heap.size w).alloc (Nat.le_refl _) (.cells (aV .u8 (List.replicate 64 0)) 73)
  have HH := Lib.hid (h.low hB)
  have HB := Lib.hid hB
  have HI := Lib.hid (Rm.row_is h.ok i).1
  have HR := Lib.hid (RowAt.new .u8 w 73 (List.replicate 64 0))
  have HD := Lib.hid (show decide (0 ≤ (i : Int) ∧ (i : Int) < (n : Int)) = true by simp; omega)
  have HN := Lib.hid (show i < 1000000 by have := h.n1; omega)
  clear h hB
  go_enter Tryz.func19, Tryz.ntmps19
  go_wp2_with fail
  rw [← zeros64]
  generalize w.alloc (.cells (aV .u8 (List.replicate 64 0)) 73) = w1 at *
  refine (hasLine_c (lines_c HH.out) (i : Int)).mono ?_
  rintro e w2 ⟨rfl, rfl⟩
  rw [HD.out]
  go_upto_region 3 with (fail)
  refine wp_region_steady_tail (fun W => RamAt W rb mb n B ∧ RowAt .u8 W w.heap.size 73 (List.replicate 64 0) ∧ Below w.heap.size w W) 7 (by kernel_rfl) (by kernel_rfl) ⟨HH.out.drew, HR.out, HB.out.drew⟩ ?_
  iterate 5
    refine steady_val ?_ ?_ (by kernel_rfl) (fun W hS => ?_) ?_ ?_
    rotate_left 2
    · have c1 := hS.1.c1; go_simp
      exact rfl
    · go_simp
      exact rfl
  refine steady_enter (plV i) 55 #[.int .i64 (i : Int)] ?_ (by kernel_rfl) (fun W hS => ?_) (fun W hS => (place_c i HN.out W).mono fun e W' ⟨he, hb⟩ => ⟨he, hS.1.low hb, hS.2.1.low hb, hS.2.2.trans (hb.mono hS.2.2.size)⟩) ?_ ?_
  rotate_left 1
  · go_simp
  · go_simp
    exact rfl
  refine steady_val (.agg (aV .u8 (Rm.row B i))) ?_ (by kernel_rfl) (fun W hS => exec_lookup _ _ rfl hS.1 i hi rfl rfl) ?_ ?_
  rotate_left 1
  · go_simp
    exact rfl
  refine steady_nil ?_
  rintro W ⟨hW1, hW2, hW3⟩
  simp only [List.drop_succ_cons, List.drop_zero]
  have HR2 := Lib.hid hW2
  have HB2 := Lib.hid hW3
  clear hW1 hW2 hW3 HH HB HR
  go_wp2_with (refine wpList_store_row rfl 73 _ _ rfl w.heap.size _ rfl rfl 73 _ HR2.out (iL HI.out) (zeros_size HI.out) (aV_one _ _) ?_)
  exact bodyPost_ret (results_cell_row Tryz.results19 _ _ _ _ _ _ _ rfl (HR2.out.row _) Tryz.underlying73 rfl (iL HI.out)) rfl ⟨rfl, below_setRow HB2.out (Nat.le_refl _) _⟩
theorem line_c {w : World} {rb mb n : Nat} {B : List Int} (h : RamAt w rb mb n B) (i : Int) : Calls Tryz.prog 19 #[.pointer (some ⟨rb, 0, none⟩), .int .i64 i] w fun e w' => e = .returned (.agg (aV .u8 (lineAt B n i))) ∧ Below w.heap.size w w' := by
  by_cases hi : 0 ≤ i ∧ i < n
  · obtain ⟨k, rfl⟩ := Int.eq_ofNat_of_zero_le hi.1
    have e : lineAt B n (k : Int) = Rm.row B k := by unfold lineAt; rw [if_pos hi, Int.toNat_natCast]
    rw [e]
    exact line_yes h k (by omega)
  · have e : lineAt B n i = Ln.zeros := by unfold lineAt; rw [if_neg hi]
    rw [e]
    exact line_no (fun W hb => lines_c (h.low hb)) i hi
theorem line_nil (i : Int) (w : World) : Calls Tryz.prog 19 #[.pointer none, .int .i64 i] w fun e w' => e = .returned (.agg (aV .u8 Ln.zeros)) ∧ Below w.heap.size w w' :=
  line_no (n := 0) (fun W _ => lines_nil W) i (by omega)
end Go.Proofs.YtjeolfcefeglpabGreat
set_option maxRecDepth 20000
namespace Go.Proofs.YtjeolfcefeglpabGreat
open Go.ChangeShapes Go.WideShapes Go.ChangeAt Go.RowKit Wd

theorem sz_u8 (w : World) : (sizeOf 5).run Tryz.prog w = .ok 1 w := by kernel_rfl
theorem eq_line (w : World) (xs ys : List Int) (hx : xs.length = 64) (hy : ys.length = 64) : (binOp .eql 73 (.agg (aV .u8 xs)) (.agg (aV .u8 ys))).run Tryz.prog w = .ok (.bool (xs == ys)) w :=
  run_eql_ints w 73 5 64 .u8 Tryz.underlying73 Tryz.underlying5 sz_u8 xs ys hx hy
theorem ne_line (w : World) (xs ys : List Int) (hx : xs.length = 64) (hy : ys.length = 64) : (binOp .neq 73 (.agg (aV .u8 xs)) (.agg (aV .u8 ys))).run Tryz.prog w = .ok (.bool (!(xs == ys))) w :=
  run_neq_ints w 73 5 64 .u8 Tryz.underlying73 Tryz.underlying5 sz_u8 xs ys hx hy
theorem eq_is (w : World) (xs ys : List Int) (hx : xs.length = 64) (hy : ys.length = 64) (r : Bool) (h : (xs == ys) = r) : (binOp .eql 73 (.agg (aV .u8 xs)) (.agg (aV .u8 ys))).run Tryz.prog w = .ok (.bool r) w := h ▸ eq_line w xs ys hx hy
theorem ne_is (w : World) (xs ys : List Int) (hx : xs.length = 64) (hy : ys.length = 64) (r : Bool) (h : (!(xs == ys)) = r) : (binOp .neq 73 (.agg (aV .u8 xs)) (.agg (aV .u8 ys))).run Tryz.prog w = .ok (.bool r) w := h ▸ ne_line w xs ys hx hy
theorem guard_line : Tryz.prog.eqGuardType Tryz.prog.depth 73 = false := by kernel_rfl
theorem zeros_len : (List.replicate 64 (0 : Int)).length = 64 := rfl

theorem setLine_no {w : World} {p : Option Addr} {n : Nat} (hl : ∀ W, Below w.heap.size w W → linesV W p n) (i : Int) (hi : ¬ (0 ≤ i ∧ i < n)) (l : List Int) : Calls Tryz.prog 153 #[.pointer p, .int .i64 i, .agg (aV .u8 l)] w fun e w' => e = .returned (.bool false) ∧ Below w.heap.size w w' := by
  have hB := (Below.refl w.heap.size w).alloc (Nat.le_refl _) (.cells (aV .u8 l) 73)
  have HV := Lib.hid (hl _ hB)
  have HB := Lib.hid hB
  have HD := Lib.hid (show decide (0 ≤ i ∧ i < (n : Int)) = false by simpa using hi)
  clear hl hi hB
  go_enter Tryz.func153, Tryz.ntmps153
  go_wp2_with fail
  generalize w.alloc (.cells (aV .u8 l) 73) = w1 at *
  refine (hasLine_c HV.out i).mono ?_
  rintro e w2 ⟨rfl, rfl⟩
  rw [HD.out]
  go_wp2_with fail
  go_ret
  exact ⟨rfl, HB.out⟩
set_option maxHeartbeats 2000000 in
theorem setLine_c {w : World} {rb mb n : Nat} {B : List Int} (h : RamAt w rb mb n B) (i : Nat) (hi : i < n) {l : List Int} (hl : Ln.Is l) : Calls Tryz.prog 153 #[.pointer (some ⟨rb, 0, none⟩), .int .i64 (i : Int), .agg (aV .u8 l)] w
    fun e w' => e = .returned (.bool true) ∧ RamAt w' rb mb n (Rm.setRow B i l) ∧ Only mb w w' := by
  have hB := (Below.refl w.heap.size w).alloc (Nat.le_refl _) (.cells (aV .u8 l) 73)
  have HH := Lib.hid (h.low hB)
  have HB := Lib.hid hB
  have HR := Lib.hid (RowAt.new .u8 w 73 l)
  have HL := Lib.hid hl
  have HD := Lib.hid (show decide (0 ≤ (i : Int) ∧ (i : Int) < (n : Int)) = true by simp; omega)
  have HN := Lib.hid (show i < 1000000 by have := h.n1; omega)
  clear h hB hl
  go_enter Tryz.func153, Tryz.ntmps153
  go_wp2_with fail
  generalize w.alloc (.cells (aV .u8 l) 73) = w1 at *
  refine (hasLine_c (lines_c HH.out) (i : Int)).mono ?_
  rintro e w2 ⟨rfl, rfl⟩
  rw [HD.out]
  by_cases hz : l = Ln.zeros
  · have HZ := Lib.hid hz
    have HQ := Lib.hid (show (l == List.replicate 64 (0 : Int)) = true by rw [hz]; rfl)
    clear hz
    go_upto_region 4 with (first | (refine wpList_load_row rfl 73 _ rfl w.heap.size rfl 73 _ (0, 0) _ HR.out Tryz.underlying73 rfl (iL HL.out.1) ?_) | (refine wpList_buildZ rfl rfl ?_) | (refine wpList_cmp rfl .eql 73 _ _ _ rfl _ _ rfl rfl guard_line _ (eq_is _ _ _ HL.out.1 zeros_len true HQ.out) ?_))
    refine wp_region_steady_tail (fun W => RamAt W rb mb n B ∧ Below w.heap.size w W) 6 (by kernel_rfl) (by kernel_rfl) ⟨HH.out.drew, HB.out.drew⟩ ?_
    iterate 5
      refine steady_val ?_ ?_ (by kernel_rfl) (fun W hS => ?_) ?_ ?_
      rotate_left 2
      · have c1 := hS.1.c1; go_simp
        exact rfl
      · go_simp
        exact rfl
    refine steady_enter (plV i) 55 #[.int .i64 (i : Int)] ?_ (by kernel_rfl) (fun W hS => ?_) (fun W hS => (place_c i HN.out W).mono fun e W' ⟨he, hb⟩ => ⟨he, hS.1.low hb, hS.2.trans (hb.mono hS.2.size)⟩) ?_ ?_
    rotate_left 1
    · go_simp
    · go_simp
      exact rfl
    refine steady_nil ?_
    rintro W ⟨hW1, hW2⟩
    simp only [List.drop_succ_cons, List.drop_zero]
    have HR2 := Lib.hid hW1
    have HB2 := Lib.hid hW2
    clear hW1 hW2 HH HB HR
    refine wpList_ram_del rfl _ _ rfl HR2.out i hi rfl rfl ?_
    intro w3 h3 o3
    have HK := Lib.hid (show RamAt w3 rb mb n (Rm.setRow B i l) ∧ Only mb w w3 from ⟨HZ.out ▸ h3, (Only.of_below HB2.out).trans o3⟩)
    clear h3 o3
    go_wp2_with fail
    go_ret
    exact ⟨rfl, HK.out.1, HK.out.2⟩
  · have HQ := Lib.hid (show (l == List.replicate 64 (0 : Int)) = false by rw [beq_eq_false_iff_ne]; exact hz)
    have HZ := Lib.hid hz
    clear hz
    go_upto_region 5 with (first | (refine wpList_load_row rfl 73 _ rfl w.heap.size rfl 73 _ (0, 0) _ HR.out Tryz.underlying73 rfl (iL HL.out.1) ?_) | (refine wpList_buildZ rfl rfl ?_) | (refine wpList_cmp rfl .eql 73 _ _ _ rfl _ _ rfl rfl guard_line _ (eq_is _ _ _ HL.out.1 zeros_len false HQ.out) ?_))
    refine wp_region_steady_tail (fun W => RamAt W rb mb n B ∧ RowAt .u8 W w.heap.size 73 l ∧ Below w.heap.size w W) 7 (by kernel_rfl) (by kernel_rfl) ⟨HH.out.drew, HR.out, HB.out.drew⟩ ?_
    iterate 5
      refine steady_val ?_ ?_ (by kernel_rfl) (fun W hS => ?_) ?_ ?_
      rotate_left 2
      · have c1 := hS.1.c1; go_simp
        exact rfl
      · go_simp
        exact rfl
    refine steady_enter (plV i) 55 #[.int .i64 (i : Int)] ?_ (by kernel_rfl) (fun W hS => ?_) (fun W hS => (place_c i HN.out W).mono fun e W' ⟨he, hb⟩ => ⟨he, hS.1.low hb, hS.2.1.low hb, hS.2.2.trans (hb.mono hS.2.2.size)⟩) ?_ ?_
    rotate_left 1
    · go_simp
    · go_simp
      exact rfl
    refine steady_val (.agg (aV .u8 l)) ?_ (by kernel_rfl) (fun W hS => exec_load_row _ _ rfl _ rfl _ _ _ hS.2.1 Tryz.underlying73 rfl (iL HL.out.1)) ?_ ?_
    rotate_left 1
    · go_simp
      exact rfl
    refine steady_nil ?_
    rintro W ⟨hW1, hW0, hW2⟩
    simp only [List.drop_succ_cons, List.drop_zero]
    have HR2 := Lib.hid hW1
    have HB2 := Lib.hid hW2
    clear hW1 hW2 hW0 HH HB HR
    refine wpList_ram_put rfl _ _ _ rfl HR2.out i hi HL.out HZ.out rfl rfl rfl ?_
    intro w3 h3 o3
    have HK := Lib.hid (show RamAt w3 rb mb n (Rm.setRow B i l) ∧ Only mb w w3 from ⟨h3, (Only.of_below HB2.out).trans o3⟩)
    clear h3 o3
    go_wp2_with fail
    go_ret
    exact ⟨rfl, HK.out.1, HK.out.2⟩
theorem row_at {B : List Int} {n : Nat} (i : Nat) (hi : i < n) : lineAt B n (i : Int) = Rm.row B i := by
  unfold lineAt
  rw [if_pos (by omega), Int.toNat_natCast]
set_option maxHeartbeats 2000000 in
theorem rput_c {w : World} {rb mb n : Nat} {B : List Int} (h : RamAt w rb mb n B) (i : Nat) (p m v : Int) (hp : -9223372036854775808 ≤ p ∧ p ≤ 9223372036854775807) (hv : 0 ≤ v ∧ v < 18446744073709551616) (hi : Ln.fits p m = true → i < n) :
    Calls Tryz.prog 129 #[.pointer (some ⟨rb, 0, none⟩), .int .i64 (i : Int), .int .i64 p, .int .i64 m, .int .u64 v] w fun e w' => e = .returned (.tuple #[]) ∧ RamAt w' rb mb n (Rm.putR B i p m v) ∧ Only mb w w' := by
  have HH := Lib.hid h
  have HL := Lib.hid (lineAt_is h.ok (i : Int))
  have HP := Lib.hid (Ln.put_is HL.out p m v)
  have HV := Lib.hid hv
  have hft : Ln.fits p m = true ∨ Ln.fits p m = false := by cases Ln.fits p m <;> simp
  have HFT := Lib.hid hft
  have HIN := Lib.hid hi
  clear h hv hft hi
  go_enter Tryz.func129, Tryz.ntmps129
  go_wp2_with fail
  refine (line_c HH.out (i : Int)).mono ?_
  rintro e w1 ⟨rfl, hb1⟩
  have H1 := Lib.hid (HH.out.low hb1)
  have HB1 := Lib.hid hb1
  clear hb1 HH
  go_wp2_with fail
  refine (lput_c _ HL.out _ _ _ _ hp HV.out).mono ?_
  rintro e w2 ⟨rfl, hb2⟩
  have H2 := Lib.hid (H1.out.low hb2)
  have HB2 := Lib.hid (HB1.out.trans (hb2.mono HB1.out.size))
  clear hb2 H1 HB1
  rcases HFT.out with hf | hf
  · have HK := Lib.hid (show Rm.setRow B i (Ln.put (lineAt B n (i : Int)) p m v) = Rm.putR B i p m v by unfold Rm.putR; rw [if_pos hf, row_at i (HIN.out hf)])
    have HI := Lib.hid (HIN.out hf)
    rw [hf]
    clear hf HIN HFT
    go_upto_region 1 with (refine wpList_storeNew rfl 73 _ _ rfl _ _ _ rfl rfl (iL HP.out.1) (zeros_size HP.out.1) (aV_one _ _) ?_)
    have hBa := (Below.refl w2.heap.size w2).alloc (Nat.le_refl _) (.cells (aV .u8 (Ln.put (lineAt B n (i : Int)) p m v)) 73)
    have H3 := Lib.hid (H2.out.low hBa)
    have HR3 := Lib.hid (RowAt.new .u8 w2 73 (Ln.put (lineAt B n (i : Int)) p m v))
    have HB3 := Lib.hid (HB2.out.trans (hBa.mono HB2.out.size))
    clear hBa H2
    generalize w2.alloc (.cells (aV .u8 (Ln.put (lineAt B n (i : Int)) p m v)) 73) = w3 at *
    go_wp2_with (refine wpList_load_row rfl 73 _ rfl w2.heap.size rfl 73 _ (0, 0) _ HR3.out Tryz.underlying73 rfl (iL HP.out.1) ?_)
    refine (setLine_c H3.out i HI.out HP.out).mono ?_
    rintro e w4 ⟨rfl, h4, o4⟩
    have H4 := Lib.hid (show RamAt w4 rb mb n (Rm.putR B i p m v) ∧ Only mb w w4 from ⟨HK.out ▸ h4, (Only.of_below HB3.out).trans o4⟩)
    clear h4 o4
    go_wp2_with fail
    exact bodyPost_end (v := .tuple #[]) (by simp [results, Tryz.results129, go_sem]) rfl ⟨rfl, H4.out.1, H4.out.2⟩
  · have HK := Lib.hid (show B = Rm.putR B i p m v by unfold Rm.putR; rw [if_neg (by simp [hf])])
    rw [hf]
    clear hf HIN HFT
    go_upto_region 1 with (refine wpList_storeNew rfl 73 _ _ rfl _ _ _ rfl rfl (iL HP.out.1) (zeros_size HP.out.1) (aV_one _ _) ?_)
    have hBa := (Below.refl w2.heap.size w2).alloc (Nat.le_refl _) (.cells (aV .u8 (Ln.put (lineAt B n (i : Int)) p m v)) 73)
    have H3 := Lib.hid (show RamAt (w2.alloc (.cells (aV .u8 (Ln.put (lineAt B n (i : Int)) p m v)) 73)) rb mb n (Rm.putR B i p m v) from HK.out ▸ H2.out.low hBa)
    have HB3 := Lib.hid (HB2.out.trans (hBa.mono HB2.out.size))
    clear hBa H2
    generalize w2.alloc (.cells (aV .u8 (Ln.put (lineAt B n (i : Int)) p m v)) 73) = w3 at *
    go_wp2_with fail
    exact bodyPost_end (v := .tuple #[]) (by simp [results, Tryz.results129, go_sem]) rfl ⟨rfl, H3.out, Only.of_below HB3.out⟩

/-- Are m bytes there from an address on, in n lines? -/
def hasB (n : Nat) (x m : Int) : Bool := decide (1 ≤ m ∧ 2147483648 ≤ x ∧ x - 2147483648 + m ≤ 64 * (n : Int))
theorem hasB_iff {n : Nat} {x m : Int} : hasB n x m = true ↔ 1 ≤ m ∧ 2147483648 ≤ x ∧ x - 2147483648 + m ≤ 64 * (n : Int) := by simp [hasB]
theorem has_c {w : World} {p : Option Addr} {n : Nat} (h : linesV w p n) (hn : n ≤ 4096) (x m : Int) (hx : 0 ≤ x ∧ x < 18446744073709551616) (hm : -9223372036854775808 ≤ m ∧ m ≤ 9223372036854775807) :
    Calls Tryz.prog 112 #[.pointer p, .int .u64 x, .int .i64 m] w fun e w' => e = .returned (.bool (hasB n x m)) ∧ w = w' := by
  have H := Lib.hid h
  clear h
  by_cases h1 : m < 1
  · have HE := Lib.hid (show hasB n x m = false by unfold hasB; simp; omega)
    have g1 : decide (m < 1) = true := by simpa using h1
    go_enter Tryz.func112, Tryz.ntmps112
    go_wp2_with fail
    go_ret
    exact ⟨lret_b HE.out.symm, rfl⟩
  · have g1 : decide (m < 1) = false := by simpa using h1
    by_cases h2 : x < 2147483648
    · have HE := Lib.hid (show hasB n x m = false by unfold hasB; simp; omega)
      have g2 : decide (x < 2147483648) = true := by simpa using h2
      go_enter Tryz.func112, Tryz.ntmps112
      go_wp2_with fail
      go_ret
      exact ⟨lret_b HE.out.symm, rfl⟩
    · have g2 : decide (x < 2147483648) = false := by simpa using h2
      by_cases h3 : x - 2147483648 < (n : Int) * 64
      · have g3 : decide (x - 2147483648 < (n : Int) * 64) = true := by simpa using h3
        have HE := Lib.hid (show hasB n x m = decide (m ≤ (n : Int) * 64 - (x - 2147483648)) by unfold hasB; exact decide_eq_decide.2 (by omega))
        go_enter Tryz.func112, Tryz.ntmps112
        go_wp2_with fail
        refine H.out.mono ?_
        rintro e w' ⟨rfl, rfl⟩
        go_wp2_with fail
        go_ret
        exact ⟨lret_b HE.out.symm, rfl⟩
      · have g3 : decide (x - 2147483648 < (n : Int) * 64) = false := by simpa using h3
        have HE := Lib.hid (show hasB n x m = false by unfold hasB; simp; omega)
        go_enter Tryz.func112, Tryz.ntmps112
        go_wp2_with fail
        refine H.out.mono ?_
        rintro e w' ⟨rfl, rfl⟩
        go_wp2_with fail
        go_ret
        exact ⟨lret_b HE.out.symm, rfl⟩
def hasN (n : Nat) (x m : Int) : Bool := decide (m ≤ 8) && hasB n x m
theorem hasN_iff {n : Nat} {x m : Int} : hasN n x m = true ↔ m ≤ 8 ∧ 1 ≤ m ∧ 2147483648 ≤ x ∧ x - 2147483648 + m ≤ 64 * (n : Int) := by simp [hasN, hasB]
theorem hasNumber_c {w : World} {p : Option Addr} {n : Nat} (h : linesV w p n) (hn : n ≤ 4096) (x m : Int) (hx : 0 ≤ x ∧ x < 18446744073709551616) (hm : -9223372036854775808 ≤ m ∧ m ≤ 9223372036854775807) :
    Calls Tryz.prog 116 #[.pointer p, .int .u64 x, .int .i64 m] w fun e w' => e = .returned (.bool (hasN n x m)) ∧ w = w' := by
  have H := Lib.hid h
  clear h
  by_cases h1 : m ≤ 8
  · have g1 : decide (m ≤ 8) = true := by simpa using h1
    have HE := Lib.hid (show hasN n x m = hasB n x m by unfold hasN; rw [g1, Bool.true_and])
    go_enter Tryz.func116, Tryz.ntmps116
    go_wp2_with fail
    refine (has_c H.out hn x m hx hm).mono ?_
    rintro e w' ⟨rfl, rfl⟩
    go_wp2_with fail
    go_ret
    exact ⟨lret_b HE.out.symm, rfl⟩
  · have g1 : decide (m ≤ 8) = false := by simpa using h1
    have HE := Lib.hid (show hasN n x m = false by unfold hasN; rw [g1, Bool.false_and])
    go_enter Tryz.func116, Tryz.ntmps116
    go_wp2_with fail
    go_ret
    exact ⟨lret_b HE.out.symm, rfl⟩
theorem empty_c (n : Nat) (h0 : 1 ≤ n) (h1 : n ≤ 4096) (w : World) : Calls Tryz.prog 56 #[.int .i64 (n : Int)] w fun e w' => e = .returned (.pointer (some ⟨w.heap.size + 1, 0, none⟩)) ∧ RamAt w' (w.heap.size + 1) w.heap.size n (Rm.nought n) ∧ Below w.heap.size w w' := by
  have hmm := @run_makeMap Tryz.prog
  have HO := Lib.hid (World.ownsMap_made w Tryz.prog KT lineElem)
  go_enter Tryz.func56, Tryz.ntmps56
  go_wp2_with fail
  go_ret
  have hC := CsAt.new (w.alloc (.map #[] 0)) 132 #[.int .i64 (n : Int), .map (some w.heap.size)]
  have e : (w.alloc (.map #[] 0)).heap.size = w.heap.size + 1 := by simp
  rw [e] at hC
  refine ⟨rfl, ⟨Rm.nought_ok n, h0, h1, hC.cell 0, hC.cell 1, by simp, by omega, .map [], own_reset (HO.out.alloc _), Fits.empty n⟩, ((Below.refl _ _).alloc (Nat.le_refl _) _).alloc (by simp) _⟩
theorem new_no (x : Int) (hx : ¬ (1 ≤ x ∧ x ≤ 4096)) (w : World) : Calls Tryz.prog 23 #[.int .i64 x] w fun e w' => e = .returned (.tuple #[.pointer none, .int .i64 1]) ∧ w = w' := by
  by_cases h1 : x < 1
  · have g1 : decide (x < 1) = true := by simpa using h1
    go_enter Tryz.func23, Tryz.ntmps23
    go_wp2_with fail
    go_ret2
    exact ⟨rfl, rfl⟩
  · have g1 : decide (x < 1) = false := by simpa using h1
    have g2 : decide (4096 < x) = true := by simp; omega
    go_enter Tryz.func23, Tryz.ntmps23
    go_wp2_with fail
    go_ret2
    exact ⟨rfl, rfl⟩
theorem new_c (n : Nat) (h0 : 1 ≤ n) (h1 : n ≤ 4096) (w : World) : Calls Tryz.prog 23 #[.int .i64 (n : Int)] w fun e w' => e = .returned (.tuple #[.pointer (some ⟨w.heap.size + 1, 0, none⟩), .int .i64 0]) ∧ RamAt w' (w.heap.size + 1) w.heap.size n (Rm.nought n) ∧ Below w.heap.size w w' := by
  have g1 : decide ((n : Int) < 1) = false := by simp; omega
  have g2 : decide (4096 < (n : Int)) = false := by simp; omega
  go_enter Tryz.func23, Tryz.ntmps23
  go_wp2_with fail
  refine (empty_c n h0 h1 w).mono ?_
  rintro e w1 ⟨rfl, h2, h3⟩
  have H := Lib.hid (And.intro h2 h3)
  clear h2 h3
  go_wp2_with fail
  go_ret2
  exact ⟨rfl, H.out.1, H.out.2⟩
end Go.Proofs.YtjeolfcefeglpabGreat
set_option maxRecDepth 20000
namespace Go.Proofs.YtjeolfcefeglpabGreat
open Go.ChangeShapes Go.WideShapes Go.ChangeAt Go.RowKit Wd

theorem find_at (i p : Nat) (hp : p < 64) (hi : i < 4096) (w : World) : Calls Tryz.prog 117 #[.int .u64 (2147483648 + ((64 * i + p : Nat) : Int))] w fun e w' => e = .returned (.tuple #[.int .i64 (i : Int), .int .i64 (p : Int)]) ∧ w = w' :=
  (find_c _ w (by omega) (by omega)).mono fun e w' h => ⟨by
    rw [h.1, show (2147483648 + ((64 * i + p : Nat) : Int) - 2147483648) / 64 = (i : Int) by omega, show (2147483648 + ((64 * i + p : Nat) : Int) - 2147483648) % 64 = (p : Int) by omega], h.2⟩
/-- The number that a memory answers. -/
def ldV (B : List Int) (n : Nat) (x m : Int) : Int := if hasN n x m then Ln.num B (x - 2147483648).toNat m.toNat else 0
theorem addr_of {n : Nat} {x m : Int} (h : hasN n x m = true) : ∃ i p k : Nat, p < 64 ∧ i < n ∧ 1 ≤ k ∧ k ≤ 8 ∧ m = (k : Int) ∧ x = 2147483648 + ((64 * i + p : Nat) : Int) ∧ 64 * i + p + k ≤ 64 * n := by
  obtain ⟨h1, h2, h3, h4⟩ := hasN_iff.1 h
  refine ⟨(x - 2147483648).toNat / 64, (x - 2147483648).toNat % 64, m.toNat, by omega, by omega, by omega, by omega, by omega, by omega, by omega⟩
theorem load_no {w : World} {p : Option Addr} {n : Nat} (h : linesV w p n) (hn : n ≤ 4096) (x m : Int) (hx : 0 ≤ x ∧ x < 18446744073709551616) (hm : -9223372036854775808 ≤ m ∧ m ≤ 9223372036854775807) (hf : hasN n x m = false) :
    Calls Tryz.prog 67 #[.pointer p, .int .u64 x, .int .i64 m] w fun e w' => e = .returned (.tuple #[.int .u64 0, .bool false]) ∧ w = w' := by
  have H := Lib.hid h
  have HX := Lib.hid hx
  have HM := Lib.hid hm
  have HF := Lib.hid hf
  clear h hx hm hf
  go_enter Tryz.func67, Tryz.ntmps67
  go_wp2_with fail
  refine (hasNumber_c H.out hn x m HX.out HM.out).mono ?_
  rintro e w' ⟨rfl, rfl⟩
  rw [HF.out]
  go_wp2_with fail
  go_ret2
  exact ⟨rfl, rfl⟩
theorem or_comm' {x y : Int} (hx0 : 0 ≤ x) (hx : x < 18446744073709551616) (hy0 : 0 ≤ y) (hy : y < 18446744073709551616) : bits .or .u64 x y = bits .or .u64 y x := by
  have a := or_range hx0 hx hy0 hy
  have b := or_range hy0 hy hx0 hx
  exact Wd.ext a.1 a.2 b.1 b.2 fun i _ => by rw [tb_or hx0 hx hy0 hy, tb_or hy0 hy hx0 hx, Bool.or_comm]
theorem or_zero' {y : Int} (hy0 : 0 ≤ y) (hy : y < 18446744073709551616) : bits .or .u64 0 y = y := by
  have a := or_range (x := 0) (by decide) (by decide) hy0 hy
  exact Wd.ext a.1 a.2 hy0 hy fun i _ => by rw [tb_or (by decide) (by decide) hy0 hy, tb_zero, Bool.false_or]
theorem get_nat {ws : List Int} {p m : Nat} (h1 : 1 ≤ m) (h8 : m ≤ 8) (hpm : p + m ≤ 64) : Ln.get ws (p : Int) (m : Int) = Ln.num ws p m := by
  unfold Ln.get
  rw [if_pos (Ln.fits_iff.2 (by omega)), Int.toNat_natCast, Int.toNat_natCast]
theorem num_u64 {B : List Int} {n : Nat} (h : Rm.Ok B n) (a k : Nat) (hk : k ≤ 8) : 0 ≤ Ln.num B a k ∧ Ln.num B a k < 18446744073709551616 := by
  have r := Rm.num_rng h a k
  have := Ln.pow_le hk
  have e : (256 : Int) ^ 8 = 18446744073709551616 := by decide
  omega
/-- A number within one line. -/
theorem load_one {B : List Int} {n : Nat} (h : Rm.Ok B n) (R : List Int) (i p k : Nat) (h1 : 1 ≤ k) (h8 : k ≤ 8) (hpk : p + k ≤ 64) : bits .or .u64 (IntKind.u64.wrap (Ln.get R 0 0 * 2 ^ (8 * k))) (Ln.get (Rm.row B i) (p : Int) (k : Int)) = Ln.num B (64 * i + p) k := by
  have e : Ln.get R 0 0 = 0 := by unfold Ln.get; rw [if_neg (by decide)]
  have r := num_u64 h (64 * i + p) k h8
  rw [e, get_nat h1 h8 hpk, Rm.num_row i p k hpk, Int.zero_mul, show IntKind.u64.wrap 0 = 0 by decide, or_zero' r.1 r.2]
/-- A number in two lines. -/
theorem load_two {B : List Int} {n : Nat} (h : Rm.Ok B n) (i p k : Nat) (hp : p < 64) (h8 : k ≤ 8) (hpk : 64 < p + k) (hi : i + 1 < n) :
    bits .or .u64 (IntKind.u64.wrap (Ln.get (lineAt B n ((i : Int) + 1)) 0 ((k : Int) - (64 - (p : Int))) * 2 ^ (8 * (64 - p)))) (Ln.get (Rm.row B i) (p : Int) (64 - (p : Int))) = Ln.num B (64 * i + p) k := by
  have e1 : (64 : Int) - (p : Int) = ((64 - p : Nat) : Int) := by omega
  have e2 : (k : Int) - ((64 - p : Nat) : Int) = ((k - (64 - p) : Nat) : Int) := by omega
  have e3 : ((i : Int) + 1) = ((i + 1 : Nat) : Int) := by omega
  rw [e1, e2, e3, row_at (i + 1) hi, show (0 : Int) = ((0 : Nat) : Int) from rfl, get_nat (by omega) (by omega) (by omega), get_nat (by omega) (by omega) (by omega), Rm.num_row i p _ (by omega), Rm.num_row (i + 1) 0 _ (by omega)]
  have r := num_u64 h (64 * i + p) k h8
  have a := Rm.num_rng h (64 * i + p) (64 - p)
  have a8 := num_u64 h (64 * i + p) (64 - p) (by omega)
  have b := Rm.num_rng h (64 * (i + 1)) (k - (64 - p))
  have e := Rm.num_add B (64 * i + p) (64 - p) (k - (64 - p))
  rw [show 64 - p + (k - (64 - p)) = k by omega, show 64 * i + p + (64 - p) = 64 * (i + 1) by omega, Ln.pow_two] at e
  rw [show 64 * (i + 1) + 0 = 64 * (i + 1) by omega]
  generalize Ln.num B (64 * (i + 1)) (k - (64 - p)) = hi' at *
  generalize Ln.num B (64 * i + p) (64 - p) = lo at *
  generalize Ln.num B (64 * i + p) k = z at *
  rw [Ln.pow_two] at a
  have q : (0 : Int) < 2 ^ (8 * (64 - p)) := Int.pow_pos (by decide)
  have m0 : 0 ≤ 2 ^ (8 * (64 - p)) * hi' := Int.mul_nonneg (Int.le_of_lt q) b.1
  have ew : IntKind.u64.wrap (hi' * 2 ^ (8 * (64 - p))) = 2 ^ (8 * (64 - p)) * hi' := by
    rw [Int.mul_comm, IntKind.wrap_u64]; omega
  rw [ew, or_comm' m0 (by omega) a.1 a8.2, Ln.or_add (8 * (64 - p)) a.1 a.2 b.1 (by omega), e]
set_option maxHeartbeats 2000000 in
theorem load_yes {w : World} {rb mb n : Nat} {B : List Int} (h : RamAt w rb mb n B) (i p k : Nat) (hp : p < 64) (hi : i < n) (hk1 : 1 ≤ k) (hk8 : k ≤ 8) (hB : 64 * i + p + k ≤ 64 * n) :
    Calls Tryz.prog 67 #[.pointer (some ⟨rb, 0, none⟩), .int .u64 (2147483648 + ((64 * i + p : Nat) : Int)), .int .i64 (k : Int)] w fun e w' => e = .returned (.tuple #[.int .u64 (Ln.num B (64 * i + p) k), .bool true]) ∧ Below w.heap.size w w' := by
  have hn := h.n1
  have HH := Lib.hid h
  have HF := Lib.hid (show hasN n (2147483648 + ((64 * i + p : Nat) : Int)) (k : Int) = true from hasN_iff.2 (by omega))
  have HFA := Lib.hid (fun W => find_at i p hp (show i < 4096 by omega) W)
  have HXR := Lib.hid (show 0 ≤ 2147483648 + ((64 * i + p : Nat) : Int) ∧ 2147483648 + ((64 * i + p : Nat) : Int) < 18446744073709551616 by omega)
  have HBB := Lib.hid hB
  clear h
  generalize 2147483648 + ((64 * i + p : Nat) : Int) = x at *
  clear hB
  go_enter Tryz.func67, Tryz.ntmps67
  go_wp2_with fail
  refine (hasNumber_c (lines_c HH.out) hn x (k : Int) HXR.out (by omega)).mono ?_
  rintro e w' ⟨rfl, rfl⟩
  rw [HF.out]
  go_wp2_with fail
  refine (HFA.out _).mono ?_
  rintro e w' ⟨rfl, rfl⟩
  have HR := Lib.hid (Rm.row_is HH.out.ok i)
  have HN := Lib.hid (lineAt_is (n := n) HH.out.ok ((i : Int) + 1))
  by_cases c : (k : Int) ≤ 64 - (p : Int)
  · have HF2 := Lib.hid (load_one HH.out.ok (lineAt B n ((i : Int) + 1)) i p k hk1 hk8 (by omega))
    go_wp2_with fail
    refine (line_yes HH.out i hi).mono ?_
    rintro e w1 ⟨rfl, hb1⟩
    have H1 := Lib.hid (HH.out.low hb1)
    have HB1 := Lib.hid hb1
    clear hb1 HH
    go_wp2_with fail
    refine (get_c _ HR.out _ _ _ (by omega)).mono ?_
    rintro e w2 ⟨rfl, hb2⟩
    have H2 := Lib.hid (H1.out.low hb2)
    have HB2 := Lib.hid (HB1.out.trans (hb2.mono HB1.out.size))
    clear hb2 H1 HB1
    go_wp2_with fail
    refine (line_c H2.out ((i : Int) + 1)).mono ?_
    rintro e w3 ⟨rfl, hb3⟩
    have HB3 := Lib.hid (HB2.out.trans (hb3.mono HB2.out.size))
    clear hb3 H2 HB2
    go_wp2_with fail
    refine (get_c _ HN.out _ _ _ (by omega)).mono ?_
    rintro e w4 ⟨rfl, hb4⟩
    have HB4 := Lib.hid (HB3.out.trans (hb4.mono HB3.out.size))
    clear hb4 HB3
    go_wp2_with fail
    go_ret2
    exact ⟨lret_nb HF2.out rfl, HB4.out⟩
  · have HF2 := Lib.hid (load_two HH.out.ok i p k hp hk8 (by omega) (by have := HBB.out; omega))
    go_wp2_with fail
    refine (line_yes HH.out i hi).mono ?_
    rintro e w1 ⟨rfl, hb1⟩
    have H1 := Lib.hid (HH.out.low hb1)
    have HB1 := Lib.hid hb1
    clear hb1 HH
    go_wp2_with fail
    refine (get_c _ HR.out _ _ _ (by omega)).mono ?_
    rintro e w2 ⟨rfl, hb2⟩
    have H2 := Lib.hid (H1.out.low hb2)
    have HB2 := Lib.hid (HB1.out.trans (hb2.mono HB1.out.size))
    clear hb2 H1 HB1
    go_wp2_with fail
    refine (line_c H2.out ((i : Int) + 1)).mono ?_
    rintro e w3 ⟨rfl, hb3⟩
    have HB3 := Lib.hid (HB2.out.trans (hb3.mono HB2.out.size))
    clear hb3 H2 HB2
    go_wp2_with fail
    refine (get_c _ HN.out _ _ _ (by omega)).mono ?_
    rintro e w4 ⟨rfl, hb4⟩
    have HB4 := Lib.hid (HB3.out.trans (hb4.mono HB3.out.size))
    clear hb4 HB3
    go_wp2_with fail
    go_ret2
    exact ⟨lret_nb HF2.out rfl, HB4.out⟩
theorem load_c {w : World} {rb mb n : Nat} {B : List Int} (h : RamAt w rb mb n B) (x m : Int) (hx : 0 ≤ x ∧ x < 18446744073709551616) (hm : -9223372036854775808 ≤ m ∧ m ≤ 9223372036854775807) :
    Calls Tryz.prog 67 #[.pointer (some ⟨rb, 0, none⟩), .int .u64 x, .int .i64 m] w fun e w' => e = .returned (.tuple #[.int .u64 (ldV B n x m), .bool (hasN n x m)]) ∧ Below w.heap.size w w' := by
  cases hf : hasN n x m
  · have e : ldV B n x m = 0 := by unfold ldV; rw [hf]; rfl
    rw [e]
    exact (load_no (lines_c h) h.n1 x m hx hm hf).mono fun e w' hh => ⟨hh.1, hh.2 ▸ Below.refl _ _⟩
  · obtain ⟨i, p, k, hp, hi, hk1, hk8, rfl, rfl, hB⟩ := addr_of hf
    have e : ldV B n (2147483648 + ((64 * i + p : Nat) : Int)) (k : Int) = Ln.num B (64 * i + p) k := by
      unfold ldV
      rw [hf, show (2147483648 + ((64 * i + p : Nat) : Int) - 2147483648).toNat = 64 * i + p by omega, Int.toNat_natCast]
      rfl
    rw [e]
    exact load_yes h i p k hp hi hk1 hk8 hB
/-- What a memory has behind a number that is stored. -/
def stV (B : List Int) (n : Nat) (x m v : Int) : List Int := if hasN n x m then Rm.st B (x - 2147483648).toNat m.toNat v else B
theorem store_no {w : World} {p : Option Addr} {n : Nat} (h : linesV w p n) (hn : n ≤ 4096) (x m v : Int) (hx : 0 ≤ x ∧ x < 18446744073709551616) (hm : -9223372036854775808 ≤ m ∧ m ≤ 9223372036854775807) (hf : hasN n x m = false) :
    Calls Tryz.prog 76 #[.pointer p, .int .u64 x, .int .i64 m, .int .u64 v] w fun e w' => e = .returned (.bool false) ∧ w = w' := by
  have H := Lib.hid h
  have HX := Lib.hid hx
  have HM := Lib.hid hm
  have HF := Lib.hid hf
  clear h hx hm hf
  go_enter Tryz.func76, Tryz.ntmps76
  go_wp2_with fail
  refine (hasNumber_c H.out hn x m HX.out HM.out).mono ?_
  rintro e w' ⟨rfl, rfl⟩
  rw [HF.out]
  go_wp2_with fail
  go_ret
  exact ⟨rfl, rfl⟩
set_option maxHeartbeats 2000000 in
theorem store_yes {w : World} {rb mb n : Nat} {B : List Int} (h : RamAt w rb mb n B) (i p k : Nat) (hp : p < 64) (hi : i < n) (hk1 : 1 ≤ k) (hk8 : k ≤ 8) (hB : 64 * i + p + k ≤ 64 * n) (v : Int) (hv : 0 ≤ v ∧ v < 18446744073709551616) :
    Calls Tryz.prog 76 #[.pointer (some ⟨rb, 0, none⟩), .int .u64 (2147483648 + ((64 * i + p : Nat) : Int)), .int .i64 (k : Int), .int .u64 v] w
      fun e w' => e = .returned (.bool true) ∧ RamAt w' rb mb n (Rm.st B (64 * i + p) k v) ∧ Only mb w w' := by
  have hn := h.n1
  have HH := Lib.hid h
  have HV := Lib.hid hv
  have HF := Lib.hid (show hasN n (2147483648 + ((64 * i + p : Nat) : Int)) (k : Int) = true from hasN_iff.2 (by omega))
  have HFA := Lib.hid (fun W => find_at i p hp (show i < 4096 by omega) W)
  have HXR := Lib.hid (show 0 ≤ 2147483648 + ((64 * i + p : Nat) : Int) ∧ 2147483648 + ((64 * i + p : Nat) : Int) < 18446744073709551616 by omega)
  have HBB := Lib.hid hB
  clear h hv
  generalize 2147483648 + ((64 * i + p : Nat) : Int) = x at *
  clear hB
  go_enter Tryz.func76, Tryz.ntmps76
  go_wp2_with fail
  refine (hasNumber_c (lines_c HH.out) hn x (k : Int) HXR.out (by omega)).mono ?_
  rintro e w' ⟨rfl, rfl⟩
  rw [HF.out]
  go_wp2_with fail
  refine (HFA.out _).mono ?_
  rintro e w' ⟨rfl, rfl⟩
  have he : ((i : Int) + 1) = ((i + 1 : Nat) : Int) := by omega
  have HE := Lib.hid he
  clear he
  by_cases c : (k : Int) ≤ 64 - (p : Int)
  · go_wp2_with fail
    refine (rput_c HH.out i (p : Int) (k : Int) v (by omega) HV.out (fun _ => hi)).mono ?_
    rintro e w1 ⟨rfl, h1, o1⟩
    have HS := Lib.hid (Rm.putR_st HH.out.ok i p k v (by omega) hk8)
    rw [HS.out] at h1
    have H1 := Lib.hid h1
    have O1 := Lib.hid o1
    clear h1 o1 HH
    have HD := Lib.hid (Wd.div_range HV.out.1 HV.out.2 (8 * k))
    go_wp2_with fail
    rw [HE.out]
    refine (rput_c H1.out (i + 1) 0 0 _ (by omega) HD.out (fun hf => absurd hf (by decide))).mono ?_
    rintro e w2 ⟨rfl, h2, o2⟩
    have H2 := Lib.hid (show RamAt w2 rb mb n (Rm.st B (64 * i + p) k v) ∧ Only mb w w2 from ⟨h2, O1.out.trans o2⟩)
    clear h2 o2
    go_wp2_with fail
    go_ret
    exact ⟨rfl, H2.out.1, H2.out.2⟩
  · go_wp2_with fail
    have hq : (64 : Int) - (p : Int) = ((64 - p : Nat) : Int) := by omega
    have HQ := Lib.hid hq
    have HQ2 := Lib.hid (show (k : Int) - (64 - (p : Int)) = ((k - (64 - p) : Nat) : Int) by omega)
    refine (rput_c HH.out i (p : Int) (64 - (p : Int)) v (by omega) HV.out (fun _ => hi)).mono ?_
    rintro e w1 ⟨rfl, h1, o1⟩
    have HS := Lib.hid (Rm.putR_st HH.out.ok i p (64 - p) v (by omega) (by omega))
    rw [hq, HS.out] at h1
    have H1 := Lib.hid h1
    have O1 := Lib.hid o1
    have HS2 := Lib.hid (Rm.putR_st (v := v / 256 ^ (64 - p)) H1.out.ok (i + 1) 0 (k - (64 - p)) (by omega) (by omega))
    have HS3 := Lib.hid (Rm.st_two HH.out.ok (64 * i + p) (64 - p) (k - (64 - p)) v)
    clear h1 o1 HH hq
    have HD := Lib.hid (Wd.div_range HV.out.1 HV.out.2 (8 * (64 - p)))
    go_wp2_with fail
    rw [HE.out]
    refine (rput_c H1.out (i + 1) 0 _ _ (by omega) HD.out (fun _ => by have := HBB.out; omega)).mono ?_
    rintro e w2 ⟨rfl, h2, o2⟩
    have hfin : Rm.putR (Rm.st B (64 * i + p) (64 - p) v) (i + 1) 0 ((k : Int) - (64 - (p : Int))) (v / 2 ^ (8 * (64 - p))) = Rm.st B (64 * i + p) k v := by
      rw [HQ2.out, ← Ln.pow_two]
      have := HS2.out
      rw [show (((0 : Nat) : Int)) = 0 from rfl] at this
      rw [this, show 64 * (i + 1) + 0 = 64 * i + p + (64 - p) by omega, HS3.out, show 64 - p + (k - (64 - p)) = k by omega]
    have H2 := Lib.hid (show RamAt w2 rb mb n (Rm.st B (64 * i + p) k v) ∧ Only mb w w2 from ⟨hfin ▸ h2, O1.out.trans o2⟩)
    clear h2 o2
    go_wp2_with fail
    go_ret
    exact ⟨rfl, H2.out.1, H2.out.2⟩
theorem stV_ok {B : List Int} {n : Nat} (h : Rm.Ok B n) (x m v : Int) : Rm.Ok (stV B n x m v) n := by
  unfold stV
  split
  · exact Rm.st_ok h _ _ _
  · exact h
theorem store_c {w : World} {rb mb n : Nat} {B : List Int} (h : RamAt w rb mb n B) (x m v : Int) (hx : 0 ≤ x ∧ x < 18446744073709551616) (hm : -9223372036854775808 ≤ m ∧ m ≤ 9223372036854775807) (hv : 0 ≤ v ∧ v < 18446744073709551616) :
    Calls Tryz.prog 76 #[.pointer (some ⟨rb, 0, none⟩), .int .u64 x, .int .i64 m, .int .u64 v] w fun e w' => e = .returned (.bool (hasN n x m)) ∧ RamAt w' rb mb n (stV B n x m v) ∧ Only mb w w' := by
  cases hf : hasN n x m
  · have e : stV B n x m v = B := by unfold stV; rw [hf]; rfl
    rw [e]
    exact (store_no (lines_c h) h.n1 x m v hx hm hf).mono fun e w' hh => ⟨hh.1, hh.2 ▸ h, hh.2 ▸ Only.refl _ _⟩
  · obtain ⟨i, p, k, hp, hi, hk1, hk8, rfl, rfl, hB⟩ := addr_of hf
    have e : stV B n (2147483648 + ((64 * i + p : Nat) : Int)) (k : Int) v = Rm.st B (64 * i + p) k v := by
      unfold stV
      rw [hf, show (2147483648 + ((64 * i + p : Nat) : Int) - 2147483648).toNat = 64 * i + p by omega, Int.toNat_natCast]
      rfl
    rw [e]
    exact store_yes h i p k hp hi hk1 hk8 hB v hv
end Go.Proofs.YtjeolfcefeglpabGreat
