/-
  Contracts of package ram (layer 10): empty, New, Lines, hasLine, placeOf, find, Has, hasNumber, Line, SetLine.
-/
import Derived.Test.YtdlollkieihjpaaRmC
import Derived.Carry
namespace Go.Proofs.Ytdlollkieihjpaa
open Go.ChangeShapes Go.WideShapes Go.ChangeAt Go.RowKit Wd

theorem lines_c {w : World} {rb mb n : Nat} {B : List Int} (h : RamAt w rb mb n B) : Calls Try.prog 17 #[.pointer (some ⟨rb, 0, none⟩)] w fun e w' => e = .returned (.int .i64 (n : Int)) ∧ w = w' := by
  have c0 := h.c0
  clear h
  go_enter Try.func17, Try.ntmps17
  go_wp2_with fail
  go_ret
  exact ⟨rfl, rfl⟩
theorem lines_nil (w : World) : Calls Try.prog 17 #[.pointer none] w fun e w' => e = .returned (.int .i64 0) ∧ w = w' := by
  go_enter Try.func17, Try.ntmps17
  go_wp2_with fail
  go_ret
  exact ⟨rfl, rfl⟩
/-- How many lines a receiver has. -/
def linesV (w : World) (p : Option Addr) (n : Nat) : Prop := Calls Try.prog 17 #[.pointer p] w fun e w' => e = .returned (.int .i64 (n : Int)) ∧ w = w'
theorem hasLine_c {w : World} {p : Option Addr} {n : Nat} (h : linesV w p n) (i : Int) : Calls Try.prog 37 #[.pointer p, .int .i64 i] w fun e w' => e = .returned (.bool (decide (0 ≤ i ∧ i < n))) ∧ w = w' := by
  have H := Lib.hid h
  clear h
  by_cases h0 : 0 ≤ i
  · have g0 : decide (0 ≤ i) = true := by simpa using h0
    have HE := Lib.hid (show decide (0 ≤ i ∧ i < (n : Int)) = decide (i < (n : Int)) from decide_eq_decide.2 (by omega))
    go_enter Try.func37, Try.ntmps37
    go_wp2_with fail
    refine H.out.mono ?_
    rintro e w' ⟨rfl, rfl⟩
    go_wp2_with fail
    go_ret
    exact ⟨lret_b HE.out.symm, rfl⟩
  · have g0 : decide (0 ≤ i) = false := by simpa using h0
    have HE := Lib.hid (show decide (0 ≤ i ∧ i < (n : Int)) = false by simp; omega)
    go_enter Try.func37, Try.ntmps37
    go_wp2_with fail
    go_ret
    exact ⟨by first | rfl | exact lret_b HE.out.symm, rfl⟩
theorem info_place : (Try.prog.info? 76).map (·.size) = some 2 := by kernel_rfl
theorem place_c (i : Nat) (hi : i < 1000000) (w : World) : Calls Try.prog 38 #[.int .i64 (i : Int)] w fun e w' => e = .returned (plV i) ∧ Below w.heap.size w w' := by
  have HE := Lib.hid (show Ending.returned (.agg #[.int .i64 ((i : Int) / 64), .int .i64 ((i : Int) % 64)]) = .returned (plV i) by
    unfold plV
    rw [show (i : Int) / 64 = ((i / 64 : Nat) : Int) by omega, show (i : Int) % 64 = ((i % 64 : Nat) : Int) by omega])
  go_enter Try.func38, Try.ntmps38
  go_wp2_with fail
  exact bodyPost_ret (results_cell_row Try.results38 _ _ _ _ _ _ _ rfl (heap_alloc_last w _) Try.underlying76 rfl info_place) rfl ⟨HE.out, (Below.refl _ _).alloc (Nat.le_refl _) _⟩
theorem find_c (x : Int) (w : World) (h0 : 2147483648 ≤ x) (h1 : x < 2147483648 + 262144) : Calls Try.prog 34 #[.int .u64 x] w fun e w' => e = .returned (.tuple #[.int .i64 ((x - 2147483648) / 64), .int .i64 ((x - 2147483648) % 64)]) ∧ w = w' := by
  go_enter Try.func34, Try.ntmps34
  go_wp2_with fail
  go_ret2
  exact ⟨rfl, rfl⟩

/-- The line of a number, or noughts. -/
def lineAt (B : List Int) (n : Nat) (i : Int) : List Int := if 0 ≤ i ∧ i < n then Rm.row B i.toNat else Ln.zeros
theorem lineAt_is {B : List Int} {n : Nat} (h : Rm.Ok B n) (i : Int) : Ln.Is (lineAt B n i) := by
  unfold lineAt
  split
  · exact Rm.row_is h _
  · exact Ln.zeros_is
theorem built_line : Try.prog.built 49 [] = some (aV .u8 (List.replicate 64 0)) := by kernel_rfl
theorem wpList_buildZ {ops : Array Oper} {rest : List Oper} {o : Oper} {a : Act} {w : World} {Q : Exit → Act → World → Prop} (hg : o.guard = none) (ho : o.op = .build 49 #[])
    (h : wpList Try.prog ops Q rest (a.put o.dst (.agg (aV .u8 (List.replicate 64 0)))) w) : wpList Try.prog ops Q (o :: rest) a w :=
  wpList_buildTo hg 49 _ ho _ rfl _ (by simpa using built_line) h
set_option maxHeartbeats 1000000 in
theorem line_no {w : World} {p : Option Addr} {n : Nat} (hl : ∀ W, Below w.heap.size w W → linesV W p n) (i : Int) (hi : ¬ (0 ≤ i ∧ i < n)) : Calls Try.prog 20 #[.pointer p, .int .i64 i] w fun e w' => e = .returned (.agg (aV .u8 Ln.zeros)) ∧ Below w.heap.size w w' := by
  have hB := (Below.refl w.heap.size w).alloc (Nat.le_refl _) (.cells (aV .u8 (List.replicate 64 0)) 49)
  have HV := Lib.hid (hl _ hB)
  have HB := Lib.hid hB
  have HR := Lib.hid (RowAt.new .u8 w 49 (List.replicate 64 0))
  have HD := Lib.hid (show decide (0 ≤ i ∧ i < (n : Int)) = false by simpa using hi)
  clear hl hi hB
  go_enter Try.func20, Try.ntmps20
  go_wp2_with fail
  rw [← zeros64]
  generalize w.alloc (.cells (aV .u8 (List.replicate 64 0)) 49) = w1 at *
  refine (hasLine_c HV.out i).mono ?_
  rintro e w2 ⟨rfl, rfl⟩
  rw [HD.out]
  go_wp2_with (first | (refine wpList_buildZ rfl rfl ?_) | (refine wpList_store_row rfl 49 _ _ rfl w.heap.size _ rfl rfl 49 _ HR.out (iL (by rfl)) rfl (aV_one _ _) ?_))
  exact bodyPost_ret (results_cell_row Try.results20 _ _ _ _ _ _ _ rfl (HR.out.row _) Try.underlying49 rfl (iL (by rfl))) rfl ⟨rfl, below_setRow HB.out (Nat.le_refl _) _⟩
set_option maxHeartbeats 2000000 in
theorem line_yes {w : World} {rb mb n : Nat} {B : List Int} (h : RamAt w rb mb n B) (i : Nat) (hi : i < n) : Calls Try.prog 20 #[.pointer (some ⟨rb, 0, none⟩), .int .i64 (i : Int)] w fun e w' => e = .returned (.agg (aV .u8 (Rm.row B i))) ∧ Below w.heap.size w w' := by
  have hB := (Below.refl w.heap.size w).alloc (Nat.le_refl _) (.cells (aV .u8 (List.replicate 64 0)) 49)
  have HH := Lib.hid (h.low hB)
  have HB := Lib.hid hB
  have HI := Lib.hid (Rm.row_is h.ok i).1
  have HR := Lib.hid (RowAt.new .u8 w 49 (List.replicate 64 0))
  have HD := Lib.hid (show decide (0 ≤ (i : Int) ∧ (i : Int) < (n : Int)) = true by simp; omega)
  have HN := Lib.hid (show i < 1000000 by have := h.n1; omega)
  clear h hB
  go_enter Try.func20, Try.ntmps20
  go_wp2_with fail
  rw [← zeros64]
  generalize w.alloc (.cells (aV .u8 (List.replicate 64 0)) 49) = w1 at *
  refine (hasLine_c (lines_c HH.out) (i : Int)).mono ?_
  rintro e w2 ⟨rfl, rfl⟩
  rw [HD.out]
  go_upto_region 3 with (fail)
  refine wp_region_steady_tail (fun W => RamAt W rb mb n B ∧ RowAt .u8 W w.heap.size 49 (List.replicate 64 0) ∧ Below w.heap.size w W) 7 (by kernel_rfl) (by kernel_rfl) ⟨HH.out.drew, HR.out, HB.out.drew⟩ ?_
  iterate 5
    refine steady_val ?_ ?_ (by kernel_rfl) (fun W hS => ?_) ?_ ?_
    rotate_left 2
    · have c1 := hS.1.c1; go_simp
      exact rfl
    · go_simp
      exact rfl
  refine steady_enter (plV i) 38 #[.int .i64 (i : Int)] ?_ (by kernel_rfl) (fun W hS => ?_) (fun W hS => (place_c i HN.out W).mono fun e W' ⟨he, hb⟩ => ⟨he, hS.1.low hb, hS.2.1.low hb, hS.2.2.trans (hb.mono hS.2.2.size)⟩) ?_ ?_
  rotate_left 1
  · go_simp
  · go_simp
    exact rfl
  refine steady_val (.agg (aV .u8 (Rm.row B i))) ?_ (by kernel_rfl) (fun W hS => exec_lookup _ _ rfl hS.1 i hi rfl rfl) ?_ ?_
  rotate_left 1
  · go_simp
    exact rfl
  refine steady_nil ?_
  rintro W ⟨hW1, hW2, hW3⟩
  simp only [List.drop_succ_cons, List.drop_zero]
  have HR2 := Lib.hid hW2
  have HB2 := Lib.hid hW3
  clear hW1 hW2 hW3 HH HB HR
  go_wp2_with (refine wpList_store_row rfl 49 _ _ rfl w.heap.size _ rfl rfl 49 _ HR2.out (iL HI.out) (zeros_size HI.out) (aV_one _ _) ?_)
  exact bodyPost_ret (results_cell_row Try.results20 _ _ _ _ _ _ _ rfl (HR2.out.row _) Try.underlying49 rfl (iL HI.out)) rfl ⟨rfl, below_setRow HB2.out (Nat.le_refl _) _⟩
theorem line_c {w : World} {rb mb n : Nat} {B : List Int} (h : RamAt w rb mb n B) (i : Int) : Calls Try.prog 20 #[.pointer (some ⟨rb, 0, none⟩), .int .i64 i] w fun e w' => e = .returned (.agg (aV .u8 (lineAt B n i))) ∧ Below w.heap.size w w' := by
  by_cases hi : 0 ≤ i ∧ i < n
  · obtain ⟨k, rfl⟩ := Int.eq_ofNat_of_zero_le hi.1
    have e : lineAt B n (k : Int) = Rm.row B k := by unfold lineAt; rw [if_pos hi, Int.toNat_natCast]
    rw [e]
    exact line_yes h k (by omega)
  · have e : lineAt B n i = Ln.zeros := by unfold lineAt; rw [if_neg hi]
    rw [e]
    exact line_no (fun W hb => lines_c (h.low hb)) i hi
theorem line_nil (i : Int) (w : World) : Calls Try.prog 20 #[.pointer none, .int .i64 i] w fun e w' => e = .returned (.agg (aV .u8 Ln.zeros)) ∧ Below w.heap.size w w' :=
  line_no (n := 0) (fun W _ => lines_nil W) i (by omega)
end Go.Proofs.Ytdlollkieihjpaa
