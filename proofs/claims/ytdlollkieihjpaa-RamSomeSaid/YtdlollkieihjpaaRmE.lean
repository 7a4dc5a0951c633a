/-
  Contracts of package ram (layer 10): SetLine, put, Has, hasNumber, empty, New.
-/
import Derived.Test.YtdlollkieihjpaaRmD
namespace Go.Proofs.Ytdlollkieihjpaa
open Go.ChangeShapes Go.WideShapes Go.ChangeAt Go.RowKit Wd

theorem sz_u8 (w : World) : (sizeOf 5).run Try.prog w = .ok 1 w := by kernel_rfl
theorem eq_line (w : World) (xs ys : List Int) (hx : xs.length = 64) (hy : ys.length = 64) : (binOp .eql 49 (.agg (aV .u8 xs)) (.agg (aV .u8 ys))).run Try.prog w = .ok (.bool (xs == ys)) w :=
  run_eql_ints w 49 5 64 .u8 Try.underlying49 Try.underlying5 sz_u8 xs ys hx hy
theorem ne_line (w : World) (xs ys : List Int) (hx : xs.length = 64) (hy : ys.length = 64) : (binOp .neq 49 (.agg (aV .u8 xs)) (.agg (aV .u8 ys))).run Try.prog w = .ok (.bool (!(xs == ys))) w :=
  run_neq_ints w 49 5 64 .u8 Try.underlying49 Try.underlying5 sz_u8 xs ys hx hy
theorem eq_is (w : World) (xs ys : List Int) (hx : xs.length = 64) (hy : ys.length = 64) (r : Bool) (h : (xs == ys) = r) : (binOp .eql 49 (.agg (aV .u8 xs)) (.agg (aV .u8 ys))).run Try.prog w = .ok (.bool r) w := h ▸ eq_line w xs ys hx hy
theorem ne_is (w : World) (xs ys : List Int) (hx : xs.length = 64) (hy : ys.length = 64) (r : Bool) (h : (!(xs == ys)) = r) : (binOp .neq 49 (.agg (aV .u8 xs)) (.agg (aV .u8 ys))).run Try.prog w = .ok (.bool r) w := h ▸ ne_line w xs ys hx hy
theorem guard_line : Try.prog.eqGuardType Try.prog.depth 49 = false := by kernel_rfl
theorem zeros_len : (List.replicate 64 (0 : Int)).length = 64 := rfl

theorem setLine_no {w : World} {p : Option Addr} {n : Nat} (hl : ∀ W, Below w.heap.size w W → linesV W p n) (i : Int) (hi : ¬ (0 ≤ i ∧ i < n)) (l : List Int) : Calls Try.prog 21 #[.pointer p, .int .i64 i, .agg (aV .u8 l)] w fun e w' => e = .returned (.bool false) ∧ Below w.heap.size w w' := by
  have hB := (Below.refl w.heap.size w).alloc (Nat.le_refl _) (.cells (aV .u8 l) 49)
  have HV := Lib.hid (hl _ hB)
  have HB := Lib.hid hB
  have HD := Lib.hid (show decide (0 ≤ i ∧ i < (n : Int)) = false by simpa using hi)
  clear hl hi hB
  go_enter Try.func21, Try.ntmps21
  go_wp2_with fail
  generalize w.alloc (.cells (aV .u8 l) 49) = w1 at *
  refine (hasLine_c HV.out i).mono ?_
  rintro e w2 ⟨rfl, rfl⟩
  rw [HD.out]
  go_wp2_with fail
  go_ret
  exact ⟨rfl, HB.out⟩
set_option maxHeartbeats 2000000 in
theorem setLine_c {w : World} {rb mb n : Nat} {B : List Int} (h : RamAt w rb mb n B) (i : Nat) (hi : i < n) {l : List Int} (hl : Ln.Is l) : Calls Try.prog 21 #[.pointer (some ⟨rb, 0, none⟩), .int .i64 (i : Int), .agg (aV .u8 l)] w
    fun e w' => e = .returned (.bool true) ∧ RamAt w' rb mb n (Rm.setRow B i l) ∧ Only mb w w' := by
  have hB := (Below.refl w.heap.size w).alloc (Nat.le_refl _) (.cells (aV .u8 l) 49)
  have HH := Lib.hid (h.low hB)
  have HB := Lib.hid hB
  have HR := Lib.hid (RowAt.new .u8 w 49 l)
  have HL := Lib.hid hl
  have HD := Lib.hid (show decide (0 ≤ (i : Int) ∧ (i : Int) < (n : Int)) = true by simp; omega)
  have HN := Lib.hid (show i < 1000000 by have := h.n1; omega)
  clear h hB hl
  go_enter Try.func21, Try.ntmps21
  go_wp2_with fail
  generalize w.alloc (.cells (aV .u8 l) 49) = w1 at *
  refine (hasLine_c (lines_c HH.out) (i : Int)).mono ?_
  rintro e w2 ⟨rfl, rfl⟩
  rw [HD.out]
  by_cases hz : l = Ln.zeros
  · have HZ := Lib.hid hz
    have HQ := Lib.hid (show (l == List.replicate 64 (0 : Int)) = true by rw [hz]; rfl)
    clear hz
    go_upto_region 4 with (first | (refine wpList_load_row rfl 49 _ rfl w.heap.size rfl 49 _ (0, 0) _ HR.out Try.underlying49 rfl (iL HL.out.1) ?_) | (refine wpList_buildZ rfl rfl ?_) | (refine wpList_cmp rfl .eql 49 _ _ _ rfl _ _ rfl rfl guard_line _ (eq_is _ _ _ HL.out.1 zeros_len true HQ.out) ?_))
    refine wp_region_steady_tail (fun W => RamAt W rb mb n B ∧ Below w.heap.size w W) 6 (by kernel_rfl) (by kernel_rfl) ⟨HH.out.drew, HB.out.drew⟩ ?_
    iterate 5
      refine steady_val ?_ ?_ (by kernel_rfl) (fun W hS => ?_) ?_ ?_
      rotate_left 2
      · have c1 := hS.1.c1; go_simp
        exact rfl
      · go_simp
        exact rfl
    refine steady_enter (plV i) 38 #[.int .i64 (i : Int)] ?_ (by kernel_rfl) (fun W hS => ?_) (fun W hS => (place_c i HN.out W).mono fun e W' ⟨he, hb⟩ => ⟨he, hS.1.low hb, hS.2.trans (hb.mono hS.2.size)⟩) ?_ ?_
    rotate_left 1
    · go_simp
    · go_simp
      exact rfl
    refine steady_nil ?_
    rintro W ⟨hW1, hW2⟩
    simp only [List.drop_succ_cons, List.drop_zero]
    have HR2 := Lib.hid hW1
    have HB2 := Lib.hid hW2
    clear hW1 hW2 HH HB HR
    refine wpList_ram_del rfl _ _ rfl HR2.out i hi rfl rfl ?_
    intro w3 h3 o3
    have HK := Lib.hid (show RamAt w3 rb mb n (Rm.setRow B i l) ∧ Only mb w w3 from ⟨HZ.out ▸ h3, (Only.of_below HB2.out).trans o3⟩)
    clear h3 o3
    go_wp2_with fail
    go_ret
    exact ⟨rfl, HK.out.1, HK.out.2⟩
  · have HQ := Lib.hid (show (l == List.replicate 64 (0 : Int)) = false by rw [beq_eq_false_iff_ne]; exact hz)
    have HZ := Lib.hid hz
    clear hz
    go_upto_region 5 with (first | (refine wpList_load_row rfl 49 _ rfl w.heap.size rfl 49 _ (0, 0) _ HR.out Try.underlying49 rfl (iL HL.out.1) ?_) | (refine wpList_buildZ rfl rfl ?_) | (refine wpList_cmp rfl .eql 49 _ _ _ rfl _ _ rfl rfl guard_line _ (eq_is _ _ _ HL.out.1 zeros_len false HQ.out) ?_))
    refine wp_region_steady_tail (fun W => RamAt W rb mb n B ∧ RowAt .u8 W w.heap.size 49 l ∧ Below w.heap.size w W) 7 (by kernel_rfl) (by kernel_rfl) ⟨HH.out.drew, HR.out, HB.out.drew⟩ ?_
    iterate 5
      refine steady_val ?_ ?_ (by kernel_rfl) (fun W hS => ?_) ?_ ?_
      rotate_left 2
      · have c1 := hS.1.c1; go_simp
        exact rfl
      · go_simp
        exact rfl
    refine steady_enter (plV i) 38 #[.int .i64 (i : Int)] ?_ (by kernel_rfl) (fun W hS => ?_) (fun W hS => (place_c i HN.out W).mono fun e W' ⟨he, hb⟩ => ⟨he, hS.1.low hb, hS.2.1.low hb, hS.2.2.trans (hb.mono hS.2.2.size)⟩) ?_ ?_
    rotate_left 1
    · go_simp
    · go_simp
      exact rfl
    refine steady_val (.agg (aV .u8 l)) ?_ (by kernel_rfl) (fun W hS => exec_load_row _ _ rfl _ rfl _ _ _ hS.2.1 Try.underlying49 rfl (iL HL.out.1)) ?_ ?_
    rotate_left 1
    · go_simp
      exact rfl
    refine steady_nil ?_
    rintro W ⟨hW1, hW0, hW2⟩
    simp only [List.drop_succ_cons, List.drop_zero]
    have HR2 := Lib.hid hW1
    have HB2 := Lib.hid hW2
    clear hW1 hW2 hW0 HH HB HR
    refine wpList_ram_put rfl _ _ _ rfl HR2.out i hi HL.out HZ.out rfl rfl rfl ?_
    intro w3 h3 o3
    have HK := Lib.hid (show RamAt w3 rb mb n (Rm.setRow B i l) ∧ Only mb w w3 from ⟨h3, (Only.of_below HB2.out).trans o3⟩)
    clear h3 o3
    go_wp2_with fail
    go_ret
    exact ⟨rfl, HK.out.1, HK.out.2⟩
theorem row_at {B : List Int} {n : Nat} (i : Nat) (hi : i < n) : lineAt B n (i : Int) = Rm.row B i := by
  unfold lineAt
  rw [if_pos (by omega), Int.toNat_natCast]
set_option maxHeartbeats 2000000 in
theorem rput_c {w : World} {rb mb n : Nat} {B : List Int} (h : RamAt w rb mb n B) (i : Nat) (p m v : Int) (hp : -9223372036854775808 ≤ p ∧ p ≤ 9223372036854775807) (hv : 0 ≤ v ∧ v < 18446744073709551616) (hi : Ln.fits p m = true → i < n) :
    Calls Try.prog 36 #[.pointer (some ⟨rb, 0, none⟩), .int .i64 (i : Int), .int .i64 p, .int .i64 m, .int .u64 v] w fun e w' => e = .returned (.tuple #[]) ∧ RamAt w' rb mb n (Rm.putR B i p m v) ∧ Only mb w w' := by
  have HH := Lib.hid h
  have HL := Lib.hid (lineAt_is h.ok (i : Int))
  have HP := Lib.hid (Ln.put_is HL.out p m v)
  have HV := Lib.hid hv
  have hft : Ln.fits p m = true ∨ Ln.fits p m = false := by cases Ln.fits p m <;> simp
  have HFT := Lib.hid hft
  have HIN := Lib.hid hi
  clear h hv hft hi
  go_enter Try.func36, Try.ntmps36
  go_wp2_with fail
  refine (line_c HH.out (i : Int)).mono ?_
  rintro e w1 ⟨rfl, hb1⟩
  have H1 := Lib.hid (HH.out.low hb1)
  have HB1 := Lib.hid hb1
  clear hb1 HH
  go_wp2_with fail
  refine (lput_c _ HL.out _ _ _ _ hp HV.out).mono ?_
  rintro e w2 ⟨rfl, hb2⟩
  have H2 := Lib.hid (H1.out.low hb2)
  have HB2 := Lib.hid (HB1.out.trans (hb2.mono HB1.out.size))
  clear hb2 H1 HB1
  rcases HFT.out with hf | hf
  · have HK := Lib.hid (show Rm.setRow B i (Ln.put (lineAt B n (i : Int)) p m v) = Rm.putR B i p m v by unfold Rm.putR; rw [if_pos hf, row_at i (HIN.out hf)])
    have HI := Lib.hid (HIN.out hf)
    rw [hf]
    clear hf HIN HFT
    go_upto_region 1 with (refine wpList_storeNew rfl 49 _ _ rfl _ _ _ rfl rfl (iL HP.out.1) (zeros_size HP.out.1) (aV_one _ _) ?_)
    have hBa := (Below.refl w2.heap.size w2).alloc (Nat.le_refl _) (.cells (aV .u8 (Ln.put (lineAt B n (i : Int)) p m v)) 49)
    have H3 := Lib.hid (H2.out.low hBa)
    have HR3 := Lib.hid (RowAt.new .u8 w2 49 (Ln.put (lineAt B n (i : Int)) p m v))
    have HB3 := Lib.hid (HB2.out.trans (hBa.mono HB2.out.size))
    clear hBa H2
    generalize w2.alloc (.cells (aV .u8 (Ln.put (lineAt B n (i : Int)) p m v)) 49) = w3 at *
    go_wp2_with (refine wpList_load_row rfl 49 _ rfl w2.heap.size rfl 49 _ (0, 0) _ HR3.out Try.underlying49 rfl (iL HP.out.1) ?_)
    refine (setLine_c H3.out i HI.out HP.out).mono ?_
    rintro e w4 ⟨rfl, h4, o4⟩
    have H4 := Lib.hid (show RamAt w4 rb mb n (Rm.putR B i p m v) ∧ Only mb w w4 from ⟨HK.out ▸ h4, (Only.of_below HB3.out).trans o4⟩)
    clear h4 o4
    go_wp2_with fail
    exact bodyPost_end (v := .tuple #[]) (by simp [results, Try.results36, go_sem]) rfl ⟨rfl, H4.out.1, H4.out.2⟩
  · have HK := Lib.hid (show B = Rm.putR B i p m v by unfold Rm.putR; rw [if_neg (by simp [hf])])
    rw [hf]
    clear hf HIN HFT
    go_upto_region 1 with (refine wpList_storeNew rfl 49 _ _ rfl _ _ _ rfl rfl (iL HP.out.1) (zeros_size HP.out.1) (aV_one _ _) ?_)
    have hBa := (Below.refl w2.heap.size w2).alloc (Nat.le_refl _) (.cells (aV .u8 (Ln.put (lineAt B n (i : Int)) p m v)) 49)
    have H3 := Lib.hid (show RamAt (w2.alloc (.cells (aV .u8 (Ln.put (lineAt B n (i : Int)) p m v)) 49)) rb mb n (Rm.putR B i p m v) from HK.out ▸ H2.out.low hBa)
    have HB3 := Lib.hid (HB2.out.trans (hBa.mono HB2.out.size))
    clear hBa H2
    generalize w2.alloc (.cells (aV .u8 (Ln.put (lineAt B n (i : Int)) p m v)) 49) = w3 at *
    go_wp2_with fail
    exact bodyPost_end (v := .tuple #[]) (by simp [results, Try.results36, go_sem]) rfl ⟨rfl, H3.out, Only.of_below HB3.out⟩

/-- Are m bytes there from an address on, in n lines? -/
def hasB (n : Nat) (x m : Int) : Bool := decide (1 ≤ m ∧ 2147483648 ≤ x ∧ x - 2147483648 + m ≤ 64 * (n : Int))
theorem hasB_iff {n : Nat} {x m : Int} : hasB n x m = true ↔ 1 ≤ m ∧ 2147483648 ≤ x ∧ x - 2147483648 + m ≤ 64 * (n : Int) := by simp [hasB]
theorem has_c {w : World} {p : Option Addr} {n : Nat} (h : linesV w p n) (hn : n ≤ 4096) (x m : Int) (hx : 0 ≤ x ∧ x < 18446744073709551616) (hm : -9223372036854775808 ≤ m ∧ m ≤ 9223372036854775807) :
    Calls Try.prog 18 #[.pointer p, .int .u64 x, .int .i64 m] w fun e w' => e = .returned (.bool (hasB n x m)) ∧ w = w' := by
  have H := Lib.hid h
  clear h
  by_cases h1 : m < 1
  · have HE := Lib.hid (show hasB n x m = false by unfold hasB; simp; omega)
    have g1 : decide (m < 1) = true := by simpa using h1
    go_enter Try.func18, Try.ntmps18
    go_wp2_with fail
    go_ret
    exact ⟨lret_b HE.out.symm, rfl⟩
  · have g1 : decide (m < 1) = false := by simpa using h1
    by_cases h2 : x < 2147483648
    · have HE := Lib.hid (show hasB n x m = false by unfold hasB; simp; omega)
      have g2 : decide (x < 2147483648) = true := by simpa using h2
      go_enter Try.func18, Try.ntmps18
      go_wp2_with fail
      go_ret
      exact ⟨lret_b HE.out.symm, rfl⟩
    · have g2 : decide (x < 2147483648) = false := by simpa using h2
      by_cases h3 : x - 2147483648 < (n : Int) * 64
      · have g3 : decide (x - 2147483648 < (n : Int) * 64) = true := by simpa using h3
        have HE := Lib.hid (show hasB n x m = decide (m ≤ (n : Int) * 64 - (x - 2147483648)) by unfold hasB; exact decide_eq_decide.2 (by omega))
        go_enter Try.func18, Try.ntmps18
        go_wp2_with fail
        refine H.out.mono ?_
        rintro e w' ⟨rfl, rfl⟩
        go_wp2_with fail
        go_ret
        exact ⟨lret_b HE.out.symm, rfl⟩
      · have g3 : decide (x - 2147483648 < (n : Int) * 64) = false := by simpa using h3
        have HE := Lib.hid (show hasB n x m = false by unfold hasB; simp; omega)
        go_enter Try.func18, Try.ntmps18
        go_wp2_with fail
        refine H.out.mono ?_
        rintro e w' ⟨rfl, rfl⟩
        go_wp2_with fail
        go_ret
        exact ⟨lret_b HE.out.symm, rfl⟩
def hasN (n : Nat) (x m : Int) : Bool := decide (m ≤ 8) && hasB n x m
theorem hasN_iff {n : Nat} {x m : Int} : hasN n x m = true ↔ m ≤ 8 ∧ 1 ≤ m ∧ 2147483648 ≤ x ∧ x - 2147483648 + m ≤ 64 * (n : Int) := by simp [hasN, hasB]
theorem hasNumber_c {w : World} {p : Option Addr} {n : Nat} (h : linesV w p n) (hn : n ≤ 4096) (x m : Int) (hx : 0 ≤ x ∧ x < 18446744073709551616) (hm : -9223372036854775808 ≤ m ∧ m ≤ 9223372036854775807) :
    Calls Try.prog 33 #[.pointer p, .int .u64 x, .int .i64 m] w fun e w' => e = .returned (.bool (hasN n x m)) ∧ w = w' := by
  have H := Lib.hid h
  clear h
  by_cases h1 : m ≤ 8
  · have g1 : decide (m ≤ 8) = true := by simpa using h1
    have HE := Lib.hid (show hasN n x m = hasB n x m by unfold hasN; rw [g1, Bool.true_and])
    go_enter Try.func33, Try.ntmps33
    go_wp2_with fail
    refine (has_c H.out hn x m hx hm).mono ?_
    rintro e w' ⟨rfl, rfl⟩
    go_wp2_with fail
    go_ret
    exact ⟨lret_b HE.out.symm, rfl⟩
  · have g1 : decide (m ≤ 8) = false := by simpa using h1
    have HE := Lib.hid (show hasN n x m = false by unfold hasN; rw [g1, Bool.false_and])
    go_enter Try.func33, Try.ntmps33
    go_wp2_with fail
    go_ret
    exact ⟨lret_b HE.out.symm, rfl⟩
theorem empty_c (n : Nat) (h0 : 1 ≤ n) (h1 : n ≤ 4096) (w : World) : Calls Try.prog 26 #[.int .i64 (n : Int)] w fun e w' => e = .returned (.pointer (some ⟨w.heap.size + 1, 0, none⟩)) ∧ RamAt w' (w.heap.size + 1) w.heap.size n (Rm.nought n) ∧ Below w.heap.size w w' := by
  have hmm := @run_makeMap Try.prog
  have HO := Lib.hid (World.ownsMap_made w Try.prog KT lineElem)
  go_enter Try.func26, Try.ntmps26
  go_wp2_with fail
  go_ret
  have hC := CsAt.new (w.alloc (.map #[] 0)) 69 #[.int .i64 (n : Int), .map (some w.heap.size)]
  have e : (w.alloc (.map #[] 0)).heap.size = w.heap.size + 1 := by simp
  rw [e] at hC
  refine ⟨rfl, ⟨Rm.nought_ok n, h0, h1, hC.cell 0, hC.cell 1, by simp, by omega, .map [], own_reset (HO.out.alloc _), Fits.empty n⟩, ((Below.refl _ _).alloc (Nat.le_refl _) _).alloc (by simp) _⟩
theorem new_no (x : Int) (hx : ¬ (1 ≤ x ∧ x ≤ 4096)) (w : World) : Calls Try.prog 6 #[.int .i64 x] w fun e w' => e = .returned (.tuple #[.pointer none, .int .i64 1]) ∧ w = w' := by
  by_cases h1 : x < 1
  · have g1 : decide (x < 1) = true := by simpa using h1
    go_enter Try.func6, Try.ntmps6
    go_wp2_with fail
    go_ret2
    exact ⟨rfl, rfl⟩
  · have g1 : decide (x < 1) = false := by simpa using h1
    have g2 : decide (4096 < x) = true := by simp; omega
    go_enter Try.func6, Try.ntmps6
    go_wp2_with fail
    go_ret2
    exact ⟨rfl, rfl⟩
theorem new_c (n : Nat) (h0 : 1 ≤ n) (h1 : n ≤ 4096) (w : World) : Calls Try.prog 6 #[.int .i64 (n : Int)] w fun e w' => e = .returned (.tuple #[.pointer (some ⟨w.heap.size + 1, 0, none⟩), .int .i64 0]) ∧ RamAt w' (w.heap.size + 1) w.heap.size n (Rm.nought n) ∧ Below w.heap.size w w' := by
  have g1 : decide ((n : Int) < 1) = false := by simp; omega
  have g2 : decide (4096 < (n : Int)) = false := by simp; omega
  go_enter Try.func6, Try.ntmps6
  go_wp2_with fail
  refine (empty_c n h0 h1 w).mono ?_
  rintro e w1 ⟨rfl, h2, h3⟩
  have H := Lib.hid (And.intro h2 h3)
  clear h2 h3
  go_wp2_with fail
  go_ret2
  exact ⟨rfl, H.out.1, H.out.2⟩
end Go.Proofs.Ytdlollkieihjpaa
