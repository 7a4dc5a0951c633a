/-
  The reference of layer 10: contracts of Line, SetLine.
-/
import Derived.Test.YtdlollkieihjpaaRrB
namespace Go.Proofs.Ytdlollkieihjpaa
open Go.ChangeShapes Go.WideShapes Go.ChangeAt Go.RowKit Wd

def setLV (B : List Int) (n : Nat) (i : Int) (l : List Int) : List Int := if 0 ≤ i ∧ i < n then Rm.setRow B i.toNat l else B
theorem is_rng {l : List Int} (h : Ln.Is l) (j : Nat) : 0 ≤ l.getD j 0 ∧ l.getD j 0 ≤ 255 := by
  by_cases hj : j < l.length
  · rw [List.getD, List.getElem?_eq_getElem hj]
    exact h.2 _ (List.getElem_mem _)
  · rw [List.getD, List.getElem?_eq_none (by omega)]
    exact ⟨by decide, by decide⟩
theorem setLV_ok {B : List Int} {n : Nat} (h : Rm.Ok B n) (i : Int) {l : List Int} (hl : Ln.Is l) : Rm.Ok (setLV B n i l) n := by
  unfold setLV
  split
  · exact Rm.setRow_ok h _ hl
  · exact h
set_option maxHeartbeats 2000000 in
theorem rsetLine_c {w : World} {gb n : Nat} (cap : Nat) {t : TypeId} {B : List Int} (h : RefAt w gb t n B) (i : Int) {l : List Int} (hl : Ln.Is l) (hi : -9223372036854775808 ≤ i ∧ i ≤ 9223372036854775807) :
    Calls Try.prog 30 #[mV gb n cap, .int .i64 i, .agg (aV .u8 l)] w fun e w' => e = .returned (.bool (decide (0 ≤ i ∧ i < (n : Int)))) ∧ RefAt w' gb t n (setLV B n i l) ∧ Only gb w w' := by
  have hB := ((Below.refl w.heap.size w).alloc (Nat.le_refl _) (.cells #[.slice (some ⟨gb, 0, none⟩) (64 * n) cap] 34)).alloc (by simp) (.cells (aV .u8 l) 48)
  have HH := Lib.hid (h.low hB)
  have HC := Lib.hid ((CsAt.new w 34 #[.slice (some ⟨gb, 0, none⟩) (64 * n) cap]).alloc (.cells (aV .u8 l) 48))
  have HR := Lib.hid (show RowAt .u8 ((w.alloc (.cells #[.slice (some ⟨gb, 0, none⟩) (64 * n) cap] 34)).alloc (.cells (aV .u8 l) 48)) (w.heap.size + 1) 48 l by
    simpa using RowAt.new .u8 (w.alloc (.cells #[.slice (some ⟨gb, 0, none⟩) (64 * n) cap] 34)) 48 l)
  have HB := Lib.hid hB
  have HO := Lib.hid (Only.of_below (b := gb) hB)
  have HL := Lib.hid hl
  have hn := h.n1
  have hlt := h.lt
  have c0 := HC.out.cell 0
  have hq : ((64 * n : Nat) : Int) / 64 = (n : Int) := by omega
  have HK := Lib.hid h.ok
  clear h hB hl
  unfold mV
  by_cases hr : 0 ≤ i ∧ i < (n : Int)
  · obtain ⟨i, rfl⟩ : ∃ j : Nat, i = (j : Int) := ⟨i.toNat, by omega⟩
    have HE := Lib.hid (show decide (0 ≤ (i : Int) ∧ (i : Int) < (n : Int)) = true by simpa using hr)
    have HV := Lib.hid (show setLV B n (i : Int) l = Rm.lay B (64 * i) 64 (fun k => l.getD k 0) by
      unfold setLV; rw [if_pos hr]; exact Rm.setRow_lay HK.out i l)
    have hin : i < n := by omega
    have g1 : decide ((i : Int) < 0) = false := by simp
    have g2 : decide (n ≤ i) = false := by simp; omega
    rw [HE.out, HV.out]
    clear hr HE HV
    have HZ := Lib.hid (show RefAt _ gb t n (Rm.lay B (64 * i) 0 (fun k => l.getD k 0)) by rw [Rm.lay_zero]; exact HH.out)
    go_enter Try.func30, Try.ntmps30
    go_wp2_with fail
    generalize (w.alloc (.cells #[.slice (some ⟨gb, 0, none⟩) (64 * n) cap] 34)).alloc (.cells (aV .u8 l) 48) = w1 at *
    go_loopw [7] (fun j wr => ∃ k : Nat, k ≤ 64 ∧ j = .int .i64 (k : Int) ∧ RefAt wr gb t n (Rm.lay B (64 * i) k (fun k => l.getD k 0)) ∧ Only gb w wr ∧ CsAt wr w.heap.size 34 #[.slice (some ⟨gb, 0, none⟩) (64 * n) cap] ∧ RowAt .u8 wr (w.heap.size + 1) 48 l) (fun j _ => 64 - (intOf j).toNat)
    case atStart => exact ⟨0, by omega, rfl, HZ.out, HO.out, HC.out, HR.out⟩
    case round =>
      obtain ⟨k, hk, rfl, hR, hO, hC, hL⟩ := hrel
      have HR' := Lib.hid hR
      have HO' := Lib.hid hO
      have HC' := Lib.hid hC
      have HL' := Lib.hid hL
      clear hR hO hC hL c0
      by_cases hlt2 : k < 64
      · have g3 : decide ((k : Int) < 64) = true := by simp; omega
        have HS := Lib.hid (Rm.lay_step B (64 * i) k (fun k => l.getD k 0) (by have := HK.out.len; omega))
        have HOK := Lib.hid (Rm.lay_ok HK.out (64 * i) (k + 1) (f := fun k => l.getD k 0) (fun j => is_rng HL.out j))
        have hw1 : IntKind.i64.wrap (64 * (i : Int)) = 64 * (i : Int) := by rw [IntKind.wrap_i64]; omega
        have hw2 : IntKind.i64.wrap (64 * (i : Int) + (k : Int)) = 64 * (i : Int) + (k : Int) := by rw [IntKind.wrap_i64]; omega
        have hb1 : (k : Int) < 64 := by omega
        have hb2 : 64 * (i : Int) + (k : Int) < 64 * (n : Int) := by omega
        have hb3 : 0 ≤ 64 * (i : Int) + (k : Int) := by omega
        have htn : (64 * (i : Int) + (k : Int)).toNat = 64 * i + k := by omega
        go_upto_region 6 with (fail)
        refine wp_region_steady_tail (fun W => RefAt W gb t n (Rm.lay B (64 * i) k (fun k => l.getD k 0)) ∧ Only gb w W ∧ CsAt W w.heap.size 34 #[.slice (some ⟨gb, 0, none⟩) (64 * n) cap] ∧ RowAt .u8 W (w.heap.size + 1) 48 l) 10 (by kernel_rfl) (by kernel_rfl) ⟨HR'.out.low (Below.refl _ _).drew, HO'.out.trans (Only.of_below (Below.refl _ _).drew), HC'.out, HL'.out⟩ ?_
        iterate 10
          refine steady_val ?_ ?_ (by kernel_rfl) (fun W hS => ?_) ?_ ?_
          rotate_left 2
          · have c0 := hS.2.2.1.cell 0; have c1 := hS.2.2.2.cell k (by rw [HL.out.1]; exact hlt2)
            go_simp
            exact rfl
          · go_simp
            exact rfl
        refine steady_nil ?_
        rintro W ⟨hW1, hW2, hW3, hW4⟩
        simp only [List.drop_succ_cons, List.drop_zero]
        have HR2 := Lib.hid hW1
        have HO2 := Lib.hid hW2
        have HC2 := Lib.hid hW3
        have HL2 := Lib.hid hW4
        have hcell := hW1.cell (64 * i + k) (by omega)
        have hfr := hW1.frozen (64 * i + k)
        have hrg := is_rng HL.out k
        clear hW1 hW2 hW3 hW4 HR' HO' HC' HL' HR HC HO HB HH HZ
        generalize (Rm.lay B (64 * i) k (fun k => l.getD k 0)).getD (64 * i + k) 0 = z at hcell
        go_wp2_with fail
        go_roundw
        case rel => exact ⟨k + 1, by omega, by go_num, HR2.out.set _ (by omega) HS.out HOK.out, HO2.out.setCell _ _, CsAt.farc HC2.out (by omega) _, HL2.out.far (by omega) _⟩
        case measure => simp [intOf]; omega
      · obtain rfl : k = 64 := by omega
        go_wp2_with fail
        go_ret
        exact ⟨rfl, HR'.out, HO'.out⟩
  · have HE := Lib.hid (show decide (0 ≤ i ∧ i < (n : Int)) = false by simpa using hr)
    have HV := Lib.hid (show setLV B n i l = B by unfold setLV; rw [if_neg hr])
    rw [HE.out, HV.out]
    clear HE HV
    by_cases h0 : i < 0
    · have g1 : decide (i < 0) = true := by simpa using h0
      clear hr
      go_enter Try.func30, Try.ntmps30
      go_wp2_with fail
      go_ret
      exact ⟨rfl, HH.out, HO.out⟩
    · have g1 : decide (i < 0) = false := by simpa using h0
      have h1 : (n : Int) ≤ i := by omega
      have g2 : decide ((n : Int) ≤ i) = true := by simpa using h1
      clear hr
      go_enter Try.func30, Try.ntmps30
      go_wp2_with fail
      go_ret
      exact ⟨rfl, HH.out, HO.out⟩
/-- The line's first bytes. -/
def cut (B : List Int) (i k : Nat) : List Int := Rm.mk 64 fun j => if j < k then B.getD (64 * i + j) 0 else 0
theorem cut_zero (B : List Int) (i : Nat) : cut B i 0 = List.replicate 64 0 := by
  refine Rm.ext (by simp [cut, Rm.mk_len]) fun j hj => ?_
  rw [show (cut B i 0).length = 64 from Rm.mk_len _ _] at hj
  rw [show (cut B i 0).getD j 0 = _ from Rm.mk_get _ _ _ hj, if_neg (by omega), List.getD, List.getElem?_replicate]
  split <;> rfl
theorem cut_all (B : List Int) (i : Nat) : cut B i 64 = Rm.row B i := by
  refine Rm.ext (by simp [cut, Rm.row, Rm.mk_len]) fun j hj => ?_
  rw [show (cut B i 64).length = 64 from Rm.mk_len _ _] at hj
  rw [show (cut B i 64).getD j 0 = _ from Rm.mk_get _ _ _ hj, if_pos hj, Rm.row_get _ _ _ hj]
theorem cut_step (B : List Int) (i k : Nat) (hk : k < 64) : (cut B i k).set k (B.getD (64 * i + k) 0) = cut B i (k + 1) := by
  have hlen : ∀ m, (cut B i m).length = 64 := fun m => Rm.mk_len _ _
  refine Rm.ext (by rw [List.length_set, hlen, hlen]) fun j hj => ?_
  rw [List.length_set, hlen] at hj
  rw [Ln.getD_set _ _ _ _ (by rw [hlen]; exact hk), show (cut B i k).getD j 0 = _ from Rm.mk_get _ _ _ hj, show (cut B i (k + 1)).getD j 0 = _ from Rm.mk_get _ _ _ hj]
  by_cases c : j = k
  · subst c; rw [if_pos rfl, if_pos (by omega)]
  · rw [if_neg c]
    by_cases d : j < k
    · rw [if_pos d, if_pos (by omega)]
    · rw [if_neg d, if_neg (by omega)]
theorem row_len (B : List Int) (i : Nat) : (Rm.row B i).length = 64 := Rm.mk_len _ _
set_option maxHeartbeats 2000000 in
theorem rline_c {w : World} {gb n : Nat} (cap : Nat) {t : TypeId} {B : List Int} (h : RefAt w gb t n B) (i : Int) (hi : -9223372036854775808 ≤ i ∧ i ≤ 9223372036854775807) :
    Calls Try.prog 25 #[mV gb n cap, .int .i64 i] w fun e w' => e = .returned (.agg (aV .u8 (lineAt B n i))) ∧ Below w.heap.size w w' := by
  have hB := (((Below.refl w.heap.size w).alloc (Nat.le_refl _) (.cells #[.slice (some ⟨gb, 0, none⟩) (64 * n) cap] 34)).alloc (by simp) (.cells (aV .u8 (List.replicate 64 0)) 48)).alloc (by simp; omega) (.cells (aV .u8 (List.replicate 64 0)) 48)
  have HC := Lib.hid (((CsAt.new w 34 #[.slice (some ⟨gb, 0, none⟩) (64 * n) cap]).alloc (.cells (aV .u8 (List.replicate 64 0)) 48)).alloc (.cells (aV .u8 (List.replicate 64 0)) 48))
  have HR := Lib.hid ((show RowAt .u8 ((w.alloc (.cells #[.slice (some ⟨gb, 0, none⟩) (64 * n) cap] 34)).alloc (.cells (aV .u8 (List.replicate 64 0)) 48)) (w.heap.size + 1) 48 (List.replicate 64 0) by
    simpa using RowAt.new .u8 (w.alloc (.cells #[.slice (some ⟨gb, 0, none⟩) (64 * n) cap] 34)) 48 (List.replicate 64 0)).alloc (.cells (aV .u8 (List.replicate 64 0)) 48))
  have HZ := Lib.hid (show RowAt .u8 (((w.alloc (.cells #[.slice (some ⟨gb, 0, none⟩) (64 * n) cap] 34)).alloc (.cells (aV .u8 (List.replicate 64 0)) 48)).alloc (.cells (aV .u8 (List.replicate 64 0)) 48)) (w.heap.size + 2) 48 (List.replicate 64 0) by
    simpa using RowAt.new .u8 ((w.alloc (.cells #[.slice (some ⟨gb, 0, none⟩) (64 * n) cap] 34)).alloc (.cells (aV .u8 (List.replicate 64 0)) 48)) 48 (List.replicate 64 0))
  have HB := Lib.hid hB
  have HH := Lib.hid h
  have hn := h.n1
  have hlt := h.lt
  have c0 := HC.out.cell 0
  have hq : ((64 * n : Nat) : Int) / 64 = (n : Int) := by omega
  clear h hB
  unfold mV
  by_cases hr : 0 ≤ i ∧ i < (n : Int)
  · obtain ⟨i, rfl⟩ : ∃ j : Nat, i = (j : Int) := ⟨i.toNat, by omega⟩
    have HV := Lib.hid (show lineAt B n (i : Int) = Rm.row B i by unfold lineAt; rw [if_pos hr]; rfl)
    have hin : i < n := by omega
    have g1 : decide ((i : Int) < 0) = false := by simp
    have g2 : decide (n ≤ i) = false := by simp; omega
    rw [HV.out]
    clear hr HV
    go_enter Try.func25, Try.ntmps25
    go_upto_region 4 with (fail)
    rw [← zeros64]
    generalize ((w.alloc (.cells #[.slice (some ⟨gb, 0, none⟩) (64 * n) cap] 34)).alloc (.cells (aV .u8 (List.replicate 64 0)) 48)).alloc (.cells (aV .u8 (List.replicate 64 0)) 48) = w1 at *
    go_wp2_with fail
    go_loopw [6] (fun j wr => ∃ k : Nat, k ≤ 64 ∧ j = .int .i64 (k : Int) ∧ RowAt .u8 wr (w.heap.size + 2) 48 (cut B i k) ∧ RowAt .u8 wr (w.heap.size + 1) 48 (List.replicate 64 0) ∧ CsAt wr w.heap.size 34 #[.slice (some ⟨gb, 0, none⟩) (64 * n) cap] ∧ Below w.heap.size w wr) (fun j _ => 64 - (intOf j).toNat)
    case atStart => exact ⟨0, by omega, rfl, by rw [cut_zero]; exact HZ.out, HR.out, HC.out, HB.out⟩
    case round =>
      obtain ⟨k, hk, rfl, hR, hO, hC, hL⟩ := hrel
      have HR' := Lib.hid hR
      have HO' := Lib.hid hO
      have HC' := Lib.hid hC
      have HL' := Lib.hid hL
      clear hR hO hC hL c0
      by_cases hlt2 : k < 64
      · have g3 : decide ((k : Int) < 64) = true := by simp; omega
        have HS := Lib.hid (cut_step B i k hlt2)
        have hw1 : IntKind.i64.wrap (64 * (i : Int)) = 64 * (i : Int) := by rw [IntKind.wrap_i64]; omega
        have hw2 : IntKind.i64.wrap (64 * (i : Int) + (k : Int)) = 64 * (i : Int) + (k : Int) := by rw [IntKind.wrap_i64]; omega
        have hb1 : (k : Int) < 64 := by omega
        have hb2 : 64 * (i : Int) + (k : Int) < 64 * (n : Int) := by omega
        have hb3 : 0 ≤ 64 * (i : Int) + (k : Int) := by omega
        have htn : (64 * (i : Int) + (k : Int)).toNat = 64 * i + k := by omega
        have c0 := HC'.out.cell 0
        have c1 := (HH.out.low HL'.out).cell (64 * i + k) (by omega)
        have hcell := HR'.out.cell k (by rw [show (cut B i k).length = 64 from Rm.mk_len _ _]; omega)
        have hfr := HR'.out.frozen k
        have hrg := HH.out.ok.rng (64 * i + k)
        clear HR HC HB HZ
        generalize (cut B i k).getD k 0 = z at hcell
        go_wp2_with fail
        go_roundw
        case rel => exact ⟨k + 1, by omega, by go_num, HS.out ▸ HR'.out.set _ _, HO'.out.far (by omega) _, CsAt.farc HC'.out (by omega) _, HL'.out.setCell (by simp; omega) _⟩
        case measure => simp [intOf]; omega
      · obtain rfl : k = 64 := by omega
        have HR2 := Lib.hid (show RowAt .u8 wr (w.heap.size + 2) 48 (Rm.row B i) from cut_all B i ▸ HR'.out)
        clear HR'
        go_wp2_with (first | (refine wpList_load_row rfl 48 _ rfl (w.heap.size + 2) rfl 48 _ (0, 0) _ HR2.out Try.underlying48 rfl (iR (row_len _ _)) ?_) | (refine wpList_store_row rfl 48 _ _ rfl (w.heap.size + 1) _ rfl rfl 48 _ HO'.out (iR (row_len _ _)) (zeros_size (row_len _ _)) (aV_one _ _) ?_))
        exact bodyPost_ret (results_cell_row Try.results25 _ _ _ _ _ _ _ rfl (HO'.out.row _) Try.underlying48 rfl (iR (row_len _ _))) rfl ⟨rfl, below_setRow HL'.out (by omega) _⟩
  · have HV := Lib.hid (show lineAt B n i = List.replicate 64 0 by unfold lineAt; rw [if_neg hr]; rfl)
    rw [HV.out]
    clear HV
    by_cases h0 : i < 0
    · have g1 : decide (i < 0) = true := by simpa using h0
      clear hr
      go_enter Try.func25, Try.ntmps25
      go_upto_region 3 with (fail)
      rw [← zeros64]
      generalize ((w.alloc (.cells #[.slice (some ⟨gb, 0, none⟩) (64 * n) cap] 34)).alloc (.cells (aV .u8 (List.replicate 64 0)) 48)).alloc (.cells (aV .u8 (List.replicate 64 0)) 48) = w1 at *
      go_wp2_with (first | (refine wpList_load_row rfl 48 _ rfl (w.heap.size + 2) rfl 48 _ (0, 0) _ HZ.out Try.underlying48 rfl (iR zeros_len) ?_) | (refine wpList_store_row rfl 48 _ _ rfl (w.heap.size + 1) _ rfl rfl 48 _ HR.out (iR zeros_len) (zeros_size zeros_len) (aV_one _ _) ?_))
      exact bodyPost_ret (results_cell_row Try.results25 _ _ _ _ _ _ _ rfl (HR.out.row _) Try.underlying48 rfl (iR zeros_len)) rfl ⟨rfl, below_setRow HB.out (by omega) _⟩
    · have g1 : decide (i < 0) = false := by simpa using h0
      have h1 : (n : Int) ≤ i := by omega
      have g2 : decide ((n : Int) ≤ i) = true := by simpa using h1
      clear hr
      go_enter Try.func25, Try.ntmps25
      go_upto_region 3 with (fail)
      rw [← zeros64]
      generalize ((w.alloc (.cells #[.slice (some ⟨gb, 0, none⟩) (64 * n) cap] 34)).alloc (.cells (aV .u8 (List.replicate 64 0)) 48)).alloc (.cells (aV .u8 (List.replicate 64 0)) 48) = w1 at *
      go_wp2_with (first | (refine wpList_load_row rfl 48 _ rfl (w.heap.size + 2) rfl 48 _ (0, 0) _ HZ.out Try.underlying48 rfl (iR zeros_len) ?_) | (refine wpList_store_row rfl 48 _ _ rfl (w.heap.size + 1) _ rfl rfl 48 _ HR.out (iR zeros_len) (zeros_size zeros_len) (aV_one _ _) ?_))
      exact bodyPost_ret (results_cell_row Try.results25 _ _ _ _ _ _ _ rfl (HR.out.row _) Try.underlying48 rfl (iR zeros_len)) rfl ⟨rfl, below_setRow HB.out (by omega) _⟩
end Go.Proofs.Ytdlollkieihjpaa
