/-
  The law RamSome: the telling.
-/
import Derived.Test.YtdlollkieihjpaaRsA
namespace Go.Proofs.Ytdlollkieihjpaa
open Go.ChangeShapes Go.WideShapes Go.ChangeAt Go.RowKit Wd

def wantC (B : List Int) (most : Int) : Int := if 0 < most ∧ most < (Rm.cnt B 30 : Nat) then most else (Rm.cnt B 30 : Nat)
theorem cnt_mono (B : List Int) (k : Nat) : ∀ j, Rm.cnt B k ≤ Rm.cnt B (k + j)
  | 0 => Nat.le_refl _
  | j + 1 => Nat.le_trans (cnt_mono B k j) (Nat.le_add_right _ _)
theorem cnt_small (B : List Int) : ∀ k, Rm.cnt B k ≤ k
  | 0 => Nat.le_refl _
  | k + 1 => by
    have h := cnt_small B k
    have h2 : (Rm.full B k).toNat ≤ 1 := by cases Rm.full B k <;> simp
    show Rm.cnt B k + (Rm.full B k).toNat ≤ k + 1
    omega
set_option maxHeartbeats 4000000 in
theorem some1_c {W : World} {rb mb g xb bb pm cap pn : Nat} {B : List Int} {most : Int} (h : Cb W pn 0 (-1)) (hx : Cx W rb mb g xb bb pm cap B most) (h1 : rb < pn) (h2 : mb < pn) (h3 : g < pn) (h4 : xb < pn) (h5 : bb < pn) (h6 : pm < pn) :
    Calls Try.prog 39 #[.func (.func 24) #[] #[.pointer (some ⟨pn, 0, none⟩), .pointer (some ⟨pn + 2, 0, none⟩), .pointer (some ⟨pn + 1, 0, none⟩), .pointer (some ⟨xb, 0, none⟩), .pointer (some ⟨pm, 0, none⟩)], .pointer (some ⟨bb, 0, none⟩)] W
      fun e W' => e = .returned (.tuple #[]) ∧ (∃ last, Cb W' pn (wantC B most) last) ∧ Below pn W W' := by
  have HC0 := Lib.hid h
  have HX := Lib.hid hx
  have cb := hx.b.cell 0
  clear h hx
  go_enter Try.func39, Try.ntmps39
  go_wp2_with fail
  refine (lines_c HX.out.ram).mono ?_
  rintro e w' ⟨rfl, rfl⟩
  clear cb
  go_wp2_with fail
  go_loopw [7] (fun t wr => ∃ (k : Nat) (last : Int), k ≤ 30 ∧ t = .int .i64 k ∧ Cb wr pn (Rm.cnt B k : Nat) last ∧ last < k ∧ (0 < most → ((Rm.cnt B k : Nat) : Int) < most) ∧ Below pn W wr) (fun t _ => 30 - (intOf t).toNat)
  case atStart => exact ⟨0, -1, by decide, rfl, HC0.out, by decide, fun h => h, Below.refl _ _⟩
  case round =>
    obtain ⟨k, last, hk, rfl, hC, hlast, hmost, hb⟩ := hrel
    have HC := Lib.hid hC
    have HB := Lib.hid hb
    have HM := Lib.hid hmost
    have HXr := Lib.hid (HX.out.on hb h1 h2 h3 h4 h5 h6)
    have cb := HXr.out.b.cell 0
    have hle := cnt_small B k
    clear hb hmost hC
    by_cases hlt : k < 30
    · have hl2 : (k : Int) < 30 := by omega
      have g2 : decide ((k : Int) < 30) = true := by simp; omega
      go_wp2_with fail
      refine (line_yes HXr.out.ram k hlt).mono ?_
      rintro e w2 ⟨rfl, hb⟩
      have hb3 := hb.alloc hb.size (.cells (aV .u8 (Rm.row B k)) 49)
      have hpn := HC.out.n.lt
      have HC3 := Lib.hid (HC.out.low hb3)
      have HB3 := Lib.hid (HB.out.trans (hb3.mono (by omega)))
      have HX3 := Lib.hid (HX.out.on HB3.out h1 h2 h3 h4 h5 h6)
      have HR3 := Lib.hid (RowAt.new .u8 w2 49 (Rm.row B k))
      clear hb hb3
      have hfc : Rm.full B k = true ∨ Rm.full B k = false := by cases Rm.full B k <;> simp
      rcases hfc with hf | hf
      · have HQ := Lib.hid (show (!(Rm.row B k == List.replicate 64 (0 : Int))) = true from hf)
        have HY := Lib.hid (cb_c k hlt HC3.out HX3.out h1 h2 h3 h4 h5 h6 hf hlast ⟨by omega, by omega⟩)
        have HC1 := Lib.hid (show Rm.cnt B (k + 1) = Rm.cnt B k + 1 by show Rm.cnt B k + (Rm.full B k).toNat = _; rw [hf]; rfl)
        clear hf
        by_cases hm : ((Rm.cnt B k : Nat) : Int) + 1 = most
        · have em : (((Rm.cnt B k : Nat) : Int) + 1 != most) = false := by simp [hm]
          have HW := Lib.hid (show wantC B most = ((Rm.cnt B k : Nat) : Int) + 1 by
            have h1 := cnt_mono B (k + 1) (30 - (k + 1))
            rw [show k + 1 + (30 - (k + 1)) = 30 by omega, HC1.out] at h1
            unfold wantC
            split <;> omega)
          clear hm
          go_wp2_with (first
          | (refine wpList_storeNew rfl 49 _ _ rfl _ _ _ rfl rfl (iL (row_len _ _)) (zeros_size (row_len _ _)) (aV_one _ _) ?_)
          | (refine wpList_load_rowW (by rfl) 49 _ rfl w2.heap.size rfl 49 _ (0, 0) _ HR3.out Try.underlying49 rfl (iL (row_len _ _)) ?_)
          | (refine wpList_buildZ rfl rfl ?_)
          | (refine wpList_cmp rfl .neq 49 _ _ _ rfl _ _ rfl rfl guard_line _ (ne_is _ _ _ (row_len _ _) zeros_len _ HQ.out) ?_))
          refine HY.out.mono ?_
          rintro e w4 ⟨rfl, hc4, hb4⟩
          have HC4 := Lib.hid hc4
          have HB4 := Lib.hid (HB3.out.trans hb4)
          clear hc4 hb4 HY
          go_wp2_with fail
          exact bodyPost_ret (v := .tuple #[]) (by simp [results, Try.results39, go_sem]) rfl ⟨rfl, ⟨_, by rw [HW.out]; exact HC4.out⟩, HB4.out⟩
        · have em : (((Rm.cnt B k : Nat) : Int) + 1 != most) = true := by simpa using hm
          have HM5 := Lib.hid (show 0 < most → ((Rm.cnt B (k + 1) : Nat) : Int) < most from fun h => by have := HM.out h; rw [HC1.out]; omega)
          clear hm
          go_wp2_with (first
          | (refine wpList_storeNew rfl 49 _ _ rfl _ _ _ rfl rfl (iL (row_len _ _)) (zeros_size (row_len _ _)) (aV_one _ _) ?_)
          | (refine wpList_load_rowW (by rfl) 49 _ rfl w2.heap.size rfl 49 _ (0, 0) _ HR3.out Try.underlying49 rfl (iL (row_len _ _)) ?_)
          | (refine wpList_buildZ rfl rfl ?_)
          | (refine wpList_cmp rfl .neq 49 _ _ _ rfl _ _ rfl rfl guard_line _ (ne_is _ _ _ (row_len _ _) zeros_len _ HQ.out) ?_))
          refine HY.out.mono ?_
          rintro e w4 ⟨rfl, hc4, hb4⟩
          have HC4 := Lib.hid (show Cb w4 pn ((Rm.cnt B (k + 1) : Nat) : Int) k by rw [HC1.out]; exact hc4)
          have HB4 := Lib.hid (HB3.out.trans hb4)
          clear hc4 hb4 HY
          go_wp2_with fail
          go_roundw
          case rel => exact ⟨k + 1, k, by omega, by go_num, HC4.out, by omega, HM5.out, HB4.out⟩
          case measure => simp [intOf]; omega
      · have HQ := Lib.hid (show (!(Rm.row B k == List.replicate 64 (0 : Int))) = false from hf)
        have HC1 := Lib.hid (show Rm.cnt B (k + 1) = Rm.cnt B k by show Rm.cnt B k + (Rm.full B k).toNat = _; rw [hf]; rfl)
        clear hf
        go_wp2_with (first
        | (refine wpList_storeNew rfl 49 _ _ rfl _ _ _ rfl rfl (iL (row_len _ _)) (zeros_size (row_len _ _)) (aV_one _ _) ?_)
        | (refine wpList_load_rowW (by rfl) 49 _ rfl w2.heap.size rfl 49 _ (0, 0) _ HR3.out Try.underlying49 rfl (iL (row_len _ _)) ?_)
        | (refine wpList_buildZ rfl rfl ?_)
        | (refine wpList_cmp rfl .neq 49 _ _ _ rfl _ _ rfl rfl guard_line _ (ne_is _ _ _ (row_len _ _) zeros_len _ HQ.out) ?_))
        go_roundw
        case rel => exact ⟨k + 1, last, by omega, by go_num, by rw [HC1.out]; exact HC3.out, by omega, by rw [HC1.out]; exact HM.out, HB3.out⟩
        case measure => simp [intOf]; omega
    · obtain rfl : k = 30 := by omega
      have HW := Lib.hid (show wantC B most = (Rm.cnt B 30 : Nat) by
        unfold wantC
        split
        · rename_i h; have := HM.out h.1; omega
        · rfl)
      go_wp2_with fail
      exact bodyPost_end (v := .tuple #[]) (by simp [results, Try.results39, go_sem]) rfl ⟨rfl, ⟨_, by rw [HW.out]; exact HC.out⟩, HB.out⟩
end Go.Proofs.Ytdlollkieihjpaa
