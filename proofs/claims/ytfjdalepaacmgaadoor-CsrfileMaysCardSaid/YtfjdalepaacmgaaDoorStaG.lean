/-
  The reference's View of layer 20.
-/
import Derived.Test.YtfjdalepaacmgaaDoorStaD
import Derived.Test.YtfjdalepaacmgaaDoorRow
import Derived.Test.YtfjdalepaacmgaaDoorSteady
import Derived.Great.BuildSlice
set_option maxRecDepth 20000
namespace Go.Proofs.YtfjdalepaacmgaaDoor
open Go.ChangeShapes Go.WideShapes Go.ChangeAt Go.RowKit Wd Csr Sta

def nmS (k : Nat) : ByteArray := [⟨#[115, 105, 101]⟩, ⟨#[115, 112, 105, 101]⟩, ⟨#[115, 112, 112]⟩, ⟨#[115, 117, 109]⟩, ⟨#[109, 120, 114]⟩].getD k ⟨#[]⟩
def plS (k : Nat) : Nat := [1, 5, 8, 18, 19].getD k 0
theorem nm_at : ∀ k : Fin 5, atI (nmS k.val) = (plS k.val : Nat) ∧ plS k.val < 64 := by decide +kernel
def viewP (x : Int) : Nat → Int
  | 0 => 0
  | k + 1 => putS (viewP x k) (plS k) 1 (cutS x (plS k) 1)
theorem viewP_range (x : Int) : ∀ k, W64 (viewP x k)
  | 0 => by unfold viewP W64; omega
  | k + 1 => putS_range _ _ _ _
theorem viewP_end (x : Int) : putS (viewP x 5) 33 1 (cutS x 33 1) = viewR x := rfl
structure VwS (w W : World) (b : Nat) : Prop where
  row : CsAt W b 9 #[.string ⟨#[115, 105, 101]⟩, .string ⟨#[115, 112, 105, 101]⟩, .string ⟨#[115, 112, 112]⟩, .string ⟨#[115, 117, 109]⟩, .string ⟨#[109, 120, 114]⟩]
  bel : Below w.heap.size w W
theorem VwS.low {w W W' : World} {b : Nat} (h : VwS w W b) (hb : Below W.heap.size W W') : VwS w W' b := ⟨h.row.low hb, h.bel.trans (hb.mono h.bel.size)⟩
theorem VwS.drew {w W : World} {b : Nat} (h : VwS w W b) : VwS w W.drew b := ⟨h.row, h.bel.drew⟩
theorem VwS.at_ {w W : World} {b : Nat} (h : VwS w W b) (k : Nat) (hk : k < 5) : W.cell? ⟨b, k, none⟩ = some (.string (nmS k)) := by
  rw [h.row.cell k]
  match k, hk with
  | 0, _ => rfl
  | 1, _ => rfl
  | 2, _ => rfl
  | 3, _ => rfl
  | 4, _ => rfl
set_option maxHeartbeats 4000000 in
set_option maxRecDepth 100000 in
theorem rview_c (x : Int) (hx : W64 x) (w : World) : Calls Tryd.prog 43 #[.int .u64 x] w fun e w' => e = .returned (.int .u64 (viewS x)) ∧ Below w.heap.size w w' := by
  have HV := Lib.hid (show viewS x = putS (viewP x 5) 33 1 (cutS x 33 1) from view_ref hx)
  have HX := Lib.hid hx
  go_enter Tryd.func43, Tryd.ntmps43
  go_wp2_with fail
  have hS : VwS w (w.alloc (.cells #[.string ⟨#[115, 105, 101]⟩, .string ⟨#[115, 112, 105, 101]⟩, .string ⟨#[115, 112, 112]⟩, .string ⟨#[115, 117, 109]⟩, .string ⟨#[109, 120, 114]⟩] 9)) w.heap.size := ⟨CsAt.new w _ _, (Below.refl _ _).alloc (Nat.le_refl _) _⟩
  generalize (w.alloc (.cells #[.string ⟨#[115, 105, 101]⟩, .string ⟨#[115, 112, 105, 101]⟩, .string ⟨#[115, 112, 112]⟩, .string ⟨#[115, 117, 109]⟩, .string ⟨#[109, 120, 114]⟩] 9)) = w1 at *
  have HS := Lib.hid hS
  clear hS
  go_wp2_with fail
  go_loopw [3, 5] (fun acc iv wr => ∃ k : Nat, k ≤ 5 ∧ iv = .int .i64 k ∧ acc = .int .u64 (viewP x k) ∧ VwS w wr w.heap.size) (fun _ iv _ => 5 - (intOf iv).toNat)
  case atStart => exact ⟨0, by omega, rfl, rfl, HS.out⟩
  case round =>
    obtain ⟨k, hk, rfl, rfl, hv⟩ := hrel
    have HW := Lib.hid hv
    clear hv
    by_cases hlt : k < 5
    · have hl2 : (k : Int) < 5 := by omega
      obtain ⟨ha, hpl⟩ := nm_at ⟨k, hlt⟩
      simp only at ha hpl
      have HG := Lib.hid (fun W => rget_c x HX.out (nmS k) W)
      rw [get_at ha hpl] at HG
      have HP := Lib.hid (fun W => rput_c (viewP x k) (viewP_range x k) (nmS k) (cutS x (plS k) 1) (cutS_range _ _ _) W)
      rw [ha] at HP
      have HN := Lib.hid (show putS (viewP x k) (plS k) 1 (cutS x (plS k) 1) = viewP x (k + 1) from rfl)
      rw [HN.out] at HP
      have HC := Lib.hid (fun (W : World) (h : VwS w W w.heap.size) => h.at_ k hlt)
      clear ha hpl HN
      generalize nmS k = nm at *
      generalize cutS x (plS k) 1 = c at *
      generalize hvk : viewP x k = a at *
      generalize hvn : viewP x (k + 1) = a2 at *
      have HVN := Lib.hid hvn
      clear hvk hvn hx
      go_upto_region 6 with fail
      refine wp_region_steady (fun W => VwS w W w.heap.size) (by kernel_rfl) (by kernel_rfl) HW.out.drew ?_
      iterate 4
        refine steady_val ?_ ?_ (by kernel_rfl) (fun W hS => ?_) ?_ ?_
        rotate_left 2
        · go_simp
          exact rfl
        · go_simp
          exact rfl
      refine steady_val ?_ ?_ (by kernel_rfl) (fun W hS => ?_) ?_ ?_
      rotate_left 2
      · have q := HC.out W hS; go_simp
        exact rfl
      · go_simp
        exact rfl
      iterate 4
        refine steady_val ?_ ?_ (by kernel_rfl) (fun W hS => ?_) ?_ ?_
        rotate_left 2
        · go_simp
          exact rfl
        · go_simp
          exact rfl
      refine steady_val ?_ ?_ (by kernel_rfl) (fun W hS => ?_) ?_ ?_
      rotate_left 2
      · have q := HC.out W hS; go_simp
        exact rfl
      · go_simp
        exact rfl
      refine steady_enter (.int .u64 c) 79 #[.int .u64 x, .string nm] ?_ (by kernel_rfl) (fun W hS => ?_) (fun W hS => (HG.out W).mono (by rintro e w' ⟨rfl, rfl⟩; exact ⟨rfl, hS⟩)) ?_ ?_
      rotate_left 1
      · go_simp
      · go_simp
        exact rfl
      refine steady_enter (.int .u64 a2) 80 #[.int .u64 a, .string nm, .int .u64 c] ?_ (by kernel_rfl) (fun W hS => ?_) (fun W hS => (HP.out W).mono (by rintro e w' ⟨rfl, hb⟩; exact ⟨rfl, hS.low hb⟩)) ?_ ?_
      rotate_left 1
      · go_simp
      · go_simp
        exact rfl
      refine steady_val ?_ ?_ (by kernel_rfl) (fun W hS => ?_) ?_ ?_
      rotate_left 2
      · go_simp
        exact rfl
      · go_simp
        exact rfl
      refine steady_nil ?_
      intro W hS
      have HS5 := Lib.hid hS
      clear hS HW
      go_wp2_with fail
      go_roundw
      case rel => exact ⟨k + 1, by omega, by go_num, by rw [HVN.out], HS5.out⟩
      case measure => simp [intOf]; omega
    · obtain rfl : k = 5 := by omega
      have HB33 := Lib.hid (fun W => bit_c x 33 W HX.out.1 HX.out.2)
      have e33 : bi (tbI x 33) = cutS x 33 1 := by
        have h := cut1 x (k := 33) (by omega)
        rw [← tbI_nat x 33 (by omega)] at h
        exact h.symm
      rw [e33] at HB33
      have hv5 := viewP_range x 5
      have h33 := cutS_range x 33 1
      have HP33 := Lib.hid (fun W => refPut_c (viewP x 5) 33 1 (cutS x 33 1) W hv5.1 hv5.2 (by omega) (by omega) h33.1 h33.2)
      clear e33 hv5 h33
      generalize hq : putS (viewP x 5) 33 1 (cutS x 33 1) = q at *
      generalize viewP x 5 = a at *
      generalize cutS x 33 1 = c at *
      clear hq hx
      go_wp2_with fail
      refine (HB33.out _).mono ?_
      rintro e w2 ⟨rfl, rfl⟩
      go_wp2_with fail
      refine (HP33.out _).mono ?_
      rintro e w3 ⟨rfl, hb⟩
      have HE := Lib.hid (HW.out.low hb)
      clear hb
      go_wp2_with fail
      go_ret
      exact ⟨by rw [HV.out]; rfl, HE.out.bel⟩
end Go.Proofs.YtfjdalepaacmgaaDoor
