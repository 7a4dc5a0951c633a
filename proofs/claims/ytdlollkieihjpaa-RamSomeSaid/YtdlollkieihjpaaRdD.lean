/-
  The law of layer 10: Holds.
-/
import Derived.Test.YtdlollkieihjpaaRdC
namespace Go.Proofs.Ytdlollkieihjpaa
open Go.ChangeShapes Go.WideShapes Go.ChangeAt Go.RowKit Wd

set_option maxHeartbeats 2000000 in
theorem holds_c {w : World} {rb mb gb n : Nat} (cap : Nat) {t : TypeId} {B : List Int} (hR : RamAt w rb mb n B) (hG : RefAt w gb t n B) :
    Calls Try.prog 11 #[.pointer (some ⟨rb, 0, none⟩), mV gb n cap] w fun e w' => e = .returned (.bool true) ∧ Below w.heap.size w w' := by
  have hW := (Below.refl w.heap.size w).alloc (Nat.le_refl _) (.cells #[.slice (some ⟨gb, 0, none⟩) (64 * n) cap] 34)
  have HR := Lib.hid hR
  have HG := Lib.hid hG
  have HC := Lib.hid (CsAt.new w 34 #[.slice (some ⟨gb, 0, none⟩) (64 * n) cap])
  have HW := Lib.hid hW
  have hn := hG.n1
  have hq : ((64 * n : Nat) : Int) / 64 = (n : Int) := by omega
  have hwn : IntKind.i64.wrap (n : Int) = (n : Int) := by rw [IntKind.wrap_i64]; omega
  clear hR hG hW
  unfold mV
  go_enter Try.func11, Try.ntmps11
  go_upto_region 1 with (fail)
  generalize w.alloc (.cells #[.slice (some ⟨gb, 0, none⟩) (64 * n) cap] 34) = w1 at *
  refine wp_region_steady (fun W => CsAt W w.heap.size 34 #[.slice (some ⟨gb, 0, none⟩) (64 * n) cap] ∧ Below w.heap.size w W) (by kernel_rfl) (by kernel_rfl) ⟨HC.out, HW.out.drew⟩ ?_
  refine steady_val ?_ ?_ (by kernel_rfl) (fun W hS => ?_) ?_ ?_
  rotate_left 2
  · have c0 := hS.1.cell 0; go_simp
    exact rfl
  · go_simp
    exact rfl
  refine steady_enter (.int .i64 (n : Int)) 17 #[.pointer (some ⟨rb, 0, none⟩)] ?_ (by kernel_rfl) (fun W hS => ?_) (fun W hS => (lines_c (HR.out.low hS.2)).mono fun e W' ⟨he, hw⟩ => ⟨he, hw ▸ hS⟩) ?_ ?_
  rotate_left 1
  · go_simp
  · go_simp
    exact rfl
  iterate 5
    refine steady_val ?_ ?_ (by kernel_rfl) (fun W hS => ?_) ?_ ?_
    rotate_left 2
    · have c0 := hS.1.cell 0; go_simp
      exact rfl
    · go_simp
      exact rfl
  refine steady_nil ?_
  intro W hS
  have HC2 := Lib.hid hS.1
  have HW2 := Lib.hid hS.2
  have c0 := HC2.out.cell 0
  clear hS HC HW
  go_wp2_with fail
  clear c0
  go_loopw [5] (fun j wr => ∃ k : Nat, k ≤ n ∧ j = .int .i64 (k : Int) ∧ CsAt wr w.heap.size 34 #[.slice (some ⟨gb, 0, none⟩) (64 * n) cap] ∧ Below w.heap.size w wr) (fun j _ => n - (intOf j).toNat)
  case atStart => exact ⟨0, by omega, rfl, HC2.out, HW2.out⟩
  case round =>
    obtain ⟨k, hk, rfl, hc, hb⟩ := hrel
    have HC' := Lib.hid hc
    have HW' := Lib.hid hb
    clear hc hb
    have c0 := HC'.out.cell 0
    by_cases hlt2 : k < n
    · have g3 : decide (k < n) = true := by simpa using hlt2
      have HRO := Lib.hid (row_at (B := B) k hlt2)
      go_upto_region 6 with (fail)
      refine wp_region_steady (fun W => CsAt W w.heap.size 34 #[.slice (some ⟨gb, 0, none⟩) (64 * n) cap] ∧ Below w.heap.size w W) (by kernel_rfl) (by kernel_rfl) ⟨HC'.out, HW'.out.drew⟩ ?_
      iterate 2
        refine steady_val ?_ ?_ (by kernel_rfl) (fun W hS => ?_) ?_ ?_
        rotate_left 2
        · have c0 := hS.1.cell 0; go_simp
          exact rfl
        · go_simp
          exact rfl
      refine steady_enter (.agg (aV .u8 (Rm.row B k))) 20 #[.pointer (some ⟨rb, 0, none⟩), .int .i64 (k : Int)] ?_ (by kernel_rfl) (fun W hS => ?_) (fun W hS => (line_yes (HR.out.low hS.2) k hlt2).mono fun e W' ⟨he, hb⟩ => ⟨he, hS.1.low hb, hS.2.trans (hb.mono hS.2.size)⟩) ?_ ?_
      rotate_left 1
      · go_simp
      · go_simp
        exact rfl
      iterate 2
        refine steady_val ?_ ?_ (by kernel_rfl) (fun W hS => ?_) ?_ ?_
        rotate_left 2
        · have c0 := hS.1.cell 0; go_simp
          exact rfl
        · go_simp
          exact rfl
      refine steady_enter (.agg (aV .u8 (Rm.row B k))) 25 #[.agg #[.slice (some ⟨gb, 0, none⟩) (64 * n) cap], .int .i64 (k : Int)] ?_ (by kernel_rfl) (fun W hS => ?_) (fun W hS => (rline_c cap (HG.out.low hS.2) (k : Int) ⟨by omega, by omega⟩).mono fun e W' ⟨he, hb⟩ => ⟨HRO.out ▸ he, hS.1.low hb, hS.2.trans (hb.mono hS.2.size)⟩) ?_ ?_
      rotate_left 1
      · go_simp
      · go_simp
        exact rfl
      refine steady_val (.bool false) ?_ (by kernel_rfl) (fun W hS => exec_cmp .neq 49 _ _ _ rfl _ _ rfl rfl guard_line _ (ne_is _ _ _ (row_len _ _) (row_len _ _) false (by simp))) ?_ ?_
      rotate_left 1
      · go_simp
        exact rfl
      refine steady_nil ?_
      intro W hS
      have HC2 := Lib.hid hS.1
      have HW2 := Lib.hid hS.2
      clear hS HC' HW' c0
      go_wp2_with fail
      go_roundw
      case rel => exact ⟨k + 1, by omega, by go_num, HC2.out, HW2.out⟩
      case measure => simp [intOf]; omega
    · have g3 : decide (k < n) = false := by simpa using hlt2
      go_wp2_with fail
      go_ret
      exact ⟨rfl, HW'.out⟩
end Go.Proofs.Ytdlollkieihjpaa
