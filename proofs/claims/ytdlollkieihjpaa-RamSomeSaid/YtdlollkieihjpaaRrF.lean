/-
  The reference of layer 10: contract of Same.
-/
import Derived.Test.YtdlollkieihjpaaRrE
namespace Go.Proofs.Ytdlollkieihjpaa
open Go.ChangeShapes Go.WideShapes Go.ChangeAt Go.RowKit Wd

theorem same_cut {A B : List Int} {n : Nat} (hA : Rm.Ok A n) (hB : Rm.Ok B n) : (A == B) = true ↔ ∀ j, j < 64 * n → A.getD j 0 = B.getD j 0 := by
  rw [beq_iff_eq]
  refine ⟨fun h j _ => by rw [h], fun h => Rm.ext (by rw [hA.len, hB.len]) fun j hj => h j (by rw [← hA.len]; exact hj)⟩
set_option maxHeartbeats 2000000 in
theorem rsame_c {w : World} {ga gb n : Nat} (ca cb : Nat) {ta tb : TypeId} {A B : List Int} (hA : RefAt w ga ta n A) (hB : RefAt w gb tb n B) :
    Calls Try.prog 15 #[mV ga n ca, mV gb n cb] w fun e w' => e = .returned (.bool (A == B)) ∧ Below w.heap.size w w' := by
  have hW := ((Below.refl w.heap.size w).alloc (Nat.le_refl _) (.cells #[.slice (some ⟨ga, 0, none⟩) (64 * n) ca] 34)).alloc (by simp) (.cells #[.slice (some ⟨gb, 0, none⟩) (64 * n) cb] 34)
  have HA := Lib.hid hA
  have HB := Lib.hid hB
  have HC := Lib.hid ((CsAt.new w 34 #[.slice (some ⟨ga, 0, none⟩) (64 * n) ca]).alloc (.cells #[.slice (some ⟨gb, 0, none⟩) (64 * n) cb] 34))
  have HD := Lib.hid (show CsAt ((w.alloc (.cells #[.slice (some ⟨ga, 0, none⟩) (64 * n) ca] 34)).alloc (.cells #[.slice (some ⟨gb, 0, none⟩) (64 * n) cb] 34)) (w.heap.size + 1) 34 #[.slice (some ⟨gb, 0, none⟩) (64 * n) cb] by
    simpa using CsAt.new (w.alloc (.cells #[.slice (some ⟨ga, 0, none⟩) (64 * n) ca] 34)) 34 #[.slice (some ⟨gb, 0, none⟩) (64 * n) cb])
  have HW := Lib.hid hW
  have hn := hA.n1
  have c0 := HC.out.cell 0
  have d0 := HD.out.cell 0
  have HQ := Lib.hid (same_cut hA.ok hB.ok)
  clear hA hB hW
  unfold mV
  go_enter Try.func15, Try.ntmps15
  go_upto_region 1 with (fail)
  generalize ((w.alloc (.cells #[.slice (some ⟨ga, 0, none⟩) (64 * n) ca] 34)).alloc (.cells #[.slice (some ⟨gb, 0, none⟩) (64 * n) cb] 34)) = w1 at *
  go_wp2_with fail
  clear c0 d0
  go_loopw [5] (fun j wr => ∃ k : Nat, k ≤ 64 * n ∧ j = .int .i64 (k : Int) ∧ (∀ i, i < k → A.getD i 0 = B.getD i 0) ∧ CsAt wr w.heap.size 34 #[.slice (some ⟨ga, 0, none⟩) (64 * n) ca] ∧ CsAt wr (w.heap.size + 1) 34 #[.slice (some ⟨gb, 0, none⟩) (64 * n) cb] ∧ Below w.heap.size w wr) (fun j _ => 64 * n - (intOf j).toNat)
  case atStart => exact ⟨0, by omega, rfl, fun i hi => by omega, HC.out, HD.out, HW.out⟩
  case round =>
    obtain ⟨k, hk, rfl, hE, hc, hd, hb⟩ := hrel
    have HE := Lib.hid hE
    have HC' := Lib.hid hc
    have HD' := Lib.hid hd
    have HW' := Lib.hid hb
    clear hE hc hd hb
    have c0 := HC'.out.cell 0
    have d0 := HD'.out.cell 0
    by_cases hlt2 : k < 64 * n
    · have g3 : decide ((k : Int) < 64 * (n : Int)) = true := by simp; omega
      have hb1 : (k : Int) < 64 * (n : Int) := by omega
      have hrA := (HA.out.ok).rng k
      have hrB := (HB.out.ok).rng k
      generalize hxa : A.getD k 0 = xa at *
      generalize hxb : B.getD k 0 = xb at *
      have HXA := Lib.hid hxa
      have HXB := Lib.hid hxb
      clear hxa hxb
      go_upto_region 6 with (fail)
      refine wp_region_steady (fun W => CsAt W w.heap.size 34 #[.slice (some ⟨ga, 0, none⟩) (64 * n) ca] ∧ CsAt W (w.heap.size + 1) 34 #[.slice (some ⟨gb, 0, none⟩) (64 * n) cb] ∧ Below w.heap.size w W) (by kernel_rfl) (by kernel_rfl) ⟨HC'.out, HD'.out, HW'.out.drew⟩ ?_
      iterate 11
        refine steady_val ?_ ?_ (by kernel_rfl) (fun W hS => ?_) ?_ ?_
        rotate_left 2
        · have c0 := hS.1.cell 0; have d0 := hS.2.1.cell 0; have c1 := ((HA.out.low hS.2.2).cell k (by omega)).trans (by rw [HXA.out]); have d1 := ((HB.out.low hS.2.2).cell k (by omega)).trans (by rw [HXB.out])
          go_simp
          exact rfl
        · go_simp
          exact rfl
      refine steady_nil ?_
      rintro W ⟨hW1, hW2, hW3⟩
      have HC2 := Lib.hid hW1
      have HD2 := Lib.hid hW2
      have HW2 := Lib.hid hW3
      clear hW1 hW2 hW3
      by_cases hx : xa = xb
      · have g5 : (xa != xb) = false := by simp [hx]
        have HX := Lib.hid hx
        clear hx
        have HN := Lib.hid (show ∀ i, i < k + 1 → A.getD i 0 = B.getD i 0 by
          intro i hi
          by_cases c : i = k
          · rw [c, HXA.out, HXB.out, HX.out]
          · exact HE.out i (by omega))
        rw [g5]
        go_wp2_with fail
        go_roundw
        case rel => exact ⟨k + 1, by omega, by go_num, HN.out, HC2.out, HD2.out, HW2.out⟩
        case measure => simp [intOf]; omega
      · have g5 : (xa != xb) = true := by simp [hx]
        have HN := Lib.hid (show (A == B) = false by
          rw [Bool.eq_false_iff]
          intro h
          exact hx (by rw [← HXA.out, ← HXB.out]; exact HQ.out.1 h k hlt2))
        rw [g5]
        clear hx
        go_wp2_with fail
        go_ret
        exact ⟨lret_b HN.out.symm, HW2.out⟩
    · have g3 : decide ((k : Int) < 64 * (n : Int)) = false := by simp; omega
      have HN := Lib.hid (show (A == B) = true from HQ.out.2 fun j hj => HE.out j (by omega))
      go_wp2_with fail
      go_ret
      exact ⟨lret_b HN.out.symm, HW'.out⟩
end Go.Proofs.Ytdlollkieihjpaa
