/-
  The contract of the laws' live() of layer 1: the chapter's examples come out; only new memory is made.
-/
import Derived.Test.YtgkenodiaehnnaaGather
namespace Go.Proofs.Ytgkenodiaehnnaa
open Go.ChangeShapes Go.WideShapes Go.ChangeAt Go.RowKit Wd

theorem live_pairs (w : World) : Pairs (w.alloc (.cells #[.int .i64 1, .int .i64 1, .int .i64 4, .int .i64 1] 23)) w.heap.size 0 [(1, 1), (4, 1)] := by
  intro j hj
  match j, hj with
  | 0, _ => simp
  | 1, _ => simp
theorem live_fit : FitAll [(1, 1), (4, 1)] := by
  intro j
  match j with
  | 0 => simp
  | 1 => simp
  | j + 2 => simp

set_option maxHeartbeats 400000 in
theorem live1_c (w : World) : Calls Try.prog 13 #[] w fun e w' => e = .returned (.bool true) ∧ Below w.heap.size w w' := by
  have e1 : (cutS 240 4 4 == 15) = true := by decide +kernel
  have e2 : (putS 0 4 8 511 == 4080) = true := by decide +kernel
  have e3 : (signS 255 8 == 18446744073709551615) = true := by decide +kernel
  have e4 : (gatherS 18 [(1, 1), (4, 1)] == 3) = true := by decide +kernel
  go_enter Try.func13, Try.ntmps13
  go_wp2_with (first
    | (go_at_call 16; refine (cut_c _ _ _ _ (by omega) (by omega) (by omega) (by omega)).mono ?_; rintro e w' ⟨rfl, rfl⟩)
    | (go_at_call 18; refine (put_c _ _ _ _ _ (by omega) (by omega) (by omega) (by omega) (by omega) (by omega) (by omega) (by omega)).mono ?_; rintro e w' ⟨rfl, rfl⟩)
    | (go_at_call 21; refine (sign_c _ _ _ (by omega) (by omega)).mono ?_; rintro e w' ⟨rfl, rfl⟩)
    | (go_at_call 33; refine (gather_c _ [(1, 1), (4, 1)] _ _ _ _ _ (by omega) (by omega) (by simp) (by omega) (by rfl) live_fit (live_pairs w)).mono ?_; rintro e w1 ⟨rfl, hb⟩))
  go_ret
  exact ⟨rfl, ((Below.refl _ _).alloc (Nat.le_refl _) _).trans (hb.mono (by simp))⟩
end Go.Proofs.Ytgkenodiaehnnaa
