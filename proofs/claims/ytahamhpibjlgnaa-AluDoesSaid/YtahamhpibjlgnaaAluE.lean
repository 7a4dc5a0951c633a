/-
  What an op reckons (layer 7): alu.Do and the reference's Do come to the same; the chapter's examples (live).
-/
import Derived.Test.YtahamhpibjlgnaaAluC
import Derived.Test.YtahamhpibjlgnaaAluD
import Derived.Test.YtahamhpibjlgnaaAluN
import Derived.Test.YtahamhpibjlgnaaAluF
import Derived.Test.YtahamhpibjlgnaaSgn
namespace Go.Proofs.Ytahamhpibjlgnaa
open Go.ChangeShapes Go.WideShapes Go.ChangeAt Go.RowKit Wd

def DoIs (op a b v : Int) (ok : Bool) : Prop := ∀ w : World, Calls Try.prog 6 #[.int .i64 op, .int .u64 a, .int .u64 b] w fun e w' => e = .returned (.tuple #[.int .u64 v, .bool ok]) ∧ Below w.heap.size w w'
def RefIs (op a b v : Int) (ok : Bool) : Prop := ∀ w : World, Calls Try.prog 7 #[.int .i64 op, .int .u64 a, .int .u64 b] w fun e w' => e = .returned (.tuple #[.int .u64 v, .bool ok]) ∧ Below w.heap.size w w'
theorem class_one {op : Int} (h : classS op = 1) : (22 ≤ op ∧ op ≤ 49) ∨ (54 ≤ op ∧ op ≤ 66) := by
  have l : ∀ k : Fin 99, classL.getD k.val 0 = 1 → (22 ≤ k.val ∧ k.val ≤ 49) ∨ (54 ≤ k.val ∧ k.val ≤ 66) := by decide +kernel
  unfold classS at h
  split at h
  · have := l ⟨op.toNat, by omega⟩ (by simp only; omega)
    simp only at this
    omega
  · omega
theorem all_one : ∀ k ∈ longL ++ shortL ++ productL, classS k = 1 := by decide +kernel
theorem class_not {op : Int} (h : ¬ classS op = 1) (k : Int) (hk : k ∈ longL ++ shortL ++ productL) : op ≠ k := fun e => h (e ▸ all_one k hk)
theorem do_both (op a b : Int) (ha : InW a) (hb : InW b) : ∃ v ok, DoIs op a b v ok ∧ RefIs op a b v ok := by
  by_cases h : classS op = 1
  · have h1 := class_one h
    have : op = 22 ∨ op = 23 ∨ op = 24 ∨ op = 25 ∨ op = 26 ∨ op = 27 ∨ op = 28 ∨ op = 29 ∨ op = 30 ∨ op = 31 ∨ op = 32 ∨ op = 33 ∨ op = 34 ∨ op = 35 ∨ op = 36 ∨ op = 37 ∨ op = 38 ∨ op = 39 ∨ op = 40 ∨ op = 41 ∨ op = 42 ∨ op = 43 ∨ op = 44 ∨ op = 45 ∨ op = 46 ∨ op = 47 ∨ op = 48 ∨ op = 49 ∨ op = 54 ∨ op = 55 ∨ op = 56 ∨ op = 57 ∨ op = 58 ∨ op = 59 ∨ op = 60 ∨ op = 61 ∨ op = 62 ∨ op = 63 ∨ op = 64 ∨ op = 65 ∨ op = 66 := by omega
    clear h h1
    rcases this with rfl | rfl | rfl | rfl | rfl | rfl | rfl | rfl | rfl | rfl | rfl | rfl | rfl | rfl | rfl | rfl | rfl | rfl | rfl | rfl | rfl | rfl | rfl | rfl | rfl | rfl | rfl | rfl | rfl | rfl | rfl | rfl | rfl | rfl | rfl | rfl | rfl | rfl | rfl | rfl | rfl
    · exact ⟨_, _, fun w => do_22 a b w ha hb, fun w => refDo_add 22 a b w refName_22 ha.1 ha.2 hb.1 hb.2⟩
    · exact ⟨_, _, fun w => do_23 a b w ha hb, fun w => refDo_slt 23 a b w refName_23 ha.1 ha.2 hb.1 hb.2⟩
    · exact ⟨_, _, fun w => do_24 a b w ha hb, fun w => refDo_sltu 24 a b w refName_24 ha.1 ha.2 hb.1 hb.2⟩
    · exact ⟨_, _, fun w => do_25 a b w ha hb, fun w => refDo_xor 25 a b w refName_25 ha.1 ha.2 hb.1 hb.2⟩
    · exact ⟨_, _, fun w => do_26 a b w ha hb, fun w => refDo_or 26 a b w refName_26 ha.1 ha.2 hb.1 hb.2⟩
    · exact ⟨_, _, fun w => do_27 a b w ha hb, fun w => refDo_and 27 a b w refName_27 ha.1 ha.2 hb.1 hb.2⟩
    · exact ⟨_, _, fun w => do_28 a b w ha hb, fun w => refDo_sll 28 a b w refName_28 ha.1 ha.2 hb.1 hb.2⟩
    · exact ⟨_, _, fun w => do_29 a b w ha hb, fun w => refDo_srl 29 a b w refName_29 ha.1 ha.2 hb.1 hb.2⟩
    · exact ⟨_, _, fun w => do_30 a b w ha hb, fun w => refDo_sra 30 a b w refName_30 ha.1 ha.2 hb.1 hb.2⟩
    · exact ⟨_, _, fun w => do_31 a b w ha hb, fun w => refDo_add 31 a b w refName_31 ha.1 ha.2 hb.1 hb.2⟩
    · exact ⟨_, _, fun w => do_32 a b w ha hb, fun w => refDo_sub 32 a b w refName_32 ha.1 ha.2 hb.1 hb.2⟩
    · exact ⟨_, _, fun w => do_33 a b w ha hb, fun w => refDo_sll 33 a b w refName_33 ha.1 ha.2 hb.1 hb.2⟩
    · exact ⟨_, _, fun w => do_34 a b w ha hb, fun w => refDo_slt 34 a b w refName_34 ha.1 ha.2 hb.1 hb.2⟩
    · exact ⟨_, _, fun w => do_35 a b w ha hb, fun w => refDo_sltu 35 a b w refName_35 ha.1 ha.2 hb.1 hb.2⟩
    · exact ⟨_, _, fun w => do_36 a b w ha hb, fun w => refDo_xor 36 a b w refName_36 ha.1 ha.2 hb.1 hb.2⟩
    · exact ⟨_, _, fun w => do_37 a b w ha hb, fun w => refDo_srl 37 a b w refName_37 ha.1 ha.2 hb.1 hb.2⟩
    · exact ⟨_, _, fun w => do_38 a b w ha hb, fun w => refDo_sra 38 a b w refName_38 ha.1 ha.2 hb.1 hb.2⟩
    · exact ⟨_, _, fun w => do_39 a b w ha hb, fun w => refDo_or 39 a b w refName_39 ha.1 ha.2 hb.1 hb.2⟩
    · exact ⟨_, _, fun w => do_40 a b w ha hb, fun w => refDo_and 40 a b w refName_40 ha.1 ha.2 hb.1 hb.2⟩
    · exact ⟨_, _, fun w => do_41 a b w ha hb, fun w => refDo_addw 41 a b w refName_41 ha.1 ha.2 hb.1 hb.2⟩
    · exact ⟨_, _, fun w => do_42 a b w ha hb, fun w => refDo_sllw 42 a b w refName_42 ha.1 ha.2 hb.1 hb.2⟩
    · exact ⟨_, _, fun w => do_43 a b w ha hb, fun w => refDo_srlw 43 a b w refName_43 ha.1 ha.2 hb.1 hb.2⟩
    · exact ⟨_, _, fun w => do_44 a b w ha hb, fun w => refDo_sraw 44 a b w refName_44 ha.1 ha.2 hb.1 hb.2⟩
    · exact ⟨_, _, fun w => do_45 a b w ha hb, fun w => refDo_addw 45 a b w refName_45 ha.1 ha.2 hb.1 hb.2⟩
    · exact ⟨_, _, fun w => do_46 a b w ha hb, fun w => refDo_subw 46 a b w refName_46 ha.1 ha.2 hb.1 hb.2⟩
    · exact ⟨_, _, fun w => do_47 a b w ha hb, fun w => refDo_sllw 47 a b w refName_47 ha.1 ha.2 hb.1 hb.2⟩
    · exact ⟨_, _, fun w => do_48 a b w ha hb, fun w => refDo_srlw 48 a b w refName_48 ha.1 ha.2 hb.1 hb.2⟩
    · exact ⟨_, _, fun w => do_49 a b w ha hb, fun w => refDo_sraw 49 a b w refName_49 ha.1 ha.2 hb.1 hb.2⟩
    · exact ⟨_, _, fun w => do_54 a b w ha hb, fun w => refDo_mul 54 a b w refName_54 ha.1 ha.2 hb.1 hb.2⟩
    · exact ⟨_, _, fun w => do_55 a b w ha hb, fun w => refDo_mulh 55 a b w refName_55 ha.1 ha.2 hb.1 hb.2⟩
    · exact ⟨_, _, fun w => do_56 a b w ha hb, fun w => refDo_mulhsu 56 a b w refName_56 ha.1 ha.2 hb.1 hb.2⟩
    · exact ⟨_, _, fun w => do_57 a b w ha hb, fun w => refDo_mulhu 57 a b w refName_57 ha.1 ha.2 hb.1 hb.2⟩
    · exact ⟨_, _, fun w => do_58 a b w ha hb, fun w => refDo_div 58 a b w refName_58 ha.1 ha.2 hb.1 hb.2⟩
    · exact ⟨_, _, fun w => do_59 a b w ha hb, fun w => refDo_divu 59 a b w refName_59 ha.1 ha.2 hb.1 hb.2⟩
    · exact ⟨_, _, fun w => do_60 a b w ha hb, fun w => refDo_rem 60 a b w refName_60 ha.1 ha.2 hb.1 hb.2⟩
    · exact ⟨_, _, fun w => do_61 a b w ha hb, fun w => refDo_remu 61 a b w refName_61 ha.1 ha.2 hb.1 hb.2⟩
    · exact ⟨_, _, fun w => do_62 a b w ha hb, fun w => refDo_mulw 62 a b w refName_62 ha.1 ha.2 hb.1 hb.2⟩
    · exact ⟨_, _, fun w => do_63 a b w ha hb, fun w => refDo_divw 63 a b w refName_63 ha.1 ha.2 hb.1 hb.2⟩
    · exact ⟨_, _, fun w => do_64 a b w ha hb, fun w => refDo_divuw 64 a b w refName_64 ha.1 ha.2 hb.1 hb.2⟩
    · exact ⟨_, _, fun w => do_65 a b w ha hb, fun w => refDo_remw 65 a b w refName_65 ha.1 ha.2 hb.1 hb.2⟩
    · exact ⟨_, _, fun w => do_66 a b w ha hb, fun w => refDo_remuw 66 a b w refName_66 ha.1 ha.2 hb.1 hb.2⟩
  · exact ⟨_, _, fun w => calm (do_no op a b w (long_no op fun k hk => class_not h k (by simp [hk])) (short_no op fun k hk => class_not h k (by simp [hk])) (product_no op fun k hk => class_not h k (by simp [hk]))), fun w => refDo_no op a b w (refName_no op h)⟩
/-- The ops of 32 bits: their answer is signed, and hangs on the lowest bits alone. -/
theorem do_w (op a b : Int) (h : (41 ≤ op ∧ op ≤ 49) ∨ (62 ≤ op ∧ op ≤ 66)) (ha : InW a) (hb : InW b) : ∃ v, InW v ∧ signS v 32 = v ∧ DoIs op a b v true ∧ DoIs op (cutS a 0 32) (signS b 32) v true := by
  have ra := cutS_range a 0 32
  have rb := signS_range b 32
  have : op = 41 ∨ op = 42 ∨ op = 43 ∨ op = 44 ∨ op = 45 ∨ op = 46 ∨ op = 47 ∨ op = 48 ∨ op = 49 ∨ op = 62 ∨ op = 63 ∨ op = 64 ∨ op = 65 ∨ op = 66 := by omega
  rcases this with rfl | rfl | rfl | rfl | rfl | rfl | rfl | rfl | rfl | rfl | rfl | rfl | rfl | rfl
  · refine ⟨_, signS_range _ 32, keep_sign _ 32, fun w => do_41 a b w ha hb, ?_⟩
    exact by
      intro w
      have d := do_41 (cutS a 0 32) (signS b 32) w ra rb
      simp only [addw_low ha.1 hb.1] at d
      exact d
  · refine ⟨_, signS_range _ 32, keep_sign _ 32, fun w => do_42 a b w ha hb, ?_⟩
    exact by
      intro w
      have d := do_42 (cutS a 0 32) (signS b 32) w ra rb
      simp only [sllw_low ha.1 hb.1] at d
      exact d
  · refine ⟨_, signS_range _ 32, keep_sign _ 32, fun w => do_43 a b w ha hb, ?_⟩
    exact by
      intro w
      have d := do_43 (cutS a 0 32) (signS b 32) w ra rb
      simp only [srlw_low ha.1 hb.1] at d
      exact d
  · refine ⟨_, wrap_range _, sraw_sgn a b, fun w => do_44 a b w ha hb, ?_⟩
    exact by
      intro w
      have d := do_44 (cutS a 0 32) (signS b 32) w ra rb
      simp only [sraw_low ha.1 hb.1] at d
      exact d
  · refine ⟨_, signS_range _ 32, keep_sign _ 32, fun w => do_45 a b w ha hb, ?_⟩
    exact by
      intro w
      have d := do_45 (cutS a 0 32) (signS b 32) w ra rb
      simp only [addw_low ha.1 hb.1] at d
      exact d
  · refine ⟨_, signS_range _ 32, keep_sign _ 32, fun w => do_46 a b w ha hb, ?_⟩
    exact by
      intro w
      have d := do_46 (cutS a 0 32) (signS b 32) w ra rb
      simp only [subw_low ha.1 hb.1] at d
      exact d
  · refine ⟨_, signS_range _ 32, keep_sign _ 32, fun w => do_47 a b w ha hb, ?_⟩
    exact by
      intro w
      have d := do_47 (cutS a 0 32) (signS b 32) w ra rb
      simp only [sllw_low ha.1 hb.1] at d
      exact d
  · refine ⟨_, signS_range _ 32, keep_sign _ 32, fun w => do_48 a b w ha hb, ?_⟩
    exact by
      intro w
      have d := do_48 (cutS a 0 32) (signS b 32) w ra rb
      simp only [srlw_low ha.1 hb.1] at d
      exact d
  · refine ⟨_, wrap_range _, sraw_sgn a b, fun w => do_49 a b w ha hb, ?_⟩
    exact by
      intro w
      have d := do_49 (cutS a 0 32) (signS b 32) w ra rb
      simp only [sraw_low ha.1 hb.1] at d
      exact d
  · refine ⟨_, signS_range _ 32, keep_sign _ 32, fun w => do_62 a b w ha hb, ?_⟩
    exact by
      intro w
      have d := do_62 (cutS a 0 32) (signS b 32) w ra rb
      simp only [half_cut ha.1, half_sgn hb.1] at d
      exact d
  · refine ⟨_, signS_range _ 32, keep_sign _ 32, fun w => do_63 a b w ha hb, ?_⟩
    exact by
      intro w
      have d := do_63 (cutS a 0 32) (signS b 32) w ra rb
      simp only [half_cut ha.1, half_sgn hb.1] at d
      exact d
  · refine ⟨_, signS_range _ 32, keep_sign _ 32, fun w => do_64 a b w ha hb, ?_⟩
    exact by
      intro w
      have d := do_64 (cutS a 0 32) (signS b 32) w ra rb
      simp only [half_cut ha.1, half_sgn hb.1] at d
      exact d
  · refine ⟨_, signS_range _ 32, keep_sign _ 32, fun w => do_65 a b w ha hb, ?_⟩
    exact by
      intro w
      have d := do_65 (cutS a 0 32) (signS b 32) w ra rb
      simp only [half_cut ha.1, half_sgn hb.1] at d
      exact d
  · refine ⟨_, signS_range _ 32, keep_sign _ 32, fun w => do_66 a b w ha hb, ?_⟩
    exact by
      intro w
      have d := do_66 (cutS a 0 32) (signS b 32) w ra rb
      simp only [half_cut ha.1, half_sgn hb.1] at d
      exact d
theorem live_slt : bi (lessS 18446744073709551615 0) = 1 := by decide +kernel
theorem live_jalr : bits .andNot .u64 (IntKind.u64.wrap (7 + IntKind.u64.wrap (-2))) 1 = 4 := by decide +kernel
set_option maxHeartbeats 1000000 in
theorem live7_c (w : World) : Calls Try.prog 8 #[] w fun e w' => e = .returned (.bool true) ∧ Below w.heap.size w w' := by
  have hl := live_slt
  have hj := live_jalr
  go_enter Try.func8, Try.ntmps8
  go_wp2_with fail
  refine (do_34 _ _ _ ⟨by omega, by omega⟩ ⟨by omega, by omega⟩).mono ?_
  rintro e w1 ⟨rfl, hb⟩
  have HB := Lib.hid hb
  clear hb
  simp only [hl]
  go_wp2_with fail
  refine (target_4 _ _ _ _).mono ?_
  rintro e w2 ⟨rfl, rfl⟩
  rw [hj]
  go_wp2_with fail
  go_ret
  exact ⟨rfl, HB.out⟩
theorem ldo {op a b v : Int} {ok : Bool} (h : DoIs op a b v ok) (w : World) : Calls Try.prog 15 #[.int .i64 op, .int .u64 a, .int .u64 b] w fun e w' => e = .returned (.int .u64 v) ∧ Below w.heap.size w w' := by
  go_enter Try.func15, Try.ntmps15
  go_wp2_with fail
  refine (h _).mono ?_
  rintro e w1 ⟨rfl, hb⟩
  have HB := Lib.hid hb
  clear hb
  go_wp2_with fail
  go_ret
  exact ⟨rfl, HB.out⟩
end Go.Proofs.Ytahamhpibjlgnaa
