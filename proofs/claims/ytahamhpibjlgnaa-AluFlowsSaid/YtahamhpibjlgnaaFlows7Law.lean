/-
  The statement AluFlows (P7.2): for every number op and all words and numbers of a Flow, roebucklaw07.AluFlows returns true and its arguments read afterwards as before. No condition.
-/
import Derived.Test.YtahamhpibjlgnaaAluE
import Derived.Test.YtahamhpibjlgnaaOpenFlow
namespace Go.Proofs.Ytahamhpibjlgnaa
open Go.ChangeShapes Go.WideShapes Go.ChangeAt Go.RowKit Wd

theorem flow_box (W : World) (a b c d : Value) (t : TypeId) : (W.alloc (.cells #[a, b, c, d] t)).cell? ⟨W.heap.size, 0, none⟩ = some a ∧ (W.alloc (.cells #[a, b, c, d] t)).cell? ⟨W.heap.size, 1, none⟩ = some b ∧ (W.alloc (.cells #[a, b, c, d] t)).cell? ⟨W.heap.size, 2, none⟩ = some c ∧ (W.alloc (.cells #[a, b, c, d] t)).cell? ⟨W.heap.size, 3, none⟩ = some d := by
  refine ⟨?_, ?_, ?_, ?_⟩ <;> simp [go_sem]
set_option maxHeartbeats 2000000 in
theorem flows7_walk (op pc a b imm : Int) (_h0 : -9223372036854775808 ≤ op ∧ op ≤ 9223372036854775807) (_h1 : 0 ≤ pc ∧ pc ≤ 18446744073709551615) (h2 : 0 ≤ a ∧ a ≤ 18446744073709551615) (h3 : 0 ≤ b ∧ b ≤ 18446744073709551615) (_h4 : -9223372036854775808 ≤ imm ∧ imm ≤ 9223372036854775807) (w : World) :
    Calls Try.prog 4 #[.int .i64 op, .agg #[.int .u64 pc, .int .u64 a, .int .u64 b, .int .i64 imm]] w fun e w' => e = .returned (.bool true) ∧ Below w.heap.size w w' := by
  obtain ⟨v1, ok1, c1, d1⟩ := taken_both op a b h2.1 (by omega) h3.1 (by omega)
  obtain ⟨v2, ok2, c2, d2⟩ := target_both op pc a imm
  obtain ⟨v3, ok3, c3, d3⟩ := up_both op pc imm
  have n1 : (v1 != v1) = false := by simp
  have n2 : (ok1 != ok1) = false := by simp
  have n3 : (v2 != v2) = false := by simp
  have n4 : (ok2 != ok2) = false := by simp
  have n5 : (v3 == v3) = true := by simp
  have n6 : (ok3 == ok3) = true := by simp
  clear h2 h3
  go_enter Try.func4, Try.ntmps4
  go_wp2_with fail
  obtain ⟨b0, b1, b2, b3⟩ := flow_box w (.int .u64 pc) (.int .u64 a) (.int .u64 b) (.int .i64 imm) 30
  have HB0 := Lib.hid ((Below.refl w.heap.size w).alloc (Nat.le_refl _) (.cells #[.int .u64 pc, .int .u64 a, .int .u64 b, .int .i64 imm] 30))
  generalize (w.alloc (.cells #[.int .u64 pc, .int .u64 a, .int .u64 b, .int .i64 imm] 30)) = W at *
  go_wp2_with fail
  refine (c1 _).mono ?_
  rintro e w1 ⟨rfl, rfl⟩
  go_wp2_with fail
  refine (d1 _).mono ?_
  rintro e w1 ⟨rfl, rfl⟩
  go_wp2_with fail
  refine (c2 _).mono ?_
  rintro e w1 ⟨rfl, rfl⟩
  go_wp2_with fail
  refine (d2 _).mono ?_
  rintro e w1 ⟨rfl, rfl⟩
  go_wp2_with fail
  refine (c3 _).mono ?_
  rintro e w1 ⟨rfl, rfl⟩
  go_wp2_with fail
  refine (d3 _).mono ?_
  rintro e w1 ⟨rfl, rfl⟩
  go_wp2_with fail
  refine (live7_c _).mono ?_
  rintro e w3 ⟨rfl, hb⟩
  have HB3 := Lib.hid (HB0.out.trans (hb.mono HB0.out.size))
  clear hb
  go_wp2_with fail
  go_ret
  exact ⟨rfl, HB3.out⟩

set_option maxRecDepth 100000 in
theorem flows7_lifted (os : Os) (started : os.Started) (H : Type) (enc : TypeId × Value → H) :
    ReturnsInHanded {} Try.checked os 4 .any (Rows.aluFlowsSpec.pre6 enc Try.prog Try.f4 Rows.aluFlowsRow.domain false) (Rows.aluFlowsSpec.post enc Try.prog Try.f4 false true false false) := by
  refine returnsInHanded_of_change (C := Try.checked) own started (by kernel_rfl) Try.func4
    (ChangeSpec.witness6 (enc := enc) (C := Try.checked) false ⟨#[], #[.int .i64 0, .agg #[.int .u64 0, .int .u64 0, .int .u64 0, .int .i64 0]], []⟩ 8 (by kernel_rfl) (by kernel_rfl) (by kernel_rfl) (by kernel_rfl)) ?_
  intro W base args ds gs before hval0 hW hcnd _
  have hval : ∀ (j : Nat) t v, Try.f4.params[j]? = some t → args[j]? = some v → Value.okWide Try.prog W .any base t v := hval0
  have hW' := hW
  obtain ⟨p, q, hA0, hV, rfl, hfz, hnd⟩ := hW
  have hA : DataW.TrodAll enc Try.prog W 0 (fun _ => true) true Try.f4.params.toList args.toList ds p := hA0
  rw [Try.params4] at hA hval
  obtain ⟨v0, vs0, d0, ds0, p0, q0, hargs, rfl, rfl, h0, r0⟩ := trodAll_cons hA
  obtain ⟨v1, vs1, d1, ds1, p1, q1, rfl, rfl, rfl, h1, r1⟩ := trodAll_cons r0
  obtain ⟨rfl, rfl, rfl⟩ := trodAll_nil r1
  obtain rfl : args = #[v0, v1] := by cases args; simp_all
  obtain ⟨rfl, rfl⟩ := trodVars_none hV
  obtain ⟨a0, rfl, rfl, rfl, w0⟩ := open_int Try.underlying3 (hval 0 3 v0 rfl rfl) h0
  have k1 := h1
  have lt1 : ∀ x ∈ p1, x.block < W.heap.size := by obtain ⟨m, hm⟩ := k1; exact DataW.trod_lt m _ _ _ hm
  obtain ⟨x0, x1, x2, x3, rfl, y0, y1, y2, y3⟩ := open_flow (hval 1 30 v1 rfl rfl) h1
  clear hA0 hval0
  refine (flows7_walk a0 x0 x1 x2 x3 (bounds_i64 w0) (bounds_u64 y0) (bounds_u64 y1) (bounds_u64 y2) (bounds_i64 y3) W).mono fun e W' ⟨he, bel⟩ => ?_
  subst he
  exact ⟨_, rfl, _, _, _, [], _, [], hW', trodAll_mk1 (shut_bool Try.underlying4 _), (trodAll_cons_mk (shut_int Try.underlying3 w0) (trodAll_cons_mk (Below.trod laidOut (by kernel_rfl) (of_decide_eq_true (by kernel_rfl)) k1 bel lt1) trodAll_mk0)), rfl, bel.frame _, fun h => by cases h⟩

theorem flows7_over : Rows.aluFlowsRow.holds Try.pinned (OpenSpec.ofChange Rows.aluFlowsSpec) :=
  OpenClaim.holds_of_wide 4 Try.f4 rfl rfl rfl rfl rfl rfl rfl ⟨rfl, rfl, rfl, rfl, rfl⟩ rfl rfl rfl rfl rfl (by kernel_rfl) Try.func4 (by kernel_rfl)
    (of_decide_eq_true (by kernel_rfl)) (by unfold Func.isWrapper; first | (rw [if_pos (by decide +kernel)]; kernel_rfl) | (rw [if_neg (by decide +kernel)]; exact ⟨rfl, rfl⟩))
    (fun os started H enc _ => flows7_lifted os started H enc)

theorem flows7_said : Rows.AluFlowsSaid := flows7_over
end Go.Proofs.Ytahamhpibjlgnaa
