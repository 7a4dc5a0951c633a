/-
  The statement ShardMays (P14.1): for whatever configuration, ask and answer, roebucklaw14.ShardMays returns true and its arguments read afterwards as before. No condition.
-/
import Derived.Test.YtabackklpemhpaaGreatJbh
import Derived.Test.YtabackklpemhpaaGreatJan
set_option maxRecDepth 20000
namespace Go.Proofs.YtabackklpemhpaaGreat
open Go.ChangeShapes Go.WideShapes Go.ChangeAt Go.RowKit

theorem kc_an : Tryz.prog.cellsOf 35 = 42 := by kernel_rfl
theorem open_An {H : Type} {enc : TypeId × Value → H} {w : World} {base : Nat} {spare : Nat → Bool} {held : Bool} {r : Reach} {b0 : Nat} {v : Value} {d : DataW H} {ps : List MemPlace} (hval : Value.okWide Tryz.prog w r b0 35 v) (hd : DataW.Trod enc Tryz.prog w base spare held 35 v d ps) :
    ∃ cs g, v = .agg cs ∧ cs.size = 42 ∧ cs[1]? = some (.bool g) := by
  simp only [Value.okWide, Tryz.underlying35] at hval
  obtain ⟨cs, rfl, hsz, _⟩ := hval
  obtain ⟨fuel, hf⟩ := hd
  rw [kc_an] at hsz
  have hf : DataW.trod enc Tryz.prog w base spare held fuel 35 cs.toList = some (d, ps) := hf
  obtain ⟨xs, nn, _, hx, _, hxl, hg⟩ := DataW.trod_struct Tryz.underlying35 hf
  have h1 := hg 1 _ rfl
  obtain ⟨x1, e1⟩ : ∃ x, xs[1]? = some x := ⟨xs[1]'(by rw [hxl]; decide), List.getElem?_eq_getElem _⟩
  change DataW.trod enc Tryz.prog w base spare held nn 4 (List.take (Tryz.prog.cellsOf 4) (List.drop 1 _)) = _ at h1
  rw [sh_kc_bool, e1] at h1
  obtain ⟨g, p1, -⟩ := DataW.trod_bool Tryz.underlying4 h1
  refine ⟨cs, g, rfl, hsz, ?_⟩
  have e : (List.take 1 (List.drop 1 cs.toList))[0]? = some (.bool g) := by rw [p1]; rfl
  rw [List.getElem?_take_of_lt (by omega), List.getElem?_drop] at e
  simpa using e
theorem smays_walk (w : World) (c : Cf) (a : Ak) (cs : Array Value) (g : Bool) (hc : c.In) (ha : a.In) (hcs : cs.size = 42) (hg : cs[1]? = some (.bool g)) :
    Calls Tryz.prog 3 #[.agg (cfC c), .agg (akC a), .agg cs] w fun e w' => e = .returned (.bool true) ∧ Below w.heap.size w w' := mays_walk c hc a ha cs g hcs hg w

set_option maxRecDepth 100000 in
theorem smays_lifted (os : Os) (started : os.Started) (H : Type) (enc : TypeId × Value → H) :
    ReturnsInHanded {} Tryz.checked os 3 .any (Rows.shardMaysSpec.pre6 enc Tryz.prog Tryz.f3 Rows.shardMaysRow.domain false) (Rows.shardMaysSpec.post enc Tryz.prog Tryz.f3 false true false false) := by
  refine returnsInHanded_of_change (C := Tryz.checked) own started (by kernel_rfl) Tryz.func3
    (ChangeSpec.witness6 (enc := enc) (C := Tryz.checked) false ⟨#[], #[.agg #[.int .i64 0, .int .i64 0, .int .i64 0, .int .i64 0], .agg #[.int .i64 0, .int .u64 0, .int .u64 0, .int .i64 0, .int .i64 0, .int .i64 0, .int .u64 0, .int .u64 0, .bool false, .int .i64 0, .bool false, .bool false, .bool false, .int .u64 0, .int .i64 0, .int .i64 0, .int .u64 0, .int .i64 0, .int .u64 0], .agg #[.int .u64 0, .bool false, .bool false, .bool false, .bool false, .int .u64 0, .int .i64 0, .bool false, .bool false, .bool false, .int .u64 0, .int .i64 0, .bool false, .bool false, .bool false, .int .u64 0, .int .i64 0, .bool false, .bool false, .bool false, .int .u64 0, .int .i64 0, .bool false, .bool false, .bool false, .int .u64 0, .int .i64 0, .bool false, .bool false, .bool false, .int .u64 0, .int .i64 0, .bool false, .bool false, .bool false, .int .u64 0, .int .i64 0, .bool false, .bool false, .bool false, .int .u64 0, .int .i64 0]], []⟩ 8 (by kernel_rfl) (by kernel_rfl) (by kernel_rfl) (by kernel_rfl)) ?_
  intro W base args ds gs before hval0 hW hcnd _
  have hval : ∀ (j : Nat) t v, Tryz.f3.params[j]? = some t → args[j]? = some v → Value.okWide Tryz.prog W .any base t v := hval0
  have hW' := hW
  obtain ⟨p, q, hA0, hV, rfl, hfz, hnd⟩ := hW
  have hA : DataW.TrodAll enc Tryz.prog W 0 (fun _ => true) true Tryz.f3.params.toList args.toList ds p := hA0
  rw [Tryz.params3] at hA hval
  obtain ⟨v0, vs0, d0, ds0, p0, q0, hargs, rfl, rfl, h0, r0⟩ := trodAll_cons hA
  obtain ⟨v1, vs1, d1, ds1, p1, q1, rfl, rfl, rfl, h1, r1⟩ := trodAll_cons r0
  obtain ⟨v2, vs2, d2, ds2, p2, q2, rfl, rfl, rfl, h2, r2⟩ := trodAll_cons r1
  obtain ⟨rfl, rfl, rfl⟩ := trodAll_nil r2
  obtain rfl : args = #[v0, v1, v2] := by cases args; simp_all
  obtain ⟨rfl, rfl⟩ := trodVars_none hV
  have k0 := h0
  have lt0 : ∀ x ∈ p0, x.block < W.heap.size := by obtain ⟨m, hm⟩ := k0; exact DataW.trod_lt m _ _ _ hm
  obtain ⟨l0, rfl, s0⟩ := open_Cf (hval 0 23 v0 rfl rfl) h0
  have k1 := h1
  have lt1 : ∀ x ∈ p1, x.block < W.heap.size := by obtain ⟨m, hm⟩ := k1; exact DataW.trod_lt m _ _ _ hm
  obtain ⟨l1, rfl, s1⟩ := open_Ak (hval 1 32 v1 rfl rfl) h1
  have k2 := h2
  have lt2 : ∀ x ∈ p2, x.block < W.heap.size := by obtain ⟨m, hm⟩ := k2; exact DataW.trod_lt m _ _ _ hm
  obtain ⟨cs2, g2, rfl, z2, i2⟩ := open_An (hval 2 35 v2 rfl rfl) h2
  clear hA0 hval0
  refine (smays_walk W l0 l1 cs2 g2 s0 s1 z2 i2).mono fun e W' ⟨he, bel⟩ => ?_
  subst he
  exact ⟨_, rfl, _, _, _, [], _, [], hW', trodAll_mk1 (shut_bool Tryz.underlying4 _), (trodAll_cons_mk (Below.trod laidOut (by kernel_rfl) (of_decide_eq_true (by kernel_rfl)) k0 bel lt0) (trodAll_cons_mk (Below.trod laidOut (by kernel_rfl) (of_decide_eq_true (by kernel_rfl)) k1 bel lt1) (trodAll_cons_mk (Below.trod laidOut (by kernel_rfl) (of_decide_eq_true (by kernel_rfl)) k2 bel lt2) trodAll_mk0))), rfl, bel.frame _, fun h => by cases h⟩

theorem smays_over : Rows.shardMaysRow.holds Tryz.pinned (OpenSpec.ofChange Rows.shardMaysSpec) :=
  OpenClaim.holds_of_wide 3 Tryz.f3 rfl rfl rfl rfl rfl rfl rfl ⟨rfl, rfl, rfl, rfl, rfl⟩ rfl rfl rfl rfl rfl (by kernel_rfl) Tryz.func3 (by kernel_rfl)
    (of_decide_eq_true (by kernel_rfl)) (by unfold Func.isWrapper; first | (rw [if_pos (by decide +kernel)]; kernel_rfl) | (rw [if_neg (by decide +kernel)]; exact ⟨rfl, rfl⟩))
    (fun os started H enc _ => smays_lifted os started H enc)

theorem smays_said : Rows.ShardMaysSaid := smays_over
end Go.Proofs.YtabackklpemhpaaGreat
