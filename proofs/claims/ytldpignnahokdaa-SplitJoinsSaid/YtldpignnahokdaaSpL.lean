/-
  What layer 11's statements ask of the chapter's examples (live): true.
-/
import Derived.Test.YtldpignnahokdaaSpE
import Derived.Laws.StructEq
namespace Go.Proofs.Ytldpignnahokdaa
open Go.ChangeShapes Go.WideShapes Go.ChangeAt Go.RowKit Wd

theorem run_eq3 (w : World) (t : TypeId) (f1 f2 f3 : Field) (ku ki kj : IntKind) (hf : (Try.prog.fieldsOf t).toList = [f1, f2, f3]) (ht : Try.prog.underlying t = some (.struct (Try.prog.fieldsOf t))) (hp : Try.prog.stoodInHeld t = false)
    (h1 : f1.name ≠ "_" ∧ f1.offset = 0 ∧ Try.prog.underlying f1.type = some (.int ku)) (h2 : f2.name ≠ "_" ∧ f2.offset = 1 ∧ Try.prog.underlying f2.type = some (.int ki)) (h3 : f3.name ≠ "_" ∧ f3.offset = 2 ∧ Try.prog.underlying f3.type = some (.int kj))
    (a b c a' b' c' : Int) :
    (Op.equalIn 10000 t (.agg #[.int ku a, .int ki b, .int kj c]) (.agg #[.int ku a', .int ki b', .int kj c'])).run Try.prog w = .ok (a == a' && (b == b' && c == c')) w := by
  obtain ⟨n1, o1, u1⟩ := h1
  obtain ⟨n2, o2, u2⟩ := h2
  obtain ⟨n3, o3, u3⟩ := h3
  rw [run_equalIn_agg w 9999 t _ _ ht hp, hf]
  have q1 : (Op.equalIn 9999 f1.type (.int ku a) (.int ku a')).run Try.prog w = .ok (a == a') w := run_equalIn_int w 9998 f1.type ku ku a a' u1
  have q2 : (Op.equalIn 9999 f2.type (.int ki b) (.int ki b')).run Try.prog w = .ok (b == b') w := run_equalIn_int w 9998 f2.type ki ki b b' u2
  have q3 : (Op.equalIn 9999 f3.type (.int kj c) (.int kj c')).run Try.prog w = .ok (c == c') w := run_equalIn_int w 9998 f3.type kj kj c c' u3
  have p1 : ∀ (x y z : Value), (part f1.type #[x, y, z] 0).run Try.prog w = .ok x w := fun x y z => by simp [part, isAgg, run_underlying u1]
  have p2 : ∀ (x y z : Value), (part f2.type #[x, y, z] 1).run Try.prog w = .ok y w := fun x y z => by simp [part, isAgg, run_underlying u2]
  have p3 : ∀ (x y z : Value), (part f3.type #[x, y, z] 2).run Try.prog w = .ok z w := fun x y z => by simp [part, isAgg, run_underlying u3]
  simp only [Op.eqFields, if_pos n1, if_pos n2, if_pos n3, Sem.run_bind, o1, o2, o3, p1, Result.andThen_ok, q1]
  cases (a == a') <;> cases hb : (b == b') <;> cases hc : (c == c') <;> simp [p2, p3, q2, q3, hb, hc]
theorem eq_pc (w : World) (a b c a' b' c' : Int) : (binOp .eql 39 (.agg #[.int .u64 a, .int .i64 b, .int .i64 c]) (.agg #[.int .u64 a', .int .i64 b', .int .i64 c'])).run Try.prog w = .ok (.bool (a == a' && (b == b' && c == c'))) w := by
  rw [run_eql_struct, run_eq3 w 39 _ _ _ .u64 .i64 .i64 rfl Try.underlying39 (by kernel_rfl) ⟨by decide, rfl, by kernel_rfl⟩ ⟨by decide, rfl, by kernel_rfl⟩ ⟨by decide, rfl, by kernel_rfl⟩]
  rfl
theorem wpList_load_midW {P : Program} {ops : Array Oper} {rest : List Oper} {op : Oper} {a : Act} {w : World} {Q : Exit → Act → World → Prop} (hw : Region.wanted op (yielded ops a.tmps) = true) (ty : TypeId) (x : Operand) (ho : op.op = .load ty x)
    (b o : Nat) (hx : a.eval x = .pointer (some ⟨b, o, none⟩)) (cs : List Value) (d : TypeDesc) (hc : w.rangeAt b o cs)
    (hu : P.underlying ty = some d) (hd : d.isRow = true) (hi : (P.info? ty).map (·.size) = some cs.length)
    (h : wpList P ops Q rest (a.put op.dst (.agg cs.toArray)) w) : wpList P ops Q (op :: rest) a w :=
  wpList_step fun _ hK => by
    rw [if_pos hw]
    exact wp_load_mid ty x ho b o hx cs d hc hu hd hi (hK _ _ h)
/-- A piece among others, in its cells. -/
theorem range_pc {w : World} {base : Nat} {e : TypeId} {g cap : Nat} {l : List Sp.P} (h : w.ownsRow base e 3 (.slice (some ⟨g, 0, none⟩) l.length cap) l.length (Sp.cellsOf l)) (i : Nat) (hi : i < l.length) : w.rangeAt g (i * 3) (l.getD i Sp.p0).cells := by
  intro j v hj
  have hj3 : j < 3 := (List.getElem?_eq_some_iff.1 hj).1
  rw [h.cellAt _ (by omega), Sp.cellsOf_at l i j hi hj3, hj]
theorem guard_pc : Try.prog.eqGuardType Try.prog.depth 39 = false := by kernel_rfl
theorem pieces_live : Sp.pieces 62 0 0 4 = [⟨62, 2, 0⟩, ⟨64, 2, 16⟩] := by
  unfold Sp.pieces Sp.run
  rw [if_pos (by decide), if_pos rfl, if_pos (by decide)]
  rfl
theorem cut_live : Sp.cut 4094 4 = 2 := by decide
set_option maxHeartbeats 1000000 in
theorem live11_c (w : World) : Calls Try.prog 14 #[] w fun e w' => e = .returned (.bool true) ∧ Below w.heap.size w w' := by
  go_enter Try.func14, Try.ntmps14
  go_wp2_with fail
  refine (pieces_c 62 0 0 4 _ (by omega) (by omega)).mono ?_
  rintro e w1 ⟨v, rfl, hown, hb⟩
  have HB := Lib.hid hb
  rw [pieces_live] at hown
  obtain ⟨g, cap, rfl, -, -, -⟩ := own_pos hown (by decide)
  have hown : w1.ownsRow w.heap.size 39 3 (.slice (some ⟨g, 0, none⟩) [(⟨62, 2, 0⟩ : Sp.P), ⟨64, 2, 16⟩].length cap) [(⟨62, 2, 0⟩ : Sp.P), ⟨64, 2, 16⟩].length (Sp.cellsOf [⟨62, 2, 0⟩, ⟨64, 2, 16⟩]) := hown
  have HR0 := Lib.hid (range_pc hown 0 (by decide))
  have HR1 := Lib.hid (range_pc hown 1 (by decide))
  rw [show [(⟨62, 2, 0⟩ : Sp.P), ⟨64, 2, 16⟩].length = 2 from rfl]
  clear hb hown
  go_wp2_with (first
    | (refine wpList_load_midW (by rfl) 39 _ rfl g 0 rfl _ _ HR0.out Try.underlying39 rfl (by kernel_rfl) ?_)
    | (refine wpList_load_midW (by rfl) 39 _ rfl g (1 * 3) rfl _ _ HR1.out Try.underlying39 rfl (by kernel_rfl) ?_)
    | (refine wpList_cmpW (by rfl) .eql 39 _ _ _ rfl _ _ rfl rfl guard_pc _ (eq_pc _ _ _ _ _ _ _) ?_))
  refine (scut_c _ _ _ (by omega) (by omega)).mono ?_
  rintro e w2 ⟨rfl, rfl⟩
  rw [cut_live]
  go_wp2_with fail
  go_ret
  exact ⟨rfl, HB.out⟩
end Go.Proofs.Ytldpignnahokdaa
