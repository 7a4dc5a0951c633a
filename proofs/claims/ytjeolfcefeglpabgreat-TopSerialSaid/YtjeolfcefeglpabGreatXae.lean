/-
  Contracts of the reference of layer 11: May, Byte, Stripe, Cut. Contract of the reference of layer 11: Pieces, byte by byte. What layer 11's statements ask of the chapter's examples (live): true.
-/
import Derived.Test.YtjeolfcefeglpabGreatXad
import Derived.Laws.StructEq
set_option maxRecDepth 20000
namespace Go.Proofs.YtjeolfcefeglpabGreat
open Go.ChangeShapes Go.WideShapes Go.ChangeAt Go.RowKit Wd

theorem rbyte_c (a b c n i : Int) (w : World) (hi0 : 0 ≤ i) (hi : i ≤ 8) (hc : c ≤ 8) :
    Calls Tryz.prog 82 #[.agg (axV a b c n), .int .i64 i] w fun e w' => e = .returned (.int .u64 (Sp.byte a b c i)) ∧ Below w.heap.size w w' := by
  have HB := Lib.hid ((Below.refl w.heap.size w).alloc (Nat.le_refl _) (.cells (axV a b c n) 161))
  have HC := CsAt.new w 161 (axV a b c n)
  have c0 := HC.cell 0
  have c1 := HC.cell 1
  have c2 := HC.cell 2
  clear HC
  by_cases h1 : 0 < c
  · have g1 : decide (0 < c) = true := by simpa using h1
    by_cases h2 : c ≤ i
    · have g2 : decide (c ≤ i) = true := by simpa using h2
      have H := Lib.hid (show (b + (i - c)) % 18446744073709551616 = Sp.byte a b c i by unfold Sp.byte; rw [if_pos ⟨h1, h2⟩])
      have e1 : IntKind.u64.wrap (i - c) = i - c := by rw [IntKind.wrap_u64]; omega
      have e2 : IntKind.u64.wrap (b + (i - c)) = (b + (i - c)) % 18446744073709551616 := by rw [IntKind.wrap_u64]
      go_enter Tryz.func82, Tryz.ntmps82
      go_upto_region 1 with (fail)
      generalize w.alloc (.cells (axV a b c n) 161) = w1 at *
      go_wp2_with fail
      go_ret
      exact ⟨sret_u H.out, HB.out⟩
    · have g2 : decide (c ≤ i) = false := by simpa using h2
      have H := Lib.hid (show (a + i) % 18446744073709551616 = Sp.byte a b c i by unfold Sp.byte; rw [if_neg (by omega)])
      have e1 : IntKind.u64.wrap i = i := by rw [IntKind.wrap_u64]; omega
      have e2 : IntKind.u64.wrap (a + i) = (a + i) % 18446744073709551616 := by rw [IntKind.wrap_u64]
      go_enter Tryz.func82, Tryz.ntmps82
      go_upto_region 1 with (fail)
      generalize w.alloc (.cells (axV a b c n) 161) = w1 at *
      go_wp2_with fail
      go_ret
      exact ⟨sret_u H.out, HB.out⟩
  · have g1 : decide (0 < c) = false := by simpa using h1
    have H := Lib.hid (show (a + i) % 18446744073709551616 = Sp.byte a b c i by unfold Sp.byte; rw [if_neg (by omega)])
    have e1 : IntKind.u64.wrap i = i := by rw [IntKind.wrap_u64]; omega
    have e2 : IntKind.u64.wrap (a + i) = (a + i) % 18446744073709551616 := by rw [IntKind.wrap_u64]
    go_enter Tryz.func82, Tryz.ntmps82
    go_upto_region 1 with (fail)
    generalize w.alloc (.cells (axV a b c n) 161) = w1 at *
    go_wp2_with fail
    go_ret
    exact ⟨sret_u H.out, HB.out⟩
end Go.Proofs.YtjeolfcefeglpabGreat
set_option maxRecDepth 20000
namespace Go.Proofs.YtjeolfcefeglpabGreat
open Go.ChangeShapes Go.WideShapes Go.ChangeAt Go.RowKit Wd

end Go.Proofs.YtjeolfcefeglpabGreat
set_option maxRecDepth 20000
namespace Go.Proofs.YtjeolfcefeglpabGreat
open Go.ChangeShapes Go.WideShapes Go.ChangeAt Go.RowKit Wd

theorem run_eq3 (w : World) (t : TypeId) (f1 f2 f3 : Field) (ku ki kj : IntKind) (hf : (Tryz.prog.fieldsOf t).toList = [f1, f2, f3]) (ht : Tryz.prog.underlying t = some (.struct (Tryz.prog.fieldsOf t))) (hp : Tryz.prog.stoodInHeld t = false)
    (h1 : f1.name ≠ "_" ∧ f1.offset = 0 ∧ Tryz.prog.underlying f1.type = some (.int ku)) (h2 : f2.name ≠ "_" ∧ f2.offset = 1 ∧ Tryz.prog.underlying f2.type = some (.int ki)) (h3 : f3.name ≠ "_" ∧ f3.offset = 2 ∧ Tryz.prog.underlying f3.type = some (.int kj))
    (a b c a' b' c' : Int) :
    (Op.equalIn 10000 t (.agg #[.int ku a, .int ki b, .int kj c]) (.agg #[.int ku a', .int ki b', .int kj c'])).run Tryz.prog w = .ok (a == a' && (b == b' && c == c')) w := by
  obtain ⟨n1, o1, u1⟩ := h1
  obtain ⟨n2, o2, u2⟩ := h2
  obtain ⟨n3, o3, u3⟩ := h3
  rw [run_equalIn_agg w 9999 t _ _ ht hp, hf]
  have q1 : (Op.equalIn 9999 f1.type (.int ku a) (.int ku a')).run Tryz.prog w = .ok (a == a') w := run_equalIn_int w 9998 f1.type ku ku a a' u1
  have q2 : (Op.equalIn 9999 f2.type (.int ki b) (.int ki b')).run Tryz.prog w = .ok (b == b') w := run_equalIn_int w 9998 f2.type ki ki b b' u2
  have q3 : (Op.equalIn 9999 f3.type (.int kj c) (.int kj c')).run Tryz.prog w = .ok (c == c') w := run_equalIn_int w 9998 f3.type kj kj c c' u3
  have p1 : ∀ (x y z : Value), (part f1.type #[x, y, z] 0).run Tryz.prog w = .ok x w := fun x y z => by simp [part, isAgg, run_underlying u1]
  have p2 : ∀ (x y z : Value), (part f2.type #[x, y, z] 1).run Tryz.prog w = .ok y w := fun x y z => by simp [part, isAgg, run_underlying u2]
  have p3 : ∀ (x y z : Value), (part f3.type #[x, y, z] 2).run Tryz.prog w = .ok z w := fun x y z => by simp [part, isAgg, run_underlying u3]
  simp only [Op.eqFields, if_pos n1, if_pos n2, if_pos n3, Sem.run_bind, o1, o2, o3, p1, Result.andThen_ok, q1]
  cases (a == a') <;> cases hb : (b == b') <;> cases hc : (c == c') <;> simp [p2, p3, q2, q3, hb, hc]
theorem eq_pc (w : World) (a b c a' b' c' : Int) : (binOp .eql 142 (.agg #[.int .u64 a, .int .i64 b, .int .i64 c]) (.agg #[.int .u64 a', .int .i64 b', .int .i64 c'])).run Tryz.prog w = .ok (.bool (a == a' && (b == b' && c == c'))) w := by
  rw [run_eql_struct, run_eq3 w 142 _ _ _ .u64 .i64 .i64 rfl Tryz.underlying142 (by kernel_rfl) ⟨by decide, rfl, by kernel_rfl⟩ ⟨by decide, rfl, by kernel_rfl⟩ ⟨by decide, rfl, by kernel_rfl⟩]
  rfl
theorem wpList_load_midW {P : Program} {ops : Array Oper} {rest : List Oper} {op : Oper} {a : Act} {w : World} {Q : Exit → Act → World → Prop} (hw : Region.wanted op (yielded ops a.tmps) = true) (ty : TypeId) (x : Operand) (ho : op.op = .load ty x)
    (b o : Nat) (hx : a.eval x = .pointer (some ⟨b, o, none⟩)) (cs : List Value) (d : TypeDesc) (hc : w.rangeAt b o cs)
    (hu : P.underlying ty = some d) (hd : d.isRow = true) (hi : (P.info? ty).map (·.size) = some cs.length)
    (h : wpList P ops Q rest (a.put op.dst (.agg cs.toArray)) w) : wpList P ops Q (op :: rest) a w :=
  wpList_step fun _ hK => by
    rw [if_pos hw]
    exact wp_load_mid ty x ho b o hx cs d hc hu hd hi (hK _ _ h)
/-- A piece among others, in its cells. -/
theorem range_pc {w : World} {base : Nat} {e : TypeId} {g cap : Nat} {l : List Sp.P} (h : w.ownsRow base e 3 (.slice (some ⟨g, 0, none⟩) l.length cap) l.length (Sp.cellsOf l)) (i : Nat) (hi : i < l.length) : w.rangeAt g (i * 3) (l.getD i Sp.p0).cells := by
  intro j v hj
  have hj3 : j < 3 := (List.getElem?_eq_some_iff.1 hj).1
  rw [h.cellAt _ (by omega), Sp.cellsOf_at l i j hi hj3, hj]
theorem guard_pc : Tryz.prog.eqGuardType Tryz.prog.depth 142 = false := by kernel_rfl
theorem pieces_live : Sp.pieces 62 0 0 4 = [⟨62, 2, 0⟩, ⟨64, 2, 16⟩] := by
  unfold Sp.pieces Sp.run
  rw [if_pos (by decide), if_pos rfl, if_pos (by decide)]
  rfl
theorem cut_live : Sp.cut 4094 4 = 2 := by decide
end Go.Proofs.YtjeolfcefeglpabGreat
