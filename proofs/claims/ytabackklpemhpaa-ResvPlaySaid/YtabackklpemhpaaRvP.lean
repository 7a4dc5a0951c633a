/-
  The law of layer 13: its example (live); two tables compared; plain facts on what is killed.
-/
import Derived.Test.YtabackklpemhpaaRvO
namespace Go.Proofs.Ytabackklpemhpaa
open Go.ChangeShapes Go.WideShapes Go.ChangeAt Go.RowKit

abbrev TT : TypeId := 37
theorem info_TT : (Try.prog.info? TT).map (·.size) = some 16 := by kernel_rfl
theorem TbAt.of_cs {w : World} {b : Nat} {t : TypeId} {T : Rv.Tb} (h : CsAt w b t (tC T).toArray) (hT : Rv.Ok T) : TbAt w b 0 T := by
  refine ⟨hT, fun i hi => ?_, fun i hi => ?_, fun j => h.frozen j⟩
  · rw [h.cell, List.getElem?_toArray, tC_at T (by omega), if_pos (by omega)]
    congr 3
    omega
  · rw [h.cell, List.getElem?_toArray, tC_at T (by omega), if_neg (by omega)]
    congr 3
    omega
theorem tb_new (w : World) (t : TypeId) : TbAt (w.alloc (.cells (tC Rv.none_).toArray t)) w.heap.size 0 Rv.none_ := TbAt.of_cs (CsAt.new w t _) Rv.none_ok
theorem tC_one (T : Rv.Tb) : (tC T).toArray.all (·.oneCell') = true := by simp [tC, Value.oneCell']
theorem zero_tab : (#[Value.int .u64 0, .bool false, .int .u64 0, .bool false, .int .u64 0, .bool false, .int .u64 0, .bool false, .int .u64 0, .bool false, .int .u64 0, .bool false, .int .u64 0, .bool false, .int .u64 0, .bool false] : Array Value) = (tC Rv.none_).toArray := rfl
set_option maxRecDepth 100000 in
theorem live_fact : Rv.cnt (Rv.set (Rv.set (Rv.set Rv.none_ 0 5) 1 5) 2 6) 5 1 8 = 1 ∧ Rv.lines (Rv.kill (Rv.set (Rv.set (Rv.set Rv.none_ 0 5) 1 5) 2 6) 5 1) = [5, 6] := by decide +kernel
set_option maxRecDepth 100000 in
set_option maxHeartbeats 2000000 in
theorem live13_c (w : World) : Calls Try.prog 12 #[] w fun e w' => e = .returned (.bool true) ∧ Below w.heap.size w w' := by
  have HT := Lib.hid (tb_new w TT)
  have HB := Lib.hid ((Below.refl w.heap.size w).alloc (Nat.le_refl _) (.cells (tC Rv.none_).toArray TT))
  go_enter Try.func12, Try.ntmps12
  go_upto_region 2 with fail
  rw [zero_tab]
  generalize w.alloc (.cells (tC Rv.none_).toArray TT) = w1 at *
  have HC := Lib.hid (rset_c w.heap.size 0 _ 0 5 w1 HT.out (by decide) (by decide))
  go_wp2_with fail
  refine HC.out.mono ?_
  rintro e w2 ⟨rfl, hT2, hM2⟩
  have HC2 := Lib.hid (rset_c w.heap.size 0 _ 1 5 w2 hT2 (by decide) (by decide))
  have HB2 := Lib.hid (HB.out.trans (hM2.below (Nat.le_refl _) HB.out.size))
  clear hT2 hM2 HC HT HB
  rw [show Rv.inH 0 = true from rfl]
  go_wp2_with fail
  refine HC2.out.mono ?_
  rintro e w3 ⟨rfl, hT3, hM3⟩
  have HC3 := Lib.hid (rset_c w.heap.size 0 _ 2 6 w3 hT3 (by decide) (by decide))
  have HB3 := Lib.hid (HB2.out.trans (hM3.below (Nat.le_refl _) HB2.out.size))
  clear hT3 hM3 HC2 HB2
  rw [show Rv.inH 1 = true from rfl]
  go_wp2_with fail
  refine HC3.out.mono ?_
  rintro e w4 ⟨rfl, hT4, hM4⟩
  have HC4 := Lib.hid (rkill_c w.heap.size 0 _ 5 1 w4 hT4)
  have HB4 := Lib.hid (HB3.out.trans (hM4.below (Nat.le_refl _) HB3.out.size))
  clear hT4 hM4 HC3 HB3
  rw [show Rv.inH 2 = true from rfl]
  go_wp2_with fail
  refine HC4.out.mono ?_
  rintro e w5 ⟨rfl, hT5, hM5⟩
  have HC5 := Lib.hid (rlines_c w.heap.size 0 _ w5 hT5)
  have HB5 := Lib.hid (HB4.out.trans (hM5.below (Nat.le_refl _) HB4.out.size))
  clear hT5 hM5 HC4 HB4
  rw [live_fact.1]
  rw [live_fact.2] at HC5
  go_wp2_with fail
  refine HC5.out.mono ?_
  rintro e w6 ⟨v, rfl, hown, hb6⟩
  have HB6 := Lib.hid (HB5.out.trans (hb6.mono HB5.out.size))
  obtain ⟨g, cap, rfl, -, -, -⟩ := own_pos hown (by decide)
  have c0 := hown.cellAt 0 (by decide)
  have c1 := hown.cellAt 1 (by decide)
  rw [show (U.uV [5, 6])[0]? = some (.int .u64 5) from rfl] at c0
  rw [show (U.uV [5, 6])[1]? = some (.int .u64 6) from rfl] at c1
  clear hb6 hown HC5 HB5
  rw [show ([5, 6] : List Int).length = 2 from rfl]
  go_wp2_with fail
  go_ret
  exact ⟨rfl, HB6.out⟩
/-! ### two tables compared -/
theorem run_equalIn_arr {P : Program} (w : World) (d : Nat) (t e : TypeId) (n sz : Nat) (ht : P.underlying t = some (.array n e)) (hsz : ∀ w, (sizeOf e).run P w = .ok sz w) (xs ys : Array Value) (f : Nat → Bool)
    (hf : ∀ i, i < n → ∃ a b, (part e xs (i * sz)).run P w = .ok a w ∧ (part e ys (i * sz)).run P w = .ok b w ∧ (Op.equalIn (d + 1) e a b).run P w = .ok (f i) w) :
    (Op.equalIn (d + 2) t (.agg xs) (.agg ys)).run P w = .ok ((List.range n).all f) w := by
  rw [List.range_eq_range', Op.equalIn]
  simp only [Sem.run_bind, run_underlying ht, Result.andThen_ok, hsz, Std.Legacy.Range.forIn_eq_forIn_range', Std.Legacy.Range.size, Nat.sub_zero, Nat.add_sub_cancel, Nat.div_one]
  have hl : ∀ i ∈ List.range' 0 n 1, i < n := fun i hi => by simpa using (List.mem_range'_1.1 hi).2
  generalize List.range' 0 n 1 = l at hl ⊢
  induction l with
  | nil => simp
  | cons i l ih =>
    obtain ⟨a, b, px, py, pe⟩ := hf i (hl i (by simp))
    simp only [List.forIn_cons, Sem.run_bind, px, py, pe, Result.andThen_ok, List.all_cons]
    cases hb : f i
    · simp
    · simp only [Bool.not_true, Bool.false_eq_true, if_false, Sem.run_pure, Result.andThen_ok, Bool.true_and]
      exact ih fun j hj => hl j (by simp [hj])
theorem run_equalIn_field {P : Program} (w : World) (d : Nat) (t u : TypeId) (f : Field) (hf : (P.fieldsOf t).toList = [f]) (ht : P.underlying t = some (.struct (P.fieldsOf t))) (hp : P.stoodInHeld t = false) (hn : (f.name != "_") = true) (ho : f.offset = 0) (hu : f.type = u)
    (xs ys : Array Value) (px : (part u xs 0).run P w = .ok (.agg xs) w) (py : (part u ys 0).run P w = .ok (.agg ys) w) (r : Bool) (hr : (Op.equalIn d u (.agg xs) (.agg ys)).run P w = .ok r w) :
    (Op.equalIn (d + 1) t (.agg xs) (.agg ys)).run P w = .ok r w := by
  rw [run_equalIn_agg w d t _ _ ht hp, hf]
  have hn' : f.name ≠ "_" := by simpa using hn
  simp only [Op.eqFields, if_pos hn', Sem.run_bind, ho, hu, px, py, Result.andThen_ok, hr]
  cases r <;> simp
theorem run_part_row {P : Program} (w : World) (e : TypeId) (sz : Nat) (cs : Array Value) (o : Nat) (d : TypeDesc) (he : P.underlying e = some d) (hd : d.isRow = true) (hz : (sizeOf e).run P w = .ok sz w) : (part e cs o).run P w = .ok (.agg (cs.extract o (o + sz))) w := by
  cases d <;> simp_all [part, isAgg, run_underlying he]
theorem part_slot (T : Rv.Tb) {i : Nat} (hi : i < 8) (w : World) : (part ST (tC T).toArray (i * 2)).run Try.prog w = .ok (.agg #[.int .u64 (Rv.ln T i), .bool (Rv.is T i)]) w := by
  rw [run_part_row w ST 2 _ _ _ Try.underlying34 rfl (size_slot w), tC_cut T hi]
theorem size_arr8 (w : World) : (sizeOf AT).run Try.prog w = .ok 16 w := by kernel_rfl
theorem part_arr (T : Rv.Tb) (w : World) : (part AT (tC T).toArray 0).run Try.prog w = .ok (.agg (tC T).toArray) w := by
  rw [run_part_row w AT 16 _ _ _ Try.underlying35 rfl (size_arr8 w)]
  rfl
namespace Rv
/-- Are two tables the same? -/
def same (T T2 : Tb) : Bool := (List.range 8).all fun i => ln T i == ln T2 i && is T i == is T2 i
theorem same_self (T : Tb) : same T T = true := by
  unfold same
  rw [List.all_eq_true]
  intro i _
  simp
theorem same_iff {T T2 : Tb} (h : Ok T) (h2 : Ok T2) : same T T2 = true ↔ T = T2 := by
  constructor
  · intro hc
    unfold same at hc
    rw [List.all_eq_true] at hc
    funext i
    by_cases hi : i < 8
    · have := hc i (by simpa using hi)
      simp only [Bool.and_eq_true, beq_iff_eq] at this
      obtain ⟨h3, h4⟩ := this
      unfold ln at h3
      unfold is at h4
      cases h5 : T i <;> cases h6 : T2 i <;> simp_all
    · rw [h.out i (by omega), h2.out i (by omega)]
  · rintro rfl
    exact same_self _
theorem kill_same {T : Tb} {l but : Int} (k : Nat) (hk : ∀ i : Nat, 8 ≤ i → T i = none) (h8 : k = 8) : (cnt T l but k = 0) ↔ kill T l but = T := by
  subst h8
  have key : ∀ k, cnt T l but k = 0 ↔ ∀ i : Nat, i < k → ¬ (T i = some l ∧ (i : Int) ≠ but) := by
    intro k
    induction k with
    | zero => simp [cnt]
    | succ k ih =>
      unfold cnt
      constructor
      · intro h i hi
        by_cases e : i = k
        · subst e
          intro hc
          rw [if_pos hc] at h
          omega
        · exact ih.1 (by omega) i (by omega)
      · intro h
        rw [if_neg (h k (by omega)), ih.2 (fun i hi => h i (by omega))]
  rw [key]
  constructor
  · intro h
    funext i
    unfold kill
    split
    · rename_i hc
      by_cases hi : i < 8
      · exact absurd hc (h i hi)
      · rw [hk i (by omega)]
    · rfl
  · intro h i _ hc
    have := congrFun h i
    unfold kill at this
    rw [if_pos hc, hc.1] at this
    cases this
theorem kill_kill (T : Tb) (l but : Int) : kill (kill T l but) l but = kill T l but := by
  funext i
  unfold kill
  by_cases h : T i = some l ∧ (i : Int) ≠ but
  · simp [h]
  · simp only [if_neg h]
theorem kill_none {T : Tb} (hT : Ok T) (l but : Int) : cnt (kill T l but) l but 8 = 0 := (kill_same 8 (kill_ok hT l but).out rfl).2 (kill_kill T l but)
theorem kill_eq {T : Tb} (hT : Ok T) (l but : Int) : (((cnt T l but 8 : Nat) : Int) == 0) = same (kill T l but) T := by
  have h := kill_same (T := T) (l := l) (but := but) 8 hT.out rfl
  have h2 := same_iff (kill_ok hT l but) hT
  by_cases e : cnt T l but 8 = 0
  · rw [h2.2 (h.1 e), e]; rfl
  · have h3 : same (kill T l but) T = false := Bool.eq_false_iff.2 fun c => e (h.2 (h2.1 c))
    rw [h3]
    simp [e]
end Rv
set_option maxRecDepth 100000 in
theorem run_eql_tab (w : World) (T T2 : Rv.Tb) : (binOp .eql TT (.agg (tC T).toArray) (.agg (tC T2).toArray)).run Try.prog w = .ok (.bool (Rv.same T T2)) w := by
  have e := run_equalIn_arr w 9997 AT ST 8 2 Try.underlying35 size_slot (tC T).toArray (tC T2).toArray (fun i => Rv.ln T i == Rv.ln T2 i && Rv.is T i == Rv.is T2 i) (fun i hi => ⟨_, _, part_slot T hi w, part_slot T2 hi w, run_eqs _ _ _ _ w⟩)
  rw [run_eql_struct, run_equalIn_field w 9999 TT AT _ rfl (by kernel_rfl) (by kernel_rfl) (by decide +kernel) rfl rfl _ _ (part_arr T w) (part_arr T2 w) _ e]
  rfl
end Go.Proofs.Ytabackklpemhpaa
