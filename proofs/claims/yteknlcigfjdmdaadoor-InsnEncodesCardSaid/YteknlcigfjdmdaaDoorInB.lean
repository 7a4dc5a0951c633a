/-
  The contract of insn.FormatOf: an op's format's number.
-/
import Derived.Test.YteknlcigfjdmdaaDoorInA
namespace Go.Proofs.YteknlcigfjdmdaaDoor
open Go.ChangeShapes Go.WideShapes Go.ChangeAt Go.RowKit Wd

theorem flatN {α β : Type} (f : α → List β) (n : Nat) (hf : ∀ x, (f x).length = n) (l : List α) (k j : Nat) (hj : j < n) (a : α) (ha : l[k]? = some a) : (l.flatMap f)[k * n + j]? = (f a)[j]? := by
  induction l generalizing k with
  | nil => simp at ha
  | cons x xs ih =>
    cases k with
    | zero =>
      simp at ha
      subst ha
      rw [List.flatMap_cons, List.getElem?_append_left (by rw [hf]; omega)]
      simp
    | succ k =>
      have e : (k + 1) * n = k * n + n := Nat.succ_mul k n
      rw [List.flatMap_cons, List.getElem?_append_right (by rw [hf]; omega), hf]
      rw [show (k + 1) * n + j - n = k * n + j by omega]
      exact ih k (by simpa using ha)
theorem spans_new (W : World) (t : TypeId) (L : List (Int × Int)) : SpansAt (W.alloc (.cells (L.flatMap fun s => [Value.int .i64 s.1, Value.int .i64 s.2]).toArray t)) W.heap.size L := by
  intro k s hk
  have c : ∀ j, j < 2 → (W.alloc (.cells (L.flatMap fun s => [Value.int .i64 s.1, Value.int .i64 s.2]).toArray t)).cell? ⟨W.heap.size, k * 2 + j, none⟩ = [Value.int .i64 s.1, Value.int .i64 s.2][j]? := by
    intro j hj
    rw [cell_of_row _ W.heap.size (k * 2 + j) (L.flatMap fun s => [Value.int .i64 s.1, Value.int .i64 s.2]).toArray t (0, 0) (heap_alloc_new W _)]
    rw [List.getElem?_toArray]
    exact flatN _ 2 (fun x => rfl) L k j hj s hk
  exact ⟨c 0 (by omega), c 1 (by omega)⟩
def fmtN (op : Int) : Nat := (findRow op).2.1
def fmtI (op : Int) : Int := if anyS op [(31, 40), (45, 49), (54, 66)] then 1 else if anyS op [(4, 4), (11, 17), (22, 27), (41, 41), (50, 51)] then 2 else if anyS op [(18, 21)] then 3 else if anyS op [(5, 10)] then 4 else if anyS op [(1, 2)] then 5 else if anyS op [(3, 3)] then 6 else if anyS op [(28, 30)] then 7 else if anyS op [(42, 44)] then 8 else if anyS op [(89, 91)] then 9 else if anyS op [(92, 94)] then 10 else if anyS op [(68, 77), (79, 88)] then 11 else if anyS op [(67, 67), (78, 78)] then 12 else if anyS op [(52, 53), (95, 97)] then 13 else if anyS op [(98, 98)] then 14 else 0
theorem fmt_tab (op : Int) : ((fmtN op : Nat) : Int) = fmtI op := by
  by_cases h : 1 ≤ op ∧ op ≤ 98
  · have l : ∀ k : Fin 99, 1 ≤ k.val → ((fmtN (k.val : Nat) : Nat) : Int) = fmtI (k.val : Nat) := by decide +kernel
    have := l ⟨op.toNat, by omega⟩ (by simp only; omega)
    simp only at this
    rw [show ((op.toNat : Nat) : Int) = op by omega] at this
    exact this
  · unfold fmtN findRow fmtI
    rw [if_neg h]
    have n : ∀ L : List (Int × Int), (∀ s ∈ L, 1 ≤ s.1 ∧ s.2 ≤ 98) → anyS op L = false := fun L hL => by
      unfold anyS
      rw [List.any_eq_false]
      intro s hs
      have := hL s hs
      rw [btw_no (by omega)]
      exact Bool.false_ne_true
    rw [n [(31, 40), (45, 49), (54, 66)] (by decide), n [(4, 4), (11, 17), (22, 27), (41, 41), (50, 51)] (by decide), n [(18, 21)] (by decide), n [(5, 10)] (by decide), n [(1, 2)] (by decide), n [(3, 3)] (by decide), n [(28, 30)] (by decide), n [(42, 44)] (by decide), n [(89, 91)] (by decide), n [(92, 94)] (by decide), n [(68, 77), (79, 88)] (by decide), n [(67, 67), (78, 78)] (by decide), n [(52, 53), (95, 97)] (by decide), n [(98, 98)] (by decide)]
    rfl
theorem fmtN_lt (op : Int) : fmtN op < 15 := by
  unfold fmtN findRow
  split
  · rename_i h
    have l : ∀ k : Fin 98, (rowAt k.val).2.1 < 15 := by decide +kernel
    exact l ⟨op.toNat - 1, by omega⟩
  · decide
set_option maxHeartbeats 4000000 in
set_option maxRecDepth 100000 in
theorem formatOf_c (op : Int) (w : World) : Calls Tryd.prog 22 #[.int .i64 op] w fun e w' => e = .returned (.int .i64 (fmtN op : Nat)) ∧ Below w.heap.size w w' := by
  rw [fmt_tab]
  generalize hc : fmtI op = c
  have HC := Lib.hid hc
  have HB := Lib.hid (Below.refl w.heap.size w)
  clear hc
  go_enter Tryd.func22, Tryd.ntmps22
  go_wp2_with fail
  refine (among_c op [(31, 40), (45, 49), (54, 66)] _ _ (by simp) (by decide) (spans_new _ _ [(31, 40), (45, 49), (54, 66)])).mono ?_
  rintro e w1 ⟨rfl, hb⟩
  have HB := Lib.hid (HB.out.trans ((((Below.refl _ _).alloc (Nat.le_refl _) _).trans (hb.mono (by simp))).mono HB.out.size))
  clear hb
  rcases Bool.eq_false_or_eq_true (anyS op [(31, 40), (45, 49), (54, 66)]) with h1 | h1
  · have HX := Lib.hid (show (1 : Int) = fmtI op by unfold fmtI; simp only [h1, if_true])
    rw [h1]
    go_wp2_with fail
    go_ret
    exact ⟨ret_u (by rw [← HC.out]; exact HX.out), HB.out⟩
  rw [h1]
  go_wp2_with fail
  refine (among_c op [(4, 4), (11, 17), (22, 27), (41, 41), (50, 51)] _ _ (by simp) (by decide) (spans_new _ _ [(4, 4), (11, 17), (22, 27), (41, 41), (50, 51)])).mono ?_
  rintro e w2 ⟨rfl, hb⟩
  have HB := Lib.hid (HB.out.trans ((((Below.refl _ _).alloc (Nat.le_refl _) _).trans (hb.mono (by simp))).mono HB.out.size))
  clear hb
  rcases Bool.eq_false_or_eq_true (anyS op [(4, 4), (11, 17), (22, 27), (41, 41), (50, 51)]) with h2 | h2
  · have HX := Lib.hid (show (2 : Int) = fmtI op by unfold fmtI; simp only [h1, h2, if_true, if_false, Bool.false_eq_true])
    rw [h2]
    go_wp2_with fail
    go_ret
    exact ⟨ret_u (by rw [← HC.out]; exact HX.out), HB.out⟩
  rw [h2]
  go_wp2_with fail
  refine (among_c op [(18, 21)] _ _ (by simp) (by decide) (spans_new _ _ [(18, 21)])).mono ?_
  rintro e w3 ⟨rfl, hb⟩
  have HB := Lib.hid (HB.out.trans ((((Below.refl _ _).alloc (Nat.le_refl _) _).trans (hb.mono (by simp))).mono HB.out.size))
  clear hb
  rcases Bool.eq_false_or_eq_true (anyS op [(18, 21)]) with h3 | h3
  · have HX := Lib.hid (show (3 : Int) = fmtI op by unfold fmtI; simp only [h1, h2, h3, if_true, if_false, Bool.false_eq_true])
    rw [h3]
    go_wp2_with fail
    go_ret
    exact ⟨ret_u (by rw [← HC.out]; exact HX.out), HB.out⟩
  rw [h3]
  go_wp2_with fail
  refine (among_c op [(5, 10)] _ _ (by simp) (by decide) (spans_new _ _ [(5, 10)])).mono ?_
  rintro e w4 ⟨rfl, hb⟩
  have HB := Lib.hid (HB.out.trans ((((Below.refl _ _).alloc (Nat.le_refl _) _).trans (hb.mono (by simp))).mono HB.out.size))
  clear hb
  rcases Bool.eq_false_or_eq_true (anyS op [(5, 10)]) with h4 | h4
  · have HX := Lib.hid (show (4 : Int) = fmtI op by unfold fmtI; simp only [h1, h2, h3, h4, if_true, if_false, Bool.false_eq_true])
    rw [h4]
    go_wp2_with fail
    go_ret
    exact ⟨ret_u (by rw [← HC.out]; exact HX.out), HB.out⟩
  rw [h4]
  go_wp2_with fail
  refine (among_c op [(1, 2)] _ _ (by simp) (by decide) (spans_new _ _ [(1, 2)])).mono ?_
  rintro e w5 ⟨rfl, hb⟩
  have HB := Lib.hid (HB.out.trans ((((Below.refl _ _).alloc (Nat.le_refl _) _).trans (hb.mono (by simp))).mono HB.out.size))
  clear hb
  rcases Bool.eq_false_or_eq_true (anyS op [(1, 2)]) with h5 | h5
  · have HX := Lib.hid (show (5 : Int) = fmtI op by unfold fmtI; simp only [h1, h2, h3, h4, h5, if_true, if_false, Bool.false_eq_true])
    rw [h5]
    go_wp2_with fail
    go_ret
    exact ⟨ret_u (by rw [← HC.out]; exact HX.out), HB.out⟩
  rw [h5]
  go_wp2_with fail
  refine (among_c op [(3, 3)] _ _ (by simp) (by decide) (spans_new _ _ [(3, 3)])).mono ?_
  rintro e w6 ⟨rfl, hb⟩
  have HB := Lib.hid (HB.out.trans ((((Below.refl _ _).alloc (Nat.le_refl _) _).trans (hb.mono (by simp))).mono HB.out.size))
  clear hb
  rcases Bool.eq_false_or_eq_true (anyS op [(3, 3)]) with h6 | h6
  · have HX := Lib.hid (show (6 : Int) = fmtI op by unfold fmtI; simp only [h1, h2, h3, h4, h5, h6, if_true, if_false, Bool.false_eq_true])
    rw [h6]
    go_wp2_with fail
    go_ret
    exact ⟨ret_u (by rw [← HC.out]; exact HX.out), HB.out⟩
  rw [h6]
  go_wp2_with fail
  refine (among_c op [(28, 30)] _ _ (by simp) (by decide) (spans_new _ _ [(28, 30)])).mono ?_
  rintro e w7 ⟨rfl, hb⟩
  have HB := Lib.hid (HB.out.trans ((((Below.refl _ _).alloc (Nat.le_refl _) _).trans (hb.mono (by simp))).mono HB.out.size))
  clear hb
  rcases Bool.eq_false_or_eq_true (anyS op [(28, 30)]) with h7 | h7
  · have HX := Lib.hid (show (7 : Int) = fmtI op by unfold fmtI; simp only [h1, h2, h3, h4, h5, h6, h7, if_true, if_false, Bool.false_eq_true])
    rw [h7]
    go_wp2_with fail
    go_ret
    exact ⟨ret_u (by rw [← HC.out]; exact HX.out), HB.out⟩
  rw [h7]
  go_wp2_with fail
  refine (among_c op [(42, 44)] _ _ (by simp) (by decide) (spans_new _ _ [(42, 44)])).mono ?_
  rintro e w8 ⟨rfl, hb⟩
  have HB := Lib.hid (HB.out.trans ((((Below.refl _ _).alloc (Nat.le_refl _) _).trans (hb.mono (by simp))).mono HB.out.size))
  clear hb
  rcases Bool.eq_false_or_eq_true (anyS op [(42, 44)]) with h8 | h8
  · have HX := Lib.hid (show (8 : Int) = fmtI op by unfold fmtI; simp only [h1, h2, h3, h4, h5, h6, h7, h8, if_true, if_false, Bool.false_eq_true])
    rw [h8]
    go_wp2_with fail
    go_ret
    exact ⟨ret_u (by rw [← HC.out]; exact HX.out), HB.out⟩
  rw [h8]
  go_wp2_with fail
  refine (among_c op [(89, 91)] _ _ (by simp) (by decide) (spans_new _ _ [(89, 91)])).mono ?_
  rintro e w9 ⟨rfl, hb⟩
  have HB := Lib.hid (HB.out.trans ((((Below.refl _ _).alloc (Nat.le_refl _) _).trans (hb.mono (by simp))).mono HB.out.size))
  clear hb
  rcases Bool.eq_false_or_eq_true (anyS op [(89, 91)]) with h9 | h9
  · have HX := Lib.hid (show (9 : Int) = fmtI op by unfold fmtI; simp only [h1, h2, h3, h4, h5, h6, h7, h8, h9, if_true, if_false, Bool.false_eq_true])
    rw [h9]
    go_wp2_with fail
    go_ret
    exact ⟨ret_u (by rw [← HC.out]; exact HX.out), HB.out⟩
  rw [h9]
  go_wp2_with fail
  refine (among_c op [(92, 94)] _ _ (by simp) (by decide) (spans_new _ _ [(92, 94)])).mono ?_
  rintro e w10 ⟨rfl, hb⟩
  have HB := Lib.hid (HB.out.trans ((((Below.refl _ _).alloc (Nat.le_refl _) _).trans (hb.mono (by simp))).mono HB.out.size))
  clear hb
  rcases Bool.eq_false_or_eq_true (anyS op [(92, 94)]) with h10 | h10
  · have HX := Lib.hid (show (10 : Int) = fmtI op by unfold fmtI; simp only [h1, h2, h3, h4, h5, h6, h7, h8, h9, h10, if_true, if_false, Bool.false_eq_true])
    rw [h10]
    go_wp2_with fail
    go_ret
    exact ⟨ret_u (by rw [← HC.out]; exact HX.out), HB.out⟩
  rw [h10]
  go_wp2_with fail
  refine (among_c op [(68, 77), (79, 88)] _ _ (by simp) (by decide) (spans_new _ _ [(68, 77), (79, 88)])).mono ?_
  rintro e w11 ⟨rfl, hb⟩
  have HB := Lib.hid (HB.out.trans ((((Below.refl _ _).alloc (Nat.le_refl _) _).trans (hb.mono (by simp))).mono HB.out.size))
  clear hb
  rcases Bool.eq_false_or_eq_true (anyS op [(68, 77), (79, 88)]) with h11 | h11
  · have HX := Lib.hid (show (11 : Int) = fmtI op by unfold fmtI; simp only [h1, h2, h3, h4, h5, h6, h7, h8, h9, h10, h11, if_true, if_false, Bool.false_eq_true])
    rw [h11]
    go_wp2_with fail
    go_ret
    exact ⟨ret_u (by rw [← HC.out]; exact HX.out), HB.out⟩
  rw [h11]
  go_wp2_with fail
  refine (among_c op [(67, 67), (78, 78)] _ _ (by simp) (by decide) (spans_new _ _ [(67, 67), (78, 78)])).mono ?_
  rintro e w12 ⟨rfl, hb⟩
  have HB := Lib.hid (HB.out.trans ((((Below.refl _ _).alloc (Nat.le_refl _) _).trans (hb.mono (by simp))).mono HB.out.size))
  clear hb
  rcases Bool.eq_false_or_eq_true (anyS op [(67, 67), (78, 78)]) with h12 | h12
  · have HX := Lib.hid (show (12 : Int) = fmtI op by unfold fmtI; simp only [h1, h2, h3, h4, h5, h6, h7, h8, h9, h10, h11, h12, if_true, if_false, Bool.false_eq_true])
    rw [h12]
    go_wp2_with fail
    go_ret
    exact ⟨ret_u (by rw [← HC.out]; exact HX.out), HB.out⟩
  rw [h12]
  go_wp2_with fail
  refine (among_c op [(52, 53), (95, 97)] _ _ (by simp) (by decide) (spans_new _ _ [(52, 53), (95, 97)])).mono ?_
  rintro e w13 ⟨rfl, hb⟩
  have HB := Lib.hid (HB.out.trans ((((Below.refl _ _).alloc (Nat.le_refl _) _).trans (hb.mono (by simp))).mono HB.out.size))
  clear hb
  rcases Bool.eq_false_or_eq_true (anyS op [(52, 53), (95, 97)]) with h13 | h13
  · have HX := Lib.hid (show (13 : Int) = fmtI op by unfold fmtI; simp only [h1, h2, h3, h4, h5, h6, h7, h8, h9, h10, h11, h12, h13, if_true, if_false, Bool.false_eq_true])
    rw [h13]
    go_wp2_with fail
    go_ret
    exact ⟨ret_u (by rw [← HC.out]; exact HX.out), HB.out⟩
  rw [h13]
  go_wp2_with fail
  refine (among_c op [(98, 98)] _ _ (by simp) (by decide) (spans_new _ _ [(98, 98)])).mono ?_
  rintro e w14 ⟨rfl, hb⟩
  have HB := Lib.hid (HB.out.trans ((((Below.refl _ _).alloc (Nat.le_refl _) _).trans (hb.mono (by simp))).mono HB.out.size))
  clear hb
  rcases Bool.eq_false_or_eq_true (anyS op [(98, 98)]) with h14 | h14
  · have HX := Lib.hid (show (14 : Int) = fmtI op by unfold fmtI; simp only [h1, h2, h3, h4, h5, h6, h7, h8, h9, h10, h11, h12, h13, h14, if_true, if_false, Bool.false_eq_true])
    rw [h14]
    go_wp2_with fail
    go_ret
    exact ⟨ret_u (by rw [← HC.out]; exact HX.out), HB.out⟩
  rw [h14]
  have HX := Lib.hid (show (0 : Int) = fmtI op by unfold fmtI; simp only [h1, h2, h3, h4, h5, h6, h7, h8, h9, h10, h11, h12, h13, h14, if_false, Bool.false_eq_true])
  go_wp2_with fail
  go_ret
  exact ⟨ret_u (by rw [← HC.out]; exact HX.out), HB.out⟩
end Go.Proofs.YteknlcigfjdmdaaDoor
