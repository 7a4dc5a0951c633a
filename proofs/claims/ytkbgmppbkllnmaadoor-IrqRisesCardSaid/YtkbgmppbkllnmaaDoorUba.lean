/-
  The listed variables cause.order, csr.rows, csrfile.kept: what they give the walks; that the door's own heap meets them. Plain numbers: which interrupt is taken, by whom, and why.
-/
import Derived.Test.YtkbgmppbkllnmaaDoorUau
import Derived.Test.YtkbgmppbkllnmaaDoorUao
import Derived.Test.YtkbgmppbkllnmaaDoorUaz
set_option maxRecDepth 20000
namespace Go.Proofs.YtkbgmppbkllnmaaDoor
open Go.ChangeShapes Go.WideShapes Go.ChangeAt Go.RowKit Csr Cf Cau

abbrev laidI {H : Type} : List (String × DataW H) := [("roebuck/cause.order", Rows.laid_roebuck_cause_order), ("roebuck/csr.rows", Rows.laid_roebuck_csr_rows), ("roebuck/csrfile.kept", Rows.laid_roebuck_csrfile_kept)]
theorem gOrdI : Tryd.prog.globalNamed "roebuck/cause.order" = some 0 := by kernel_rfl
theorem tOrdI : (Tryd.prog.globals[0]?).map (·.type) = some 139 := by kernel_rfl
theorem ordI_are {H : Type} : (Rows.laid_roebuck_cause_order : DataW H) = .agg ((ordK.map fun k => ((k : Nat) : Int)).map fun x => .lit (.int .i64 x)) := by kernel_rfl
theorem doorI_met (os : Os) (args : Array Value) : laidMetH Tryd.prog laidI ((World.doorLaid Tryd.prog 400 os).forCall (fun _ _ => 0) ⟨#[], args, []⟩).memory :=
  laidMetH_of_parts3 (fuel := 8) (laidMet_of_run' 8 (by kernel_rfl) (by kernel_rfl)) (by kernel_rfl) (by kernel_rfl)
theorem of_laidI {W : World} (h : laidMetH Tryd.prog laidI W) : (RowsIn W ∧ KeptIn W) ∧ OrderIn W := by
  rw [MakeChecks.laidMetH_plain _ _ _ (by kernel_rfl)] at h
  obtain ⟨ps, ⟨g2, t2, cs2, f2, p2, q2, hg2, ht2, hv2, hd2, ⟨g0, t0, cs0, f0, p0, q0, hg0, ht0, hv0, hd0, ⟨g1, t1, cs1, f1, p1, q1, hg1, ht1, hv1, hd1, _, _⟩, _⟩, _⟩, _, _⟩ := h
  obtain rfl := Option.some.inj (gOrdI.symm.trans hg2)
  obtain rfl := Option.some.inj (tOrdI.symm.trans ht2)
  rw [ordI_are] at hd2
  obtain rfl := Option.some.inj (gKept.symm.trans hg1)
  obtain rfl := Option.some.inj (tKept.symm.trans ht1)
  rw [kept_are] at hd1
  obtain rfl := Option.some.inj (gRowsC.symm.trans hg0)
  obtain rfl := Option.some.inj (tRowsC.symm.trans ht0)
  rw [rowsC_are] at hd0
  obtain ⟨xs, m1, -, hx1, hlen, hn3, hel⟩ := DataW.trod_array Tryd.underlying165 hd0
  simp only [Prod.mk.injEq, DataW.agg.injEq] at hx1
  have hlen2 : cs0.toList.length = 102 := by rw [hlen]; kernel_rfl
  have key : ∀ k, k < 34 → cs0[k * 3]? = some (.int .i64 ((rowC k).1 : Nat)) ∧ cs0[k * 3 + 1]? = some (.string (cB (rowC k).2.1)) ∧ cs0[k * 3 + 2]? = some (.int .u64 ((rowC k).2.2 : Nat)) := by
    intro k hk
    have h0 := hel k hk
    rw [kc_row] at h0
    have hxk : xs[k]? = some (xs[k]'(by omega)) := List.getElem?_eq_getElem _
    rw [hxk] at h0
    obtain ⟨a, s, m, e1, e2⟩ := trod_rowC (by simp; simp at hlen2; omega) h0
    have hl : (xs.map (·.1))[k]? = some (DataW.agg [.lit (.int .i64 ((rowC k).1 : Nat)), .lit (.string (rowC k).2.1), .lit (.int .u64 ((rowC k).2.2 : Nat))]) := by rw [← hx1.1]; simp [hk]
    rw [List.getElem?_map, hxk, Option.map_some, e2] at hl
    simp only [Option.some.injEq, DataW.agg.injEq, List.cons.injEq, DataW.lit.injEq, Lit.int.injEq, Lit.string.injEq, and_true, true_and] at hl
    obtain ⟨l1, l2, l3⟩ := hl
    have hs : s = cB (rowC k).2.1 := by
      obtain ⟨⟨l⟩⟩ := s
      simp only at l2
      rw [← l2]; rfl
    subst l1 hs l3
    have c : ∀ j, j < 3 → cs0[k * 3 + j]? = ((cs0.toList.drop (k * 3)).take 3)[j]? := fun j hj => by
      rw [List.getElem?_take, if_pos hj, List.getElem?_drop]; simp
    refine ⟨?_, ?_, ?_⟩
    · have := c 0 (by omega); rw [e1] at this; exact this
    · have := c 1 (by omega); rw [e1] at this; exact this
    · have := c 2 (by omega); rw [e1] at this; exact this
  have cv := fun j => World.var?_cell hg0 hv0 j
  have key1 := ints_at Tryd.underlying144 rfl (by kernel_rfl) hd1
  have cv1 := fun j => World.var?_cell hg1 hv1 j
  have hk1 : ∀ k, k < 22 → cs1[k]? = some (.int .i64 (keptN k : Nat)) := fun k hk => by
    have h1 := key1 k hk
    rw [(by decide : ∀ k : Fin 22, (keptL.map fun k => ((k : Nat) : Int)).getD k.val 0 = ((keptN k.val : Nat) : Int)) ⟨k, hk⟩] at h1
    simpa using h1
  have key2 := ints_at Tryd.underlying139 rfl (by kernel_rfl) hd2
  have cv2 := fun j => World.var?_cell hg2 hv2 j
  have hk2 : ∀ k, k < 6 → cs2[k]? = some (.int .i64 (ordK.getD k 0 : Nat)) := fun k hk => by
    have h1 := key2 k hk
    rw [(by decide : ∀ k : Fin 6, (ordK.map fun k => ((k : Nat) : Int)).getD k.val 0 = ((ordK.getD k.val 0 : Nat) : Int)) ⟨k, hk⟩] at h1
    simpa using h1
  refine ⟨⟨?_, ⟨Nat.succ_le_of_lt (cell_ltD ((cv1 0).trans (hk1 0 (by omega)))), fun k h => (cv1 k).trans (hk1 k h)⟩⟩, ⟨Nat.succ_le_of_lt (cell_ltD ((cv2 0).trans (hk2 0 (by omega)))), fun k h => (cv2 k).trans (hk2 k h)⟩⟩
  refine ⟨?_, fun k hk => ?_⟩
  · have h0 := (cv (0 * 3)).trans (key 0 (by omega)).1
    exact Nat.succ_le_of_lt (cell_ltD h0)
  · obtain ⟨a, b, c⟩ := key k hk
    exact ⟨(cv _).trans a, (cv _).trans b, (cv _).trans c⟩
end Go.Proofs.YtkbgmppbkllnmaaDoor
set_option maxRecDepth 20000
namespace Go.Proofs.YtkbgmppbkllnmaaDoor
open Go.ChangeShapes Go.WideShapes Go.ChangeAt Go.RowKit Wd Csr Sta Cf Cau

theorem and_bit {x m : Int} (hx : W64 x) (hm : W64 m) {k : Nat} (hk : k < 64) (hb : ∀ i, i < 64 → tb m i = (i == k)) : (bits .and .u64 x m == 0) = !tb x k := by
  have r := and_64 hx hm
  have hbit : ∀ i, i < 64 → tb (bits .and .u64 x m) i = (tb x i && (i == k)) := fun i hi => by rw [tb_and hx.1 hx.2 hm.1 hm.2, hb i hi]
  cases hq : tb x k
  · have : bits .and .u64 x m = 0 := by
      apply Wd.ext r.1 r.2 (by omega) (by omega)
      intro i hi
      rw [hbit i hi, tb_zero]
      by_cases e : i = k
      · subst e; rw [hq]; rfl
      · simp [e]
    rw [this]; rfl
  · have : bits .and .u64 x m ≠ 0 := by
      intro e
      have h := hbit k hk
      rw [e, tb_zero, hq] at h
      simp at h
    simpa using this
theorem and_8 {x : Int} (hx : W64 x) : (bits .and .u64 x 8 == 0) = !tb x 3 := and_bit hx ⟨by omega, by omega⟩ (by omega) (fun i hi => (by decide +kernel : ∀ i : Fin 64, tb 8 i.val = (i.val == 3)) ⟨i, hi⟩)
theorem and_2 {x : Int} (hx : W64 x) : (bits .and .u64 x 2 == 0) = !tb x 1 := and_bit hx ⟨by omega, by omega⟩ (by omega) (fun i hi => (by decide +kernel : ∀ i : Fin 64, tb 2 i.val = (i.val == 1)) ⟨i, hi⟩)
theorem bi_one {b : Bool} : (bi b == 1) = b := by cases b <;> decide
theorem cut_one (x : Int) {k : Nat} (hk : k < 64) : (cutS x k 1 == 1) = tb x k := by rw [cut1 x hk, bi_one]
theorem lets3 (x p : Int) : letsS x p 3 = (decide (p < 3) || (p == 3 && tb x 3)) := by
  unfold letsS
  rw [if_pos rfl, show cutS x 3 1 = cutS x ((3 : Nat) : Int) 1 from rfl, cut_one x (by omega)]
theorem lets1 (x p : Int) : letsS x p 1 = (decide (p < 1) || (p == 1 && tb x 1)) := by
  unfold letsS
  rw [if_neg (by decide), if_pos rfl, show cutS x 1 1 = cutS x ((1 : Nat) : Int) 1 from rfl, cut_one x (by omega)]
theorem fst_mem {x : Int} {c : Nat} (h : fstI x = some c) : c ∈ ordK ∧ tb x c = true := ⟨List.mem_of_find?_eq_some h, List.find?_some h⟩
/-- What is taken: by whom, and why. -/
theorem next_cases {gt : Int → Int → Int} (h64 : W64s gt) {p l : Int} (hl : W64 l) {c : Nat} (h : nextG gt p l = some c) :
    c < 64 ∧ tb (waitG gt l) c = true ∧ ((letsS (gt 768 0) p 3 = true ∧ tb (gt 771 0) c = false) ∨ (letsS (gt 768 0) p 1 = true ∧ tb (gt 771 0) c = true)) := by
  have hw := waitG_64 h64 hl
  have hd := h64 771 0 ⟨by omega, by omega⟩
  have h0 : rowO gt p l 0 = if letsS (gt 768 0) p 3 then fstI (forM gt l) else none := rfl
  have h1 : rowO gt p l 1 = if letsS (gt 768 0) p 1 then fstI (forS gt l) else none := rfl
  have key : rowO gt p l 0 = some c ∨ rowO gt p l 1 = some c := by
    unfold nextG at h
    split at h
    · rename_i d hd
      cases h
      exact .inl hd
    · exact .inr h
  rcases key with h | h
  · rw [h0] at h
    cases e : letsS (gt 768 0) p 3
    · rw [e] at h; cases h
    · rw [e] at h
      obtain ⟨m, t⟩ := fst_mem (show fstI (forM gt l) = some c from h)
      have hc := ord_64 m
      unfold forM at t
      rw [tb_andNot hw.1 hw.2 hd.1 hd.2] at t
      simp only [Bool.and_eq_true, Bool.not_eq_true'] at t
      exact ⟨hc, t.1, .inl ⟨rfl, t.2⟩⟩
  · rw [h1] at h
    cases e : letsS (gt 768 0) p 1
    · rw [e] at h; cases h
    · rw [e] at h
      obtain ⟨m, t⟩ := fst_mem (show fstI (forS gt l) = some c from h)
      have hc := ord_64 m
      unfold forS at t
      rw [tb_and hw.1 hw.2 hd.1 hd.2] at t
      simp only [Bool.and_eq_true] at t
      exact ⟨hc, t.1, .inr ⟨rfl, t.2⟩⟩
theorem toK_bitI {c : Nat} (hc : c < 64) (p d i : Int) : toK true c p d i = if p ≠ 3 ∧ tb i c = true then 1 else 3 := by
  unfold toK
  simp only [if_true, Int.toNat_natCast]
  by_cases h : p ≠ 3 ∧ tb i c = true
  · rw [if_pos h, if_pos ⟨h.1, by omega, by omega, h.2⟩]
  · rw [if_neg h, if_neg (fun hh => h ⟨hh.1, hh.2.2.2⟩)]
/-- The privilege that takes it, told by the one that there is. -/
theorem rises {s : S} (ok : Ok s) {p l : Int} (hp : p = 0 ∨ p = 1 ∨ p = 3) (hl : W64 l) {c : Nat} (h : nextG (getS s) p l = some c) (d : Int) :
    (p = 3 → tb (s.f 768) 3 = true ∧ toK true c p d (s.f 771) = 3) ∧ (p = 1 → toK true c p d (s.f 771) = 1 → tb (s.f 768) 1 = true) ∧ (tb (s.f 771) c = false → letsS (s.f 768) p 3 = true) := by
  obtain ⟨hc, -, hk⟩ := next_cases (w64_file ok) hl h
  have hk' : (letsS (s.f 768) p 3 = true ∧ tb (s.f 771) c = false) ∨ (letsS (s.f 768) p 1 = true ∧ tb (s.f 771) c = true) := hk
  rw [toK_bitI hc, lets3, lets1] at *
  refine ⟨fun e => ?_, fun e ha => ?_, fun e => ?_⟩
  · subst e
    rcases hk' with ⟨a, b⟩ | ⟨a, b⟩
    · exact ⟨by simpa using a, by rw [if_neg (by simp)]⟩
    · simp at a
  · subst e
    rcases hk' with ⟨a, b⟩ | ⟨a, b⟩
    · rw [b] at ha
      simp at ha
    · simpa using a
  · rcases hk' with ⟨a, b⟩ | ⟨a, b⟩
    · exact a
    · rw [b] at e; cases e
theorem tb_nz {x : Int} {c : Nat} (h : tb x c = true) : (x != 0) = true := by
  simp only [bne_iff_ne, ne_eq]
  rintro rfl
  rw [tb_zero] at h
  cases h
end Go.Proofs.YtkbgmppbkllnmaaDoor
