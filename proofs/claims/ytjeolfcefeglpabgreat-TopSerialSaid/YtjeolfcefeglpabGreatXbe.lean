/-
  Contracts of ram.Some and ram.Clone (layer 10). What came in, opened: an array of integers; a slice of bytes. The reference of layer 10: contracts of New, Copy.
-/
import Derived.Test.YtjeolfcefeglpabGreatXbd
import Derived.Test.YtjeolfcefeglpabGreatXah
import Derived.Test.YtjeolfcefeglpabGreatXan
import Derived.Deep.Slices
set_option maxRecDepth 20000
namespace Go.Proofs.YtjeolfcefeglpabGreat
open Go.RowKit Go.Shelf
attribute [local go_sem] Oper.semAt_some

/-- A copy when some lines have been laid. -/
def rmPart (B : List Int) (n : Nat) (pre : List (FullAt B n)) : List Int := pre.foldl (fun C x => Rm.setRow C x.1 (Rm.row B x.1)) (Rm.nought n)
theorem rmPart_snoc (B : List Int) (n : Nat) (pre : List (FullAt B n)) (x : FullAt B n) : rmPart B n (pre ++ [x]) = Rm.setRow (rmPart B n pre) x.1 (Rm.row B x.1) := by simp [rmPart]
theorem rmPart_ok {B : List Int} {n : Nat} (h : Rm.Ok B n) : ∀ k, Rm.Ok (rmPart B n (told B n k)) n
  | 0 => Rm.nought_ok n
  | k + 1 => by
    by_cases hk : k < n
    · cases hf : Rm.full B k
      · rw [told_no hf]; exact rmPart_ok h k
      · rw [told_yes hk hf, rmPart_snoc]; exact Rm.setRow_ok (rmPart_ok h k) k (Rm.row_is h k)
    · have e : told B n (k + 1) = told B n k := by
        have : pick B n k = none := by unfold pick; rw [dif_neg (by omega)]
        simp [told, List.range_succ, List.filterMap_append, this]
      rw [e]; exact rmPart_ok h k
theorem rmPart_row {B : List Int} {n : Nat} (h : Rm.Ok B n) : ∀ k, k ≤ n → ∀ j, j < n → Rm.row (rmPart B n (told B n k)) j = if j < k then Rm.row B j else Ln.zeros
  | 0, _, j, _ => by rw [if_neg (by omega)]; exact Rm.nought_row n j
  | k + 1, hk, j, hj => by
    have ih := rmPart_row h k (by omega) j hj
    cases hf : Rm.full B k
    · rw [told_no hf, ih]
      by_cases e : j = k
      · subst e
        rw [if_neg (by omega), if_pos (by omega)]
        unfold Rm.full at hf
        simpa using (show Rm.row B j = Ln.zeros by simpa using hf).symm
      · by_cases c : j < k
        · rw [if_pos c, if_pos (by omega)]
        · rw [if_neg c, if_neg (by omega)]
    · rw [told_yes (by omega) hf, rmPart_snoc]
      by_cases e : j = k
      · subst e
        rw [Rm.row_set (rmPart_ok h j) j hj (Rm.row_is h j), if_pos (by omega)]
      · rw [Rm.row_other (rmPart_ok h k) k j hj e, ih]
        by_cases c : j < k
        · rw [if_pos c, if_pos (by omega)]
        · rw [if_neg c, if_neg (by omega)]
theorem rmPart_all {B : List Int} {n : Nat} (h : Rm.Ok B n) : rmPart B n (told B n n) = B :=
  Rm.eq_rows (rmPart_ok h n) h fun j hj => by rw [rmPart_row h n (Nat.le_refl _) j hj, if_pos hj]

theorem Keep.of_grown {b N : Nat} {W W' : World} {row : Option Nat} (hg : W.grownBy W' row) (hN : N ≤ W.heap.size) (hr : ∀ r, row = some r → N ≤ r) : Keep b N W W' :=
  ⟨hg.size, fun k hk _ => hg.block k (by omega) (fun e => by have := hr k e.symm; omega)⟩
theorem below_grown {B : Nat} {w0 W W' : World} {row : Option Nat} (hb : Below B w0 W) (hg : W.grownBy W' row) (hN : B ≤ W.heap.size) (hr : ∀ r, row = some r → B ≤ r) : Below B w0 W' := hb.grown hg hN hr
/-- What stands while a memory is copied. -/
structure CloneAt (w0 W : World) (N cb cr cm rb mb n : Nat) (B : List Int) (pre : List (FullAt B n)) : Prop where
  c : RamAt W cr cm n (rmPart B n pre)
  m : RamAt W rb mb n B
  b : W.cell? ⟨cb, 0, none⟩ = some (.pointer (some ⟨cr, 0, none⟩))
  bel : Below w0.heap.size w0 W
  size : N ≤ W.heap.size
/-- The blocks. -/
structure CloneB (w0 : World) (N cb cr cm rb mb : Nat) : Prop where
  h0 : w0.heap.size ≤ cm
  h1 : w0.heap.size ≤ cr
  h2 : cm < N
  h3 : cr < N
  h4 : cb < N
  h5 : rb < w0.heap.size
  h6 : mb < w0.heap.size
  h7 : cm ≠ cb
  h8 : cm ≠ cr
theorem CloneAt.own {w0 : World} {N cb cr cm rb mb n : Nat} {B : List Int} (hb : CloneB w0 N cb cr cm rb mb) : OwnFrom N (fun pre W => CloneAt w0 W N cb cr cm rb mb n B pre) := fun pre W W' row hs hg hr => by
  have hk : Keep N N W W' := Keep.of_grown hg hs.size (fun r e => (hr r e).1)
  have := hb.h0
  have := hb.h2
  have := hb.h3
  have := hb.h4
  have := hb.h5
  have := hb.h6
  exact ⟨hs.c.keep hk (by omega) (by omega) (by omega) (by omega), hs.m.keep hk (by omega) (by omega) (by omega) (by omega), (hk.cell (p := ⟨cb, 0, none⟩) hb.h4 (by show cb ≠ N; omega)).trans hs.b,
    hs.bel.grown hg hs.bel.size (fun r e => by have := (hr r e).1; omega), Nat.le_trans hs.size hg.size⟩
theorem rowAt_own {t : TypeId} {ws : List Int} {N bx : Nat} {W W' : World} {row : Option Nat} (h : RowAt .u8 W bx t ws) (hg : W.grownBy W' row) (hr : ∀ r, row = some r → N ≤ r ∧ ∃ o : Obj, W.heap[r]? = some o ∧ o.isCells = false) : RowAt .u8 W' bx t ws :=
  (hg.block bx h.lt (fun e => by
    obtain ⟨-, o, ho, hc⟩ := hr bx e.symm
    rw [show W.heap[bx]? = _ from h] at ho
    cases ho
    cases hc)).trans h
end Go.Proofs.YtjeolfcefeglpabGreat
set_option maxRecDepth 20000
namespace Go.Proofs.YtjeolfcefeglpabGreat
open Go.ChangeShapes Go.WideShapes Go.ChangeAt Go.RowKit

theorem open_arr {H : Type} {enc : TypeId × Value → H} {w : World} {r : Reach} {b0 base n : Nat} {spare : Nat → Bool} {held : Bool} {t e : TypeId} {k : IntKind} {v : Value} {d : DataW H} {ps : List MemPlace}
    (ht : Tryz.prog.underlying t = some (.array n e)) (he : Tryz.prog.underlying e = some (.int k)) (hct : Tryz.prog.cellsOf t = n) (hce : Tryz.prog.cellsOf e = 1)
    (hval : Value.okWide Tryz.prog w r b0 t v) (hd : DataW.Trod enc Tryz.prog w base spare held t v d ps) :
    ∃ ws : List Int, v = .agg (aV k ws) ∧ ws.length = n ∧ ∀ x ∈ ws, (Lit.int k x).wf = true := by
  simp only [Value.okWide, ht] at hval
  obtain ⟨cs, rfl, hsz, _⟩ := hval
  obtain ⟨fuel, hf⟩ := hd
  obtain ⟨xs, m, rfl, _, hl, hxl, hall⟩ := DataW.trod_array ht hf
  rw [hct] at hsz
  have key : ∀ i, i < n → ∃ a : Int, cs.toList[i]? = some (.int k a) ∧ (Lit.int k a).wf = true := by
    intro i hi
    have h0 := hall i (by omega)
    rw [hce] at h0
    obtain ⟨x0, hx0⟩ : ∃ x, xs[i]? = some x := ⟨xs[i]'(by omega), List.getElem?_eq_getElem _⟩
    rw [hx0] at h0
    obtain ⟨a, ha, _, hwa⟩ := DataW.trod_int he h0
    refine ⟨a, ?_, hwa⟩
    have h1 : ((cs.toList.drop (i * 1)).take 1)[0]? = some (.int k a) := by
      have : (Value.agg cs).cells = cs := rfl
      rw [this] at ha
      rw [ha]; rfl
    simpa using h1
  obtain ⟨f, hf⟩ := Go.Deep.choose_lt key
  refine ⟨(List.range n).map f, ?_, by simp, ?_⟩
  · congr 1
    apply Array.ext_getElem?
    intro i
    rw [aV_get]
    by_cases hi : i < n
    · have := (hf i hi).1
      simp [hi] at this ⊢
      exact this
    · simp [hi]; omega
  · intro x hx
    simp at hx
    obtain ⟨a, ha, rfl⟩ := hx
    exact (hf a ha).2
theorem add_plainL (b off j : Nat) : (⟨b, off, none⟩ : Addr).add j = ⟨b, off + j, none⟩ := by unfold Addr.add; split <;> simp_all
theorem open_bytes {H : Type} {enc : TypeId × Value → H} {w : World} {r : Reach} {b0 base : Nat} {spare : Nat → Bool} {held : Bool} {v : Value} {d : DataW H} {ps : List MemPlace}
    (hval : Value.okWide Tryz.prog w r b0 24 v) (hd : DataW.Trod enc Tryz.prog w base spare held 24 v d ps) : ∃ p n cap bs, v = .slice p n cap ∧ List.length bs = n ∧ n ≤ 9223372036854775807 ∧ SlAt w p bs := by
  obtain ⟨ao, n, cap, rfl⟩ := okWide_slice Tryz.underlying24 hval
  obtain ⟨fuel, hf⟩ := hd
  rcases open_ints Tryz.underlying24 Tryz.underlying5 (by kernel_rfl) hf with ⟨hcs, _⟩ | ⟨a, len, cap', zs, hcs, hb, hl, hm, hz, -, hc, hw⟩
  · simp [Value.cells] at hcs
    obtain ⟨rfl, rfl, rfl⟩ := hcs
    exact ⟨_, _, _, [], rfl, rfl, by omega, fun X hX => absurd hX (by simp), .inl rfl⟩
  · simp [Value.cells] at hcs
    obtain ⟨rfl, rfl, rfl⟩ := hcs
    have hzn : n ≤ zs.length := by rw [hz]; split <;> omega
    refine ⟨_, _, _, zs.take n, rfl, by simp; omega, by unfold maxLen at hm; omega, fun x hx => bounds_u8 (hw x (List.mem_of_mem_take hx)), ?_⟩
    by_cases hn0 : n = 0
    · exact .inl (by subst hn0; simp)
    · have hsp : a.spot = none := by
        have := World.cell?_spot (hc 0 (by omega))
        simpa [Addr.add] using this
      obtain ⟨b, off, sp⟩ := a
      simp only at hsp
      subst hsp
      refine .inr ⟨b, off, rfl, ?_, fun j hj => ?_⟩
      · have h0 := hc 0 (by omega)
        rw [add_plainL] at h0
        exact block_lt_of_cell h0
      · have hj' : j < n := by simp at hj; omega
        have hjz : j < zs.length := by omega
        have h1 := hc j hjz
        rw [add_plainL] at h1
        rw [h1]
        simp [List.getD, hj', hjz]
end Go.Proofs.YtjeolfcefeglpabGreat
set_option maxRecDepth 20000
namespace Go.Proofs.YtjeolfcefeglpabGreat
open Go.ChangeShapes Go.WideShapes Go.ChangeAt Go.RowKit Wd

theorem info_u8 : (Tryz.prog.info? 5).map (fun i => (i.zero, i.size, i.bytes)) = some (some (.int .u8 0), 1, 1) := by kernel_rfl
theorem parts_u8 : ∃ i, Tryz.prog.info? 5 = some i ∧ i.zero = some (.int .u8 0) ∧ i.size = 1 ∧ i.bytes = 1 := by
  obtain ⟨i, hi, hz⟩ := Option.map_eq_some_iff.1 info_u8
  simp only [Prod.mk.injEq] at hz
  exact ⟨i, hi, hz.1, hz.2.1, hz.2.2⟩
theorem nought_cells (n : Nat) : (madeCells (Value.int .u8 0).cells (64 * n * 1)).toList = (Rm.nought n).map (Value.int .u8) := by
  refine List.ext_getElem (by simp [madeCells, Rm.nought]) fun k h1 h2 => ?_
  simp [madeCells, Value.cells, Rm.nought, Nat.mod_one]
set_option maxHeartbeats 1000000 in
theorem rnew_c (n : Nat) (h1 : 1 ≤ n) (h2 : n ≤ 4096) (w : World) :
    Calls Tryz.prog 24 #[.int .i64 (n : Int)] w fun e w' => ∃ g cap, e = .returned (mV g n cap) ∧ w.heap.size ≤ g ∧ RefAt w' g 5 n (Rm.nought n) ∧ Below w.heap.size w w' := by
  obtain ⟨i0, hi, hz0, hz1, hz2⟩ := parts_u8
  have hB := (Below.refl w.heap.size w).alloc (Nat.le_refl _) (.cells #[.slice none 0 0] 36)
  have HC := Lib.hid (CsAt.new w 36 #[.slice none 0 0])
  have HB := Lib.hid hB
  clear hB
  have hw1 : IntKind.i64.wrap (64 * (n : Int)) = 64 * (n : Int) := by rw [IntKind.wrap_i64]; omega
  go_enter Tryz.func24, Tryz.ntmps24
  go_upto_region 1 with (fail)
  generalize w.alloc (.cells #[.slice none 0 0] 36) = w1 at *
  have hs1 := HB.out.size
  go_wp2_with (refine wpList_make_full _ rfl _ _ 24 rfl w.heap.size 5 i0 (.int .u8 0) 1 Tryz.underlying24 hi hz0 hz1 .i64 .i64 (64 * (n : Int)) (64 * (n : Int)) (64 * n) rfl rfl (by omega) (by omega) (by rw [hz2]; omega) (by unfold maxLen; omega) (by omega) ?_; intro w3 hown hgrow; have HO3 := Lib.hid hown; have HG3 := Lib.hid hgrow; have HC3 := Lib.hid (show CsAt w3 w.heap.size 36 #[.slice none 0 0] from (hgrow.block _ HC.out.lt (by simp)).trans HC.out); have c3 := HC3.out.cell 0; have f3 := HC3.out.frozen 0; clear hown hgrow)
  obtain ⟨g, cap, hv, hg, hR⟩ := RefAt.of_own HO3.out (nought_cells n) (Rm.nought_ok n) h1 h2
  have hlt := HC.out.lt
  obtain ⟨rfl, rfl⟩ : g = w1.heap.size ∧ cap = 64 * n := by simpa [eq_comm] using hv
  refine bodyPost_ret (results_cell_row Tryz.results24 _ _ _ _ _ _ _ rfl (CsAt.setc HC3.out 0 _) Tryz.underlying36 rfl (by kernel_rfl)) rfl ⟨_, _, rfl, hg, ?_, ?_⟩
  · exact hR.only ((Only.refl w.heap.size w3).setCell 0 _) (by omega)
  · exact (below_grown HB.out HG3.out hs1 (fun r h => by cases h)).setCell (by simp) _
end Go.Proofs.YtjeolfcefeglpabGreat
