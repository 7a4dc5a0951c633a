/-
  Contracts of ram.Some and ram.Clone (layer 10). What came in, opened: an array of integers; a slice of bytes. The reference of layer 10: contracts of New, Copy.
-/
import Derived.Test.YtabackklpemhpaaGreatJbd
import Derived.Test.YtabackklpemhpaaGreatJah
import Derived.Test.YtabackklpemhpaaGreatJan
import Derived.Deep.Slices
set_option maxRecDepth 20000
namespace Go.Proofs.YtabackklpemhpaaGreat
open Go.RowKit Go.Shelf
attribute [local go_sem] Oper.semAt_some

theorem some_c (p : Option Addr) (w : World) : Calls Tryz.prog 94 #[.pointer p] w fun e w' => e = .returned (.func (.func 134) #[] #[.pointer (some ⟨w.heap.size, 0, none⟩)]) ∧ w.alloc (.cells #[.pointer p] 42) = w' := by
  go_enter Tryz.func94, Tryz.ntmps94
  go_wp2_with fail
  go_ret
  exact ⟨rfl, rfl⟩
theorem clone_nil (w : World) : Calls Tryz.prog 49 #[.pointer none] w fun e w' => e = .returned (.pointer none) ∧ w = w' := by
  go_enter Tryz.func49, Tryz.ntmps49
  go_wp2_with fail
  go_ret
  exact ⟨rfl, rfl⟩

/-- A copy when some lines have been laid. -/
def rmPart (B : List Int) (n : Nat) (pre : List (FullAt B n)) : List Int := pre.foldl (fun C x => Rm.setRow C x.1 (Rm.row B x.1)) (Rm.nought n)
theorem rmPart_snoc (B : List Int) (n : Nat) (pre : List (FullAt B n)) (x : FullAt B n) : rmPart B n (pre ++ [x]) = Rm.setRow (rmPart B n pre) x.1 (Rm.row B x.1) := by simp [rmPart]
theorem rmPart_ok {B : List Int} {n : Nat} (h : Rm.Ok B n) : ∀ k, Rm.Ok (rmPart B n (told B n k)) n
  | 0 => Rm.nought_ok n
  | k + 1 => by
    by_cases hk : k < n
    · cases hf : Rm.full B k
      · rw [told_no hf]; exact rmPart_ok h k
      · rw [told_yes hk hf, rmPart_snoc]; exact Rm.setRow_ok (rmPart_ok h k) k (Rm.row_is h k)
    · have e : told B n (k + 1) = told B n k := by
        have : pick B n k = none := by unfold pick; rw [dif_neg (by omega)]
        simp [told, List.range_succ, List.filterMap_append, this]
      rw [e]; exact rmPart_ok h k
theorem rmPart_row {B : List Int} {n : Nat} (h : Rm.Ok B n) : ∀ k, k ≤ n → ∀ j, j < n → Rm.row (rmPart B n (told B n k)) j = if j < k then Rm.row B j else Ln.zeros
  | 0, _, j, _ => by rw [if_neg (by omega)]; exact Rm.nought_row n j
  | k + 1, hk, j, hj => by
    have ih := rmPart_row h k (by omega) j hj
    cases hf : Rm.full B k
    · rw [told_no hf, ih]
      by_cases e : j = k
      · subst e
        rw [if_neg (by omega), if_pos (by omega)]
        unfold Rm.full at hf
        simpa using (show Rm.row B j = Ln.zeros by simpa using hf).symm
      · by_cases c : j < k
        · rw [if_pos c, if_pos (by omega)]
        · rw [if_neg c, if_neg (by omega)]
    · rw [told_yes (by omega) hf, rmPart_snoc]
      by_cases e : j = k
      · subst e
        rw [Rm.row_set (rmPart_ok h j) j hj (Rm.row_is h j), if_pos (by omega)]
      · rw [Rm.row_other (rmPart_ok h k) k j hj e, ih]
        by_cases c : j < k
        · rw [if_pos c, if_pos (by omega)]
        · rw [if_neg c, if_neg (by omega)]
theorem rmPart_all {B : List Int} {n : Nat} (h : Rm.Ok B n) : rmPart B n (told B n n) = B :=
  Rm.eq_rows (rmPart_ok h n) h fun j hj => by rw [rmPart_row h n (Nat.le_refl _) j hj, if_pos hj]

theorem Keep.of_grown {b N : Nat} {W W' : World} {row : Option Nat} (hg : W.grownBy W' row) (hN : N ≤ W.heap.size) (hr : ∀ r, row = some r → N ≤ r) : Keep b N W W' :=
  ⟨hg.size, fun k hk _ => hg.block k (by omega) (fun e => by have := hr k e.symm; omega)⟩
theorem below_grown {B : Nat} {w0 W W' : World} {row : Option Nat} (hb : Below B w0 W) (hg : W.grownBy W' row) (hN : B ≤ W.heap.size) (hr : ∀ r, row = some r → B ≤ r) : Below B w0 W' := hb.grown hg hN hr
/-- What stands while a memory is copied. -/
structure CloneAt (w0 W : World) (N cb cr cm rb mb n : Nat) (B : List Int) (pre : List (FullAt B n)) : Prop where
  c : RamAt W cr cm n (rmPart B n pre)
  m : RamAt W rb mb n B
  b : W.cell? ⟨cb, 0, none⟩ = some (.pointer (some ⟨cr, 0, none⟩))
  bel : Below w0.heap.size w0 W
  size : N ≤ W.heap.size
/-- The blocks. -/
structure CloneB (w0 : World) (N cb cr cm rb mb : Nat) : Prop where
  h0 : w0.heap.size ≤ cm
  h1 : w0.heap.size ≤ cr
  h2 : cm < N
  h3 : cr < N
  h4 : cb < N
  h5 : rb < w0.heap.size
  h6 : mb < w0.heap.size
  h7 : cm ≠ cb
  h8 : cm ≠ cr
theorem CloneAt.own {w0 : World} {N cb cr cm rb mb n : Nat} {B : List Int} (hb : CloneB w0 N cb cr cm rb mb) : OwnFrom N (fun pre W => CloneAt w0 W N cb cr cm rb mb n B pre) := fun pre W W' row hs hg hr => by
  have hk : Keep N N W W' := Keep.of_grown hg hs.size (fun r e => (hr r e).1)
  have := hb.h0
  have := hb.h2
  have := hb.h3
  have := hb.h4
  have := hb.h5
  have := hb.h6
  exact ⟨hs.c.keep hk (by omega) (by omega) (by omega) (by omega), hs.m.keep hk (by omega) (by omega) (by omega) (by omega), (hk.cell (p := ⟨cb, 0, none⟩) hb.h4 (by show cb ≠ N; omega)).trans hs.b,
    hs.bel.grown hg hs.bel.size (fun r e => by have := (hr r e).1; omega), Nat.le_trans hs.size hg.size⟩
theorem rowAt_own {t : TypeId} {ws : List Int} {N bx : Nat} {W W' : World} {row : Option Nat} (h : RowAt .u8 W bx t ws) (hg : W.grownBy W' row) (hr : ∀ r, row = some r → N ≤ r ∧ ∃ o : Obj, W.heap[r]? = some o ∧ o.isCells = false) : RowAt .u8 W' bx t ws :=
  (hg.block bx h.lt (fun e => by
    obtain ⟨-, o, ho, hc⟩ := hr bx e.symm
    rw [show W.heap[bx]? = _ from h] at ho
    cases ho
    cases hc)).trans h
set_option maxRecDepth 100000 in
set_option maxHeartbeats 4000000 in
theorem clone_in (m : Nat) (hm : 3 ≤ m) {w : World} {rb mb n : Nat} {B : List Int} (h : RamAt w rb mb n B) :
    CallsIn Fence.wide m Tryz.prog 49 #[.pointer (some ⟨rb, 0, none⟩)] w fun e w' => e = .returned (.pointer (some ⟨w.heap.size + 1, 0, none⟩)) ∧ RamAt w' (w.heap.size + 1) w.heap.size n B ∧ Below w.heap.size w w' := by
  have h1 : 1 ≤ m := by omega
  have HH := Lib.hid h
  have c0 := h.c0
  clear h
  refine callsIn_of_wp_marks Tryz.func49 rfl trivial ?_ rfl
  simp only [Tryz.ntmps49, List.size_toArray, List.length_cons, List.length_nil, Nat.reduceAdd, Nat.reduceSub, Array.replicate_succ, Array.replicate_zero, List.push_toArray, List.append_toArray, List.nil_append, List.cons_append]
  gi_wp2_with fail
  refine ⟨trivial, (callsIn_wide.2 (empty_c n HH.out.n0 HH.out.n1 w)).mono ?_⟩
  rintro e w1 ⟨rfl, hc1, hb1⟩
  have HC1 := Lib.hid (And.intro hc1 hb1)
  clear hc1 hb1 c0
  gi_wp2_with fail
  refine ⟨trivial, (callsIn_wide.2 (some_c _ _)).mono ?_⟩
  rintro e w2 ⟨rfl, rfl⟩
  gi_wp2_with fail
  have hBz := ((Below.refl w1.heap.size w1).alloc (Nat.le_refl _) (.cells #[.pointer (some ⟨w.heap.size + 1, 0, none⟩)] 42)).alloc (by simp) (.cells #[.pointer (some ⟨rb, 0, none⟩)] 42)
  have hb3 := HC1.out.2.trans (hBz.mono HC1.out.2.size)
  have hc3 := HC1.out.1.low hBz
  have hm3 := HH.out.low hb3
  have hcb : ((w1.alloc (.cells #[.pointer (some ⟨w.heap.size + 1, 0, none⟩)] 42)).alloc (.cells #[.pointer (some ⟨rb, 0, none⟩)] 42)).cell? ⟨w1.heap.size, 0, none⟩ = some (.pointer (some ⟨w.heap.size + 1, 0, none⟩)) :=
    (((CsAt.new w1 42 #[.pointer (some ⟨w.heap.size + 1, 0, none⟩)]).alloc (.cells #[.pointer (some ⟨rb, 0, none⟩)] 42)).cell 0)
  have hbb : ((w1.alloc (.cells #[.pointer (some ⟨w.heap.size + 1, 0, none⟩)] 42)).alloc (.cells #[.pointer (some ⟨rb, 0, none⟩)] 42)).cell? ⟨w1.heap.size + 1, 0, none⟩ = some (.pointer (some ⟨rb, 0, none⟩)) := by
    simp
  have hsz : ((w1.alloc (.cells #[.pointer (some ⟨w.heap.size + 1, 0, none⟩)] 42)).alloc (.cells #[.pointer (some ⟨rb, 0, none⟩)] 42)).heap.size = w1.heap.size + 2 := by simp
  generalize (w1.alloc (.cells #[.pointer (some ⟨w.heap.size + 1, 0, none⟩)] 42)).alloc (.cells #[.pointer (some ⟨rb, 0, none⟩)] 42) = w3 at *
  have hlt1 := HC1.out.1.lt
  have hlt2 := HH.out.lt
  have hlt3 := HH.out.mlt
  have hCB : CloneB w w3.heap.size w1.heap.size (w.heap.size + 1) w.heap.size rb mb := ⟨Nat.le_refl _, by omega, by omega, by omega, by omega, hlt2, hlt3, by omega, by omega⟩
  refine wpIn_rangeFunc_ownH rfl h1 (gf := 134) (lb := #[.pointer (some ⟨w1.heap.size + 1, 0, none⟩)]) rfl trivial (enters_of Tryz.func134 (by kernel_rfl) rfl)
    (some1_stops w.heap.size w3.heap.size (w1.heap.size + 1) rb mb n B (m - 1) (by omega) w3 hbb hm3 (Nat.le_refl _) (by omega) (by omega) (by omega) (by omega) (by omega) (by omega)) Keep.trans (keep_b (Nat.le_refl _)) (Below.refl _ _) (fun _ => rfl)
    (fun pre W => CloneAt w W w3.heap.size w1.heap.size (w.heap.size + 1) w.heap.size rb mb n B pre)
    (fun _ _ _ => False)
    (CloneAt.own hCB) (fun _ _ _ _ _ hs _ _ => hs)
    ⟨hc3, hm3, hcb, hb3, Nat.le_refl _⟩
    (fun x a' W => ∃ Bx, w3.heap.size ≤ Bx ∧ RowAt .u8 W Bx 90 (Rm.row B x.1) ∧ a' = { tmps := #[.pointer (some ⟨rb, 0, none⟩), undef, .pointer none, .pointer (some ⟨w1.heap.size, 0, none⟩), .int .i64 (x.1 : Int), .pointer (some ⟨Bx, 0, none⟩), .pointer (some ⟨rb, 0, none⟩), .bool false, .pointer (some ⟨rb, 0, none⟩), .pointer (some ⟨rb, 0, none⟩), .pointer (some ⟨rb, 0, none⟩), .int .i64 (n : Int), .pointer (some ⟨w.heap.size + 1, 0, none⟩), .pointer (some ⟨rb, 0, none⟩), .func (.func 134) #[] #[.pointer (some ⟨w1.heap.size + 1, 0, none⟩)], .int .i64 (x.1 : Int), .agg (aV .u8 (Rm.row B x.1)), undef, undef, undef, undef, undef], defers := [] })
    (fun x a' => by
      rintro - W W' row ⟨Bx, hBx, hR, ha⟩ hg hr
      exact ⟨Bx, hBx, rowAt_own hR hg hr, ha⟩) ?assign ?body ?done ?stop
  case assign =>
    rintro l pre x W K hI hK
    have HL := Lib.hid (Rm.row_is hI.m.ok x.1).1
    gi_wp2_with (refine wpListIn_unit _ (by rfl) (by rfl) (fun _ h => by cases h) (exec_storeNew 90 _ _ rfl _ _ _ rfl rfl (iL HL.out) (zeros_size HL.out) (aV_one _ _)) ?_)
    have hbx := (Below.refl W.heap.size W).alloc (Nat.le_refl _) (.cells (aV .u8 (Rm.row B x.1)) 90)
    exact hK _ _ ((KeepsOthers.alloc _ _).from _) (Keep.of_below hbx hI.size) (CloneAt.own hCB pre W _ none hI (World.grownBy_alloc W _ none) (fun r e => by cases e)) ⟨W.heap.size, hI.size, RowAt.new _ _ _ _, rfl⟩
  case body =>
    rintro l pre x a' W hl ⟨r, hr⟩ hI ⟨Bx, hBx, hRow, rfl⟩ hlen
    have HL := Lib.hid (Rm.row_is hI.m.ok x.1)
    have HRo := Lib.hid hRow
    have HI := Lib.hid hI
    have cb := hI.b
    clear hI hRow hr
    gi_wp2_with (refine wpListIn_val _ _ (by rfl) (by rfl) (fun _ h => by cases h) (exec_load_row 90 _ rfl _ rfl _ _ _ HRo.out Tryz.underlying90 rfl (iL HL.out.1)) ?_)
    refine ⟨trivial, fun _ => by omega, ?_⟩
    refine (CallsIn.inRound l (callsIn_wide.2 (setLine_c HI.out.c x.1 x.2.1 HL.out))).mono ?_
    rintro e W' ⟨rfl, hs, ho⟩
    have HS := Lib.hid (And.intro hs ho)
    clear hs ho cb
    gi_wp2_with fail
    have ho := HS.out.2
    have hsz := HI.out.size
    refine ⟨⟨ho.size, fun k o hk h0 _ => (ho.block k (Array.getElem?_eq_some_iff.1 h0).1 (by omega)).trans h0⟩, Keep.of_only ho hsz, ?_, HI.out.m.only ho (by omega) (by omega), (ho.cell (p := ⟨w1.heap.size, 0, none⟩) (by show w1.heap.size < W.heap.size; omega) (by show w1.heap.size ≠ w.heap.size; omega)).trans HI.out.b, HI.out.bel.trans (ho.below (Nat.le_refl _) HI.out.bel.size), Nat.le_trans hsz ho.size⟩
    rw [rmPart_snoc]
    exact HS.out.1
  case done =>
    rintro D xs W hD rfl hI hK
    have HI := Lib.hid hI
    have cb := hI.b
    clear hI
    gi_wp2_with fail
    refine ⟨by simp, .inl ⟨_, _, rfl, run_takeDeferred hK, ?_⟩⟩
    have hkp := keep_b (b := w3.heap.size) (N := w3.heap.size) (w := w3) (Nat.le_refl _) W D _ (.deferred none) hD hK rfl rfl
    have hfin := HI.out.c.keep hkp (by omega) (by omega) (by omega) (by omega)
    rw [rmPart_all HI.out.m.ok] at hfin
    exact ⟨_, results_tmp rfl _ _ _, rfl, hfin, HI.out.bel.trans (belowK_b (n₀ := w.heap.size) (w := w3) (by omega) W D _ _ hD hK rfl rfl)⟩
  case stop =>
    rintro D c pre W _ _ h _
    exact h.elim
theorem clone_c {w : World} {rb mb n : Nat} {B : List Int} (h : RamAt w rb mb n B) :
    Calls Tryz.prog 49 #[.pointer (some ⟨rb, 0, none⟩)] w fun e w' => e = .returned (.pointer (some ⟨w.heap.size + 1, 0, none⟩)) ∧ RamAt w' (w.heap.size + 1) w.heap.size n B ∧ Below w.heap.size w w' :=
  (callsIn_wide (n := 3)).1 (clone_in 3 (by decide) h)
end Go.Proofs.YtabackklpemhpaaGreat
set_option maxRecDepth 20000
namespace Go.Proofs.YtabackklpemhpaaGreat
open Go.ChangeShapes Go.WideShapes Go.ChangeAt Go.RowKit

theorem open_arr {H : Type} {enc : TypeId × Value → H} {w : World} {r : Reach} {b0 base n : Nat} {spare : Nat → Bool} {held : Bool} {t e : TypeId} {k : IntKind} {v : Value} {d : DataW H} {ps : List MemPlace}
    (ht : Tryz.prog.underlying t = some (.array n e)) (he : Tryz.prog.underlying e = some (.int k)) (hct : Tryz.prog.cellsOf t = n) (hce : Tryz.prog.cellsOf e = 1)
    (hval : Value.okWide Tryz.prog w r b0 t v) (hd : DataW.Trod enc Tryz.prog w base spare held t v d ps) :
    ∃ ws : List Int, v = .agg (aV k ws) ∧ ws.length = n ∧ ∀ x ∈ ws, (Lit.int k x).wf = true := by
  simp only [Value.okWide, ht] at hval
  obtain ⟨cs, rfl, hsz, _⟩ := hval
  obtain ⟨fuel, hf⟩ := hd
  obtain ⟨xs, m, rfl, _, hl, hxl, hall⟩ := DataW.trod_array ht hf
  rw [hct] at hsz
  have key : ∀ i, i < n → ∃ a : Int, cs.toList[i]? = some (.int k a) ∧ (Lit.int k a).wf = true := by
    intro i hi
    have h0 := hall i (by omega)
    rw [hce] at h0
    obtain ⟨x0, hx0⟩ : ∃ x, xs[i]? = some x := ⟨xs[i]'(by omega), List.getElem?_eq_getElem _⟩
    rw [hx0] at h0
    obtain ⟨a, ha, _, hwa⟩ := DataW.trod_int he h0
    refine ⟨a, ?_, hwa⟩
    have h1 : ((cs.toList.drop (i * 1)).take 1)[0]? = some (.int k a) := by
      have : (Value.agg cs).cells = cs := rfl
      rw [this] at ha
      rw [ha]; rfl
    simpa using h1
  obtain ⟨f, hf⟩ := Go.Deep.choose_lt key
  refine ⟨(List.range n).map f, ?_, by simp, ?_⟩
  · congr 1
    apply Array.ext_getElem?
    intro i
    rw [aV_get]
    by_cases hi : i < n
    · have := (hf i hi).1
      simp [hi] at this ⊢
      exact this
    · simp [hi]; omega
  · intro x hx
    simp at hx
    obtain ⟨a, ha, rfl⟩ := hx
    exact (hf a ha).2
theorem add_plainL (b off j : Nat) : (⟨b, off, none⟩ : Addr).add j = ⟨b, off + j, none⟩ := by unfold Addr.add; split <;> simp_all
theorem open_bytes {H : Type} {enc : TypeId × Value → H} {w : World} {r : Reach} {b0 base : Nat} {spare : Nat → Bool} {held : Bool} {v : Value} {d : DataW H} {ps : List MemPlace}
    (hval : Value.okWide Tryz.prog w r b0 57 v) (hd : DataW.Trod enc Tryz.prog w base spare held 57 v d ps) : ∃ p n cap bs, v = .slice p n cap ∧ List.length bs = n ∧ n ≤ 9223372036854775807 ∧ SlAt w p bs := by
  obtain ⟨ao, n, cap, rfl⟩ := okWide_slice Tryz.underlying57 hval
  obtain ⟨fuel, hf⟩ := hd
  rcases open_ints Tryz.underlying57 Tryz.underlying5 (by kernel_rfl) hf with ⟨hcs, _⟩ | ⟨a, len, cap', zs, hcs, hb, hl, hm, hz, -, hc, hw⟩
  · simp [Value.cells] at hcs
    obtain ⟨rfl, rfl, rfl⟩ := hcs
    exact ⟨_, _, _, [], rfl, rfl, by omega, fun X hX => absurd hX (by simp), .inl rfl⟩
  · simp [Value.cells] at hcs
    obtain ⟨rfl, rfl, rfl⟩ := hcs
    have hzn : n ≤ zs.length := by rw [hz]; split <;> omega
    refine ⟨_, _, _, zs.take n, rfl, by simp; omega, by unfold maxLen at hm; omega, fun x hx => bounds_u8 (hw x (List.mem_of_mem_take hx)), ?_⟩
    by_cases hn0 : n = 0
    · exact .inl (by subst hn0; simp)
    · have hsp : a.spot = none := by
        have := World.cell?_spot (hc 0 (by omega))
        simpa [Addr.add] using this
      obtain ⟨b, off, sp⟩ := a
      simp only at hsp
      subst hsp
      refine .inr ⟨b, off, rfl, ?_, fun j hj => ?_⟩
      · have h0 := hc 0 (by omega)
        rw [add_plainL] at h0
        exact block_lt_of_cell h0
      · have hj' : j < n := by simp at hj; omega
        have hjz : j < zs.length := by omega
        have h1 := hc j hjz
        rw [add_plainL] at h1
        rw [h1]
        simp [List.getD, hj', hjz]
end Go.Proofs.YtabackklpemhpaaGreat
set_option maxRecDepth 20000
namespace Go.Proofs.YtabackklpemhpaaGreat
open Go.ChangeShapes Go.WideShapes Go.ChangeAt Go.RowKit Wd

theorem info_u8 : (Tryz.prog.info? 5).map (fun i => (i.zero, i.size, i.bytes)) = some (some (.int .u8 0), 1, 1) := by kernel_rfl
theorem parts_u8 : ∃ i, Tryz.prog.info? 5 = some i ∧ i.zero = some (.int .u8 0) ∧ i.size = 1 ∧ i.bytes = 1 := by
  obtain ⟨i, hi, hz⟩ := Option.map_eq_some_iff.1 info_u8
  simp only [Prod.mk.injEq] at hz
  exact ⟨i, hi, hz.1, hz.2.1, hz.2.2⟩
theorem nought_cells (n : Nat) : (madeCells (Value.int .u8 0).cells (64 * n * 1)).toList = (Rm.nought n).map (Value.int .u8) := by
  refine List.ext_getElem (by simp [madeCells, Rm.nought]) fun k h1 h2 => ?_
  simp [madeCells, Value.cells, Rm.nought, Nat.mod_one]
set_option maxHeartbeats 1000000 in
theorem rnew_c (n : Nat) (h1 : 1 ≤ n) (h2 : n ≤ 4096) (w : World) :
    Calls Tryz.prog 52 #[.int .i64 (n : Int)] w fun e w' => ∃ g cap, e = .returned (mV g n cap) ∧ w.heap.size ≤ g ∧ RefAt w' g 5 n (Rm.nought n) ∧ Below w.heap.size w w' := by
  obtain ⟨i0, hi, hz0, hz1, hz2⟩ := parts_u8
  have hB := (Below.refl w.heap.size w).alloc (Nat.le_refl _) (.cells #[.slice none 0 0] 59)
  have HC := Lib.hid (CsAt.new w 59 #[.slice none 0 0])
  have HB := Lib.hid hB
  clear hB
  have hw1 : IntKind.i64.wrap (64 * (n : Int)) = 64 * (n : Int) := by rw [IntKind.wrap_i64]; omega
  go_enter Tryz.func52, Tryz.ntmps52
  go_upto_region 1 with (fail)
  generalize w.alloc (.cells #[.slice none 0 0] 59) = w1 at *
  have hs1 := HB.out.size
  go_wp2_with (refine wpList_make_full _ rfl _ _ 57 rfl w.heap.size 5 i0 (.int .u8 0) 1 Tryz.underlying57 hi hz0 hz1 .i64 .i64 (64 * (n : Int)) (64 * (n : Int)) (64 * n) rfl rfl (by omega) (by omega) (by rw [hz2]; omega) (by unfold maxLen; omega) (by omega) ?_; intro w3 hown hgrow; have HO3 := Lib.hid hown; have HG3 := Lib.hid hgrow; have HC3 := Lib.hid (show CsAt w3 w.heap.size 59 #[.slice none 0 0] from (hgrow.block _ HC.out.lt (by simp)).trans HC.out); have c3 := HC3.out.cell 0; have f3 := HC3.out.frozen 0; clear hown hgrow)
  obtain ⟨g, cap, hv, hg, hR⟩ := RefAt.of_own HO3.out (nought_cells n) (Rm.nought_ok n) h1 h2
  have hlt := HC.out.lt
  obtain ⟨rfl, rfl⟩ : g = w1.heap.size ∧ cap = 64 * n := by simpa [eq_comm] using hv
  refine bodyPost_ret (results_cell_row Tryz.results52 _ _ _ _ _ _ _ rfl (CsAt.setc HC3.out 0 _) Tryz.underlying59 rfl (by kernel_rfl)) rfl ⟨_, _, rfl, hg, ?_, ?_⟩
  · exact hR.only ((Only.refl w.heap.size w3).setCell 0 _) (by omega)
  · exact (below_grown HB.out HG3.out hs1 (fun r h => by cases h)).setCell (by simp) _
end Go.Proofs.YtabackklpemhpaaGreat
