/-
  Contracts of csrfile.File.lay, count, Set, of the functions that are handed to reach there, and of New.
-/
import Derived.Test.YtfjdalepaacmgaaDoorCfB
import Derived.Test.YtfjdalepaacmgaaDoorSteady
import Derived.StillTailTactics
set_option maxRecDepth 20000
namespace Go.Proofs.YtfjdalepaacmgaaDoor
open Go.ChangeShapes Go.WideShapes Go.ChangeAt Go.RowKit Wd Csr Sta Cf

/-- A file has become another one; no other block has changed. -/
structure FQ (g : Nat) (s : S) (w w' : World) : Prop where
  fl : FlAt w' g s
  chg : Chg (one g) w w'
theorem FlAt.keep {w w' : World} {g : Nat} {s : S} (h : FlAt w g s) (hb : Below w.heap.size w w') : FQ g s w w' := ⟨h.low hb, Chg.of_below hb⟩
theorem FQ.then {w w1 w2 : World} {g : Nat} {s t : S} (h : FQ g s w w1) (k : FQ g t w1 w2) : FQ g t w w2 := ⟨k.fl, h.chg.trans k.chg⟩
theorem FQ.after {w w1 w2 : World} {g : Nat} {s : S} (h : Below w.heap.size w w1) (k : FQ g s w1 w2) : FQ g s w w2 := ⟨k.fl, (Chg.of_below h).trans k.chg⟩
theorem FQ.low {w w1 w2 : World} {g : Nat} {s : S} (h : FQ g s w w1) (hb : Below w1.heap.size w1 w2) : FQ g s w w2 := ⟨h.fl.low hb, h.chg.trans (Chg.of_below hb)⟩
theorem FlAt.store {w W : World} {g : Nat} {s : S} (h : FlAt W g s) (hw : Below w.heap.size w W) {n : Int} {i : Nat} (hi : idxK n = some i) {v : Int} (hv : W64 v) : FQ g (s.put n v) w (W.setCell ⟨g, 1 + i, none⟩ (.int .u64 v)) :=
  ⟨h.put hi hv, (Chg.of_below hw).trans (Chg.of_cell (S := one g) rfl _ _)⟩
theorem FlAt.fz {w : World} {g : Nat} {s : S} (h : FlAt w g s) (i : Nat) : w.frozen? ⟨g, i, none⟩ = false := h.r.frozen i
set_option maxHeartbeats 2000000 in
theorem flay1_c (g i pb pv : Nat) (n : Int) (hi : idxK n = some i) (s : S) (b v : Int) (hb : W64 b) (hv : W64 v) (w : World) (h : FlAt w g s) (cb : w.cell? ⟨pb, 0, none⟩ = some (.int .u64 b)) (cv : w.cell? ⟨pv, 0, none⟩ = some (.int .u64 v)) :
    Calls Tryd.prog 92 #[.pointer (some ⟨g, 1 + i, none⟩), .pointer (some ⟨pb, 0, none⟩), .pointer (some ⟨pv, 0, none⟩)] w fun e w' => e = .returned (.tuple #[]) ∧ FQ g (s.put n (nextS b (s.f n) v)) w w' := by
  have c0 := h.w hi
  have y0 := h.fz (1 + i)
  have HX := Lib.hid (next_or hb (h.ok.w n) hv)
  have HS := Lib.hid (h.drew.store (w := w) (Below.drew (Below.refl _ _)) hi (v := nextS b (s.f n) v) (nextS_range _ _ _))
  clear h hb hv hi
  generalize s.put n (nextS b (s.f n) v) = t at *
  generalize nextS b (s.f n) v = z at *
  generalize s.f n = x at *
  go_enter Tryd.func92, Tryd.ntmps92
  have hWd : w.drew = w.drew := rfl
  refine wp_region_steady_tail (fun W => W = w.drew) 11 (by kernel_rfl) (by kernel_rfl) hWd ?_
  iterate 11
    refine steady_val ?_ ?_ (by rfl) (fun W hS => ?_) ?_ ?_
    rotate_left 2
    · subst hS
      go_simp
      exact rfl
    · go_simp
      exact rfl
  refine steady_nil ?_
  rintro W rfl
  simp only [List.drop_succ_cons, List.drop_zero]
  have c0 : w.drew.cell? ⟨g, 1 + i, none⟩ = some (.int .u64 x) := c0
  have y0 : w.drew.frozen? ⟨g, 1 + i, none⟩ = false := y0
  go_wp2_with fail
  refine bodyPost_end (v := .tuple #[]) (by simp [results, Tryd.results92, go_sem]) rfl ⟨rfl, ?_⟩
  rw [HX.out]
  exact HS.out
set_option maxHeartbeats 2000000 in
theorem flay_c (g : Nat) (n : Int) (s : S) (b v : Int) (hb : W64 b) (hv : W64 v) (i : Nat) (hi : idxK n = some i) (w : World) (hK : KeptIn w) (h : FlAt w g s) :
    Calls Tryd.prog 68 #[.pointer (some ⟨g, 0, none⟩), .int .i64 n, .int .u64 b, .int .u64 v] w fun e w' => e = .returned (.tuple #[]) ∧ FQ g (s.put n (nextS b (s.f n) v)) w w' := by
  have hB : Below w.heap.size w ((w.alloc (.cells #[.int .u64 b] 24)).alloc (.cells #[.int .u64 v] 24)) := ((Below.refl _ _).alloc (Nat.le_refl _) _).alloc (by simp) _
  have h1 : CsAt ((w.alloc (.cells #[.int .u64 b] 24)).alloc (.cells #[.int .u64 v] 24)) w.heap.size 24 #[.int .u64 b] := (CsAt.new w 24 _).alloc _
  have h2 : CsAt ((w.alloc (.cells #[.int .u64 b] 24)).alloc (.cells #[.int .u64 v] 24)) (w.heap.size + 1) 24 #[.int .u64 v] := by
    have := CsAt.new (w.alloc (.cells #[.int .u64 b] 24)) 24 #[.int .u64 v]
    simpa using this
  have HB := Lib.hid hB
  have HR := Lib.hid (reach_yes 92 #[.pointer (some ⟨w.heap.size, 0, none⟩), .pointer (some ⟨w.heap.size + 1, 0, none⟩)] g n i hi _ (hK.low hB) _ (flay1_c g i w.heap.size (w.heap.size + 1) n hi s b v hb hv _ (h.low hB) (h1.cell 0) (h2.cell 0)) (Go.Proofs.enters_of Tryd.func92 (by kernel_rfl) rfl))
  clear hK h hi hB h1 h2 hb hv
  generalize s.put n (nextS b (s.f n) v) = t at *
  go_enter Tryd.func68, Tryd.ntmps68
  go_upto_region 1 with fail
  generalize ((w.alloc (.cells #[.int .u64 b] 24)).alloc (.cells #[.int .u64 v] 24)) = w1 at *
  go_wp2_with fail
  refine HR.out.mono ?_
  rintro e w2 ⟨rfl, hq⟩
  have HQ := Lib.hid (hq.after HB.out)
  clear hq
  go_wp2_with fail
  exact bodyPost_end (v := .tuple #[]) (by simp [results, Tryd.results68, go_sem]) rfl ⟨rfl, HQ.out⟩
set_option maxHeartbeats 2000000 in
theorem fcount1_c (g i : Nat) (n : Int) (hi : idxK n = some i) (s : S) (w : World) (h : FlAt w g s) :
    Calls Tryd.prog 91 #[.pointer (some ⟨g, 1 + i, none⟩)] w fun e w' => e = .returned (.tuple #[]) ∧ FQ g (s.put n (incr (s.f n))) w w' := by
  have c0 := h.w hi
  have y0 := h.fz (1 + i)
  have HS := Lib.hid (h.store (w := w) (Below.refl _ _) hi (v := incr (s.f n)) (wrap_range _))
  clear h hi
  unfold incr at *
  generalize s.f n = x at *
  go_enter Tryd.func91, Tryd.ntmps91
  go_wp2_with fail
  refine bodyPost_end (v := .tuple #[]) (by simp [results, Tryd.results91, go_sem]) rfl ⟨rfl, ?_⟩
  exact HS.out
set_option maxHeartbeats 2000000 in
theorem fcount_c (g : Nat) (n : Int) (s : S) (i : Nat) (hi : idxK n = some i) (w : World) (hK : KeptIn w) (h : FlAt w g s) :
    Calls Tryd.prog 64 #[.pointer (some ⟨g, 0, none⟩), .int .i64 n] w fun e w' => e = .returned (.tuple #[]) ∧ FQ g (s.put n (incr (s.f n))) w w' := by
  have HR := Lib.hid (reach_yes 91 #[] g n i hi w hK _ (fcount1_c g i n hi s w h) (Go.Proofs.enters_of Tryd.func91 (by kernel_rfl) rfl))
  clear hK h hi
  generalize s.put n (incr (s.f n)) = t at *
  go_enter Tryd.func64, Tryd.ntmps64
  go_wp2_with fail
  refine HR.out.mono ?_
  rintro e w2 ⟨rfl, hq⟩
  have HQ := Lib.hid hq
  clear hq
  go_wp2_with fail
  exact bodyPost_end (v := .tuple #[]) (by simp [results, Tryd.results64, go_sem]) rfl ⟨rfl, HQ.out⟩
/-- What stands while a function that is handed to reach reckons: the file, boxes with what it was made with, the table. -/
structure StS (w W : World) (g : Nat) (s : S) (vs : List (Nat × Value)) : Prop where
  fl : FlAt W g s
  v : ∀ (j : Nat) (p : Nat × Value), vs[j]? = some p → W.cell? ⟨p.1, 0, none⟩ = some p.2 ∧ p.1 < W.heap.size
  r : RowsIn W
  k : KeptIn W
  bel : Below w.heap.size w W
theorem StS.low {w W W' : World} {g : Nat} {s : S} {vs : List (Nat × Value)} (h : StS w W g s vs) (hb : Below W.heap.size W W') : StS w W' g s vs :=
  ⟨h.fl.low hb, fun j p hp => ⟨(hb.cell (p := ⟨p.1, 0, none⟩) (h.v j p hp).2).trans (h.v j p hp).1, Nat.lt_of_lt_of_le (h.v j p hp).2 hb.size⟩, h.r.low hb, h.k.low hb, h.bel.trans (hb.mono h.bel.size)⟩
theorem StS.drew {w W : World} {g : Nat} {s : S} {vs : List (Nat × Value)} (h : StS w W g s vs) : StS w W.drew g s vs := ⟨h.fl.drew, h.v, h.r, h.k, h.bel.drew⟩
set_option maxHeartbeats 2000000 in
theorem fset1_c (g i : Nat) (n : Int) (hi : idxK n = some i) (s : S) (pv : Nat) (v : Int) (hv : W64 v) (w : World) (hN : RowsIn w) (hK : KeptIn w) (h : FlAt w g s) (cv : w.cell? ⟨pv, 0, none⟩ = some (.int .u64 v)) :
    Calls Tryd.prog 66 #[.pointer (some ⟨g, 1 + i, none⟩), .pointer (some ⟨pv, 0, none⟩)] w fun e w' => e = .returned (.tuple #[]) ∧ FQ g (s.put n (legS 256 (s.f n) v)) w w' := by
  obtain ⟨vs, hvs⟩ : ∃ vs : List (Nat × Value), vs = [(pv, .int .u64 v)] := ⟨_, rfl⟩
  have HS := Lib.hid (show StS w w g s vs from ⟨h, fun j p hp => by
    subst hvs
    match j, hp with
    | 0, hp => cases hp; exact ⟨cv, World.block_lt_of_cell? _ _ cv⟩
    | j + 1, hp => simp at hp, hN, hK, Below.refl _ _⟩)
  have HC := Lib.hid (fun W (hW : RowsIn W) => lay_c (s.f n) v (h.ok.w n) hv W hW)
  have HX := Lib.hid (show W64 (legS 256 (s.f n) v) from legS_range (h.ok.w n))
  have HI := Lib.hid hi
  have y0 := h.fz (1 + i)
  clear hN hK h
  generalize hz : legS 256 (s.f n) v = z at *
  clear hz
  generalize hx : s.f n = x at *
  go_enter Tryd.func66, Tryd.ntmps66
  refine wp_region_steady_tail (fun W => StS w W g s vs) 7 (by kernel_rfl) (by kernel_rfl) HS.out.drew ?_
  iterate 3
    refine steady_val ?_ ?_ (by kernel_rfl) (fun W hS => ?_) ?_ ?_
    rotate_left 2
    · go_simp
      exact rfl
    · go_simp
      exact rfl
  refine steady_val ?_ ?_ (by kernel_rfl) (fun W hS => ?_) ?_ ?_
  rotate_left 2
  · have q := hS.fl.w hi; rw [hx] at q; go_simp
    exact rfl
  · go_simp
    exact rfl
  refine steady_val ?_ ?_ (by kernel_rfl) (fun W hS => ?_) ?_ ?_
  rotate_left 2
  · subst hvs; have q := (hS.v 0 _ rfl).1; go_simp
    exact rfl
  · go_simp
    exact rfl
  refine steady_enter (.int .u64 z) 67 #[.int .u64 x, .int .u64 v] ?_ (by kernel_rfl) (fun W hS => ?_) (fun W hS => (HC.out W hS.r).mono (by rintro e w' ⟨rfl, hb⟩; exact ⟨rfl, hS.low hb⟩)) ?_ ?_
  rotate_left 1
  · go_simp
  · go_simp
    exact rfl
  refine steady_val ?_ ?_ (by kernel_rfl) (fun W hS => ?_) ?_ ?_
  rotate_left 2
  · go_simp
    exact rfl
  · go_simp
    exact rfl
  refine steady_nil ?_
  intro W hS
  have hQ := hS.fl.store hS.bel hi HX.out
  have HQ := Lib.hid hQ
  have c0 := hS.fl.w hi
  have y0 := hS.fl.fz (1 + i)
  rw [hx] at c0
  clear hQ hS HS
  simp only [List.drop_succ_cons, List.drop_zero]
  go_wp2_with fail
  refine bodyPost_end (v := .tuple #[]) (by simp [results, Tryd.results66, go_sem]) rfl ⟨rfl, ?_⟩
  exact HQ.out
set_option maxHeartbeats 2000000 in
theorem fset2_c (g i : Nat) (n : Int) (hi : idxK n = some i) (s : S) (pn pv : Nat) (v : Int) (hv : W64 v) (w : World) (hN : RowsIn w) (hK : KeptIn w) (h : FlAt w g s) (cn : w.cell? ⟨pn, 0, none⟩ = some (.int .i64 n)) (cv : w.cell? ⟨pv, 0, none⟩ = some (.int .u64 v)) :
    Calls Tryd.prog 70 #[.pointer (some ⟨g, 1 + i, none⟩), .pointer (some ⟨pn, 0, none⟩), .pointer (some ⟨pv, 0, none⟩)] w fun e w' => e = .returned (.tuple #[]) ∧ FQ g (s.put n (legS n (s.f n) v)) w w' := by
  obtain ⟨vs, hvs⟩ : ∃ vs : List (Nat × Value), vs = [(pn, .int .i64 n), (pv, .int .u64 v)] := ⟨_, rfl⟩
  have HS := Lib.hid (show StS w w g s vs from ⟨h, fun j p hp => by
    subst hvs
    match j, hp with
    | 0, hp => cases hp; exact ⟨cn, World.block_lt_of_cell? _ _ cn⟩
    | 1, hp => cases hp; exact ⟨cv, World.block_lt_of_cell? _ _ cv⟩
    | j + 2, hp => simp at hp, hN, hK, Below.refl _ _⟩)
  have HC := Lib.hid (fun W (hW : RowsIn W) => clegal_c n (s.f n) v (h.ok.w n) hv W hW)
  have HX := Lib.hid (show W64 (legS n (s.f n) v) from legS_range (h.ok.w n))
  have HI := Lib.hid hi
  have y0 := h.fz (1 + i)
  clear hN hK h
  generalize hz : legS n (s.f n) v = z at *
  clear hz
  generalize hx : s.f n = x at *
  go_enter Tryd.func70, Tryd.ntmps70
  refine wp_region_steady_tail (fun W => StS w W g s vs) 8 (by kernel_rfl) (by kernel_rfl) HS.out.drew ?_
  refine steady_val ?_ ?_ (by kernel_rfl) (fun W hS => ?_) ?_ ?_
  rotate_left 2
  · go_simp
    exact rfl
  · go_simp
    exact rfl
  refine steady_val ?_ ?_ (by kernel_rfl) (fun W hS => ?_) ?_ ?_
  rotate_left 2
  · subst hvs; have q := (hS.v 0 _ rfl).1; go_simp
    exact rfl
  · go_simp
    exact rfl
  iterate 2
    refine steady_val ?_ ?_ (by kernel_rfl) (fun W hS => ?_) ?_ ?_
    rotate_left 2
    · go_simp
      exact rfl
    · go_simp
      exact rfl
  refine steady_val ?_ ?_ (by kernel_rfl) (fun W hS => ?_) ?_ ?_
  rotate_left 2
  · have q := hS.fl.w hi; rw [hx] at q; go_simp
    exact rfl
  · go_simp
    exact rfl
  refine steady_val ?_ ?_ (by kernel_rfl) (fun W hS => ?_) ?_ ?_
  rotate_left 2
  · subst hvs; have q := (hS.v 1 _ rfl).1; go_simp
    exact rfl
  · go_simp
    exact rfl
  refine steady_enter (.int .u64 z) 71 #[.int .i64 n, .int .u64 x, .int .u64 v] ?_ (by kernel_rfl) (fun W hS => ?_) (fun W hS => (HC.out W hS.r).mono (by rintro e w' ⟨rfl, hb⟩; exact ⟨rfl, hS.low hb⟩)) ?_ ?_
  rotate_left 1
  · go_simp
  · go_simp
    exact rfl
  refine steady_val ?_ ?_ (by kernel_rfl) (fun W hS => ?_) ?_ ?_
  rotate_left 2
  · go_simp
    exact rfl
  · go_simp
    exact rfl
  refine steady_nil ?_
  intro W hS
  have hQ := hS.fl.store hS.bel hi HX.out
  have HQ := Lib.hid hQ
  have c0 := hS.fl.w hi
  have y0 := hS.fl.fz (1 + i)
  rw [hx] at c0
  clear hQ hS HS
  simp only [List.drop_succ_cons, List.drop_zero]
  go_wp2_with fail
  refine bodyPost_end (v := .tuple #[]) (by simp [results, Tryd.results70, go_sem]) rfl ⟨rfl, ?_⟩
  exact HQ.out
theorem FlAt.flags {W : World} {g : Nat} {t : S} (h : FlAt W g t) (a b : Bool) : FlAt ((W.setCell ⟨g, 23, none⟩ (.bool a)).setCell ⟨g, 24, none⟩ (.bool b)) g { t with cw := a, iw := b } := by
  have h1 : CsAt (W.setCell ⟨g, 23, none⟩ (.bool a)) g FlT (fileV { t with cw := a }) := by
    unfold CsAt
    rw [heap_setCell_same W g 23 _ FlT _ h.r, fileV_cwput]
  refine ⟨?_, ⟨h.ok.h, h.ok.w, h.ok.z⟩⟩
  unfold CsAt
  rw [heap_setCell_same _ g 24 _ FlT _ h1, fileV_iwput]
theorem FQ.flags {w W : World} {g : Nat} {t : S} (h : FQ g t w W) (a b : Bool) : FQ g { t with cw := a, iw := b } w ((W.setCell ⟨g, 23, none⟩ (.bool a)).setCell ⟨g, 24, none⟩ (.bool b)) :=
  ⟨h.fl.flags a b, (h.chg.trans (Chg.of_cell (S := one g) rfl _ _)).trans (Chg.of_cell (S := one g) rfl _ _)⟩
theorem FlAt.c23 {W : World} {g : Nat} {t : S} (h : FlAt W g t) : W.cell? ⟨g, 23, none⟩ = some (.bool t.cw) := by rw [h.r.cell, fileV_cw]
theorem FlAt.c24 {W : World} {g : Nat} {t : S} (h : FlAt W g t) : W.cell? ⟨g, 24, none⟩ = some (.bool t.iw) := by rw [h.r.cell, fileV_iw]
set_option maxHeartbeats 4000000 in
theorem fset_c (g : Nat) (n v : Int) (s : S) (hv : W64 v) (w : World) (hN : RowsIn w) (hK : KeptIn w) (h : FlAt w g s) :
    Calls Tryd.prog 38 #[.pointer (some ⟨g, 0, none⟩), .int .i64 n, .int .u64 v] w fun e w' => e = .returned (.tuple #[]) ∧ FQ g (setS s n v) w w' := by
  have hB : Below w.heap.size w ((w.alloc (.cells #[.int .i64 n] 3)).alloc (.cells #[.int .u64 v] 24)) := ((Below.refl _ _).alloc (Nat.le_refl _) _).alloc (by simp) _
  have h1 : CsAt ((w.alloc (.cells #[.int .i64 n] 3)).alloc (.cells #[.int .u64 v] 24)) w.heap.size 3 #[.int .i64 n] := (CsAt.new w 3 _).alloc _
  have h2 : CsAt ((w.alloc (.cells #[.int .i64 n] 3)).alloc (.cells #[.int .u64 v] 24)) (w.heap.size + 1) 24 #[.int .u64 v] := by
    have := CsAt.new (w.alloc (.cells #[.int .i64 n] 3)) 24 #[.int .u64 v]
    simpa using this
  have HB := Lib.hid hB
  have HLT := Lib.hid h.r.lt
  have HCN := Lib.hid (h1.cell 0)
  simp only [List.getElem?_toArray, List.getElem?_cons_zero] at HCN
  have HF1 := Lib.hid (h.low hB)
  have HN1 := Lib.hid (hN.low hB)
  have HK1 := Lib.hid (hK.low hB)
  have HV1 := Lib.hid (h2.cell 0)
  simp only [List.getElem?_toArray, List.getElem?_cons_zero] at HV1
  have HL2 := Lib.hid h2.lt
  have HVV := Lib.hid hv
  clear hN hK h hB h1 h2
  obtain ⟨a, hcw⟩ : ∃ a, s.cw = a := ⟨_, rfl⟩
  obtain ⟨b, hiw⟩ : ∃ b, s.iw = b := ⟨_, rfl⟩
  have HU := Lib.hid (show setS s n v = { setW s n v with cw := a || n == 2816, iw := b || n == 2818 } by unfold setS; rw [hcw, hiw])
  by_cases hn : n = 256
  · skip
    subst hn
    have HW := Lib.hid (show setW s 256 v = s.put 768 (legS 256 (s.f 768) v) from rfl)
    rw [HU.out, HW.out]
    have e16 : ((256 : Int) == 2816) = false := by decide
    have e18 : ((256 : Int) == 2818) = false := by decide
    clear HU HW
    have HR := Lib.hid (reach_yes 66 #[.pointer (some ⟨w.heap.size + 1, 0, none⟩)] g 768 7 (by decide) _ HK1.out _ (fset1_c g 7 768 (by decide) s (w.heap.size + 1) v HVV.out _ HN1.out HK1.out HF1.out HV1.out) (Go.Proofs.enters_of Tryd.func66 (by kernel_rfl) rfl))
    go_enter Tryd.func38, Tryd.ntmps38
    go_upto_region 1 with fail
    generalize ((w.alloc (.cells #[.int .i64 256] 3)).alloc (.cells #[.int .u64 v] 24)) = w1 at *
    have cn1 := HCN.out
    go_wp2_with fail
    refine HR.out.mono ?_
    rintro e w2 ⟨rfl, hq⟩
    have HQ := Lib.hid hq
    clear hq cn1
    have HFL := Lib.hid (fun a b => HQ.out.flags a b)
    have c23 : w2.cell? ⟨g, 23, none⟩ = some (.bool s.cw) := HQ.out.fl.c23
    have c24 : w2.cell? ⟨g, 24, none⟩ = some (.bool s.iw) := HQ.out.fl.c24
    have y23 := HQ.out.fl.fz 23
    have y24 := HQ.out.fl.fz 24
    have cn2 := HQ.out.chg.cell HCN.out (fun (e : w.heap.size = g) => by have := HLT.out; omega)
    clear HQ
    rw [hcw] at c23
    rw [hiw] at c24
    cases a <;> cases b
    all_goals
      go_wp2_with fail
      exact bodyPost_end (v := .tuple #[]) (by simp [results, Tryd.results38, go_sem]) rfl ⟨rfl, by first | exact FQ.after HB.out (HFL.out _ _) | (rw [← hm1]; exact FQ.after HB.out (HFL.out _ _)) | (rw [← hm2]; exact FQ.after HB.out (HFL.out _ _)) | (rw [← hm1, ← hm2]; exact FQ.after HB.out (HFL.out _ _))⟩
  · have e256 : (n == 256) = false := by simpa using hn
    by_cases hn' : n = 260
    · have hn := hn'
      subst hn
      have HW := Lib.hid (show setW s 260 v = s.put 772 (nextS (s.f 771) (s.f 772) v) from rfl)
      rw [HU.out, HW.out]
      have e16 : ((260 : Int) == 2816) = false := by decide
      have e18 : ((260 : Int) == 2818) = false := by decide
      clear HU HW
      go_enter Tryd.func38, Tryd.ntmps38
      go_upto_region 1 with fail
      generalize ((w.alloc (.cells #[.int .i64 260] 3)).alloc (.cells #[.int .u64 v] 24)) = w1 at *
      have cn1 := HCN.out
      go_upto_region 7 with fail
      have HS := Lib.hid (show StS w1 w1 g s [(w.heap.size + 1, .int .u64 v)] from ⟨HF1.out, fun j p hp => by
          match j, hp with
          | 0, hp => cases hp; exact ⟨HV1.out, HL2.out⟩
          | j + 1, hp => simp at hp, HN1.out, HK1.out, Below.refl _ _⟩)
      refine wp_region_steady_tail (fun W => StS w1 W g s [(w.heap.size + 1, .int .u64 v)]) 4 (by kernel_rfl) (by kernel_rfl) HS.out.drew ?_
      iterate 2
        refine steady_val ?_ ?_ (by kernel_rfl) (fun W hS => ?_) ?_ ?_
        rotate_left 2
        · go_simp
          exact rfl
        · go_simp
          exact rfl
      refine steady_enter (.int .u64 (s.f 771)) 69 #[.pointer (some ⟨g, 0, none⟩), .int .i64 771] ?_ (by kernel_rfl) (fun W hS => ?_) (fun W hS => (fword_c g 771 s W hS.k hS.fl).mono (by rintro e w' ⟨rfl, hb⟩; exact ⟨rfl, hS.low hb⟩)) ?_ ?_
      rotate_left 1
      · go_simp
      · go_simp
        exact rfl
      refine steady_val ?_ ?_ (by kernel_rfl) (fun W hS => ?_) ?_ ?_
      rotate_left 2
      · have q := (hS.v 0 _ rfl).1; go_simp
        exact rfl
      · go_simp
        exact rfl
      refine steady_nil ?_
      intro W hS
      have HR := Lib.hid (flay_c g 772 s (s.f 771) v (HF1.out.ok.w _) HVV.out 10 (by decide) W hS.k hS.fl)
      have HBW := Lib.hid hS.bel
      clear hS HS cn1
      simp only [List.drop_succ_cons, List.drop_zero]
      go_wp2_with fail
      refine HR.out.mono ?_
      rintro e w2 ⟨rfl, hq⟩
      have HQ := Lib.hid (hq.after HBW.out)
      clear hq HR
      have HFL := Lib.hid (fun a b => HQ.out.flags a b)
      have c23 : w2.cell? ⟨g, 23, none⟩ = some (.bool s.cw) := HQ.out.fl.c23
      have c24 : w2.cell? ⟨g, 24, none⟩ = some (.bool s.iw) := HQ.out.fl.c24
      have y23 := HQ.out.fl.fz 23
      have y24 := HQ.out.fl.fz 24
      have cn2 := HQ.out.chg.cell HCN.out (fun (e : w.heap.size = g) => by have := HLT.out; omega)
      clear HQ
      rw [hcw] at c23
      rw [hiw] at c24
      cases a <;> cases b
      all_goals
        go_wp2_with fail
        exact bodyPost_end (v := .tuple #[]) (by simp [results, Tryd.results38, go_sem]) rfl ⟨rfl, by first | exact FQ.after HB.out (HFL.out _ _) | (rw [← hm1]; exact FQ.after HB.out (HFL.out _ _)) | (rw [← hm2]; exact FQ.after HB.out (HFL.out _ _)) | (rw [← hm1, ← hm2]; exact FQ.after HB.out (HFL.out _ _))⟩
    · have e260 : (n == 260) = false := by simpa using hn'
      by_cases hn2 : n = 324
      · have hn := hn2
        subst hn
        have HW := Lib.hid (show setW s 324 v = s.put 836 (nextS (bits .and .u64 (s.f 771) 2) (s.f 836) v) from rfl)
        rw [HU.out, HW.out]
        have e16 : ((324 : Int) == 2816) = false := by decide
        have e18 : ((324 : Int) == 2818) = false := by decide
        clear HU HW
        go_enter Tryd.func38, Tryd.ntmps38
        go_upto_region 1 with fail
        generalize ((w.alloc (.cells #[.int .i64 324] 3)).alloc (.cells #[.int .u64 v] 24)) = w1 at *
        have cn1 := HCN.out
        go_upto_region 9 with fail
        have HS := Lib.hid (show StS w1 w1 g s [(w.heap.size + 1, .int .u64 v)] from ⟨HF1.out, fun j p hp => by
            match j, hp with
            | 0, hp => cases hp; exact ⟨HV1.out, HL2.out⟩
            | j + 1, hp => simp at hp, HN1.out, HK1.out, Below.refl _ _⟩)
        refine wp_region_steady_tail (fun W => StS w1 W g s [(w.heap.size + 1, .int .u64 v)]) 5 (by kernel_rfl) (by kernel_rfl) HS.out.drew ?_
        iterate 2
          refine steady_val ?_ ?_ (by kernel_rfl) (fun W hS => ?_) ?_ ?_
          rotate_left 2
          · go_simp
            exact rfl
          · go_simp
            exact rfl
        refine steady_enter (.int .u64 (s.f 771)) 69 #[.pointer (some ⟨g, 0, none⟩), .int .i64 771] ?_ (by kernel_rfl) (fun W hS => ?_) (fun W hS => (fword_c g 771 s W hS.k hS.fl).mono (by rintro e w' ⟨rfl, hb⟩; exact ⟨rfl, hS.low hb⟩)) ?_ ?_
        rotate_left 1
        · go_simp
        · go_simp
          exact rfl
        refine steady_val ?_ ?_ (by kernel_rfl) (fun W hS => ?_) ?_ ?_
        rotate_left 2
        · go_simp
          exact rfl
        · go_simp
          exact rfl
        refine steady_val ?_ ?_ (by kernel_rfl) (fun W hS => ?_) ?_ ?_
        rotate_left 2
        · have q := (hS.v 0 _ rfl).1; go_simp
          exact rfl
        · go_simp
          exact rfl
        refine steady_nil ?_
        intro W hS
        have HR := Lib.hid (flay_c g 836 s (bits .and .u64 (s.f 771) 2) v (and_64 (HF1.out.ok.w _) ⟨by omega, by omega⟩) HVV.out 17 (by decide) W hS.k hS.fl)
        have HBW := Lib.hid hS.bel
        clear hS HS cn1
        simp only [List.drop_succ_cons, List.drop_zero]
        go_wp2_with fail
        refine HR.out.mono ?_
        rintro e w2 ⟨rfl, hq⟩
        have HQ := Lib.hid (hq.after HBW.out)
        clear hq HR
        have HFL := Lib.hid (fun a b => HQ.out.flags a b)
        have c23 : w2.cell? ⟨g, 23, none⟩ = some (.bool s.cw) := HQ.out.fl.c23
        have c24 : w2.cell? ⟨g, 24, none⟩ = some (.bool s.iw) := HQ.out.fl.c24
        have y23 := HQ.out.fl.fz 23
        have y24 := HQ.out.fl.fz 24
        have cn2 := HQ.out.chg.cell HCN.out (fun (e : w.heap.size = g) => by have := HLT.out; omega)
        clear HQ
        rw [hcw] at c23
        rw [hiw] at c24
        cases a <;> cases b
        all_goals
          go_wp2_with fail
          exact bodyPost_end (v := .tuple #[]) (by simp [results, Tryd.results38, go_sem]) rfl ⟨rfl, by first | exact FQ.after HB.out (HFL.out _ _) | (rw [← hm1]; exact FQ.after HB.out (HFL.out _ _)) | (rw [← hm2]; exact FQ.after HB.out (HFL.out _ _)) | (rw [← hm1, ← hm2]; exact FQ.after HB.out (HFL.out _ _))⟩
      · have e324 : (n == 324) = false := by simpa using hn2
        cases hi : idxK n with
        | none =>
          have HW := Lib.hid (show setW s n v = s by unfold setW; rw [if_neg hn, if_neg hn', if_neg hn2]; exact if_pos hi)
          rw [HU.out, HW.out]
          clear HU HW
          have HR := Lib.hid (reach_no 70 #[.pointer (some ⟨w.heap.size, 0, none⟩), .pointer (some ⟨w.heap.size + 1, 0, none⟩)] (.pointer (some ⟨g, 0, none⟩)) n hi _ HK1.out)
          obtain ⟨m1, hm1⟩ : ∃ m, (n == 2816) = m := ⟨_, rfl⟩
          obtain ⟨m2, hm2⟩ : ∃ m, (n == 2818) = m := ⟨_, rfl⟩
          go_enter Tryd.func38, Tryd.ntmps38
          go_upto_region 1 with fail
          generalize ((w.alloc (.cells #[.int .i64 n] 3)).alloc (.cells #[.int .u64 v] 24)) = w1 at *
          have cn1 := HCN.out
          go_wp2_with fail
          refine HR.out.mono ?_
          rintro e w2 ⟨rfl, rfl⟩
          have HQ := Lib.hid (HF1.out.keep (Below.refl _ _))
          clear cn1
          have HFL := Lib.hid (fun a b => HQ.out.flags a b)
          have c23 : w1.cell? ⟨g, 23, none⟩ = some (.bool s.cw) := HQ.out.fl.c23
          have c24 : w1.cell? ⟨g, 24, none⟩ = some (.bool s.iw) := HQ.out.fl.c24
          have y23 := HQ.out.fl.fz 23
          have y24 := HQ.out.fl.fz 24
          have cn2 := HQ.out.chg.cell HCN.out (fun (e : w.heap.size = g) => by have := HLT.out; omega)
          clear HQ
          rw [hcw] at c23
          rw [hiw] at c24
          cases a <;> cases b
          all_goals
            go_wp2_with fail
            exact bodyPost_end (v := .tuple #[]) (by simp [results, Tryd.results38, go_sem]) rfl ⟨rfl, by first | exact FQ.after HB.out (HFL.out _ _) | (rw [← hm1]; exact FQ.after HB.out (HFL.out _ _)) | (rw [← hm2]; exact FQ.after HB.out (HFL.out _ _)) | (rw [← hm1, ← hm2]; exact FQ.after HB.out (HFL.out _ _))⟩
        | some i =>
          have HW := Lib.hid (show setW s n v = s.put n (legS n (s.f n) v) by unfold setW; rw [if_neg hn, if_neg hn', if_neg hn2]; exact if_neg (by rw [hi]; simp))
          rw [HU.out, HW.out]
          clear HU HW
          have HR := Lib.hid (reach_yes 70 #[.pointer (some ⟨w.heap.size, 0, none⟩), .pointer (some ⟨w.heap.size + 1, 0, none⟩)] g n i hi _ HK1.out _ (fset2_c g i n hi s w.heap.size (w.heap.size + 1) v HVV.out _ HN1.out HK1.out HF1.out HCN.out HV1.out) (Go.Proofs.enters_of Tryd.func70 (by kernel_rfl) rfl))
          obtain ⟨m1, hm1⟩ : ∃ m, (n == 2816) = m := ⟨_, rfl⟩
          obtain ⟨m2, hm2⟩ : ∃ m, (n == 2818) = m := ⟨_, rfl⟩
          go_enter Tryd.func38, Tryd.ntmps38
          go_upto_region 1 with fail
          generalize ((w.alloc (.cells #[.int .i64 n] 3)).alloc (.cells #[.int .u64 v] 24)) = w1 at *
          have cn1 := HCN.out
          go_wp2_with fail
          refine HR.out.mono ?_
          rintro e w2 ⟨rfl, hq⟩
          have HQ := Lib.hid hq
          clear hq cn1
          have HFL := Lib.hid (fun a b => HQ.out.flags a b)
          have c23 : w2.cell? ⟨g, 23, none⟩ = some (.bool s.cw) := HQ.out.fl.c23
          have c24 : w2.cell? ⟨g, 24, none⟩ = some (.bool s.iw) := HQ.out.fl.c24
          have y23 := HQ.out.fl.fz 23
          have y24 := HQ.out.fl.fz 24
          have cn2 := HQ.out.chg.cell HCN.out (fun (e : w.heap.size = g) => by have := HLT.out; omega)
          clear HQ
          rw [hcw] at c23
          rw [hiw] at c24
          cases a <;> cases b
          all_goals
            go_wp2_with fail
            exact bodyPost_end (v := .tuple #[]) (by simp [results, Tryd.results38, go_sem]) rfl ⟨rfl, by first | exact FQ.after HB.out (HFL.out _ _) | (rw [← hm1]; exact FQ.after HB.out (HFL.out _ _)) | (rw [← hm2]; exact FQ.after HB.out (HFL.out _ _)) | (rw [← hm1, ← hm2]; exact FQ.after HB.out (HFL.out _ _))⟩
end Go.Proofs.YtfjdalepaacmgaaDoor
