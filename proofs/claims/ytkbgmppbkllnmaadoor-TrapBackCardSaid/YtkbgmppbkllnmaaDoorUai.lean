/-
  The list csrfile.kept and a file in memory; contracts of csrfile.File.reach, word, pending, count, lay, and of the functions that are handed to reach. Contracts of csrfile.File.lay, count, Set, of the functions that are handed to reach there, and of New. The tables of the reference of layers 3 and 4, as plain lists: the names of ops and of formats as bytes; for each op its format's number, the mask and what is matched.
-/
import Derived.Test.YtkbgmppbkllnmaaDoorUac
import Derived.Test.YtkbgmppbkllnmaaDoorUad
import Derived.Test.YtkbgmppbkllnmaaDoorUae
import Derived.Test.YtkbgmppbkllnmaaDoorUah
import Derived.ProofKit
import Derived.WalkLawsBesides
import Derived.Shelf.Abstract
import Derived.Deep.DeepCutAuto
import Derived.StillTailTactics
set_option maxRecDepth 20000
namespace Go.Proofs.YtkbgmppbkllnmaaDoor
open Go.ChangeShapes Go.WideShapes Go.ChangeAt Go.RowKit Wd Csr Sta Cf

abbrev FlT : TypeId := 35
abbrev one (g : Nat) : Nat → Prop := fun k => k = g
def KeptIn (w : World) : Prop := 1 < w.heap.size ∧ ∀ i, i < 22 → w.cell? ⟨1, i, none⟩ = some (.int .i64 (keptN i : Nat))
theorem KeptIn.low {w w' : World} (h : KeptIn w) (hb : Below w.heap.size w w') : KeptIn w' :=
  ⟨Nat.le_trans h.1 hb.size, fun k hk => (hb.cell (p := ⟨1, k, none⟩) h.1).trans (h.2 k hk)⟩
theorem KeptIn.chg {S : Nat → Prop} {w w' : World} (h : KeptIn w) (hc : Chg S w w') (hS : ¬ S 1) : KeptIn w' :=
  ⟨Nat.lt_of_lt_of_le h.1 hc.size, fun k hk => hc.cell (h.2 k hk) hS⟩
theorem RowsIn.chg {S : Nat → Prop} {w w' : World} (h : RowsIn w) (hc : Chg S w w') (hS : ¬ S 2) : RowsIn w' :=
  ⟨Nat.lt_of_lt_of_le h.1 hc.size, fun k hk => ⟨hc.cell (h.2 k hk).1 hS, hc.cell (h.2 k hk).2.1 hS, hc.cell (h.2 k hk).2.2 hS⟩⟩
set_option maxHeartbeats 2000000 in
theorem reach_yes (F : FuncId) (cs : Array Value) (g : Nat) (n : Int) (i : Nat) (hi : idxK n = some i) (w : World) (hK : KeptIn w) (Q : World → Prop)
    (hF : Calls Tryd.prog F (#[.pointer (some ⟨g, 1 + i, none⟩)] ++ cs) w fun e w' => e = .returned (.tuple #[]) ∧ Q w') (hE : Go.Proofs.Enters Tryd.prog F) :
    Calls Tryd.prog 54 #[.pointer (some ⟨g, 0, none⟩), .int .i64 n, .func (.func F) #[] cs] w fun e w' => e = .returned (.tuple #[]) ∧ Q w' := by
  have HF := Lib.hid hF
  have HK := Lib.hid hK
  obtain ⟨h22, hn⟩ := idx_some hi
  have HNE := Lib.hid (fun k (hk : k < i) => show (((keptN k : Nat) : Int) == n) = false by
    rw [hn]
    have := kept_ne ⟨k, by omega⟩ ⟨i, h22⟩
    simp only at this
    simp only [beq_eq_false_iff_ne, ne_eq]
    intro e
    have e' : keptN k = keptN i := by exact_mod_cast e
    have := this e'
    omega)
  have HEQ := Lib.hid (show (((keptN i : Nat) : Int) == n) = true by rw [hn]; simp)
  clear hF hK hn hi
  go_enter Tryd.func54, Tryd.ntmps54
  go_wp2_with fail
  go_loopw [6, 7] (fun _ iv wr => ∃ k : Nat, k ≤ i ∧ iv = .int .i64 k ∧ wr = w) (fun _ iv _ => 22 - (intOf iv).toNat)
  case atStart => exact ⟨0, Nat.zero_le _, rfl, rfl⟩
  case round =>
    obtain ⟨k, hk, rfl, rfl⟩ := hrel
    have hl2 : (k : Int) < 22 := by omega
    have hlt : k < 22 := by omega
    have c0 := HK.out.2 k hlt
    by_cases hki : k < i
    · have t1 := HNE.out k hki
      generalize ((keptN k : Nat) : Int) = a at *
      go_wp2_with fail
      go_roundw
      case rel => exact ⟨k + 1, by omega, by go_num, trivial⟩
      case measure => simp [intOf]; omega
    · obtain rfl : k = i := by omega
      have t1 := HEQ.out
      generalize ((keptN k : Nat) : Int) = a at *
      go_wp2_with fail
      rw [hE]
      refine HF.out.mono ?_
      rintro e w2 ⟨rfl, hq⟩
      have HQ := Lib.hid hq
      clear hq c0
      go_wp2_with fail
      refine bodyPost_ret (results_none rfl _ _ _) rfl ?_
      exact ⟨rfl, HQ.out⟩
set_option maxHeartbeats 2000000 in
theorem reach_no (F : FuncId) (cs : Array Value) (p : Value) (n : Int) (hi : idxK n = none) (w : World) (hK : KeptIn w) :
    Calls Tryd.prog 54 #[p, .int .i64 n, .func (.func F) #[] cs] w fun e w' => e = .returned (.tuple #[]) ∧ w = w' := by
  have HK := Lib.hid hK
  have HNE := Lib.hid (idx_none hi)
  clear hK hi
  go_enter Tryd.func54, Tryd.ntmps54
  go_wp2_with fail
  go_loopw [6, 7] (fun _ iv wr => ∃ k : Nat, k ≤ 22 ∧ iv = .int .i64 k ∧ wr = w) (fun _ iv _ => 22 - (intOf iv).toNat)
  case atStart => exact ⟨0, Nat.zero_le _, rfl, rfl⟩
  case round =>
    obtain ⟨k, hk, rfl, rfl⟩ := hrel
    by_cases hlt : k < 22
    · have hl2 : (k : Int) < 22 := by omega
      have c0 := HK.out.2 k hlt
      have t1 := HNE.out k hlt
      generalize ((keptN k : Nat) : Int) = a at *
      go_wp2_with fail
      go_roundw
      case rel => exact ⟨k + 1, by omega, by go_num, trivial⟩
      case measure => simp [intOf]; omega
    · obtain rfl : k = 22 := by omega
      go_wp2_with fail
      exact bodyPost_end (v := .tuple #[]) (by simp [results, Tryd.results54, go_sem]) rfl ⟨rfl, rfl⟩
/-- A file in a block. -/
structure FlAt (w : World) (g : Nat) (s : S) : Prop where
  r : CsAt w g FlT (fileV s)
  ok : Ok s
theorem FlAt.low {w w' : World} {g : Nat} {s : S} (h : FlAt w g s) (hb : Below w.heap.size w w') : FlAt w' g s := ⟨h.r.low hb, h.ok⟩
theorem FlAt.drew {w : World} {g : Nat} {s : S} (h : FlAt w g s) : FlAt w.drew g s := ⟨h.r, h.ok⟩
theorem FlAt.w {w : World} {g : Nat} {s : S} (h : FlAt w g s) {n : Int} {i : Nat} (hi : idxK n = some i) : w.cell? ⟨g, 1 + i, none⟩ = some (.int .u64 (s.f n)) := by
  obtain ⟨h22, hn⟩ := idx_some hi
  rw [h.r.cell, fileV_w s h22, hn]
theorem FlAt.put {w : World} {g : Nat} {s : S} (h : FlAt w g s) {n : Int} {i : Nat} (hi : idxK n = some i) {v : Int} (hv : W64 v) : FlAt (w.setCell ⟨g, 1 + i, none⟩ (.int .u64 v)) g (s.put n v) := by
  obtain ⟨h22, hn⟩ := idx_some hi
  refine ⟨?_, h.ok.put (by rw [hi]; simp) hv⟩
  unfold CsAt
  rw [heap_setCell_same w g (1 + i) _ FlT _ h.r, fileV_put s h22, ← hn]
set_option maxHeartbeats 1000000 in
theorem fword1_c (g i pv : Nat) (x : Int) (w : World) (hc : w.cell? ⟨g, 1 + i, none⟩ = some (.int .u64 x)) (hv : CsAt w pv 25 #[.int .u64 0]) :
    Calls Tryd.prog 87 #[.pointer (some ⟨g, 1 + i, none⟩), .pointer (some ⟨pv, 0, none⟩)] w fun e w' => e = .returned (.tuple #[]) ∧ w' = w.setCell ⟨pv, 0, none⟩ (.int .u64 x) := by
  have v0 := hv.cell 0
  have y0 := hv.frozen 0
  simp only [List.getElem?_toArray, List.getElem?_cons_zero] at v0
  clear hv
  go_enter Tryd.func87, Tryd.ntmps87
  go_wp2_with fail
  exact bodyPost_end (v := .tuple #[]) (by simp [results, Tryd.results87, go_sem]) rfl ⟨rfl, rfl⟩
set_option maxHeartbeats 1000000 in
theorem fword_c (g : Nat) (n : Int) (s : S) (w : World) (hK : KeptIn w) (h : FlAt w g s) :
    Calls Tryd.prog 51 #[.pointer (some ⟨g, 0, none⟩), .int .i64 n] w fun e w' => e = .returned (.int .u64 (s.f n)) ∧ Below w.heap.size w w' := by
  have hB : Below w.heap.size w (w.alloc (.cells #[.int .u64 0] 25)) := (Below.refl _ _).alloc (Nat.le_refl _) _
  have h1 := CsAt.new w 25 #[.int .u64 0]
  have HB := Lib.hid hB
  cases hi : idxK n with
  | none =>
    have HZ := Lib.hid (h.ok.z n hi)
    have HR := Lib.hid (reach_no 87 #[.pointer (some ⟨w.heap.size, 0, none⟩)] (.pointer (some ⟨g, 0, none⟩)) n hi _ (hK.low hB))
    have z0 := h1.cell 0
    simp only [List.getElem?_toArray, List.getElem?_cons_zero] at z0
    clear hK h hi hB h1
    go_enter Tryd.func51, Tryd.ntmps51
    go_upto_region 2 with fail
    generalize w.alloc (.cells #[.int .u64 0] 25) = w1 at *
    go_wp2_with fail
    refine HR.out.mono ?_
    rintro e w2 ⟨rfl, rfl⟩
    go_wp2_with fail
    go_ret
    exact ⟨by rw [HZ.out]; rfl, HB.out⟩
  | some i =>
    have HR := Lib.hid (reach_yes 87 #[.pointer (some ⟨w.heap.size, 0, none⟩)] g n i hi _ (hK.low hB) _ (fword1_c g i w.heap.size (s.f n) _ ((h.low hB).w hi) h1) (Go.Proofs.enters_of Tryd.func87 (by kernel_rfl) rfl))
    have hB2 : Below w.heap.size w ((w.alloc (.cells #[.int .u64 0] 25)).setCell ⟨w.heap.size, 0, none⟩ (.int .u64 (s.f n))) := hB.setCell (by exact Nat.le_refl _) _
    have HB2 := Lib.hid hB2
    have hc : CsAt ((w.alloc (.cells #[.int .u64 0] 25)).setCell ⟨w.heap.size, 0, none⟩ (.int .u64 (s.f n))) w.heap.size 25 #[.int .u64 (s.f n)] := by
      unfold CsAt
      rw [heap_setCell_same _ w.heap.size 0 _ _ _ h1]
      rfl
    have z0 := hc.cell 0
    simp only [List.getElem?_toArray, List.getElem?_cons_zero] at z0
    clear hK h hi hB h1 hB2 hc
    generalize s.f n = x at *
    go_enter Tryd.func51, Tryd.ntmps51
    go_upto_region 2 with fail
    generalize (w.alloc (.cells #[.int .u64 0] 25)) = w1 at *
    go_wp2_with fail
    refine HR.out.mono ?_
    rintro e w2 ⟨rfl, rfl⟩
    generalize w1.setCell ⟨w.heap.size, 0, none⟩ (.int .u64 x) = w2 at *
    go_wp2_with fail
    go_ret
    exact ⟨rfl, HB2.out⟩
set_option maxHeartbeats 1000000 in
theorem fpend_c (g : Nat) (l : Int) (s : S) (w : World) (hK : KeptIn w) (h : FlAt w g s) :
    Calls Tryd.prog 52 #[.pointer (some ⟨g, 0, none⟩), .int .u64 l] w fun e w' => e = .returned (.int .u64 (pendS s l)) ∧ Below w.heap.size w w' := by
  have HW := Lib.hid (fword_c g 836 s w hK h)
  have HP := Lib.hid (show pendS s l = bits .or .u64 (s.f 836) (bits .and .u64 l 2696) from rfl)
  clear hK h
  generalize pendS s l = z at *
  generalize s.f 836 = x at *
  go_enter Tryd.func52, Tryd.ntmps52
  go_wp2_with fail
  refine HW.out.mono ?_
  rintro e w2 ⟨rfl, hb⟩
  have HB := Lib.hid hb
  clear hb
  go_wp2_with fail
  go_ret
  exact ⟨by rw [HP.out]; rfl, HB.out⟩
end Go.Proofs.YtkbgmppbkllnmaaDoor
set_option maxRecDepth 20000
namespace Go.Proofs.YtkbgmppbkllnmaaDoor
open Go.ChangeShapes Go.WideShapes Go.ChangeAt Go.RowKit Wd Csr Sta Cf

/-- A file has become another one; no other block has changed. -/
structure FQ (g : Nat) (s : S) (w w' : World) : Prop where
  fl : FlAt w' g s
  chg : Chg (one g) w w'
theorem FlAt.keep {w w' : World} {g : Nat} {s : S} (h : FlAt w g s) (hb : Below w.heap.size w w') : FQ g s w w' := ⟨h.low hb, Chg.of_below hb⟩
theorem FQ.then {w w1 w2 : World} {g : Nat} {s t : S} (h : FQ g s w w1) (k : FQ g t w1 w2) : FQ g t w w2 := ⟨k.fl, h.chg.trans k.chg⟩
theorem FQ.after {w w1 w2 : World} {g : Nat} {s : S} (h : Below w.heap.size w w1) (k : FQ g s w1 w2) : FQ g s w w2 := ⟨k.fl, (Chg.of_below h).trans k.chg⟩
theorem FQ.low {w w1 w2 : World} {g : Nat} {s : S} (h : FQ g s w w1) (hb : Below w1.heap.size w1 w2) : FQ g s w w2 := ⟨h.fl.low hb, h.chg.trans (Chg.of_below hb)⟩
theorem FlAt.store {w W : World} {g : Nat} {s : S} (h : FlAt W g s) (hw : Below w.heap.size w W) {n : Int} {i : Nat} (hi : idxK n = some i) {v : Int} (hv : W64 v) : FQ g (s.put n v) w (W.setCell ⟨g, 1 + i, none⟩ (.int .u64 v)) :=
  ⟨h.put hi hv, (Chg.of_below hw).trans (Chg.of_cell (S := one g) rfl _ _)⟩
theorem FlAt.fz {w : World} {g : Nat} {s : S} (h : FlAt w g s) (i : Nat) : w.frozen? ⟨g, i, none⟩ = false := h.r.frozen i
set_option maxHeartbeats 2000000 in
theorem flay1_c (g i pb pv : Nat) (n : Int) (hi : idxK n = some i) (s : S) (b v : Int) (hb : W64 b) (hv : W64 v) (w : World) (h : FlAt w g s) (cb : w.cell? ⟨pb, 0, none⟩ = some (.int .u64 b)) (cv : w.cell? ⟨pv, 0, none⟩ = some (.int .u64 v)) :
    Calls Tryd.prog 88 #[.pointer (some ⟨g, 1 + i, none⟩), .pointer (some ⟨pb, 0, none⟩), .pointer (some ⟨pv, 0, none⟩)] w fun e w' => e = .returned (.tuple #[]) ∧ FQ g (s.put n (nextS b (s.f n) v)) w w' := by
  have c0 := h.w hi
  have y0 := h.fz (1 + i)
  have HX := Lib.hid (next_or hb (h.ok.w n) hv)
  have HS := Lib.hid (h.drew.store (w := w) (Below.drew (Below.refl _ _)) hi (v := nextS b (s.f n) v) (nextS_range _ _ _))
  clear h hb hv hi
  generalize s.put n (nextS b (s.f n) v) = t at *
  generalize nextS b (s.f n) v = z at *
  generalize s.f n = x at *
  go_enter Tryd.func88, Tryd.ntmps88
  have hWd : w.drew = w.drew := rfl
  refine wp_region_steady_tail (fun W => W = w.drew) 11 (by kernel_rfl) (by kernel_rfl) hWd ?_
  iterate 11
    refine steady_val ?_ ?_ (by rfl) (fun W hS => ?_) ?_ ?_
    rotate_left 2
    · subst hS
      go_simp
      exact rfl
    · go_simp
      exact rfl
  refine steady_nil ?_
  rintro W rfl
  simp only [List.drop_succ_cons, List.drop_zero]
  have c0 : w.drew.cell? ⟨g, 1 + i, none⟩ = some (.int .u64 x) := c0
  have y0 : w.drew.frozen? ⟨g, 1 + i, none⟩ = false := y0
  go_wp2_with fail
  refine bodyPost_end (v := .tuple #[]) (by simp [results, Tryd.results88, go_sem]) rfl ⟨rfl, ?_⟩
  rw [HX.out]
  exact HS.out
set_option maxHeartbeats 2000000 in
theorem flay_c (g : Nat) (n : Int) (s : S) (b v : Int) (hb : W64 b) (hv : W64 v) (i : Nat) (hi : idxK n = some i) (w : World) (hK : KeptIn w) (h : FlAt w g s) :
    Calls Tryd.prog 57 #[.pointer (some ⟨g, 0, none⟩), .int .i64 n, .int .u64 b, .int .u64 v] w fun e w' => e = .returned (.tuple #[]) ∧ FQ g (s.put n (nextS b (s.f n) v)) w w' := by
  have hB : Below w.heap.size w ((w.alloc (.cells #[.int .u64 b] 25)).alloc (.cells #[.int .u64 v] 25)) := ((Below.refl _ _).alloc (Nat.le_refl _) _).alloc (by simp) _
  have h1 : CsAt ((w.alloc (.cells #[.int .u64 b] 25)).alloc (.cells #[.int .u64 v] 25)) w.heap.size 25 #[.int .u64 b] := (CsAt.new w 25 _).alloc _
  have h2 : CsAt ((w.alloc (.cells #[.int .u64 b] 25)).alloc (.cells #[.int .u64 v] 25)) (w.heap.size + 1) 25 #[.int .u64 v] := by
    have := CsAt.new (w.alloc (.cells #[.int .u64 b] 25)) 25 #[.int .u64 v]
    simpa using this
  have HB := Lib.hid hB
  have HR := Lib.hid (reach_yes 88 #[.pointer (some ⟨w.heap.size, 0, none⟩), .pointer (some ⟨w.heap.size + 1, 0, none⟩)] g n i hi _ (hK.low hB) _ (flay1_c g i w.heap.size (w.heap.size + 1) n hi s b v hb hv _ (h.low hB) (h1.cell 0) (h2.cell 0)) (Go.Proofs.enters_of Tryd.func88 (by kernel_rfl) rfl))
  clear hK h hi hB h1 h2 hb hv
  generalize s.put n (nextS b (s.f n) v) = t at *
  go_enter Tryd.func57, Tryd.ntmps57
  go_upto_region 1 with fail
  generalize ((w.alloc (.cells #[.int .u64 b] 25)).alloc (.cells #[.int .u64 v] 25)) = w1 at *
  go_wp2_with fail
  refine HR.out.mono ?_
  rintro e w2 ⟨rfl, hq⟩
  have HQ := Lib.hid (hq.after HB.out)
  clear hq
  go_wp2_with fail
  exact bodyPost_end (v := .tuple #[]) (by simp [results, Tryd.results57, go_sem]) rfl ⟨rfl, HQ.out⟩
set_option maxHeartbeats 2000000 in
theorem fcount1_c (g i : Nat) (n : Int) (hi : idxK n = some i) (s : S) (w : World) (h : FlAt w g s) :
    Calls Tryd.prog 105 #[.pointer (some ⟨g, 1 + i, none⟩)] w fun e w' => e = .returned (.tuple #[]) ∧ FQ g (s.put n (incr (s.f n))) w w' := by
  have c0 := h.w hi
  have y0 := h.fz (1 + i)
  have HS := Lib.hid (h.store (w := w) (Below.refl _ _) hi (v := incr (s.f n)) (wrap_range _))
  clear h hi
  unfold incr at *
  generalize s.f n = x at *
  go_enter Tryd.func105, Tryd.ntmps105
  go_wp2_with fail
  refine bodyPost_end (v := .tuple #[]) (by simp [results, Tryd.results105, go_sem]) rfl ⟨rfl, ?_⟩
  exact HS.out
set_option maxHeartbeats 2000000 in
theorem fcount_c (g : Nat) (n : Int) (s : S) (i : Nat) (hi : idxK n = some i) (w : World) (hK : KeptIn w) (h : FlAt w g s) :
    Calls Tryd.prog 97 #[.pointer (some ⟨g, 0, none⟩), .int .i64 n] w fun e w' => e = .returned (.tuple #[]) ∧ FQ g (s.put n (incr (s.f n))) w w' := by
  have HR := Lib.hid (reach_yes 105 #[] g n i hi w hK _ (fcount1_c g i n hi s w h) (Go.Proofs.enters_of Tryd.func105 (by kernel_rfl) rfl))
  clear hK h hi
  generalize s.put n (incr (s.f n)) = t at *
  go_enter Tryd.func97, Tryd.ntmps97
  go_wp2_with fail
  refine HR.out.mono ?_
  rintro e w2 ⟨rfl, hq⟩
  have HQ := Lib.hid hq
  clear hq
  go_wp2_with fail
  exact bodyPost_end (v := .tuple #[]) (by simp [results, Tryd.results97, go_sem]) rfl ⟨rfl, HQ.out⟩
/-- What stands while a function that is handed to reach reckons: the file, boxes with what it was made with, the table. -/
structure StS (w W : World) (g : Nat) (s : S) (vs : List (Nat × Value)) : Prop where
  fl : FlAt W g s
  v : ∀ (j : Nat) (p : Nat × Value), vs[j]? = some p → W.cell? ⟨p.1, 0, none⟩ = some p.2 ∧ p.1 < W.heap.size
  r : RowsIn W
  k : KeptIn W
  bel : Below w.heap.size w W
theorem StS.low {w W W' : World} {g : Nat} {s : S} {vs : List (Nat × Value)} (h : StS w W g s vs) (hb : Below W.heap.size W W') : StS w W' g s vs :=
  ⟨h.fl.low hb, fun j p hp => ⟨(hb.cell (p := ⟨p.1, 0, none⟩) (h.v j p hp).2).trans (h.v j p hp).1, Nat.lt_of_lt_of_le (h.v j p hp).2 hb.size⟩, h.r.low hb, h.k.low hb, h.bel.trans (hb.mono h.bel.size)⟩
theorem StS.drew {w W : World} {g : Nat} {s : S} {vs : List (Nat × Value)} (h : StS w W g s vs) : StS w W.drew g s vs := ⟨h.fl.drew, h.v, h.r, h.k, h.bel.drew⟩
set_option maxHeartbeats 2000000 in
theorem fset1_c (g i : Nat) (n : Int) (hi : idxK n = some i) (s : S) (pv : Nat) (v : Int) (hv : W64 v) (w : World) (hN : RowsIn w) (hK : KeptIn w) (h : FlAt w g s) (cv : w.cell? ⟨pv, 0, none⟩ = some (.int .u64 v)) :
    Calls Tryd.prog 55 #[.pointer (some ⟨g, 1 + i, none⟩), .pointer (some ⟨pv, 0, none⟩)] w fun e w' => e = .returned (.tuple #[]) ∧ FQ g (s.put n (legS 256 (s.f n) v)) w w' := by
  obtain ⟨vs, hvs⟩ : ∃ vs : List (Nat × Value), vs = [(pv, .int .u64 v)] := ⟨_, rfl⟩
  have HS := Lib.hid (show StS w w g s vs from ⟨h, fun j p hp => by
    subst hvs
    match j, hp with
    | 0, hp => cases hp; exact ⟨cv, World.block_lt_of_cell? _ _ cv⟩
    | j + 1, hp => simp at hp, hN, hK, Below.refl _ _⟩)
  have HC := Lib.hid (fun W (hW : RowsIn W) => lay_c (s.f n) v (h.ok.w n) hv W hW)
  have HX := Lib.hid (show W64 (legS 256 (s.f n) v) from legS_range (h.ok.w n))
  have HI := Lib.hid hi
  have y0 := h.fz (1 + i)
  clear hN hK h
  generalize hz : legS 256 (s.f n) v = z at *
  clear hz
  generalize hx : s.f n = x at *
  go_enter Tryd.func55, Tryd.ntmps55
  refine wp_region_steady_tail (fun W => StS w W g s vs) 7 (by kernel_rfl) (by kernel_rfl) HS.out.drew ?_
  iterate 3
    refine steady_val ?_ ?_ (by kernel_rfl) (fun W hS => ?_) ?_ ?_
    rotate_left 2
    · go_simp
      exact rfl
    · go_simp
      exact rfl
  refine steady_val ?_ ?_ (by kernel_rfl) (fun W hS => ?_) ?_ ?_
  rotate_left 2
  · have q := hS.fl.w hi; rw [hx] at q; go_simp
    exact rfl
  · go_simp
    exact rfl
  refine steady_val ?_ ?_ (by kernel_rfl) (fun W hS => ?_) ?_ ?_
  rotate_left 2
  · subst hvs; have q := (hS.v 0 _ rfl).1; go_simp
    exact rfl
  · go_simp
    exact rfl
  refine steady_enter (.int .u64 z) 56 #[.int .u64 x, .int .u64 v] ?_ (by kernel_rfl) (fun W hS => ?_) (fun W hS => (HC.out W hS.r).mono (by rintro e w' ⟨rfl, hb⟩; exact ⟨rfl, hS.low hb⟩)) ?_ ?_
  rotate_left 1
  · go_simp
  · go_simp
    exact rfl
  refine steady_val ?_ ?_ (by kernel_rfl) (fun W hS => ?_) ?_ ?_
  rotate_left 2
  · go_simp
    exact rfl
  · go_simp
    exact rfl
  refine steady_nil ?_
  intro W hS
  have hQ := hS.fl.store hS.bel hi HX.out
  have HQ := Lib.hid hQ
  have c0 := hS.fl.w hi
  have y0 := hS.fl.fz (1 + i)
  rw [hx] at c0
  clear hQ hS HS
  simp only [List.drop_succ_cons, List.drop_zero]
  go_wp2_with fail
  refine bodyPost_end (v := .tuple #[]) (by simp [results, Tryd.results55, go_sem]) rfl ⟨rfl, ?_⟩
  exact HQ.out
set_option maxHeartbeats 2000000 in
theorem fset2_c (g i : Nat) (n : Int) (hi : idxK n = some i) (s : S) (pn pv : Nat) (v : Int) (hv : W64 v) (w : World) (hN : RowsIn w) (hK : KeptIn w) (h : FlAt w g s) (cn : w.cell? ⟨pn, 0, none⟩ = some (.int .i64 n)) (cv : w.cell? ⟨pv, 0, none⟩ = some (.int .u64 v)) :
    Calls Tryd.prog 58 #[.pointer (some ⟨g, 1 + i, none⟩), .pointer (some ⟨pn, 0, none⟩), .pointer (some ⟨pv, 0, none⟩)] w fun e w' => e = .returned (.tuple #[]) ∧ FQ g (s.put n (legS n (s.f n) v)) w w' := by
  obtain ⟨vs, hvs⟩ : ∃ vs : List (Nat × Value), vs = [(pn, .int .i64 n), (pv, .int .u64 v)] := ⟨_, rfl⟩
  have HS := Lib.hid (show StS w w g s vs from ⟨h, fun j p hp => by
    subst hvs
    match j, hp with
    | 0, hp => cases hp; exact ⟨cn, World.block_lt_of_cell? _ _ cn⟩
    | 1, hp => cases hp; exact ⟨cv, World.block_lt_of_cell? _ _ cv⟩
    | j + 2, hp => simp at hp, hN, hK, Below.refl _ _⟩)
  have HC := Lib.hid (fun W (hW : RowsIn W) => clegal_c n (s.f n) v (h.ok.w n) hv W hW)
  have HX := Lib.hid (show W64 (legS n (s.f n) v) from legS_range (h.ok.w n))
  have HI := Lib.hid hi
  have y0 := h.fz (1 + i)
  clear hN hK h
  generalize hz : legS n (s.f n) v = z at *
  clear hz
  generalize hx : s.f n = x at *
  go_enter Tryd.func58, Tryd.ntmps58
  refine wp_region_steady_tail (fun W => StS w W g s vs) 8 (by kernel_rfl) (by kernel_rfl) HS.out.drew ?_
  refine steady_val ?_ ?_ (by kernel_rfl) (fun W hS => ?_) ?_ ?_
  rotate_left 2
  · go_simp
    exact rfl
  · go_simp
    exact rfl
  refine steady_val ?_ ?_ (by kernel_rfl) (fun W hS => ?_) ?_ ?_
  rotate_left 2
  · subst hvs; have q := (hS.v 0 _ rfl).1; go_simp
    exact rfl
  · go_simp
    exact rfl
  iterate 2
    refine steady_val ?_ ?_ (by kernel_rfl) (fun W hS => ?_) ?_ ?_
    rotate_left 2
    · go_simp
      exact rfl
    · go_simp
      exact rfl
  refine steady_val ?_ ?_ (by kernel_rfl) (fun W hS => ?_) ?_ ?_
  rotate_left 2
  · have q := hS.fl.w hi; rw [hx] at q; go_simp
    exact rfl
  · go_simp
    exact rfl
  refine steady_val ?_ ?_ (by kernel_rfl) (fun W hS => ?_) ?_ ?_
  rotate_left 2
  · subst hvs; have q := (hS.v 1 _ rfl).1; go_simp
    exact rfl
  · go_simp
    exact rfl
  refine steady_enter (.int .u64 z) 59 #[.int .i64 n, .int .u64 x, .int .u64 v] ?_ (by kernel_rfl) (fun W hS => ?_) (fun W hS => (HC.out W hS.r).mono (by rintro e w' ⟨rfl, hb⟩; exact ⟨rfl, hS.low hb⟩)) ?_ ?_
  rotate_left 1
  · go_simp
  · go_simp
    exact rfl
  refine steady_val ?_ ?_ (by kernel_rfl) (fun W hS => ?_) ?_ ?_
  rotate_left 2
  · go_simp
    exact rfl
  · go_simp
    exact rfl
  refine steady_nil ?_
  intro W hS
  have hQ := hS.fl.store hS.bel hi HX.out
  have HQ := Lib.hid hQ
  have c0 := hS.fl.w hi
  have y0 := hS.fl.fz (1 + i)
  rw [hx] at c0
  clear hQ hS HS
  simp only [List.drop_succ_cons, List.drop_zero]
  go_wp2_with fail
  refine bodyPost_end (v := .tuple #[]) (by simp [results, Tryd.results58, go_sem]) rfl ⟨rfl, ?_⟩
  exact HQ.out
theorem FlAt.flags {W : World} {g : Nat} {t : S} (h : FlAt W g t) (a b : Bool) : FlAt ((W.setCell ⟨g, 23, none⟩ (.bool a)).setCell ⟨g, 24, none⟩ (.bool b)) g { t with cw := a, iw := b } := by
  have h1 : CsAt (W.setCell ⟨g, 23, none⟩ (.bool a)) g FlT (fileV { t with cw := a }) := by
    unfold CsAt
    rw [heap_setCell_same W g 23 _ FlT _ h.r, fileV_cwput]
  refine ⟨?_, ⟨h.ok.h, h.ok.w, h.ok.z⟩⟩
  unfold CsAt
  rw [heap_setCell_same _ g 24 _ FlT _ h1, fileV_iwput]
theorem FQ.flags {w W : World} {g : Nat} {t : S} (h : FQ g t w W) (a b : Bool) : FQ g { t with cw := a, iw := b } w ((W.setCell ⟨g, 23, none⟩ (.bool a)).setCell ⟨g, 24, none⟩ (.bool b)) :=
  ⟨h.fl.flags a b, (h.chg.trans (Chg.of_cell (S := one g) rfl _ _)).trans (Chg.of_cell (S := one g) rfl _ _)⟩
theorem FlAt.c23 {W : World} {g : Nat} {t : S} (h : FlAt W g t) : W.cell? ⟨g, 23, none⟩ = some (.bool t.cw) := by rw [h.r.cell, fileV_cw]
theorem FlAt.c24 {W : World} {g : Nat} {t : S} (h : FlAt W g t) : W.cell? ⟨g, 24, none⟩ = some (.bool t.iw) := by rw [h.r.cell, fileV_iw]
set_option maxHeartbeats 4000000 in
theorem fset_c (g : Nat) (n v : Int) (s : S) (hv : W64 v) (w : World) (hN : RowsIn w) (hK : KeptIn w) (h : FlAt w g s) :
    Calls Tryd.prog 27 #[.pointer (some ⟨g, 0, none⟩), .int .i64 n, .int .u64 v] w fun e w' => e = .returned (.tuple #[]) ∧ FQ g (setS s n v) w w' := by
  have hB : Below w.heap.size w ((w.alloc (.cells #[.int .i64 n] 3)).alloc (.cells #[.int .u64 v] 25)) := ((Below.refl _ _).alloc (Nat.le_refl _) _).alloc (by simp) _
  have h1 : CsAt ((w.alloc (.cells #[.int .i64 n] 3)).alloc (.cells #[.int .u64 v] 25)) w.heap.size 3 #[.int .i64 n] := (CsAt.new w 3 _).alloc _
  have h2 : CsAt ((w.alloc (.cells #[.int .i64 n] 3)).alloc (.cells #[.int .u64 v] 25)) (w.heap.size + 1) 25 #[.int .u64 v] := by
    have := CsAt.new (w.alloc (.cells #[.int .i64 n] 3)) 25 #[.int .u64 v]
    simpa using this
  have HB := Lib.hid hB
  have HLT := Lib.hid h.r.lt
  have HCN := Lib.hid (h1.cell 0)
  simp only [List.getElem?_toArray, List.getElem?_cons_zero] at HCN
  have HF1 := Lib.hid (h.low hB)
  have HN1 := Lib.hid (hN.low hB)
  have HK1 := Lib.hid (hK.low hB)
  have HV1 := Lib.hid (h2.cell 0)
  simp only [List.getElem?_toArray, List.getElem?_cons_zero] at HV1
  have HL2 := Lib.hid h2.lt
  have HVV := Lib.hid hv
  clear hN hK h hB h1 h2
  obtain ⟨a, hcw⟩ : ∃ a, s.cw = a := ⟨_, rfl⟩
  obtain ⟨b, hiw⟩ : ∃ b, s.iw = b := ⟨_, rfl⟩
  have HU := Lib.hid (show setS s n v = { setW s n v with cw := a || n == 2816, iw := b || n == 2818 } by unfold setS; rw [hcw, hiw])
  by_cases hn : n = 256
  · skip
    subst hn
    have HW := Lib.hid (show setW s 256 v = s.put 768 (legS 256 (s.f 768) v) from rfl)
    rw [HU.out, HW.out]
    have e16 : ((256 : Int) == 2816) = false := by decide
    have e18 : ((256 : Int) == 2818) = false := by decide
    clear HU HW
    have HR := Lib.hid (reach_yes 55 #[.pointer (some ⟨w.heap.size + 1, 0, none⟩)] g 768 7 (by decide) _ HK1.out _ (fset1_c g 7 768 (by decide) s (w.heap.size + 1) v HVV.out _ HN1.out HK1.out HF1.out HV1.out) (Go.Proofs.enters_of Tryd.func55 (by kernel_rfl) rfl))
    go_enter Tryd.func27, Tryd.ntmps27
    go_upto_region 1 with fail
    generalize ((w.alloc (.cells #[.int .i64 256] 3)).alloc (.cells #[.int .u64 v] 25)) = w1 at *
    have cn1 := HCN.out
    go_wp2_with fail
    refine HR.out.mono ?_
    rintro e w2 ⟨rfl, hq⟩
    have HQ := Lib.hid hq
    clear hq cn1
    have HFL := Lib.hid (fun a b => HQ.out.flags a b)
    have c23 : w2.cell? ⟨g, 23, none⟩ = some (.bool s.cw) := HQ.out.fl.c23
    have c24 : w2.cell? ⟨g, 24, none⟩ = some (.bool s.iw) := HQ.out.fl.c24
    have y23 := HQ.out.fl.fz 23
    have y24 := HQ.out.fl.fz 24
    have cn2 := HQ.out.chg.cell HCN.out (fun (e : w.heap.size = g) => by have := HLT.out; omega)
    clear HQ
    rw [hcw] at c23
    rw [hiw] at c24
    cases a <;> cases b
    all_goals
      go_wp2_with fail
      exact bodyPost_end (v := .tuple #[]) (by simp [results, Tryd.results27, go_sem]) rfl ⟨rfl, by first | exact FQ.after HB.out (HFL.out _ _) | (rw [← hm1]; exact FQ.after HB.out (HFL.out _ _)) | (rw [← hm2]; exact FQ.after HB.out (HFL.out _ _)) | (rw [← hm1, ← hm2]; exact FQ.after HB.out (HFL.out _ _))⟩
  · have e256 : (n == 256) = false := by simpa using hn
    by_cases hn' : n = 260
    · have hn := hn'
      subst hn
      have HW := Lib.hid (show setW s 260 v = s.put 772 (nextS (s.f 771) (s.f 772) v) from rfl)
      rw [HU.out, HW.out]
      have e16 : ((260 : Int) == 2816) = false := by decide
      have e18 : ((260 : Int) == 2818) = false := by decide
      clear HU HW
      go_enter Tryd.func27, Tryd.ntmps27
      go_upto_region 1 with fail
      generalize ((w.alloc (.cells #[.int .i64 260] 3)).alloc (.cells #[.int .u64 v] 25)) = w1 at *
      have cn1 := HCN.out
      go_upto_region 7 with fail
      have HS := Lib.hid (show StS w1 w1 g s [(w.heap.size + 1, .int .u64 v)] from ⟨HF1.out, fun j p hp => by
          match j, hp with
          | 0, hp => cases hp; exact ⟨HV1.out, HL2.out⟩
          | j + 1, hp => simp at hp, HN1.out, HK1.out, Below.refl _ _⟩)
      refine wp_region_steady_tail (fun W => StS w1 W g s [(w.heap.size + 1, .int .u64 v)]) 4 (by kernel_rfl) (by kernel_rfl) HS.out.drew ?_
      iterate 2
        refine steady_val ?_ ?_ (by kernel_rfl) (fun W hS => ?_) ?_ ?_
        rotate_left 2
        · go_simp
          exact rfl
        · go_simp
          exact rfl
      refine steady_enter (.int .u64 (s.f 771)) 51 #[.pointer (some ⟨g, 0, none⟩), .int .i64 771] ?_ (by kernel_rfl) (fun W hS => ?_) (fun W hS => (fword_c g 771 s W hS.k hS.fl).mono (by rintro e w' ⟨rfl, hb⟩; exact ⟨rfl, hS.low hb⟩)) ?_ ?_
      rotate_left 1
      · go_simp
      · go_simp
        exact rfl
      refine steady_val ?_ ?_ (by kernel_rfl) (fun W hS => ?_) ?_ ?_
      rotate_left 2
      · have q := (hS.v 0 _ rfl).1; go_simp
        exact rfl
      · go_simp
        exact rfl
      refine steady_nil ?_
      intro W hS
      have HR := Lib.hid (flay_c g 772 s (s.f 771) v (HF1.out.ok.w _) HVV.out 10 (by decide) W hS.k hS.fl)
      have HBW := Lib.hid hS.bel
      clear hS HS cn1
      simp only [List.drop_succ_cons, List.drop_zero]
      go_wp2_with fail
      refine HR.out.mono ?_
      rintro e w2 ⟨rfl, hq⟩
      have HQ := Lib.hid (hq.after HBW.out)
      clear hq HR
      have HFL := Lib.hid (fun a b => HQ.out.flags a b)
      have c23 : w2.cell? ⟨g, 23, none⟩ = some (.bool s.cw) := HQ.out.fl.c23
      have c24 : w2.cell? ⟨g, 24, none⟩ = some (.bool s.iw) := HQ.out.fl.c24
      have y23 := HQ.out.fl.fz 23
      have y24 := HQ.out.fl.fz 24
      have cn2 := HQ.out.chg.cell HCN.out (fun (e : w.heap.size = g) => by have := HLT.out; omega)
      clear HQ
      rw [hcw] at c23
      rw [hiw] at c24
      cases a <;> cases b
      all_goals
        go_wp2_with fail
        exact bodyPost_end (v := .tuple #[]) (by simp [results, Tryd.results27, go_sem]) rfl ⟨rfl, by first | exact FQ.after HB.out (HFL.out _ _) | (rw [← hm1]; exact FQ.after HB.out (HFL.out _ _)) | (rw [← hm2]; exact FQ.after HB.out (HFL.out _ _)) | (rw [← hm1, ← hm2]; exact FQ.after HB.out (HFL.out _ _))⟩
    · have e260 : (n == 260) = false := by simpa using hn'
      by_cases hn2 : n = 324
      · have hn := hn2
        subst hn
        have HW := Lib.hid (show setW s 324 v = s.put 836 (nextS (bits .and .u64 (s.f 771) 2) (s.f 836) v) from rfl)
        rw [HU.out, HW.out]
        have e16 : ((324 : Int) == 2816) = false := by decide
        have e18 : ((324 : Int) == 2818) = false := by decide
        clear HU HW
        go_enter Tryd.func27, Tryd.ntmps27
        go_upto_region 1 with fail
        generalize ((w.alloc (.cells #[.int .i64 324] 3)).alloc (.cells #[.int .u64 v] 25)) = w1 at *
        have cn1 := HCN.out
        go_upto_region 9 with fail
        have HS := Lib.hid (show StS w1 w1 g s [(w.heap.size + 1, .int .u64 v)] from ⟨HF1.out, fun j p hp => by
            match j, hp with
            | 0, hp => cases hp; exact ⟨HV1.out, HL2.out⟩
            | j + 1, hp => simp at hp, HN1.out, HK1.out, Below.refl _ _⟩)
        refine wp_region_steady_tail (fun W => StS w1 W g s [(w.heap.size + 1, .int .u64 v)]) 5 (by kernel_rfl) (by kernel_rfl) HS.out.drew ?_
        iterate 2
          refine steady_val ?_ ?_ (by kernel_rfl) (fun W hS => ?_) ?_ ?_
          rotate_left 2
          · go_simp
            exact rfl
          · go_simp
            exact rfl
        refine steady_enter (.int .u64 (s.f 771)) 51 #[.pointer (some ⟨g, 0, none⟩), .int .i64 771] ?_ (by kernel_rfl) (fun W hS => ?_) (fun W hS => (fword_c g 771 s W hS.k hS.fl).mono (by rintro e w' ⟨rfl, hb⟩; exact ⟨rfl, hS.low hb⟩)) ?_ ?_
        rotate_left 1
        · go_simp
        · go_simp
          exact rfl
        refine steady_val ?_ ?_ (by kernel_rfl) (fun W hS => ?_) ?_ ?_
        rotate_left 2
        · go_simp
          exact rfl
        · go_simp
          exact rfl
        refine steady_val ?_ ?_ (by kernel_rfl) (fun W hS => ?_) ?_ ?_
        rotate_left 2
        · have q := (hS.v 0 _ rfl).1; go_simp
          exact rfl
        · go_simp
          exact rfl
        refine steady_nil ?_
        intro W hS
        have HR := Lib.hid (flay_c g 836 s (bits .and .u64 (s.f 771) 2) v (and_64 (HF1.out.ok.w _) ⟨by omega, by omega⟩) HVV.out 17 (by decide) W hS.k hS.fl)
        have HBW := Lib.hid hS.bel
        clear hS HS cn1
        simp only [List.drop_succ_cons, List.drop_zero]
        go_wp2_with fail
        refine HR.out.mono ?_
        rintro e w2 ⟨rfl, hq⟩
        have HQ := Lib.hid (hq.after HBW.out)
        clear hq HR
        have HFL := Lib.hid (fun a b => HQ.out.flags a b)
        have c23 : w2.cell? ⟨g, 23, none⟩ = some (.bool s.cw) := HQ.out.fl.c23
        have c24 : w2.cell? ⟨g, 24, none⟩ = some (.bool s.iw) := HQ.out.fl.c24
        have y23 := HQ.out.fl.fz 23
        have y24 := HQ.out.fl.fz 24
        have cn2 := HQ.out.chg.cell HCN.out (fun (e : w.heap.size = g) => by have := HLT.out; omega)
        clear HQ
        rw [hcw] at c23
        rw [hiw] at c24
        cases a <;> cases b
        all_goals
          go_wp2_with fail
          exact bodyPost_end (v := .tuple #[]) (by simp [results, Tryd.results27, go_sem]) rfl ⟨rfl, by first | exact FQ.after HB.out (HFL.out _ _) | (rw [← hm1]; exact FQ.after HB.out (HFL.out _ _)) | (rw [← hm2]; exact FQ.after HB.out (HFL.out _ _)) | (rw [← hm1, ← hm2]; exact FQ.after HB.out (HFL.out _ _))⟩
      · have e324 : (n == 324) = false := by simpa using hn2
        cases hi : idxK n with
        | none =>
          have HW := Lib.hid (show setW s n v = s by unfold setW; rw [if_neg hn, if_neg hn', if_neg hn2]; exact if_pos hi)
          rw [HU.out, HW.out]
          clear HU HW
          have HR := Lib.hid (reach_no 58 #[.pointer (some ⟨w.heap.size, 0, none⟩), .pointer (some ⟨w.heap.size + 1, 0, none⟩)] (.pointer (some ⟨g, 0, none⟩)) n hi _ HK1.out)
          obtain ⟨m1, hm1⟩ : ∃ m, (n == 2816) = m := ⟨_, rfl⟩
          obtain ⟨m2, hm2⟩ : ∃ m, (n == 2818) = m := ⟨_, rfl⟩
          go_enter Tryd.func27, Tryd.ntmps27
          go_upto_region 1 with fail
          generalize ((w.alloc (.cells #[.int .i64 n] 3)).alloc (.cells #[.int .u64 v] 25)) = w1 at *
          have cn1 := HCN.out
          go_wp2_with fail
          refine HR.out.mono ?_
          rintro e w2 ⟨rfl, rfl⟩
          have HQ := Lib.hid (HF1.out.keep (Below.refl _ _))
          clear cn1
          have HFL := Lib.hid (fun a b => HQ.out.flags a b)
          have c23 : w1.cell? ⟨g, 23, none⟩ = some (.bool s.cw) := HQ.out.fl.c23
          have c24 : w1.cell? ⟨g, 24, none⟩ = some (.bool s.iw) := HQ.out.fl.c24
          have y23 := HQ.out.fl.fz 23
          have y24 := HQ.out.fl.fz 24
          have cn2 := HQ.out.chg.cell HCN.out (fun (e : w.heap.size = g) => by have := HLT.out; omega)
          clear HQ
          rw [hcw] at c23
          rw [hiw] at c24
          cases a <;> cases b
          all_goals
            go_wp2_with fail
            exact bodyPost_end (v := .tuple #[]) (by simp [results, Tryd.results27, go_sem]) rfl ⟨rfl, by first | exact FQ.after HB.out (HFL.out _ _) | (rw [← hm1]; exact FQ.after HB.out (HFL.out _ _)) | (rw [← hm2]; exact FQ.after HB.out (HFL.out _ _)) | (rw [← hm1, ← hm2]; exact FQ.after HB.out (HFL.out _ _))⟩
        | some i =>
          have HW := Lib.hid (show setW s n v = s.put n (legS n (s.f n) v) by unfold setW; rw [if_neg hn, if_neg hn', if_neg hn2]; exact if_neg (by rw [hi]; simp))
          rw [HU.out, HW.out]
          clear HU HW
          have HR := Lib.hid (reach_yes 58 #[.pointer (some ⟨w.heap.size, 0, none⟩), .pointer (some ⟨w.heap.size + 1, 0, none⟩)] g n i hi _ HK1.out _ (fset2_c g i n hi s w.heap.size (w.heap.size + 1) v HVV.out _ HN1.out HK1.out HF1.out HCN.out HV1.out) (Go.Proofs.enters_of Tryd.func58 (by kernel_rfl) rfl))
          obtain ⟨m1, hm1⟩ : ∃ m, (n == 2816) = m := ⟨_, rfl⟩
          obtain ⟨m2, hm2⟩ : ∃ m, (n == 2818) = m := ⟨_, rfl⟩
          go_enter Tryd.func27, Tryd.ntmps27
          go_upto_region 1 with fail
          generalize ((w.alloc (.cells #[.int .i64 n] 3)).alloc (.cells #[.int .u64 v] 25)) = w1 at *
          have cn1 := HCN.out
          go_wp2_with fail
          refine HR.out.mono ?_
          rintro e w2 ⟨rfl, hq⟩
          have HQ := Lib.hid hq
          clear hq cn1
          have HFL := Lib.hid (fun a b => HQ.out.flags a b)
          have c23 : w2.cell? ⟨g, 23, none⟩ = some (.bool s.cw) := HQ.out.fl.c23
          have c24 : w2.cell? ⟨g, 24, none⟩ = some (.bool s.iw) := HQ.out.fl.c24
          have y23 := HQ.out.fl.fz 23
          have y24 := HQ.out.fl.fz 24
          have cn2 := HQ.out.chg.cell HCN.out (fun (e : w.heap.size = g) => by have := HLT.out; omega)
          clear HQ
          rw [hcw] at c23
          rw [hiw] at c24
          cases a <;> cases b
          all_goals
            go_wp2_with fail
            exact bodyPost_end (v := .tuple #[]) (by simp [results, Tryd.results27, go_sem]) rfl ⟨rfl, by first | exact FQ.after HB.out (HFL.out _ _) | (rw [← hm1]; exact FQ.after HB.out (HFL.out _ _)) | (rw [← hm2]; exact FQ.after HB.out (HFL.out _ _)) | (rw [← hm1, ← hm2]; exact FQ.after HB.out (HFL.out _ _))⟩
end Go.Proofs.YtkbgmppbkllnmaaDoor
namespace Go.Proofs.YtkbgmppbkllnmaaDoor.Tab
def names4 : List (List UInt8) := [[], [108, 117, 105], [97, 117, 105, 112, 99], [106, 97, 108], [106, 97, 108, 114], [98, 101, 113], [98, 110, 101], [98, 108, 116], [98, 103, 101], [98, 108, 116, 117], [98, 103, 101, 117], [108, 98], [108, 104], [108, 119], [108, 100], [108, 98, 117], [108, 104, 117], [108, 119, 117], [115, 98], [115, 104], [115, 119], [115, 100], [97, 100, 100, 105], [115, 108, 116, 105], [115, 108, 116, 105, 117], [120, 111, 114, 105], [111, 114, 105], [97, 110, 100, 105], [115, 108, 108, 105], [115, 114, 108, 105], [115, 114, 97, 105], [97, 100, 100], [115, 117, 98], [115, 108, 108], [115, 108, 116], [115, 108, 116, 117], [120, 111, 114], [115, 114, 108], [115, 114, 97], [111, 114], [97, 110, 100], [97, 100, 100, 105, 119], [115, 108, 108, 105, 119], [115, 114, 108, 105, 119], [115, 114, 97, 105, 119], [97, 100, 100, 119], [115, 117, 98, 119], [115, 108, 108, 119], [115, 114, 108, 119], [115, 114, 97, 119], [102, 101, 110, 99, 101], [102, 101, 110, 99, 101, 46, 105], [101, 99, 97, 108, 108], [101, 98, 114, 101, 97, 107], [109, 117, 108], [109, 117, 108, 104], [109, 117, 108, 104, 115, 117], [109, 117, 108, 104, 117], [100, 105, 118], [100, 105, 118, 117], [114, 101, 109], [114, 101, 109, 117], [109, 117, 108, 119], [100, 105, 118, 119], [100, 105, 118, 117, 119], [114, 101, 109, 119], [114, 101, 109, 117, 119], [108, 114, 46, 119], [115, 99, 46, 119], [97, 109, 111, 115, 119, 97, 112, 46, 119], [97, 109, 111, 97, 100, 100, 46, 119], [97, 109, 111, 120, 111, 114, 46, 119], [97, 109, 111, 97, 110, 100, 46, 119], [97, 109, 111, 111, 114, 46, 119], [97, 109, 111, 109, 105, 110, 46, 119], [97, 109, 111, 109, 97, 120, 46, 119], [97, 109, 111, 109, 105, 110, 117, 46, 119], [97, 109, 111, 109, 97, 120, 117, 46, 119], [108, 114, 46, 100], [115, 99, 46, 100], [97, 109, 111, 115, 119, 97, 112, 46, 100], [97, 109, 111, 97, 100, 100, 46, 100], [97, 109, 111, 120, 111, 114, 46, 100], [97, 109, 111, 97, 110, 100, 46, 100], [97, 109, 111, 111, 114, 46, 100], [97, 109, 111, 109, 105, 110, 46, 100], [97, 109, 111, 109, 97, 120, 46, 100], [97, 109, 111, 109, 105, 110, 117, 46, 100], [97, 109, 111, 109, 97, 120, 117, 46, 100], [99, 115, 114, 114, 119], [99, 115, 114, 114, 115], [99, 115, 114, 114, 99], [99, 115, 114, 114, 119, 105], [99, 115, 114, 114, 115, 105], [99, 115, 114, 114, 99, 105], [109, 114, 101, 116], [115, 114, 101, 116], [119, 102, 105], [115, 102, 101, 110, 99, 101, 46, 118, 109, 97]]
def names3 : List (List UInt8) := [[], [82], [73], [83], [66], [85], [74], [83, 104, 105, 102, 116], [83, 104, 105, 102, 116, 87], [67, 115, 114], [67, 115, 114, 73], [65], [76, 114], [66, 97, 114, 101], [83, 102, 101, 110, 99, 101]]
/-- (op, format's number, mask, match) -/
def rows3 : List (Nat × Nat × Nat × Nat) := [(1, 5, 127, 55), (2, 5, 127, 23), (3, 6, 127, 111), (4, 2, 28799, 103), (5, 4, 28799, 99), (6, 4, 28799, 4195), (7, 4, 28799, 16483), (8, 4, 28799, 20579), (9, 4, 28799, 24675), (10, 4, 28799, 28771), (11, 2, 28799, 3), (12, 2, 28799, 4099), (13, 2, 28799, 8195), (14, 2, 28799, 12291), (15, 2, 28799, 16387), (16, 2, 28799, 20483), (17, 2, 28799, 24579), (18, 3, 28799, 35), (19, 3, 28799, 4131), (20, 3, 28799, 8227), (21, 3, 28799, 12323), (22, 2, 28799, 19), (23, 2, 28799, 8211), (24, 2, 28799, 12307), (25, 2, 28799, 16403), (26, 2, 28799, 24595), (27, 2, 28799, 28691), (28, 7, 4227887231, 4115), (29, 7, 4227887231, 20499), (30, 7, 4227887231, 1073762323), (31, 1, 4261441663, 51), (32, 1, 4261441663, 1073741875), (33, 1, 4261441663, 4147), (34, 1, 4261441663, 8243), (35, 1, 4261441663, 12339), (36, 1, 4261441663, 16435), (37, 1, 4261441663, 20531), (38, 1, 4261441663, 1073762355), (39, 1, 4261441663, 24627), (40, 1, 4261441663, 28723), (41, 2, 28799, 27), (42, 8, 4261441663, 4123), (43, 8, 4261441663, 20507), (44, 8, 4261441663, 1073762331), (45, 1, 4261441663, 59), (46, 1, 4261441663, 1073741883), (47, 1, 4261441663, 4155), (48, 1, 4261441663, 20539), (49, 1, 4261441663, 1073762363), (50, 2, 28799, 15), (51, 2, 28799, 4111), (52, 13, 4294967295, 115), (53, 13, 4294967295, 1048691), (54, 1, 4261441663, 33554483), (55, 1, 4261441663, 33558579), (56, 1, 4261441663, 33562675), (57, 1, 4261441663, 33566771), (58, 1, 4261441663, 33570867), (59, 1, 4261441663, 33574963), (60, 1, 4261441663, 33579059), (61, 1, 4261441663, 33583155), (62, 1, 4261441663, 33554491), (63, 1, 4261441663, 33570875), (64, 1, 4261441663, 33574971), (65, 1, 4261441663, 33579067), (66, 1, 4261441663, 33583163), (67, 12, 4193284223, 268443695), (68, 11, 4160778367, 402661423), (69, 11, 4160778367, 134225967), (70, 11, 4160778367, 8239), (71, 11, 4160778367, 536879151), (72, 11, 4160778367, 1610620975), (73, 11, 4160778367, 1073750063), (74, 11, 4160778367, 2147491887), (75, 11, 4160778367, 2684362799), (76, 11, 4160778367, 3221233711), (77, 11, 4160778367, 3758104623), (78, 12, 4193284223, 268447791), (79, 11, 4160778367, 402665519), (80, 11, 4160778367, 134230063), (81, 11, 4160778367, 12335), (82, 11, 4160778367, 536883247), (83, 11, 4160778367, 1610625071), (84, 11, 4160778367, 1073754159), (85, 11, 4160778367, 2147495983), (86, 11, 4160778367, 2684366895), (87, 11, 4160778367, 3221237807), (88, 11, 4160778367, 3758108719), (89, 9, 28799, 4211), (90, 9, 28799, 8307), (91, 9, 28799, 12403), (92, 10, 28799, 20595), (93, 10, 28799, 24691), (94, 10, 28799, 28787), (95, 13, 4294967295, 807403635), (96, 13, 4294967295, 270532723), (97, 13, 4294967295, 273678451), (98, 14, 4261445631, 301990003)]
end Go.Proofs.YtkbgmppbkllnmaaDoor.Tab
