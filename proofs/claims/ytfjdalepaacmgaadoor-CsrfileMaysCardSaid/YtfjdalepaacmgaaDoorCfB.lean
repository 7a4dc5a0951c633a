/-
  The list csrfile.kept and a file in memory; contracts of csrfile.File.reach, word, pending, count, lay, and of the functions that are handed to reach.
-/
import Derived.Test.YtfjdalepaacmgaaDoorCfA
import Derived.Test.YtfjdalepaacmgaaDoorChgA
import Derived.Test.YtfjdalepaacmgaaDoorStaG
import Derived.Test.YtfjdalepaacmgaaDoorStaF
import Derived.Test.YtfjdalepaacmgaaDoorCsrG
import Derived.ProofKit
import Derived.WalkLawsBesides
import Derived.Shelf.Abstract
import Derived.Deep.DeepCutAuto
set_option maxRecDepth 20000
namespace Go.Proofs.YtfjdalepaacmgaaDoor
open Go.ChangeShapes Go.WideShapes Go.ChangeAt Go.RowKit Wd Csr Sta Cf

abbrev FlT : TypeId := 54
abbrev one (g : Nat) : Nat → Prop := fun k => k = g
def KeptIn (w : World) : Prop := 2 < w.heap.size ∧ ∀ i, i < 22 → w.cell? ⟨2, i, none⟩ = some (.int .i64 (keptN i : Nat))
theorem KeptIn.low {w w' : World} (h : KeptIn w) (hb : Below w.heap.size w w') : KeptIn w' :=
  ⟨Nat.le_trans h.1 hb.size, fun k hk => (hb.cell (p := ⟨2, k, none⟩) h.1).trans (h.2 k hk)⟩
theorem KeptIn.chg {S : Nat → Prop} {w w' : World} (h : KeptIn w) (hc : Chg S w w') (hS : ¬ S 2) : KeptIn w' :=
  ⟨Nat.lt_of_lt_of_le h.1 hc.size, fun k hk => hc.cell (h.2 k hk) hS⟩
theorem RowsIn.chg {S : Nat → Prop} {w w' : World} (h : RowsIn w) (hc : Chg S w w') (hS : ¬ S 3) : RowsIn w' :=
  ⟨Nat.lt_of_lt_of_le h.1 hc.size, fun k hk => ⟨hc.cell (h.2 k hk).1 hS, hc.cell (h.2 k hk).2.1 hS, hc.cell (h.2 k hk).2.2 hS⟩⟩
set_option maxHeartbeats 2000000 in
theorem reach_yes (F : FuncId) (cs : Array Value) (g : Nat) (n : Int) (i : Nat) (hi : idxK n = some i) (w : World) (hK : KeptIn w) (Q : World → Prop)
    (hF : Calls Tryd.prog F (#[.pointer (some ⟨g, 1 + i, none⟩)] ++ cs) w fun e w' => e = .returned (.tuple #[]) ∧ Q w') (hE : Go.Proofs.Enters Tryd.prog F) :
    Calls Tryd.prog 55 #[.pointer (some ⟨g, 0, none⟩), .int .i64 n, .func (.func F) #[] cs] w fun e w' => e = .returned (.tuple #[]) ∧ Q w' := by
  have HF := Lib.hid hF
  have HK := Lib.hid hK
  obtain ⟨h22, hn⟩ := idx_some hi
  have HNE := Lib.hid (fun k (hk : k < i) => show (((keptN k : Nat) : Int) == n) = false by
    rw [hn]
    have := kept_ne ⟨k, by omega⟩ ⟨i, h22⟩
    simp only at this
    simp only [beq_eq_false_iff_ne, ne_eq]
    intro e
    have e' : keptN k = keptN i := by exact_mod_cast e
    have := this e'
    omega)
  have HEQ := Lib.hid (show (((keptN i : Nat) : Int) == n) = true by rw [hn]; simp)
  clear hF hK hn hi
  go_enter Tryd.func55, Tryd.ntmps55
  go_wp2_with fail
  go_loopw [6, 7] (fun _ iv wr => ∃ k : Nat, k ≤ i ∧ iv = .int .i64 k ∧ wr = w) (fun _ iv _ => 22 - (intOf iv).toNat)
  case atStart => exact ⟨0, Nat.zero_le _, rfl, rfl⟩
  case round =>
    obtain ⟨k, hk, rfl, rfl⟩ := hrel
    have hl2 : (k : Int) < 22 := by omega
    have hlt : k < 22 := by omega
    have c0 := HK.out.2 k hlt
    by_cases hki : k < i
    · have t1 := HNE.out k hki
      generalize ((keptN k : Nat) : Int) = a at *
      go_wp2_with fail
      go_roundw
      case rel => exact ⟨k + 1, by omega, by go_num, trivial⟩
      case measure => simp [intOf]; omega
    · obtain rfl : k = i := by omega
      have t1 := HEQ.out
      generalize ((keptN k : Nat) : Int) = a at *
      go_wp2_with fail
      rw [hE]
      refine HF.out.mono ?_
      rintro e w2 ⟨rfl, hq⟩
      have HQ := Lib.hid hq
      clear hq c0
      go_wp2_with fail
      refine bodyPost_ret (results_none rfl _ _ _) rfl ?_
      exact ⟨rfl, HQ.out⟩
set_option maxHeartbeats 2000000 in
theorem reach_no (F : FuncId) (cs : Array Value) (p : Value) (n : Int) (hi : idxK n = none) (w : World) (hK : KeptIn w) :
    Calls Tryd.prog 55 #[p, .int .i64 n, .func (.func F) #[] cs] w fun e w' => e = .returned (.tuple #[]) ∧ w = w' := by
  have HK := Lib.hid hK
  have HNE := Lib.hid (idx_none hi)
  clear hK hi
  go_enter Tryd.func55, Tryd.ntmps55
  go_wp2_with fail
  go_loopw [6, 7] (fun _ iv wr => ∃ k : Nat, k ≤ 22 ∧ iv = .int .i64 k ∧ wr = w) (fun _ iv _ => 22 - (intOf iv).toNat)
  case atStart => exact ⟨0, Nat.zero_le _, rfl, rfl⟩
  case round =>
    obtain ⟨k, hk, rfl, rfl⟩ := hrel
    by_cases hlt : k < 22
    · have hl2 : (k : Int) < 22 := by omega
      have c0 := HK.out.2 k hlt
      have t1 := HNE.out k hlt
      generalize ((keptN k : Nat) : Int) = a at *
      go_wp2_with fail
      go_roundw
      case rel => exact ⟨k + 1, by omega, by go_num, trivial⟩
      case measure => simp [intOf]; omega
    · obtain rfl : k = 22 := by omega
      go_wp2_with fail
      exact bodyPost_end (v := .tuple #[]) (by simp [results, Tryd.results55, go_sem]) rfl ⟨rfl, rfl⟩
/-- A file in a block. -/
structure FlAt (w : World) (g : Nat) (s : S) : Prop where
  r : CsAt w g FlT (fileV s)
  ok : Ok s
theorem FlAt.low {w w' : World} {g : Nat} {s : S} (h : FlAt w g s) (hb : Below w.heap.size w w') : FlAt w' g s := ⟨h.r.low hb, h.ok⟩
theorem FlAt.drew {w : World} {g : Nat} {s : S} (h : FlAt w g s) : FlAt w.drew g s := ⟨h.r, h.ok⟩
theorem FlAt.w {w : World} {g : Nat} {s : S} (h : FlAt w g s) {n : Int} {i : Nat} (hi : idxK n = some i) : w.cell? ⟨g, 1 + i, none⟩ = some (.int .u64 (s.f n)) := by
  obtain ⟨h22, hn⟩ := idx_some hi
  rw [h.r.cell, fileV_w s h22, hn]
theorem FlAt.put {w : World} {g : Nat} {s : S} (h : FlAt w g s) {n : Int} {i : Nat} (hi : idxK n = some i) {v : Int} (hv : W64 v) : FlAt (w.setCell ⟨g, 1 + i, none⟩ (.int .u64 v)) g (s.put n v) := by
  obtain ⟨h22, hn⟩ := idx_some hi
  refine ⟨?_, h.ok.put (by rw [hi]; simp) hv⟩
  unfold CsAt
  rw [heap_setCell_same w g (1 + i) _ FlT _ h.r, fileV_put s h22, ← hn]
set_option maxHeartbeats 1000000 in
theorem fword1_c (g i pv : Nat) (x : Int) (w : World) (hc : w.cell? ⟨g, 1 + i, none⟩ = some (.int .u64 x)) (hv : CsAt w pv 24 #[.int .u64 0]) :
    Calls Tryd.prog 93 #[.pointer (some ⟨g, 1 + i, none⟩), .pointer (some ⟨pv, 0, none⟩)] w fun e w' => e = .returned (.tuple #[]) ∧ w' = w.setCell ⟨pv, 0, none⟩ (.int .u64 x) := by
  have v0 := hv.cell 0
  have y0 := hv.frozen 0
  simp only [List.getElem?_toArray, List.getElem?_cons_zero] at v0
  clear hv
  go_enter Tryd.func93, Tryd.ntmps93
  go_wp2_with fail
  exact bodyPost_end (v := .tuple #[]) (by simp [results, Tryd.results93, go_sem]) rfl ⟨rfl, rfl⟩
set_option maxHeartbeats 1000000 in
theorem fword_c (g : Nat) (n : Int) (s : S) (w : World) (hK : KeptIn w) (h : FlAt w g s) :
    Calls Tryd.prog 69 #[.pointer (some ⟨g, 0, none⟩), .int .i64 n] w fun e w' => e = .returned (.int .u64 (s.f n)) ∧ Below w.heap.size w w' := by
  have hB : Below w.heap.size w (w.alloc (.cells #[.int .u64 0] 24)) := (Below.refl _ _).alloc (Nat.le_refl _) _
  have h1 := CsAt.new w 24 #[.int .u64 0]
  have HB := Lib.hid hB
  cases hi : idxK n with
  | none =>
    have HZ := Lib.hid (h.ok.z n hi)
    have HR := Lib.hid (reach_no 93 #[.pointer (some ⟨w.heap.size, 0, none⟩)] (.pointer (some ⟨g, 0, none⟩)) n hi _ (hK.low hB))
    have z0 := h1.cell 0
    simp only [List.getElem?_toArray, List.getElem?_cons_zero] at z0
    clear hK h hi hB h1
    go_enter Tryd.func69, Tryd.ntmps69
    go_upto_region 2 with fail
    generalize w.alloc (.cells #[.int .u64 0] 24) = w1 at *
    go_wp2_with fail
    refine HR.out.mono ?_
    rintro e w2 ⟨rfl, rfl⟩
    go_wp2_with fail
    go_ret
    exact ⟨by rw [HZ.out]; rfl, HB.out⟩
  | some i =>
    have HR := Lib.hid (reach_yes 93 #[.pointer (some ⟨w.heap.size, 0, none⟩)] g n i hi _ (hK.low hB) _ (fword1_c g i w.heap.size (s.f n) _ ((h.low hB).w hi) h1) (Go.Proofs.enters_of Tryd.func93 (by kernel_rfl) rfl))
    have hB2 : Below w.heap.size w ((w.alloc (.cells #[.int .u64 0] 24)).setCell ⟨w.heap.size, 0, none⟩ (.int .u64 (s.f n))) := hB.setCell (by exact Nat.le_refl _) _
    have HB2 := Lib.hid hB2
    have hc : CsAt ((w.alloc (.cells #[.int .u64 0] 24)).setCell ⟨w.heap.size, 0, none⟩ (.int .u64 (s.f n))) w.heap.size 24 #[.int .u64 (s.f n)] := by
      unfold CsAt
      rw [heap_setCell_same _ w.heap.size 0 _ _ _ h1]
      rfl
    have z0 := hc.cell 0
    simp only [List.getElem?_toArray, List.getElem?_cons_zero] at z0
    clear hK h hi hB h1 hB2 hc
    generalize s.f n = x at *
    go_enter Tryd.func69, Tryd.ntmps69
    go_upto_region 2 with fail
    generalize (w.alloc (.cells #[.int .u64 0] 24)) = w1 at *
    go_wp2_with fail
    refine HR.out.mono ?_
    rintro e w2 ⟨rfl, rfl⟩
    generalize w1.setCell ⟨w.heap.size, 0, none⟩ (.int .u64 x) = w2 at *
    go_wp2_with fail
    go_ret
    exact ⟨rfl, HB2.out⟩
set_option maxHeartbeats 1000000 in
theorem fpend_c (g : Nat) (l : Int) (s : S) (w : World) (hK : KeptIn w) (h : FlAt w g s) :
    Calls Tryd.prog 73 #[.pointer (some ⟨g, 0, none⟩), .int .u64 l] w fun e w' => e = .returned (.int .u64 (pendS s l)) ∧ Below w.heap.size w w' := by
  have HW := Lib.hid (fword_c g 836 s w hK h)
  have HP := Lib.hid (show pendS s l = bits .or .u64 (s.f 836) (bits .and .u64 l 2696) from rfl)
  clear hK h
  generalize pendS s l = z at *
  generalize s.f 836 = x at *
  go_enter Tryd.func73, Tryd.ntmps73
  go_wp2_with fail
  refine HW.out.mono ?_
  rintro e w2 ⟨rfl, hb⟩
  have HB := Lib.hid hb
  clear hb
  go_wp2_with fail
  go_ret
  exact ⟨by rw [HP.out]; rfl, HB.out⟩
end Go.Proofs.YtfjdalepaacmgaaDoor
