/-
  The reference of layer 19: Rows, Of, Number, Least, ReadOnly, May.
-/
import Derived.Test.YtfjdalepaacmgaaDoorCsrC
import Derived.Great.BuildSlice
set_option maxRecDepth 20000
namespace Go.Proofs.YtfjdalepaacmgaaDoor
open Go.ChangeShapes Go.WideShapes Go.ChangeAt Go.RowKit Wd Csr

abbrev RrT : TypeId := 86
theorem info_rr : (Tryd.prog.info? RrT).map (fun i => (i.zero, i.size, i.bytes)) = some (some (.agg zRow), 3, 32) := by kernel_rfl
def rowV (r : RowC) : List Value := [.int .i64 (r.1 : Nat), .string (cB r.2.1), .int .u64 (r.2.2 : Nat)]
abbrev rrCells : Array Value := (rowsC.flatMap rowV).toArray
set_option maxHeartbeats 4000000 in
set_option maxRecDepth 1000000 in
theorem rrows_c (w : World) : Calls Tryd.prog 44 #[] w fun e w' => e = .returned (.slice (some ⟨w.heap.size, 0, none⟩) 34 34) ∧ w.alloc (.cells rrCells RrT) = w' := by
  go_enter Tryd.func44, Tryd.ntmps44
  obtain ⟨i0, hi, hz0, hz1, hz2⟩ := info_parts info_rr
  go_upto_region 1 with fail
  apply wp_region_lit
  go_wp2_with (with_reducible refine Go.wpList_buildSlice rfl 83 RrT 34 _ rfl ((rowsC.flatMap rowV).toArray) i0 (.agg zRow) Tryd.underlying83 hi hz0 (by rw [hz1]; decide) (by rw [hz1]; decide) (by rw [hz1]; kernel_rfl) ?_)
  go_ret
  exact ⟨rfl, rfl⟩
theorem flat3 {α β : Type} (f : α → List β) (hf : ∀ x, (f x).length = 3) (l : List α) (k j : Nat) (hj : j < 3) (a : α) (ha : l[k]? = some a) : (l.flatMap f)[k * 3 + j]? = (f a)[j]? := by
  induction l generalizing k with
  | nil => simp at ha
  | cons x xs ih =>
    cases k with
    | zero =>
      simp at ha
      subst ha
      rw [List.flatMap_cons, List.getElem?_append_left (by rw [hf]; omega)]
      simp
    | succ k =>
      rw [List.flatMap_cons, List.getElem?_append_right (by rw [hf]; omega), hf]
      rw [show (k + 1) * 3 + j - 3 = k * 3 + j by omega]
      exact ih k (by simpa using ha)
/-- The reference's table in a block. -/
def RRAt (w : World) (g : Nat) : Prop := g < w.heap.size ∧ ∀ k, k < 34 → w.cell? ⟨g, k * 3, none⟩ = some (.int .i64 ((rowC k).1 : Nat)) ∧ w.cell? ⟨g, k * 3 + 1, none⟩ = some (.string (cB (rowC k).2.1)) ∧ w.cell? ⟨g, k * 3 + 2, none⟩ = some (.int .u64 ((rowC k).2.2 : Nat))
theorem RRAt.low {w w' : World} {g : Nat} (h : RRAt w g) (hb : Below w.heap.size w w') : RRAt w' g :=
  ⟨Nat.lt_of_lt_of_le h.1 hb.size, fun k hk => by
    obtain ⟨a, b, c⟩ := h.2 k hk
    exact ⟨(hb.cell (p := ⟨g, k * 3, none⟩) h.1).trans a, (hb.cell (p := ⟨g, k * 3 + 1, none⟩) h.1).trans b, (hb.cell (p := ⟨g, k * 3 + 2, none⟩) h.1).trans c⟩⟩
theorem rrAt_new (w : World) : RRAt (w.alloc (.cells rrCells RrT)) w.heap.size := by
  refine ⟨by simp, fun k hk => ?_⟩
  have h := rowC_get hk
  have c : ∀ j, j < 3 → (w.alloc (.cells rrCells RrT)).cell? ⟨w.heap.size, k * 3 + j, none⟩ = (rowV (rowC k))[j]? := by
    intro j hj
    rw [cell_of_row _ w.heap.size (k * 3 + j) rrCells RrT (0, 0) (heap_alloc_new w _)]
    rw [List.getElem?_toArray]
    exact flat3 rowV (fun x => rfl) rowsC k j hj (rowC k) h
  exact ⟨c 0 (by omega), c 1 (by omega), c 2 (by omega)⟩
set_option maxHeartbeats 2000000 in
theorem rof_c (n : Int) (w : World) : Calls Tryd.prog 84 #[.int .i64 n] w fun e w' => e = .returned (rAgg (ofN n)) ∧ Below w.heap.size w w' := by
  go_enter Tryd.func84, Tryd.ntmps84
  go_wp2_with fail
  refine (rrows_c _).mono ?_
  rintro e w1 ⟨rfl, rfl⟩
  have hr := rrAt_new (w.alloc (.cells zRow RrT))
  have hB : Below w.heap.size w ((w.alloc (.cells zRow RrT)).alloc (.cells rrCells RrT)) := ((Below.refl _ _).alloc (Nat.le_refl _) _).alloc (by simp) _
  have hz : CsAt ((w.alloc (.cells zRow RrT)).alloc (.cells rrCells RrT)) w.heap.size RrT zRow := (CsAt.new w RrT zRow).alloc _
  simp only [World.size_alloc] at hr
  generalize ((w.alloc (.cells zRow RrT)).alloc (.cells rrCells RrT)) = w2 at *
  have HR := Lib.hid hr
  have HB := Lib.hid hB
  have z0 := hz.cell 0
  have z1 := hz.cell 1
  have z2 := hz.cell 2
  have y0 := hz.frozen 0
  have y1 := hz.frozen 1
  have y2 := hz.frozen 2
  simp only [List.getElem?_toArray, List.getElem?_cons_zero, List.getElem?_cons_succ] at z0 z1 z2
  clear hr hB hz
  go_wp2_with fail
  go_loop [4] (fun i => ∃ k : Nat, k ≤ 34 ∧ i = .int .i64 k ∧ ∀ j, j < k → isNum n (rowC j) = false) (fun i => 34 - (intOf i).toNat)
  case atStart => exact ⟨0, by omega, rfl, fun j h => by omega⟩
  case round =>
    obtain ⟨k, hk, rfl, hn⟩ := hrel
    have HN := Lib.hid hn
    clear hn
    by_cases hlt : k < 34
    · obtain ⟨c0, c1, c2⟩ := HR.out.2 k hlt
      have hl2 : (k : Int) < 34 := by omega
      cases hp : isNum n (rowC k)
      · have HP := Lib.hid hp
        have t1 : ((((rowC k).1 : Nat) : Int) == n) = false := hp
        clear hp
        generalize (((rowC k).1 : Nat) : Int) = a at *
        go_wp2_with fail
        go_round
        case rel => exact ⟨k + 1, by omega, by go_num, fun i hi => if e : i = k then e ▸ HP.out else HN.out i (by omega)⟩
        case measure => simp [intOf]; omega
      · have HF := Lib.hid (fst_hit hlt HN.out hp)
        have t1 : ((((rowC k).1 : Nat) : Int) == n) = true := hp
        clear hp
        have HA := Lib.hid (show rAgg (rowC k) = .agg #[.int .i64 ((rowC k).1 : Nat), .string (cB (rowC k).2.1), .int .u64 ((rowC k).2.2 : Nat)] from rfl)
        have HO := Lib.hid (show rAgg (ofN n) = rAgg (rowC k) by unfold ofN; rw [HF.out]; rfl)
        rw [HA.out] at HO
        generalize (((rowC k).1 : Nat) : Int) = a at *
        generalize (((rowC k).2.2 : Nat) : Int) = m at *
        generalize cB (rowC k).2.1 = s at *
        go_wp2_with fail
        refine bodyPost_ret (v := .agg #[.int .i64 a, .string s, .int .u64 m]) (by simp [results, Tryd.results84, go_sem, z0, z1, z2]) rfl ⟨by rw [HO.out], ?_⟩
        exact ((HB.out.setCell (by exact Nat.le_refl _) _).setCell (by exact Nat.le_refl _) _).setCell (by exact Nat.le_refl _) _
    · obtain rfl : k = 34 := by omega
      have HO := Lib.hid (show rAgg (ofN n) = .agg zRow by unfold ofN; rw [fst_none HN.out]; rfl)
      go_wp2_with fail
      refine bodyPost_ret (v := .agg zRow) (by simp [results, Tryd.results84, go_sem, z0, z1, z2]) rfl ⟨by rw [HO.out], ?_⟩
      exact ((HB.out.setCell (by exact Nat.le_refl _) _).setCell (by exact Nat.le_refl _) _).setCell (by exact Nat.le_refl _) _
end Go.Proofs.YtfjdalepaacmgaaDoor
