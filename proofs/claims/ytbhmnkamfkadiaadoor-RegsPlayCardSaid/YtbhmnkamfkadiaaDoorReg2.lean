/-
  Contracts of regs.Set, Of, Words and of the reference's Set.
-/
import Derived.Test.YtbhmnkamfkadiaaDoorReg1
import Derived.Great.BuildSlice
namespace Go.Proofs.YtbhmnkamfkadiaaDoor
open Go.ChangeShapes Go.WideShapes Go.ChangeAt Go.RowKit

set_option maxHeartbeats 400000 in
theorem set_nil (i x : Int) (w : World) : Calls Tryd.prog 13 #[.pointer none, .int .i64 i, .int .u64 x] w fun e w' => e = .returned (.tuple #[]) ∧ w = w' := by
  go_enter Tryd.func13, Tryd.ntmps13
  go_wp2_with fail
  exact bodyPost_ret (v := .tuple #[]) (by simp [results, Tryd.results13, go_sem]) rfl ⟨rfl, rfl⟩
set_option maxHeartbeats 400000 in
theorem set_c (b : Nat) (t : TypeId) (ws : List Int) (hl : ws.length = 32) (i x : Int) (w : World) (h : RowAt .u64 w b t ws) : Calls Tryd.prog 13 #[.pointer (some ⟨b, 0, none⟩), .int .i64 i, .int .u64 x] w fun e w' => e = .returned (.tuple #[]) ∧ w' = w.setRow b (aV .u64 (setR ws i x)) := by
  have HL := Lib.hid hl
  have HR := Lib.hid h
  clear hl h
  by_cases h0 : i = 0
  · subst h0
    have HG := Lib.hid (show setR ws 0 x = ws by unfold setR; rw [if_neg (by omega)])
    have HS := Lib.hid (show w.setRow b (aV .u64 (setR ws 0 x)) = w by rw [HG.out]; exact HR.out.self)
    clear HG
    go_enter Tryd.func13, Tryd.ntmps13
    go_wp2_with fail
    exact bodyPost_ret (v := .tuple #[]) (by simp [results, Tryd.results13, go_sem]) rfl ⟨rfl, HS.out.symm⟩
  · have e0 : (i == 0) = false := by simpa using h0
    by_cases hi : 0 ≤ i ∧ i < 32
    · have HG := Lib.hid (show setR ws i x = ws.set i.toNat x by unfold setR; rw [if_pos (by omega)])
      have e := inR_iff.2 hi
      obtain ⟨k, rfl⟩ := Int.eq_ofNat_of_zero_le hi.1
      have hk : k < 32 := by omega
      have hk2 : (k : Int) < 32 := by omega
      have hc := HR.out.cell k (by rw [HL.out]; exact hk)
      have hf := HR.out.frozen k
      have HS := Lib.hid (show w.setRow b (aV .u64 (setR ws (k : Int) x)) = w.setCell ⟨b, k, none⟩ (.int .u64 x) by rw [HG.out, Int.toNat_natCast]; exact (HR.out.setEq k x).symm)
      generalize ws.getD k 0 = v at *
      clear hi HG h0
      go_enter Tryd.func13, Tryd.ntmps13
      go_wp2_with fail
      refine (exists_c _ _).mono ?_
      rintro e w1 ⟨rfl, rfl⟩
      go_wp2_with fail
      exact bodyPost_end (v := .tuple #[]) (by simp [results, Tryd.results13, go_sem]) rfl ⟨rfl, HS.out.symm⟩
    · have HG := Lib.hid (show setR ws i x = ws by unfold setR; rw [if_neg (by omega)])
      have HS := Lib.hid (show w.setRow b (aV .u64 (setR ws i x)) = w by rw [HG.out]; exact HR.out.self)
      have e := inR_no hi
      clear HG hi h0
      go_enter Tryd.func13, Tryd.ntmps13
      go_wp2_with fail
      refine (exists_c _ _).mono ?_
      rintro e w1 ⟨rfl, rfl⟩
      go_wp2_with fail
      exact bodyPost_ret (v := .tuple #[]) (by simp [results, Tryd.results13, go_sem]) rfl ⟨rfl, HS.out.symm⟩
theorem info31 : (Tryd.prog.info? 31).map (·.size) = some 32 := by kernel_rfl
theorem info34 : (Tryd.prog.info? 34).map (·.size) = some 32 := by kernel_rfl
theorem i31 {ws : List Int} (h : ws.length = 32) : (Tryd.prog.info? 31).map (·.size) = some (aV .u64 ws).size := by rw [aV_size, h]; exact info31
theorem i34 {ws : List Int} (h : ws.length = 32) : (Tryd.prog.info? 34).map (·.size) = some (aV .u64 ws).size := by rw [aV_size, h]; exact info34
set_option maxHeartbeats 400000 in
theorem words_c (b : Nat) (t : TypeId) (ws : List Int) (hl : ws.length = 32) (w : World) (h : RowAt .u64 w b t ws) : Calls Tryd.prog 15 #[.pointer (some ⟨b, 0, none⟩)] w fun e w' => e = .returned (.agg (aV .u64 ws)) ∧ Below w.heap.size w w' := by
  have HL := Lib.hid hl
  have HR := Lib.hid h
  clear hl h
  go_enter Tryd.func15, Tryd.ntmps15
  go_wp2_with (first | (refine wpList_load_row rfl 31 _ rfl b rfl t _ (0, 0) _ (HR.out.alloc _) Tryd.underlying31 rfl (i31 HL.out) ?_) | (refine wpList_storeNew rfl 31 _ _ rfl _ _ _ rfl rfl (i31 HL.out) (by rw [aV_size, HL.out]; rfl) (aV_one _ _) ?_))
  exact bodyPost_ret (results_cell_row Tryd.results15 _ _ _ _ _ _ _ rfl (heap_alloc_last w _) Tryd.underlying31 rfl (i31 HL.out)) rfl ⟨rfl, (Below.refl _ _).alloc (Nat.le_refl _) _⟩
theorem built_fn (parts : List (Nat × Value)) : Tryd.prog.built 34 parts = Instr.fill (#[(0, 32)][·]?) (aV .u64 (List.replicate 32 0)) parts := by kernel_rfl
theorem built_file (ws : List Int) (h : ws.length = 32) : Tryd.prog.built 34 [(0, .agg (aV .u64 ws))] = some (aV .u64 ws) := by
  rw [built_fn]
  exact fill_whole _ _ _ (by rw [aV_size, h]; rfl) (by rw [aV_size, aV_size, h]; rfl)
/-- What Of makes. -/
def ofR (ws : List Int) : List Int := ws.set 0 0
theorem ofR_len (ws : List Int) : (ofR ws).length = ws.length := by simp [ofR]
set_option maxHeartbeats 400000 in
theorem of_c (ws : List Int) (hl : ws.length = 32) (w : World) : Calls Tryd.prog 12 #[.agg (aV .u64 ws)] w fun e w' => e = .returned (.agg (aV .u64 (ofR ws))) ∧ Below w.heap.size w w' := by
  have HL := Lib.hid hl
  have HO := Lib.hid ((ofR_len ws).trans hl)
  have HE := Lib.hid (show ofR ws = ws.set 0 0 from rfl)
  clear hl
  go_enter Tryd.func12, Tryd.ntmps12
  go_upto_region 1 with (fail)
  have hB0 : Below w.heap.size w ((w.alloc (.cells (aV .u64 ws) 31)).alloc (.cells (aV .u64 (List.replicate 32 0)) 34)) := ((Below.refl _ _).alloc (Nat.le_refl _) _).alloc (by simp) _
  have hR0 : RowAt .u64 ((w.alloc (.cells (aV .u64 ws) 31)).alloc (.cells (aV .u64 (List.replicate 32 0)) 34)) w.heap.size 31 ws := (RowAt.new _ _ _ _).alloc _
  have hF0 : RowAt .u64 ((w.alloc (.cells (aV .u64 ws) 31)).alloc (.cells (aV .u64 (List.replicate 32 0)) 34)) (w.heap.size + 1) 34 (List.replicate 32 0) := by
    have := RowAt.new .u64 (w.alloc (.cells (aV .u64 ws) 31)) 34 (List.replicate 32 0)
    simpa using this
  rw [zeros32] at hB0 hR0 hF0
  generalize ((w.alloc (.cells (aV .u64 ws) 31)).alloc _) = w2 at *
  have hc := hR0.cell 0 (by rw [HL.out]; decide)
  have hf := hR0.frozen 0
  have hR1 := HE.out ▸ hR0.set 0 0
  have hF1 := hF0.far (c := w.heap.size) (i := 0) (by omega) (.int .u64 0)
  have hB1 := hB0.setCell (p := ⟨w.heap.size, 0, none⟩) (Nat.le_refl _) (.int .u64 0)
  have HR1 := Lib.hid hR1
  have HF1 := Lib.hid hF1
  have HB1 := Lib.hid hB1
  clear hR0 hF0 hB0 hR1 hF1 hB1 HE
  generalize ws.getD 0 0 = v0 at *
  go_wp2_with (first | (refine wpList_load_row rfl 31 _ rfl w.heap.size rfl 31 _ (0, 0) _ HR1.out Tryd.underlying31 rfl (i31 HO.out) ?_) | (refine wpList_buildOne rfl 34 _ _ rfl _ _ rfl (built_file _ HO.out) ?_) | (refine wpList_store_row rfl 34 _ _ rfl (w.heap.size + 1) _ rfl rfl 34 _ HF1.out (i34 HO.out) (by rw [aV_size, aV_size, HO.out]; rfl) (aV_one _ _) ?_))
  exact bodyPost_ret (results_cell_row Tryd.results12 _ _ _ _ _ _ _ rfl (HF1.out.row _) Tryd.underlying34 rfl (i34 HO.out)) rfl ⟨rfl, below_setRow HB1.out (by omega) _⟩
set_option maxHeartbeats 400000 in
theorem refset_c (ws : List Int) (hl : ws.length = 32) (i x : Int) (w : World) : Calls Tryd.prog 14 #[.agg (aV .u64 ws), .int .i64 i, .int .u64 x] w fun e w' => e = .returned (.agg (aV .u64 (setR ws i x))) ∧ Below w.heap.size w w' := by
  have HL := Lib.hid hl
  have HO := Lib.hid ((setR_len ws i x).trans hl)
  clear hl
  have key : ((0 < i ∧ i < 32) ∧ setR ws i x = ws.set i.toNat x) ∨ ((decide (0 < i) = false ∨ (decide (0 < i) = true ∧ decide (i < 32) = false)) ∧ setR ws i x = ws) := by
    by_cases h : 0 < i ∧ i < 32
    · exact .inl ⟨h, by unfold setR; rw [if_pos h]⟩
    · refine .inr ⟨?_, by unfold setR; rw [if_neg h]⟩
      by_cases h0 : 0 < i
      · exact .inr ⟨by simpa using h0, by simp; omega⟩
      · exact .inl (by simpa using h0)
  rcases key with ⟨hi, hE⟩ | ⟨hi, hE⟩
  · have HE := Lib.hid hE
    clear hE
    obtain ⟨k, rfl⟩ := Int.eq_ofNat_of_zero_le (by omega : 0 ≤ i)
    have e0 : decide (0 < (k : Int)) = true := by simp; omega
    have e1 : decide ((k : Int) < 32) = true := by simp; omega
    have hk : k < 32 := by omega
    have hk0 : 0 < k := by omega
    have hk2 : (k : Int) < 32 := by omega
    clear hi
    go_enter Tryd.func14, Tryd.ntmps14
    go_upto_region 2 with (fail)
    have hB0 : Below w.heap.size w ((w.alloc (.cells (aV .u64 ws) 31)).alloc (.cells (aV .u64 (List.replicate 32 0)) 31)) := ((Below.refl _ _).alloc (Nat.le_refl _) _).alloc (by simp) _
    have hR0 : RowAt .u64 ((w.alloc (.cells (aV .u64 ws) 31)).alloc (.cells (aV .u64 (List.replicate 32 0)) 31)) w.heap.size 31 ws := (RowAt.new _ _ _ _).alloc _
    have hF0 : RowAt .u64 ((w.alloc (.cells (aV .u64 ws) 31)).alloc (.cells (aV .u64 (List.replicate 32 0)) 31)) (w.heap.size + 1) 31 (List.replicate 32 0) := by
      have := RowAt.new .u64 (w.alloc (.cells (aV .u64 ws) 31)) 31 (List.replicate 32 0)
      simpa using this
    rw [zeros32] at hB0 hR0 hF0
    generalize ((w.alloc (.cells (aV .u64 ws) 31)).alloc _) = w2 at *
    have hc := hR0.cell k (by rw [HL.out]; exact hk)
    have hf := hR0.frozen k
    have hR1 := hR0.set k x
    rw [show ws.set k x = setR ws (k : Int) x by rw [HE.out, Int.toNat_natCast]] at hR1
    have hF1 := hF0.far (c := w.heap.size) (i := k) (by omega) (.int .u64 x)
    have hB1 := hB0.setCell (p := ⟨w.heap.size, k, none⟩) (Nat.le_refl _) (.int .u64 x)
    have HR1 := Lib.hid hR1
    have HF1 := Lib.hid hF1
    have HB1 := Lib.hid hB1
    clear hR0 hF0 hB0 hR1 hF1 hB1 HE
    generalize ws.getD k 0 = v0 at *
    go_wp2_with (first | (refine wpList_load_row rfl 31 _ rfl w.heap.size rfl 31 _ (0, 0) _ HR1.out Tryd.underlying31 rfl (i31 HO.out) ?_) | (refine wpList_store_row rfl 31 _ _ rfl (w.heap.size + 1) _ rfl rfl 31 _ HF1.out (i31 HO.out) (by rw [aV_size, aV_size, HO.out]; rfl) (aV_one _ _) ?_))
    exact bodyPost_ret (results_cell_row Tryd.results14 _ _ _ _ _ _ _ rfl (HF1.out.row _) Tryd.underlying31 rfl (i31 HO.out)) rfl ⟨rfl, below_setRow HB1.out (by omega) _⟩
  · rw [hE]
    clear hE HO
    rcases hi with h0 | ⟨h0, h1⟩
    all_goals
      go_enter Tryd.func14, Tryd.ntmps14
      go_upto_region 3 with (fail)
      have hB0 : Below w.heap.size w ((w.alloc (.cells (aV .u64 ws) 31)).alloc (.cells (aV .u64 (List.replicate 32 0)) 31)) := ((Below.refl _ _).alloc (Nat.le_refl _) _).alloc (by simp) _
      have hR0 : RowAt .u64 ((w.alloc (.cells (aV .u64 ws) 31)).alloc (.cells (aV .u64 (List.replicate 32 0)) 31)) w.heap.size 31 ws := (RowAt.new _ _ _ _).alloc _
      have hF0 : RowAt .u64 ((w.alloc (.cells (aV .u64 ws) 31)).alloc (.cells (aV .u64 (List.replicate 32 0)) 31)) (w.heap.size + 1) 31 (List.replicate 32 0) := by
        have := RowAt.new .u64 (w.alloc (.cells (aV .u64 ws) 31)) 31 (List.replicate 32 0)
        simpa using this
      rw [zeros32] at hB0 hR0 hF0
      generalize ((w.alloc (.cells (aV .u64 ws) 31)).alloc _) = w2 at *
      have HR1 := Lib.hid hR0
      have HF1 := Lib.hid hF0
      have HB1 := Lib.hid hB0
      clear hR0 hF0 hB0
      go_wp2_with (first | (refine wpList_load_row rfl 31 _ rfl w.heap.size rfl 31 _ (0, 0) _ HR1.out Tryd.underlying31 rfl (i31 HL.out) ?_) | (refine wpList_store_row rfl 31 _ _ rfl (w.heap.size + 1) _ rfl rfl 31 _ HF1.out (i31 HL.out) (by rw [aV_size, aV_size, HL.out]; rfl) (aV_one _ _) ?_))
      exact bodyPost_ret (results_cell_row Tryd.results14 _ _ _ _ _ _ _ rfl (HF1.out.row _) Tryd.underlying31 rfl (i31 HL.out)) rfl ⟨rfl, below_setRow HB1.out (by omega) _⟩
end Go.Proofs.YtbhmnkamfkadiaaDoor
