/-
  The contract of the reference's Decode (layer 3).
-/
import Derived.Test.YthehcplogkgkeaaGreatDoorQj
import Derived.Test.YthehcplogkgkeaaGreatDoorSa
import Derived.Deep.DeepCutAuto
import Derived.Test.YthehcplogkgkeaaGreatDoorQm
set_option maxRecDepth 4000
namespace Go.Proofs.YthehcplogkgkeaaGreatDoor
open Go.ChangeShapes Go.WideShapes Go.ChangeAt Go.RowKit Wd

theorem has_pats : ∀ f : Fin 15, (hasF f.val 100 = true ∧ hasF f.val 49 = true ∧ hasF f.val 50 = true ∧ hasF f.val 99 = false ∧ hasF f.val 113 = false) ∨ (hasF f.val 100 = true ∧ hasF f.val 49 = true ∧ hasF f.val 50 = false ∧ hasF f.val 99 = false ∧ hasF f.val 113 = false) ∨ (hasF f.val 100 = false ∧ hasF f.val 49 = true ∧ hasF f.val 50 = true ∧ hasF f.val 99 = false ∧ hasF f.val 113 = false) ∨ (hasF f.val 100 = true ∧ hasF f.val 49 = false ∧ hasF f.val 50 = false ∧ hasF f.val 99 = false ∧ hasF f.val 113 = false) ∨ (hasF f.val 100 = true ∧ hasF f.val 49 = true ∧ hasF f.val 50 = false ∧ hasF f.val 99 = true ∧ hasF f.val 113 = false) ∨ (hasF f.val 100 = true ∧ hasF f.val 49 = true ∧ hasF f.val 50 = true ∧ hasF f.val 99 = false ∧ hasF f.val 113 = true) ∨ (hasF f.val 100 = true ∧ hasF f.val 49 = true ∧ hasF f.val 50 = false ∧ hasF f.val 99 = false ∧ hasF f.val 113 = true) ∨ (hasF f.val 100 = false ∧ hasF f.val 49 = false ∧ hasF f.val 50 = false ∧ hasF f.val 99 = false ∧ hasF f.val 113 = false) := by decide +kernel
theorem built_ins (op imm : Int) : Tryz.prog.built 24 [(0, .int .i64 op), (4, .int .i64 imm)] = some (insV op 0 0 0 imm 0 false false) := by kernel_rfl
theorem zv_ins (w : World) : (zeroValue 24).run Tryz.prog w = .ok (.agg (insV 0 0 0 0 0 0 false false)) w := by kernel_rfl
theorem exec_build {P : Program} {o : Oper} {a : Act} {w : World} (t : TypeId) (parts : Array (Nat × Operand)) (ho : o.op = .build t parts) (cells : Array Value) (hf : P.built t (parts.map fun (i, x) => (i, a.eval x)).toList = some cells) : (execOp a.eval o).run P w = .ok (.value (.agg cells)) w := by
  unfold execOp
  simp only [ho, Sem.run_bind, run_build w t _ cells hf, Result.andThen_ok, Sem.run_pure]
theorem results_cell_tmp {P : Program} {fn : Func} {p t : Tmp} {ty : TypeId} (h : fn.results = #[.cell p ty, .tmp t]) (tmps : Array Value) (w : World) (g : Nat) (tt : TypeId) (cs : Array Value) (d : TypeDesc) (v : Value)
    (hp : tmps.getD p undef = .pointer (some ⟨g, 0, none⟩)) (hv : tmps.getD t undef = v) (hg : w.heap[g]? = some (.cells cs tt (0, 0)))
    (hu : P.underlying ty = some d) (hd : (match d with | .struct _ | .array _ _ => true | _ => false) = true) (hi : (P.info? ty).map (·.size) = some cs.size) :
    (results fn tmps).run P w = .ok (.tuple #[.agg cs, v]) w := by
  have hp' : tmps[p]?.getD undef = .pointer (some ⟨g, 0, none⟩) := by simpa using hp
  have hv' : tmps[t]?.getD undef = v := by simpa using hv
  simp [results, h, hp', hv', asAddr, run_loadVar_row w g tt ty cs (0, 0) d hg hu hd hi]
theorem ins_set1 (op rd rs1 rs2 imm csr : Int) (aq rl : Bool) (v : Int) : (insV op rd rs1 rs2 imm csr aq rl).setIfInBounds 1 (.int .i64 v) = insV op v rs1 rs2 imm csr aq rl := rfl
theorem ins_set2 (op rd rs1 rs2 imm csr : Int) (aq rl : Bool) (v : Int) : (insV op rd rs1 rs2 imm csr aq rl).setIfInBounds 2 (.int .i64 v) = insV op rd v rs2 imm csr aq rl := rfl
theorem ins_set3 (op rd rs1 rs2 imm csr : Int) (aq rl : Bool) (v : Int) : (insV op rd rs1 rs2 imm csr aq rl).setIfInBounds 3 (.int .i64 v) = insV op rd rs1 v imm csr aq rl := rfl
theorem ins_set5 (op rd rs1 rs2 imm csr : Int) (aq rl : Bool) (v : Int) : (insV op rd rs1 rs2 imm csr aq rl).setIfInBounds 5 (.int .i64 v) = insV op rd rs1 rs2 imm v aq rl := rfl
theorem ins_set6 (op rd rs1 rs2 imm csr : Int) (aq rl : Bool) (v : Bool) : (insV op rd rs1 rs2 imm csr aq rl).setIfInBounds 6 (.bool v) = insV op rd rs1 rs2 imm csr v rl := rfl
theorem ins_set7 (op rd rs1 rs2 imm csr : Int) (aq rl : Bool) (v : Bool) : (insV op rd rs1 rs2 imm csr aq rl).setIfInBounds 7 (.bool v) = insV op rd rs1 rs2 imm csr aq v := rfl
theorem not_of {a b : Bool} (h : a = !b) : b = !a := by cases a <;> cases b <;> simp_all
theorem CsAt.setc {w : World} {b : Nat} {t : TypeId} {cs : Array Value} (h : CsAt w b t cs) (i : Nat) (v : Value) : CsAt (w.setCell ⟨b, i, none⟩ v) b t (cs.setIfInBounds i v) := heap_setCell_same w b i _ t _ h
theorem CsAt.farc {w : World} {b : Nat} {t : TypeId} {cs : Array Value} (h : CsAt w b t cs) {c i : Nat} (hne : b ≠ c) (v : Value) : CsAt (w.setCell ⟨c, i, none⟩ v) b t cs := (heap_setCell_other w ⟨c, i, none⟩ b v hne).trans h
theorem CsAt.drew {w : World} {b : Nat} {t : TypeId} {cs : Array Value} (h : CsAt w b t cs) : CsAt w.drew b t cs := h
theorem zero_eq : (#[.int .i64 0, .int .i64 0, .int .i64 0, .int .i64 0, .int .i64 0, .int .i64 0, .bool false, .bool false] : Array Value) = insV 0 0 0 0 0 0 false false := rfl
set_option maxHeartbeats 8000000 in
set_option maxRecDepth 100000 in
theorem refDecode_c (X : Nat) (hX : X < 4294967296) (w : World) : Calls Tryz.prog 18 #[.int .u64 (X : Nat)] w fun e w' => e = .returned (decV X) ∧ Below w.heap.size w w' := by
  generalize hr : decV X = r
  have HR := Lib.hid hr
  have HX0 := Lib.hid (show (0 : Int) ≤ (X : Int) by omega)
  clear hr
  go_enter Tryz.func18, Tryz.ntmps18
  go_wp2_with fail
  have HR0 := Lib.hid (CsAt.new w 24 #[.int .i64 0, .int .i64 0, .int .i64 0, .int .i64 0, .int .i64 0, .int .i64 0, .bool false, .bool false])
  have HB0 := Lib.hid (show Below w.heap.size w (w.alloc (.cells #[.int .i64 0, .int .i64 0, .int .i64 0, .int .i64 0, .int .i64 0, .int .i64 0, .bool false, .bool false] 24)) from (Below.refl _ _).alloc (Nat.le_refl _) _)
  have HZ := Lib.hid (show (w.alloc (.cells #[.int .i64 0, .int .i64 0, .int .i64 0, .int .i64 0, .int .i64 0, .int .i64 0, .bool false, .bool false] 24)).heap.size = w.heap.size + 1 by simp)
  generalize (w.alloc (.cells #[.int .i64 0, .int .i64 0, .int .i64 0, .int .i64 0, .int .i64 0, .int .i64 0, .bool false, .bool false] 24)) = wa at *
  refine (refRows_c _).mono ?_
  rintro e w1 ⟨rfl, rfl⟩
  have HRW := Lib.hid (rowsAt_new wa)
  have hba : Below wa.heap.size wa (wa.alloc (.cells (Tab.rows3.flatMap rowV).toArray 62)) := (Below.refl _ _).alloc (Nat.le_refl _) _
  have HR1 := Lib.hid (HR0.out.low hba)
  have HB1 := Lib.hid (HB0.out.trans (hba.mono HB0.out.size))
  have HZ1 := Lib.hid (show wa.heap.size < (wa.alloc (.cells (Tab.rows3.flatMap rowV).toArray 62)).heap.size by simp)
  clear hba HR0 HB0
  generalize (wa.alloc (.cells (Tab.rows3.flatMap rowV).toArray 62)) = W0 at *
  generalize wa.heap.size = g at *
  go_wp2_with fail
  go_loopw [5] (fun i wr => ∃ k : Nat, k ≤ 98 ∧ i = .int .i64 (k : Int) ∧ Below W0.heap.size W0 wr ∧ (opsTo k).find? (matchN X) = none) (fun i _ => 98 - (intOf i).toNat)
  case atStart => exact ⟨0, by omega, rfl, Below.refl _ _, rfl⟩
  case round =>
    obtain ⟨k, hk, rfl, hb, hf⟩ := hrel
    have HF := Lib.hid hf
    have HRWr := Lib.hid (HRW.out.on hb HZ1.out)
    have HRr := Lib.hid (HR1.out.low hb)
    have HB := Lib.hid (HB1.out.trans (hb.mono HB1.out.size))
    have HBr := Lib.hid hb
    clear hf hb
    by_cases hlt : k < 98
    · have HXX := Lib.hid hX
      clear hX
      go_upto_region 5 with fail
      have hX := HXX.out
      obtain ⟨r0, r1, r2, r3⟩ := HRWr.out k hlt
      have hop := (rowAt_op ⟨k, hlt⟩).1
      simp only at hop
      have hrow : rowAt k = findRow ((k + 1 : Nat) : Int) := by unfold findRow; rw [if_pos (by omega)]; congr 1
      have e2 : (rowAt k).2.2.1 = maskN (k + 1) := by rw [hrow]; rfl
      have e3 : (rowAt k).2.2.2 = valN (k + 1) := by rw [hrow]; rfl
      have e1 : (rowAt k).2.1 = fmtN ((k + 1 : Nat) : Int) := by rw [hrow]; rfl
      rw [hop] at r0
      rw [e1] at r1
      rw [e2] at r2
      rw [e3] at r3
      have hmm := masked_match X (k + 1) hX
      have hml := (tabs_ok ⟨k + 1, by omega⟩ (by simp only; omega)).2.1
      simp only at hml
      have HMC := Lib.hid (fun w' => Calls.turn (refMasked_c (X : Int) ((maskN (k + 1) : Nat) : Int) w' HX0.out (big_of HXX.out) (by omega) (by omega)))
      have hfl := fmtN_lt ((k + 1 : Nat) : Int)
      clear hop hrow e1 e2 e3 hml
      have HMM := Lib.hid hmm
      have HHA := Lib.hid (fun c w' => (show Calls Tryz.prog 51 #[.string (bsOf (Tab.names3.getD (fmtN ((k + 1 : Nat) : Int)) [])), .int .u8 c] w' fun e w'' => e = .returned (.bool (hasF (fmtN ((k + 1 : Nat) : Int)) c)) ∧ w' = w'' from refHas_c _ hfl c w'))
      have HIM := Lib.hid (fun w' => (show Calls Tryz.prog 50 #[.string (bsOf (Tab.names3.getD (fmtN ((k + 1 : Nat) : Int)) [])), .int .u64 (X : Int)] w' fun e w'' => e = .returned (.int .i64 (immD ((fmtN ((k + 1 : Nat) : Int) : Nat) : Int) (X : Int))) ∧ Below w'.heap.size w' w'' by rw [immD_eq _ hfl]; exact refImm_c _ hfl (X : Int) w' HX0.out (big_of HXX.out)))
      have HQ0 := Lib.hid r0
      have HQ1 := Lib.hid (show wr.cell? ⟨g, k * 4 + 1, none⟩ = some (.string (bsOf (Tab.names3.getD (fmtN ((k + 1 : Nat) : Int)) []))) from r1)
      have HQ2 := Lib.hid r2
      have HQ3 := Lib.hid r3
      have HFL := Lib.hid hfl
      clear hmm r0 r1 r2 r3 hfl hX
      generalize ((maskN (k + 1) : Nat) : Int) = mk at *
      generalize ((valN (k + 1) : Nat) : Int) = vk at *
      generalize bsOf (Tab.names3.getD (fmtN ((k + 1 : Nat) : Int)) []) = nm at *
      refine wp_region_still_lit (by kernel_rfl) (by kernel_rfl) ?_
      simp only [drew_eq]
      have q2 : wr.drew.cell? ⟨g, k * 4 + 2, none⟩ = some (.int .u64 mk) := HQ2.out
      have q3 : wr.drew.cell? ⟨g, k * 4 + 3, none⟩ = some (.int .u64 vk) := HQ3.out
      have HD0 := Lib.hid (show wr.drew.cell? ⟨g, k * 4, none⟩ = some (.int .i64 ((k + 1 : Nat) : Int)) from HQ0.out)
      have HD1 := Lib.hid (show wr.drew.cell? ⟨g, k * 4 + 1, none⟩ = some (.string nm) from HQ1.out)
      have HRd := Lib.hid (HRr.out.drew)
      have HBd := Lib.hid (HB.out.drew)
      have HBrd := Lib.hid (HBr.out.drew)
      clear HQ0 HQ1 HQ2 HQ3 HRr HB HBr HRWr
      generalize wr.drew = wd at *
      have hk98 : (k : Int) < 98 := by omega
      iterate 6 still_step
      still_call (HMC.out _)
      iterate 6 still_step
      refine wpStill_nil ?_
      have hmm := HMM.out
      clear q2 q3
      cases hm : matchN X (k + 1)
      · rw [hm, Bool.not_false] at hmm
        have HN := Lib.hid (first_none HF.out hm)
        clear hm
        generalize maskedS (X : Int) mk = mm at *
        go_wp2_with fail
        go_roundw
        case rel => exact ⟨k + 1, by omega, by go_num, HBrd.out, HN.out⟩
        case measure => simp [intOf]; omega
      · rw [hm, Bool.not_true] at hmm
        have HN := Lib.hid (first_full hlt (first_hit HF.out hm))
        clear hm
        generalize maskedS (X : Int) mk = mm at *
        have HE := Lib.hid (show r = .tuple #[readV (fmtN ((k + 1 : Nat) : Int)) ((k + 1 : Nat) : Int) (X : Nat), .bool true] from by rw [← HR.out]; unfold decV decN; rw [HN.out])
        generalize ((k + 1 : Nat) : Int) = op at *
        generalize fmtN op = f at *
        have q1 := HD1.out
        go_upto_region 7 with fail
        have HZ8 := Lib.hid (show (#[.int .i64 0, .int .i64 0, .int .i64 0, .int .i64 0, .int .i64 0, .int .i64 0, .bool false, .bool false] : Array Value).size = 8 from rfl)
        generalize hZ : (#[.int .i64 0, .int .i64 0, .int .i64 0, .int .i64 0, .int .i64 0, .int .i64 0, .bool false, .bool false] : Array Value) = Z at *
        have HZZ := Lib.hid hZ
        clear hZ
        have hwb := HRd.out.lt
        go_cut [7] (fun s7 wx => ∃ b : Nat, s7 = .pointer (some ⟨b, 0, none⟩) ∧ CsAt wx b 24 (insV op 0 0 0 (immD (f : Nat) (X : Int)) 0 false false) ∧ CsAt wx w.heap.size 24 Z ∧ w.heap.size < b ∧ Below w.heap.size w wx)
        case first =>
          refine wp_region_noPanic ?_
          refine wp_region_held (S := fun W => W.cell? ⟨g, k * 4, none⟩ = some (.int .i64 op) ∧ CsAt W w.heap.size 24 Z ∧ Below w.heap.size w W) (by kernel_rfl) ?_
          have hS0 : wd.drew.cell? ⟨g, k * 4, none⟩ = some (.int .i64 op) ∧ CsAt wd.drew w.heap.size 24 Z ∧ Below w.heap.size w wd.drew := ⟨HD0.out, HRd.out, HBd.out.drew⟩
          refine takeH (fuel := 10) (i := 0) (.slice (some ⟨g, 0, none⟩) 98 98) ?_ rfl (by kernel_rfl) (by kernel_rfl) (by kernel_rfl) (fun _ _ _ h => h) (by kernel_rfl) (fun W hS => by obtain ⟨c0, -⟩ := hS; go_simp) hS0 ?_ ?_
          rotate_left 1
          · go_simp
            exact rfl
          refine takeH (fuel := 9) (i := 1) (.int .i64 (k : Int)) ?_ rfl (by kernel_rfl) (by kernel_rfl) (by kernel_rfl) (fun _ _ _ h => h) (by kernel_rfl) (fun W hS => by obtain ⟨c0, -⟩ := hS; go_simp) hS0 ?_ ?_
          rotate_left 1
          · go_simp
            exact rfl
          refine takeH (fuel := 8) (i := 2) (.pointer (some ⟨g, k * 4, none⟩)) ?_ rfl (by kernel_rfl) (by kernel_rfl) (by kernel_rfl) (fun _ _ _ h => h) (by kernel_rfl) (fun W hS => by obtain ⟨c0, -⟩ := hS; go_simp) hS0 ?_ ?_
          rotate_left 1
          · go_simp
            exact rfl
          refine takeH (fuel := 7) (i := 3) (.pointer (some ⟨g, k * 4, none⟩)) ?_ rfl (by kernel_rfl) (by kernel_rfl) (by kernel_rfl) (fun _ _ _ h => h) (by kernel_rfl) (fun W hS => by obtain ⟨c0, -⟩ := hS; go_simp) hS0 ?_ ?_
          rotate_left 1
          · go_simp
            exact rfl
          refine takeH (fuel := 6) (i := 4) (.int .i64 op) ?_ rfl (by kernel_rfl) (by kernel_rfl) (by kernel_rfl) (fun _ _ _ h => h) (by kernel_rfl) (fun W hS => by obtain ⟨c0, -⟩ := hS; go_simp) hS0 ?_ ?_
          rotate_left 1
          · go_simp
            exact rfl
          refine takeH (fuel := 5) (i := 5) (.string nm) ?_ rfl (by kernel_rfl) (by kernel_rfl) (by kernel_rfl) (fun _ _ _ h => h) (by kernel_rfl) (fun W hS => by obtain ⟨c0, -⟩ := hS; go_simp) hS0 ?_ ?_
          rotate_left 1
          · go_simp
            exact rfl
          refine takeH (fuel := 4) (i := 6) (.int .u64 (X : Int)) ?_ rfl (by kernel_rfl) (by kernel_rfl) (by kernel_rfl) (fun _ _ _ h => h) (by kernel_rfl) (fun W hS => by obtain ⟨c0, -⟩ := hS; go_simp) hS0 ?_ ?_
          rotate_left 1
          · go_simp
            exact rfl
          obtain ⟨k0, k1, k2⟩ := hS0
          refine wpAnyH_all (fuel := 3) (rs := [7, 9]) (by kernel_rfl) (by decide) ?_
          intro i hi
          simp only [List.mem_cons, List.not_mem_nil, or_false] at hi
          have hwb2 : w.heap.size < wd.drew.heap.size := hwb
          change Go.wpOp _ _ _ _ _ _ wd.drew
          generalize wd.drew = W0' at *
          rcases hi with rfl | rfl
          ·
            refine wpOp_callB 50 #[.string nm, .int .u64 (X : Int)] (.int .i64 (immD (f : Nat) (X : Int))) ?_ rfl (by kernel_rfl) ?_ ?_ ?_
            rotate_left 1
            · go_simp
            · go_simp
              exact rfl
            refine (HIM.out _).mono ?_
            rintro e W1 ⟨rfl, hb⟩
            have s1 : W1.cell? ⟨g, k * 4, none⟩ = some (.int .i64 op) := (hb.cell (p := ⟨g, k * 4, none⟩) (lt_cell k0)).trans k0
            have s2 := k1.low hb
            have s3 := k2.trans (hb.mono k2.size)
            refine ⟨rfl, ⟨s1, s2, s3⟩, ?_⟩
            refine takeH (fuel := 2) (i := 8) (.agg (insV op 0 0 0 (immD (f : Nat) (X : Int)) 0 false false)) ?_ rfl (by kernel_rfl) (by kernel_rfl) (by kernel_rfl) (fun _ _ _ h => h) (by kernel_rfl) (fun W _ => exec_build _ _ rfl _ (by kernel_rfl)) ⟨s1, s2, s3⟩ ?_ ?_
            rotate_left 1
            · go_simp
              exact rfl
            refine wpAnyH_all (fuel := 1) (rs := [9]) (by kernel_rfl) (by decide) ?_
            intro i hi
            obtain rfl : i = 9 := by simpa using hi
            have hlt := s2.lt
            refine wpOp_valB _ _ ?_ rfl (by kernel_rfl) (exec_alloc _ rfl _ (zv_ins _)) ?_ ?_
            rotate_left 1
            · go_simp
              exact rfl
            have t0 : CsAt (W1.alloc (.cells (insV 0 0 0 0 0 0 false false) 24)) W1.heap.size 24 (insV 0 0 0 0 0 0 false false) := CsAt.new _ _ _
            have t2 := s2.alloc (.cells (insV 0 0 0 0 0 0 false false) 24)
            have t3 := s3.alloc s3.size (.cells (insV 0 0 0 0 0 0 false false) 24)
            have t1 : (W1.alloc (.cells (insV 0 0 0 0 0 0 false false) 24)).cell? ⟨g, k * 4, none⟩ = some (.int .i64 op) := (((Below.refl _ W1).alloc (Nat.le_refl _) _).cell (p := ⟨g, k * 4, none⟩) (lt_cell s1)).trans s1
            refine ⟨⟨t1, t2, t3⟩, ?_⟩
            refine wpAnyH_all (fuel := 0) (rs := [10]) (by kernel_rfl) (by decide) ?_
            intro i hi
            obtain rfl : i = 10 := by simpa using hi
            refine wpOp_unitB _ ?_ rfl (by kernel_rfl) (exec_store_row 24 (.tmp 7) (.tmp 41) rfl W1.heap.size (insV op 0 0 0 (immD (f : Nat) (X : Int)) 0 false false) (by kernel_rfl) (by kernel_rfl) 24 (insV 0 0 0 0 0 0 false false) t0 (insI op 0 0 0 (immD (f : Nat) (X : Int)) 0 false false) rfl (insV_one op 0 0 0 (immD (f : Nat) (X : Int)) 0 false false)) ?_ ?_
            rotate_left 1
            · go_simp
              exact rfl
            refine ⟨⟨(cell_setRow_other _ _ _ ⟨g, k * 4, none⟩ (fun h => by have := lt_cell s1; simp only at h; omega)).trans t1, t2.rowFar (by omega) _, below_setRow t3 (by omega) _⟩, ?_⟩
            refine wpAnyH_done (by kernel_rfl) ?_ _
            refine NoPanic.normal ?_
            go_wp2_with fail
            go_meet
            exact ⟨W1.heap.size, by kernel_rfl, t0.row _, t2.rowFar (by omega) _, by omega, below_setRow t3 (by omega) _⟩
          ·
            refine wpOp_valB _ _ ?_ rfl (by kernel_rfl) (exec_alloc _ rfl _ (zv_ins _)) ?_ ?_
            rotate_left 1
            · go_simp
              exact rfl
            have t0 : CsAt (W0'.alloc (.cells (insV 0 0 0 0 0 0 false false) 24)) W0'.heap.size 24 (insV 0 0 0 0 0 0 false false) := CsAt.new _ _ _
            have t2 := k1.alloc (.cells (insV 0 0 0 0 0 0 false false) 24)
            have t3 := k2.alloc k2.size (.cells (insV 0 0 0 0 0 0 false false) 24)
            have t1 : (W0'.alloc (.cells (insV 0 0 0 0 0 0 false false) 24)).cell? ⟨g, k * 4, none⟩ = some (.int .i64 op) := (((Below.refl _ W0').alloc (Nat.le_refl _) _).cell (p := ⟨g, k * 4, none⟩) (lt_cell k0)).trans k0
            have hgl := lt_cell k0
            refine ⟨⟨t1, t2, t3⟩, ?_⟩
            refine wpAnyH_all (fuel := 2) (rs := [7]) (by kernel_rfl) (by decide) ?_
            intro i hi
            obtain rfl : i = 7 := by simpa using hi
            refine wpOp_callB 50 #[.string nm, .int .u64 (X : Int)] (.int .i64 (immD (f : Nat) (X : Int))) ?_ rfl (by kernel_rfl) ?_ ?_ ?_
            rotate_left 1
            · go_simp
            · go_simp
              exact rfl
            refine (HIM.out _).mono ?_
            rintro e W1 ⟨rfl, hb⟩
            have s1 : W1.cell? ⟨g, k * 4, none⟩ = some (.int .i64 op) := (hb.cell (p := ⟨g, k * 4, none⟩) (lt_cell t1)).trans t1
            have s2 := t2.low hb
            have s3 := t3.trans (hb.mono t3.size)
            refine ⟨rfl, ⟨s1, s2, s3⟩, ?_⟩
            have s0 := t0.low hb
            refine takeH (fuel := 1) (i := 8) (.agg (insV op 0 0 0 (immD (f : Nat) (X : Int)) 0 false false)) ?_ rfl (by kernel_rfl) (by kernel_rfl) (by kernel_rfl) (fun _ _ _ h => h) (by kernel_rfl) (fun W _ => exec_build _ _ rfl _ (by kernel_rfl)) ⟨s1, s2, s3⟩ ?_ ?_
            rotate_left 1
            · go_simp
              exact rfl
            refine wpAnyH_all (fuel := 0) (rs := [10]) (by kernel_rfl) (by decide) ?_
            intro i hi
            obtain rfl : i = 10 := by simpa using hi
            refine wpOp_unitB _ ?_ rfl (by kernel_rfl) (exec_store_row 24 (.tmp 7) (.tmp 41) rfl W0'.heap.size (insV op 0 0 0 (immD (f : Nat) (X : Int)) 0 false false) (by kernel_rfl) (by kernel_rfl) 24 (insV 0 0 0 0 0 0 false false) s0 (insI op 0 0 0 (immD (f : Nat) (X : Int)) 0 false false) rfl (insV_one op 0 0 0 (immD (f : Nat) (X : Int)) 0 false false)) ?_ ?_
            rotate_left 1
            · go_simp
              exact rfl
            refine ⟨⟨(cell_setRow_other _ _ _ ⟨g, k * 4, none⟩ (fun h => by simp only at h; omega)).trans s1, s2.rowFar (by omega) _, below_setRow s3 (by omega) _⟩, ?_⟩
            refine wpAnyH_done (by kernel_rfl) ?_ _
            refine NoPanic.normal ?_
            go_wp2_with fail
            go_meet
            exact ⟨W0'.heap.size, by kernel_rfl, s0.row _, s2.rowFar (by omega) _, by omega, below_setRow s3 (by omega) _⟩
        case rest =>
          obtain ⟨b, rfl, qX, qR, hbl, qB⟩ := hcut
          have HX := Lib.hid qX
          have HRR := Lib.hid qR
          have HBB := Lib.hid qB
          clear qX qR qB q1
          have hne : w.heap.size ≠ b := Nat.ne_of_lt hbl
          have hwle : w.heap.size ≤ b := Nat.le_of_lt hbl
          obtain ⟨l1, l2, l3, l4, l5⟩ := has_lacks ⟨f, HFL.out⟩
          simp only at l1 l2 l3 l4 l5
          have HL := Lib.hid (And.intro l1 (And.intro l2 (And.intro l3 (And.intro l4 l5))))
          clear l1 l2 l3 l4 l5
          generalize himm : immD (f : Nat) (X : Int) = imm at *
          have HIMM := Lib.hid himm
          clear himm
          obtain ⟨vd, hvd, zd0, zd1⟩ : ∃ v, cutS (X : Int) 7 5 = v ∧ 0 ≤ v ∧ v < 4096 := ⟨_, rfl, (cutS_lt (X : Int) 7 5 (by decide)).1, Int.lt_of_lt_of_le (cutS_lt (X : Int) 7 5 (by decide)).2 (by decide)⟩
          obtain ⟨v1, hv1, z10, z11⟩ : ∃ v, cutS (X : Int) 15 5 = v ∧ 0 ≤ v ∧ v < 4096 := ⟨_, rfl, (cutS_lt (X : Int) 15 5 (by decide)).1, Int.lt_of_lt_of_le (cutS_lt (X : Int) 15 5 (by decide)).2 (by decide)⟩
          obtain ⟨v2, hv2, z20, z21⟩ : ∃ v, cutS (X : Int) 20 5 = v ∧ 0 ≤ v ∧ v < 4096 := ⟨_, rfl, (cutS_lt (X : Int) 20 5 (by decide)).1, Int.lt_of_lt_of_le (cutS_lt (X : Int) 20 5 (by decide)).2 (by decide)⟩
          obtain ⟨vc, hvc, zc0, zc1⟩ : ∃ v, cutS (X : Int) 20 12 = v ∧ 0 ≤ v ∧ v < 4096 := ⟨_, rfl, (cutS_lt (X : Int) 20 12 (by decide)).1, Int.lt_of_lt_of_le (cutS_lt (X : Int) 20 12 (by decide)).2 (by decide)⟩
          have HCd := Lib.hid (fun w' => hvd ▸ refCut_c (X : Int) 7 5 w' HX0.out (big_of HXX.out) (by decide) (by decide))
          have HC1 := Lib.hid (fun w' => hv1 ▸ refCut_c (X : Int) 15 5 w' HX0.out (big_of HXX.out) (by decide) (by decide))
          have HC2 := Lib.hid (fun w' => hv2 ▸ refCut_c (X : Int) 20 5 w' HX0.out (big_of HXX.out) (by decide) (by decide))
          have HCc := Lib.hid (fun w' => hvc ▸ refCut_c (X : Int) 20 12 w' HX0.out (big_of HXX.out) (by decide) (by decide))
          obtain ⟨n26, hn26⟩ : ∃ n, bi (tbI (X : Int) 26) = n := ⟨_, rfl⟩
          obtain ⟨n25, hn25⟩ : ∃ n, bi (tbI (X : Int) 25) = n := ⟨_, rfl⟩
          have HT26 := Lib.hid (fun w' => hn26 ▸ bit_c (X : Int) 26 w' HX0.out (big_of HXX.out))
          have HT25 := Lib.hid (fun w' => hn25 ▸ bit_c (X : Int) 25 w' HX0.out (big_of HXX.out))
          have HQ26 := Lib.hid (show (cutS (X : Int) 26 1 == 1) = (n26 == 1) from hn26 ▸ (cut_bit X 26 (by decide)).symm)
          have HQ25 := Lib.hid (show (cutS (X : Int) 25 1 == 1) = (n25 == 1) from hn25 ▸ (cut_bit X 25 (by decide)).symm)
          clear hn26 hn25
          have HVd := Lib.hid hvd
          have HV1 := Lib.hid hv1
          have HV2 := Lib.hid hv2
          have HVc := Lib.hid hvc
          clear hvd hv1 hv2 hvc
          rcases has_pats ⟨f, HFL.out⟩ with ⟨h100, h49, h50, h99, h113⟩ | ⟨h100, h49, h50, h99, h113⟩ | ⟨h100, h49, h50, h99, h113⟩ | ⟨h100, h49, h50, h99, h113⟩ | ⟨h100, h49, h50, h99, h113⟩ | ⟨h100, h49, h50, h99, h113⟩ | ⟨h100, h49, h50, h99, h113⟩ | ⟨h100, h49, h50, h99, h113⟩
          · simp only at h100 h49 h50 h99 h113
            have HH100 := Lib.hid h100
            have HH49 := Lib.hid h49
            have HH50 := Lib.hid h50
            have HH99 := Lib.hid h99
            have HH113 := Lib.hid h113
            have HRV := Lib.hid (show r = .tuple #[.agg (insV op vd v1 v2 imm 0 false false), .bool true] from by rw [HE.out]; unfold readV fieldS; rw [show lacksB f 1 = false from (not_of HL.out.1).trans (by rw [HH100.out]; rfl), show lacksB f 2 = false from (not_of HL.out.2.1).trans (by rw [HH49.out]; rfl), show lacksB f 4 = false from (not_of HL.out.2.2.1).trans (by rw [HH50.out]; rfl), show lacksB f 8 = true from (not_of HL.out.2.2.2.1).trans (by rw [HH99.out]; rfl), show lacksB f 16 = true from (not_of HL.out.2.2.2.2).trans (by rw [HH113.out]; rfl), HIMM.out, HVd.out, HV1.out, HV2.out, HVc.out]; rfl)
            clear h100 h49 h50 h99 h113 HE
            go_wp2_with fail
            refine (HHA.out _ _).mono ?_
            rintro e w' ⟨rfl, rfl⟩
            rw [HH100.out]
            go_wp2_with fail
            refine (HCd.out _).mono ?_
            rintro e V1 ⟨rfl, hb⟩
            have X1 := Lib.hid (HX.out.low hb)
            have R1 := Lib.hid (HRR.out.low hb)
            have B1 := Lib.hid (HBB.out.trans (hb.mono HBB.out.size))
            clear hb
            have c0 := X1.out.cell 1
            have f0 := X1.out.frozen 1
            change V1.cell? ⟨b, 1, none⟩ = some (.int .i64 0) at c0
            have X1a := X1.out.setc 1 (.int .i64 (vd))
            rw [ins_set1] at X1a
            have R1a := R1.out.farc (c := b) (i := 1) hne (.int .i64 (vd))
            have B1a := B1.out.setCell (p := ⟨b, 1, none⟩) hwle (.int .i64 (vd))
            have X1h := Lib.hid X1a
            have R1h := Lib.hid R1a
            have B1h := Lib.hid B1a
            clear X1a R1a B1a X1 R1 B1
            go_wp2_with fail
            refine (HHA.out _ _).mono ?_
            rintro e w' ⟨rfl, rfl⟩
            rw [HH49.out]
            go_wp2_with fail
            refine (HC1.out _).mono ?_
            rintro e V2 ⟨rfl, hb⟩
            have X2 := Lib.hid (X1h.out.low hb)
            have R2 := Lib.hid (R1h.out.low hb)
            have B2 := Lib.hid (B1h.out.trans (hb.mono B1h.out.size))
            clear hb
            have c0 := X2.out.cell 2
            have f0 := X2.out.frozen 2
            change V2.cell? ⟨b, 2, none⟩ = some (.int .i64 0) at c0
            have X2a := X2.out.setc 2 (.int .i64 (v1))
            rw [ins_set2] at X2a
            have R2a := R2.out.farc (c := b) (i := 2) hne (.int .i64 (v1))
            have B2a := B2.out.setCell (p := ⟨b, 2, none⟩) hwle (.int .i64 (v1))
            have X2h := Lib.hid X2a
            have R2h := Lib.hid R2a
            have B2h := Lib.hid B2a
            clear X2a R2a B2a X2 R2 B2
            go_wp2_with fail
            refine (HHA.out _ _).mono ?_
            rintro e w' ⟨rfl, rfl⟩
            rw [HH50.out]
            go_wp2_with fail
            refine (HC2.out _).mono ?_
            rintro e V3 ⟨rfl, hb⟩
            have X3 := Lib.hid (X2h.out.low hb)
            have R3 := Lib.hid (R2h.out.low hb)
            have B3 := Lib.hid (B2h.out.trans (hb.mono B2h.out.size))
            clear hb
            have c0 := X3.out.cell 3
            have f0 := X3.out.frozen 3
            change V3.cell? ⟨b, 3, none⟩ = some (.int .i64 0) at c0
            have X3a := X3.out.setc 3 (.int .i64 (v2))
            rw [ins_set3] at X3a
            have R3a := R3.out.farc (c := b) (i := 3) hne (.int .i64 (v2))
            have B3a := B3.out.setCell (p := ⟨b, 3, none⟩) hwle (.int .i64 (v2))
            have X3h := Lib.hid X3a
            have R3h := Lib.hid R3a
            have B3h := Lib.hid B3a
            clear X3a R3a B3a X3 R3 B3
            go_wp2_with fail
            refine (HHA.out _ _).mono ?_
            rintro e w' ⟨rfl, rfl⟩
            rw [HH99.out]
            go_wp2_with fail
            refine (HHA.out _ _).mono ?_
            rintro e w' ⟨rfl, rfl⟩
            rw [HH113.out]
            go_wp2_with (first | (refine wpList_load_row rfl 24 _ rfl b rfl 24 _ (0, 0) _ X3h.out Tryz.underlying24 rfl (insI _ _ _ _ _ _ _ _) ?_) | (refine wpList_store_row rfl 24 _ _ rfl w.heap.size _ rfl rfl 24 _ R3h.out (insI _ _ _ _ _ _ _ _) (HZ8.out.trans rfl) (insV_one _ _ _ _ _ _ _ _) ?_))
            refine bodyPost_ret (v := r) (by rw [HRV.out]; exact results_cell_tmp Tryz.results18 _ _ _ _ _ _ _ rfl rfl (CsAt.row R3h.out _) Tryz.underlying24 rfl (insI _ _ _ _ _ _ _ _)) rfl ⟨rfl, below_setRow B3h.out (Nat.le_refl _) _⟩
          · simp only at h100 h49 h50 h99 h113
            have HH100 := Lib.hid h100
            have HH49 := Lib.hid h49
            have HH50 := Lib.hid h50
            have HH99 := Lib.hid h99
            have HH113 := Lib.hid h113
            have HRV := Lib.hid (show r = .tuple #[.agg (insV op vd v1 0 imm 0 false false), .bool true] from by rw [HE.out]; unfold readV fieldS; rw [show lacksB f 1 = false from (not_of HL.out.1).trans (by rw [HH100.out]; rfl), show lacksB f 2 = false from (not_of HL.out.2.1).trans (by rw [HH49.out]; rfl), show lacksB f 4 = true from (not_of HL.out.2.2.1).trans (by rw [HH50.out]; rfl), show lacksB f 8 = true from (not_of HL.out.2.2.2.1).trans (by rw [HH99.out]; rfl), show lacksB f 16 = true from (not_of HL.out.2.2.2.2).trans (by rw [HH113.out]; rfl), HIMM.out, HVd.out, HV1.out, HV2.out, HVc.out]; rfl)
            clear h100 h49 h50 h99 h113 HE
            go_wp2_with fail
            refine (HHA.out _ _).mono ?_
            rintro e w' ⟨rfl, rfl⟩
            rw [HH100.out]
            go_wp2_with fail
            refine (HCd.out _).mono ?_
            rintro e V1 ⟨rfl, hb⟩
            have X1 := Lib.hid (HX.out.low hb)
            have R1 := Lib.hid (HRR.out.low hb)
            have B1 := Lib.hid (HBB.out.trans (hb.mono HBB.out.size))
            clear hb
            have c0 := X1.out.cell 1
            have f0 := X1.out.frozen 1
            change V1.cell? ⟨b, 1, none⟩ = some (.int .i64 0) at c0
            have X1a := X1.out.setc 1 (.int .i64 (vd))
            rw [ins_set1] at X1a
            have R1a := R1.out.farc (c := b) (i := 1) hne (.int .i64 (vd))
            have B1a := B1.out.setCell (p := ⟨b, 1, none⟩) hwle (.int .i64 (vd))
            have X1h := Lib.hid X1a
            have R1h := Lib.hid R1a
            have B1h := Lib.hid B1a
            clear X1a R1a B1a X1 R1 B1
            go_wp2_with fail
            refine (HHA.out _ _).mono ?_
            rintro e w' ⟨rfl, rfl⟩
            rw [HH49.out]
            go_wp2_with fail
            refine (HC1.out _).mono ?_
            rintro e V2 ⟨rfl, hb⟩
            have X2 := Lib.hid (X1h.out.low hb)
            have R2 := Lib.hid (R1h.out.low hb)
            have B2 := Lib.hid (B1h.out.trans (hb.mono B1h.out.size))
            clear hb
            have c0 := X2.out.cell 2
            have f0 := X2.out.frozen 2
            change V2.cell? ⟨b, 2, none⟩ = some (.int .i64 0) at c0
            have X2a := X2.out.setc 2 (.int .i64 (v1))
            rw [ins_set2] at X2a
            have R2a := R2.out.farc (c := b) (i := 2) hne (.int .i64 (v1))
            have B2a := B2.out.setCell (p := ⟨b, 2, none⟩) hwle (.int .i64 (v1))
            have X2h := Lib.hid X2a
            have R2h := Lib.hid R2a
            have B2h := Lib.hid B2a
            clear X2a R2a B2a X2 R2 B2
            go_wp2_with fail
            refine (HHA.out _ _).mono ?_
            rintro e w' ⟨rfl, rfl⟩
            rw [HH50.out]
            go_wp2_with fail
            refine (HHA.out _ _).mono ?_
            rintro e w' ⟨rfl, rfl⟩
            rw [HH99.out]
            go_wp2_with fail
            refine (HHA.out _ _).mono ?_
            rintro e w' ⟨rfl, rfl⟩
            rw [HH113.out]
            go_wp2_with (first | (refine wpList_load_row rfl 24 _ rfl b rfl 24 _ (0, 0) _ X2h.out Tryz.underlying24 rfl (insI _ _ _ _ _ _ _ _) ?_) | (refine wpList_store_row rfl 24 _ _ rfl w.heap.size _ rfl rfl 24 _ R2h.out (insI _ _ _ _ _ _ _ _) (HZ8.out.trans rfl) (insV_one _ _ _ _ _ _ _ _) ?_))
            refine bodyPost_ret (v := r) (by rw [HRV.out]; exact results_cell_tmp Tryz.results18 _ _ _ _ _ _ _ rfl rfl (CsAt.row R2h.out _) Tryz.underlying24 rfl (insI _ _ _ _ _ _ _ _)) rfl ⟨rfl, below_setRow B2h.out (Nat.le_refl _) _⟩
          · simp only at h100 h49 h50 h99 h113
            have HH100 := Lib.hid h100
            have HH49 := Lib.hid h49
            have HH50 := Lib.hid h50
            have HH99 := Lib.hid h99
            have HH113 := Lib.hid h113
            have HRV := Lib.hid (show r = .tuple #[.agg (insV op 0 v1 v2 imm 0 false false), .bool true] from by rw [HE.out]; unfold readV fieldS; rw [show lacksB f 1 = true from (not_of HL.out.1).trans (by rw [HH100.out]; rfl), show lacksB f 2 = false from (not_of HL.out.2.1).trans (by rw [HH49.out]; rfl), show lacksB f 4 = false from (not_of HL.out.2.2.1).trans (by rw [HH50.out]; rfl), show lacksB f 8 = true from (not_of HL.out.2.2.2.1).trans (by rw [HH99.out]; rfl), show lacksB f 16 = true from (not_of HL.out.2.2.2.2).trans (by rw [HH113.out]; rfl), HIMM.out, HVd.out, HV1.out, HV2.out, HVc.out]; rfl)
            clear h100 h49 h50 h99 h113 HE
            go_wp2_with fail
            refine (HHA.out _ _).mono ?_
            rintro e w' ⟨rfl, rfl⟩
            rw [HH100.out]
            go_wp2_with fail
            refine (HHA.out _ _).mono ?_
            rintro e w' ⟨rfl, rfl⟩
            rw [HH49.out]
            go_wp2_with fail
            refine (HC1.out _).mono ?_
            rintro e V1 ⟨rfl, hb⟩
            have X1 := Lib.hid (HX.out.low hb)
            have R1 := Lib.hid (HRR.out.low hb)
            have B1 := Lib.hid (HBB.out.trans (hb.mono HBB.out.size))
            clear hb
            have c0 := X1.out.cell 2
            have f0 := X1.out.frozen 2
            change V1.cell? ⟨b, 2, none⟩ = some (.int .i64 0) at c0
            have X1a := X1.out.setc 2 (.int .i64 (v1))
            rw [ins_set2] at X1a
            have R1a := R1.out.farc (c := b) (i := 2) hne (.int .i64 (v1))
            have B1a := B1.out.setCell (p := ⟨b, 2, none⟩) hwle (.int .i64 (v1))
            have X1h := Lib.hid X1a
            have R1h := Lib.hid R1a
            have B1h := Lib.hid B1a
            clear X1a R1a B1a X1 R1 B1
            go_wp2_with fail
            refine (HHA.out _ _).mono ?_
            rintro e w' ⟨rfl, rfl⟩
            rw [HH50.out]
            go_wp2_with fail
            refine (HC2.out _).mono ?_
            rintro e V2 ⟨rfl, hb⟩
            have X2 := Lib.hid (X1h.out.low hb)
            have R2 := Lib.hid (R1h.out.low hb)
            have B2 := Lib.hid (B1h.out.trans (hb.mono B1h.out.size))
            clear hb
            have c0 := X2.out.cell 3
            have f0 := X2.out.frozen 3
            change V2.cell? ⟨b, 3, none⟩ = some (.int .i64 0) at c0
            have X2a := X2.out.setc 3 (.int .i64 (v2))
            rw [ins_set3] at X2a
            have R2a := R2.out.farc (c := b) (i := 3) hne (.int .i64 (v2))
            have B2a := B2.out.setCell (p := ⟨b, 3, none⟩) hwle (.int .i64 (v2))
            have X2h := Lib.hid X2a
            have R2h := Lib.hid R2a
            have B2h := Lib.hid B2a
            clear X2a R2a B2a X2 R2 B2
            go_wp2_with fail
            refine (HHA.out _ _).mono ?_
            rintro e w' ⟨rfl, rfl⟩
            rw [HH99.out]
            go_wp2_with fail
            refine (HHA.out _ _).mono ?_
            rintro e w' ⟨rfl, rfl⟩
            rw [HH113.out]
            go_wp2_with (first | (refine wpList_load_row rfl 24 _ rfl b rfl 24 _ (0, 0) _ X2h.out Tryz.underlying24 rfl (insI _ _ _ _ _ _ _ _) ?_) | (refine wpList_store_row rfl 24 _ _ rfl w.heap.size _ rfl rfl 24 _ R2h.out (insI _ _ _ _ _ _ _ _) (HZ8.out.trans rfl) (insV_one _ _ _ _ _ _ _ _) ?_))
            refine bodyPost_ret (v := r) (by rw [HRV.out]; exact results_cell_tmp Tryz.results18 _ _ _ _ _ _ _ rfl rfl (CsAt.row R2h.out _) Tryz.underlying24 rfl (insI _ _ _ _ _ _ _ _)) rfl ⟨rfl, below_setRow B2h.out (Nat.le_refl _) _⟩
          · simp only at h100 h49 h50 h99 h113
            have HH100 := Lib.hid h100
            have HH49 := Lib.hid h49
            have HH50 := Lib.hid h50
            have HH99 := Lib.hid h99
            have HH113 := Lib.hid h113
            have HRV := Lib.hid (show r = .tuple #[.agg (insV op vd 0 0 imm 0 false false), .bool true] from by rw [HE.out]; unfold readV fieldS; rw [show lacksB f 1 = false from (not_of HL.out.1).trans (by rw [HH100.out]; rfl), show lacksB f 2 = true from (not_of HL.out.2.1).trans (by rw [HH49.out]; rfl), show lacksB f 4 = true from (not_of HL.out.2.2.1).trans (by rw [HH50.out]; rfl), show lacksB f 8 = true from (not_of HL.out.2.2.2.1).trans (by rw [HH99.out]; rfl), show lacksB f 16 = true from (not_of HL.out.2.2.2.2).trans (by rw [HH113.out]; rfl), HIMM.out, HVd.out, HV1.out, HV2.out, HVc.out]; rfl)
            clear h100 h49 h50 h99 h113 HE
            go_wp2_with fail
            refine (HHA.out _ _).mono ?_
            rintro e w' ⟨rfl, rfl⟩
            rw [HH100.out]
            go_wp2_with fail
            refine (HCd.out _).mono ?_
            rintro e V1 ⟨rfl, hb⟩
            have X1 := Lib.hid (HX.out.low hb)
            have R1 := Lib.hid (HRR.out.low hb)
            have B1 := Lib.hid (HBB.out.trans (hb.mono HBB.out.size))
            clear hb
            have c0 := X1.out.cell 1
            have f0 := X1.out.frozen 1
            change V1.cell? ⟨b, 1, none⟩ = some (.int .i64 0) at c0
            have X1a := X1.out.setc 1 (.int .i64 (vd))
            rw [ins_set1] at X1a
            have R1a := R1.out.farc (c := b) (i := 1) hne (.int .i64 (vd))
            have B1a := B1.out.setCell (p := ⟨b, 1, none⟩) hwle (.int .i64 (vd))
            have X1h := Lib.hid X1a
            have R1h := Lib.hid R1a
            have B1h := Lib.hid B1a
            clear X1a R1a B1a X1 R1 B1
            go_wp2_with fail
            refine (HHA.out _ _).mono ?_
            rintro e w' ⟨rfl, rfl⟩
            rw [HH49.out]
            go_wp2_with fail
            refine (HHA.out _ _).mono ?_
            rintro e w' ⟨rfl, rfl⟩
            rw [HH50.out]
            go_wp2_with fail
            refine (HHA.out _ _).mono ?_
            rintro e w' ⟨rfl, rfl⟩
            rw [HH99.out]
            go_wp2_with fail
            refine (HHA.out _ _).mono ?_
            rintro e w' ⟨rfl, rfl⟩
            rw [HH113.out]
            go_wp2_with (first | (refine wpList_load_row rfl 24 _ rfl b rfl 24 _ (0, 0) _ X1h.out Tryz.underlying24 rfl (insI _ _ _ _ _ _ _ _) ?_) | (refine wpList_store_row rfl 24 _ _ rfl w.heap.size _ rfl rfl 24 _ R1h.out (insI _ _ _ _ _ _ _ _) (HZ8.out.trans rfl) (insV_one _ _ _ _ _ _ _ _) ?_))
            refine bodyPost_ret (v := r) (by rw [HRV.out]; exact results_cell_tmp Tryz.results18 _ _ _ _ _ _ _ rfl rfl (CsAt.row R1h.out _) Tryz.underlying24 rfl (insI _ _ _ _ _ _ _ _)) rfl ⟨rfl, below_setRow B1h.out (Nat.le_refl _) _⟩
          · simp only at h100 h49 h50 h99 h113
            have HH100 := Lib.hid h100
            have HH49 := Lib.hid h49
            have HH50 := Lib.hid h50
            have HH99 := Lib.hid h99
            have HH113 := Lib.hid h113
            have HRV := Lib.hid (show r = .tuple #[.agg (insV op vd v1 0 imm vc false false), .bool true] from by rw [HE.out]; unfold readV fieldS; rw [show lacksB f 1 = false from (not_of HL.out.1).trans (by rw [HH100.out]; rfl), show lacksB f 2 = false from (not_of HL.out.2.1).trans (by rw [HH49.out]; rfl), show lacksB f 4 = true from (not_of HL.out.2.2.1).trans (by rw [HH50.out]; rfl), show lacksB f 8 = false from (not_of HL.out.2.2.2.1).trans (by rw [HH99.out]; rfl), show lacksB f 16 = true from (not_of HL.out.2.2.2.2).trans (by rw [HH113.out]; rfl), HIMM.out, HVd.out, HV1.out, HV2.out, HVc.out]; rfl)
            clear h100 h49 h50 h99 h113 HE
            go_wp2_with fail
            refine (HHA.out _ _).mono ?_
            rintro e w' ⟨rfl, rfl⟩
            rw [HH100.out]
            go_wp2_with fail
            refine (HCd.out _).mono ?_
            rintro e V1 ⟨rfl, hb⟩
            have X1 := Lib.hid (HX.out.low hb)
            have R1 := Lib.hid (HRR.out.low hb)
            have B1 := Lib.hid (HBB.out.trans (hb.mono HBB.out.size))
            clear hb
            have c0 := X1.out.cell 1
            have f0 := X1.out.frozen 1
            change V1.cell? ⟨b, 1, none⟩ = some (.int .i64 0) at c0
            have X1a := X1.out.setc 1 (.int .i64 (vd))
            rw [ins_set1] at X1a
            have R1a := R1.out.farc (c := b) (i := 1) hne (.int .i64 (vd))
            have B1a := B1.out.setCell (p := ⟨b, 1, none⟩) hwle (.int .i64 (vd))
            have X1h := Lib.hid X1a
            have R1h := Lib.hid R1a
            have B1h := Lib.hid B1a
            clear X1a R1a B1a X1 R1 B1
            go_wp2_with fail
            refine (HHA.out _ _).mono ?_
            rintro e w' ⟨rfl, rfl⟩
            rw [HH49.out]
            go_wp2_with fail
            refine (HC1.out _).mono ?_
            rintro e V2 ⟨rfl, hb⟩
            have X2 := Lib.hid (X1h.out.low hb)
            have R2 := Lib.hid (R1h.out.low hb)
            have B2 := Lib.hid (B1h.out.trans (hb.mono B1h.out.size))
            clear hb
            have c0 := X2.out.cell 2
            have f0 := X2.out.frozen 2
            change V2.cell? ⟨b, 2, none⟩ = some (.int .i64 0) at c0
            have X2a := X2.out.setc 2 (.int .i64 (v1))
            rw [ins_set2] at X2a
            have R2a := R2.out.farc (c := b) (i := 2) hne (.int .i64 (v1))
            have B2a := B2.out.setCell (p := ⟨b, 2, none⟩) hwle (.int .i64 (v1))
            have X2h := Lib.hid X2a
            have R2h := Lib.hid R2a
            have B2h := Lib.hid B2a
            clear X2a R2a B2a X2 R2 B2
            go_wp2_with fail
            refine (HHA.out _ _).mono ?_
            rintro e w' ⟨rfl, rfl⟩
            rw [HH50.out]
            go_wp2_with fail
            refine (HHA.out _ _).mono ?_
            rintro e w' ⟨rfl, rfl⟩
            rw [HH99.out]
            go_wp2_with fail
            refine (HCc.out _).mono ?_
            rintro e V3 ⟨rfl, hb⟩
            have X3 := Lib.hid (X2h.out.low hb)
            have R3 := Lib.hid (R2h.out.low hb)
            have B3 := Lib.hid (B2h.out.trans (hb.mono B2h.out.size))
            clear hb
            have c0 := X3.out.cell 5
            have f0 := X3.out.frozen 5
            change V3.cell? ⟨b, 5, none⟩ = some (.int .i64 0) at c0
            have X3a := X3.out.setc 5 (.int .i64 (vc))
            rw [ins_set5] at X3a
            have R3a := R3.out.farc (c := b) (i := 5) hne (.int .i64 (vc))
            have B3a := B3.out.setCell (p := ⟨b, 5, none⟩) hwle (.int .i64 (vc))
            have X3h := Lib.hid X3a
            have R3h := Lib.hid R3a
            have B3h := Lib.hid B3a
            clear X3a R3a B3a X3 R3 B3
            go_wp2_with fail
            refine (HHA.out _ _).mono ?_
            rintro e w' ⟨rfl, rfl⟩
            rw [HH113.out]
            go_wp2_with (first | (refine wpList_load_row rfl 24 _ rfl b rfl 24 _ (0, 0) _ X3h.out Tryz.underlying24 rfl (insI _ _ _ _ _ _ _ _) ?_) | (refine wpList_store_row rfl 24 _ _ rfl w.heap.size _ rfl rfl 24 _ R3h.out (insI _ _ _ _ _ _ _ _) (HZ8.out.trans rfl) (insV_one _ _ _ _ _ _ _ _) ?_))
            refine bodyPost_ret (v := r) (by rw [HRV.out]; exact results_cell_tmp Tryz.results18 _ _ _ _ _ _ _ rfl rfl (CsAt.row R3h.out _) Tryz.underlying24 rfl (insI _ _ _ _ _ _ _ _)) rfl ⟨rfl, below_setRow B3h.out (Nat.le_refl _) _⟩
          · simp only at h100 h49 h50 h99 h113
            have HH100 := Lib.hid h100
            have HH49 := Lib.hid h49
            have HH50 := Lib.hid h50
            have HH99 := Lib.hid h99
            have HH113 := Lib.hid h113
            have HRV := Lib.hid (show r = .tuple #[.agg (insV op vd v1 v2 imm 0 (n26 == 1) (n25 == 1)), .bool true] from by rw [HE.out]; unfold readV fieldS; rw [show lacksB f 1 = false from (not_of HL.out.1).trans (by rw [HH100.out]; rfl), show lacksB f 2 = false from (not_of HL.out.2.1).trans (by rw [HH49.out]; rfl), show lacksB f 4 = false from (not_of HL.out.2.2.1).trans (by rw [HH50.out]; rfl), show lacksB f 8 = true from (not_of HL.out.2.2.2.1).trans (by rw [HH99.out]; rfl), show lacksB f 16 = false from (not_of HL.out.2.2.2.2).trans (by rw [HH113.out]; rfl), HIMM.out, HVd.out, HV1.out, HV2.out, HVc.out]; simp only [Bool.false_eq_true, if_false, if_true, HQ26.out, HQ25.out]; rfl)
            clear h100 h49 h50 h99 h113 HE
            go_wp2_with fail
            refine (HHA.out _ _).mono ?_
            rintro e w' ⟨rfl, rfl⟩
            rw [HH100.out]
            go_wp2_with fail
            refine (HCd.out _).mono ?_
            rintro e V1 ⟨rfl, hb⟩
            have X1 := Lib.hid (HX.out.low hb)
            have R1 := Lib.hid (HRR.out.low hb)
            have B1 := Lib.hid (HBB.out.trans (hb.mono HBB.out.size))
            clear hb
            have c0 := X1.out.cell 1
            have f0 := X1.out.frozen 1
            change V1.cell? ⟨b, 1, none⟩ = some (.int .i64 0) at c0
            have X1a := X1.out.setc 1 (.int .i64 (vd))
            rw [ins_set1] at X1a
            have R1a := R1.out.farc (c := b) (i := 1) hne (.int .i64 (vd))
            have B1a := B1.out.setCell (p := ⟨b, 1, none⟩) hwle (.int .i64 (vd))
            have X1h := Lib.hid X1a
            have R1h := Lib.hid R1a
            have B1h := Lib.hid B1a
            clear X1a R1a B1a X1 R1 B1
            go_wp2_with fail
            refine (HHA.out _ _).mono ?_
            rintro e w' ⟨rfl, rfl⟩
            rw [HH49.out]
            go_wp2_with fail
            refine (HC1.out _).mono ?_
            rintro e V2 ⟨rfl, hb⟩
            have X2 := Lib.hid (X1h.out.low hb)
            have R2 := Lib.hid (R1h.out.low hb)
            have B2 := Lib.hid (B1h.out.trans (hb.mono B1h.out.size))
            clear hb
            have c0 := X2.out.cell 2
            have f0 := X2.out.frozen 2
            change V2.cell? ⟨b, 2, none⟩ = some (.int .i64 0) at c0
            have X2a := X2.out.setc 2 (.int .i64 (v1))
            rw [ins_set2] at X2a
            have R2a := R2.out.farc (c := b) (i := 2) hne (.int .i64 (v1))
            have B2a := B2.out.setCell (p := ⟨b, 2, none⟩) hwle (.int .i64 (v1))
            have X2h := Lib.hid X2a
            have R2h := Lib.hid R2a
            have B2h := Lib.hid B2a
            clear X2a R2a B2a X2 R2 B2
            go_wp2_with fail
            refine (HHA.out _ _).mono ?_
            rintro e w' ⟨rfl, rfl⟩
            rw [HH50.out]
            go_wp2_with fail
            refine (HC2.out _).mono ?_
            rintro e V3 ⟨rfl, hb⟩
            have X3 := Lib.hid (X2h.out.low hb)
            have R3 := Lib.hid (R2h.out.low hb)
            have B3 := Lib.hid (B2h.out.trans (hb.mono B2h.out.size))
            clear hb
            have c0 := X3.out.cell 3
            have f0 := X3.out.frozen 3
            change V3.cell? ⟨b, 3, none⟩ = some (.int .i64 0) at c0
            have X3a := X3.out.setc 3 (.int .i64 (v2))
            rw [ins_set3] at X3a
            have R3a := R3.out.farc (c := b) (i := 3) hne (.int .i64 (v2))
            have B3a := B3.out.setCell (p := ⟨b, 3, none⟩) hwle (.int .i64 (v2))
            have X3h := Lib.hid X3a
            have R3h := Lib.hid R3a
            have B3h := Lib.hid B3a
            clear X3a R3a B3a X3 R3 B3
            go_wp2_with fail
            refine (HHA.out _ _).mono ?_
            rintro e w' ⟨rfl, rfl⟩
            rw [HH99.out]
            go_wp2_with fail
            refine (HHA.out _ _).mono ?_
            rintro e w' ⟨rfl, rfl⟩
            rw [HH113.out]
            go_wp2_with fail
            refine (HT26.out _).mono ?_
            rintro e w' ⟨rfl, rfl⟩
            have c0 := X3h.out.cell 6
            have f0 := X3h.out.frozen 6
            change World.cell? _ ⟨b, 6, none⟩ = some (.bool false) at c0
            have X4a := X3h.out.setc 6 (.bool (n26 == 1))
            rw [ins_set6] at X4a
            have R4h := Lib.hid (R3h.out.farc (c := b) (i := 6) hne (.bool (n26 == 1)))
            have B4h := Lib.hid (B3h.out.setCell (p := ⟨b, 6, none⟩) hwle (.bool (n26 == 1)))
            have X4h := Lib.hid X4a
            clear X4a
            go_wp2_with fail
            refine (HT25.out _).mono ?_
            rintro e w' ⟨rfl, rfl⟩
            have c0 := X4h.out.cell 7
            have f0 := X4h.out.frozen 7
            change World.cell? _ ⟨b, 7, none⟩ = some (.bool false) at c0
            have X5a := X4h.out.setc 7 (.bool (n25 == 1))
            rw [ins_set7] at X5a
            have R5h := Lib.hid (R4h.out.farc (c := b) (i := 7) hne (.bool (n25 == 1)))
            have B5h := Lib.hid (B4h.out.setCell (p := ⟨b, 7, none⟩) hwle (.bool (n25 == 1)))
            have X5h := Lib.hid X5a
            clear X5a
            go_wp2_with (first | (refine wpList_load_row rfl 24 _ rfl b rfl 24 _ (0, 0) _ X5h.out Tryz.underlying24 rfl (insI _ _ _ _ _ _ _ _) ?_) | (refine wpList_store_row rfl 24 _ _ rfl w.heap.size _ rfl rfl 24 _ R5h.out (insI _ _ _ _ _ _ _ _) (HZ8.out.trans rfl) (insV_one _ _ _ _ _ _ _ _) ?_))
            refine bodyPost_ret (v := r) (by rw [HRV.out]; exact results_cell_tmp Tryz.results18 _ _ _ _ _ _ _ rfl rfl (CsAt.row R5h.out _) Tryz.underlying24 rfl (insI _ _ _ _ _ _ _ _)) rfl ⟨rfl, below_setRow B5h.out (Nat.le_refl _) _⟩
          · simp only at h100 h49 h50 h99 h113
            have HH100 := Lib.hid h100
            have HH49 := Lib.hid h49
            have HH50 := Lib.hid h50
            have HH99 := Lib.hid h99
            have HH113 := Lib.hid h113
            have HRV := Lib.hid (show r = .tuple #[.agg (insV op vd v1 0 imm 0 (n26 == 1) (n25 == 1)), .bool true] from by rw [HE.out]; unfold readV fieldS; rw [show lacksB f 1 = false from (not_of HL.out.1).trans (by rw [HH100.out]; rfl), show lacksB f 2 = false from (not_of HL.out.2.1).trans (by rw [HH49.out]; rfl), show lacksB f 4 = true from (not_of HL.out.2.2.1).trans (by rw [HH50.out]; rfl), show lacksB f 8 = true from (not_of HL.out.2.2.2.1).trans (by rw [HH99.out]; rfl), show lacksB f 16 = false from (not_of HL.out.2.2.2.2).trans (by rw [HH113.out]; rfl), HIMM.out, HVd.out, HV1.out, HV2.out, HVc.out]; simp only [Bool.false_eq_true, if_false, if_true, HQ26.out, HQ25.out]; rfl)
            clear h100 h49 h50 h99 h113 HE
            go_wp2_with fail
            refine (HHA.out _ _).mono ?_
            rintro e w' ⟨rfl, rfl⟩
            rw [HH100.out]
            go_wp2_with fail
            refine (HCd.out _).mono ?_
            rintro e V1 ⟨rfl, hb⟩
            have X1 := Lib.hid (HX.out.low hb)
            have R1 := Lib.hid (HRR.out.low hb)
            have B1 := Lib.hid (HBB.out.trans (hb.mono HBB.out.size))
            clear hb
            have c0 := X1.out.cell 1
            have f0 := X1.out.frozen 1
            change V1.cell? ⟨b, 1, none⟩ = some (.int .i64 0) at c0
            have X1a := X1.out.setc 1 (.int .i64 (vd))
            rw [ins_set1] at X1a
            have R1a := R1.out.farc (c := b) (i := 1) hne (.int .i64 (vd))
            have B1a := B1.out.setCell (p := ⟨b, 1, none⟩) hwle (.int .i64 (vd))
            have X1h := Lib.hid X1a
            have R1h := Lib.hid R1a
            have B1h := Lib.hid B1a
            clear X1a R1a B1a X1 R1 B1
            go_wp2_with fail
            refine (HHA.out _ _).mono ?_
            rintro e w' ⟨rfl, rfl⟩
            rw [HH49.out]
            go_wp2_with fail
            refine (HC1.out _).mono ?_
            rintro e V2 ⟨rfl, hb⟩
            have X2 := Lib.hid (X1h.out.low hb)
            have R2 := Lib.hid (R1h.out.low hb)
            have B2 := Lib.hid (B1h.out.trans (hb.mono B1h.out.size))
            clear hb
            have c0 := X2.out.cell 2
            have f0 := X2.out.frozen 2
            change V2.cell? ⟨b, 2, none⟩ = some (.int .i64 0) at c0
            have X2a := X2.out.setc 2 (.int .i64 (v1))
            rw [ins_set2] at X2a
            have R2a := R2.out.farc (c := b) (i := 2) hne (.int .i64 (v1))
            have B2a := B2.out.setCell (p := ⟨b, 2, none⟩) hwle (.int .i64 (v1))
            have X2h := Lib.hid X2a
            have R2h := Lib.hid R2a
            have B2h := Lib.hid B2a
            clear X2a R2a B2a X2 R2 B2
            go_wp2_with fail
            refine (HHA.out _ _).mono ?_
            rintro e w' ⟨rfl, rfl⟩
            rw [HH50.out]
            go_wp2_with fail
            refine (HHA.out _ _).mono ?_
            rintro e w' ⟨rfl, rfl⟩
            rw [HH99.out]
            go_wp2_with fail
            refine (HHA.out _ _).mono ?_
            rintro e w' ⟨rfl, rfl⟩
            rw [HH113.out]
            go_wp2_with fail
            refine (HT26.out _).mono ?_
            rintro e w' ⟨rfl, rfl⟩
            have c0 := X2h.out.cell 6
            have f0 := X2h.out.frozen 6
            change World.cell? _ ⟨b, 6, none⟩ = some (.bool false) at c0
            have X3a := X2h.out.setc 6 (.bool (n26 == 1))
            rw [ins_set6] at X3a
            have R3h := Lib.hid (R2h.out.farc (c := b) (i := 6) hne (.bool (n26 == 1)))
            have B3h := Lib.hid (B2h.out.setCell (p := ⟨b, 6, none⟩) hwle (.bool (n26 == 1)))
            have X3h := Lib.hid X3a
            clear X3a
            go_wp2_with fail
            refine (HT25.out _).mono ?_
            rintro e w' ⟨rfl, rfl⟩
            have c0 := X3h.out.cell 7
            have f0 := X3h.out.frozen 7
            change World.cell? _ ⟨b, 7, none⟩ = some (.bool false) at c0
            have X4a := X3h.out.setc 7 (.bool (n25 == 1))
            rw [ins_set7] at X4a
            have R4h := Lib.hid (R3h.out.farc (c := b) (i := 7) hne (.bool (n25 == 1)))
            have B4h := Lib.hid (B3h.out.setCell (p := ⟨b, 7, none⟩) hwle (.bool (n25 == 1)))
            have X4h := Lib.hid X4a
            clear X4a
            go_wp2_with (first | (refine wpList_load_row rfl 24 _ rfl b rfl 24 _ (0, 0) _ X4h.out Tryz.underlying24 rfl (insI _ _ _ _ _ _ _ _) ?_) | (refine wpList_store_row rfl 24 _ _ rfl w.heap.size _ rfl rfl 24 _ R4h.out (insI _ _ _ _ _ _ _ _) (HZ8.out.trans rfl) (insV_one _ _ _ _ _ _ _ _) ?_))
            refine bodyPost_ret (v := r) (by rw [HRV.out]; exact results_cell_tmp Tryz.results18 _ _ _ _ _ _ _ rfl rfl (CsAt.row R4h.out _) Tryz.underlying24 rfl (insI _ _ _ _ _ _ _ _)) rfl ⟨rfl, below_setRow B4h.out (Nat.le_refl _) _⟩
          · simp only at h100 h49 h50 h99 h113
            have HH100 := Lib.hid h100
            have HH49 := Lib.hid h49
            have HH50 := Lib.hid h50
            have HH99 := Lib.hid h99
            have HH113 := Lib.hid h113
            have HRV := Lib.hid (show r = .tuple #[.agg (insV op 0 0 0 imm 0 false false), .bool true] from by rw [HE.out]; unfold readV fieldS; rw [show lacksB f 1 = true from (not_of HL.out.1).trans (by rw [HH100.out]; rfl), show lacksB f 2 = true from (not_of HL.out.2.1).trans (by rw [HH49.out]; rfl), show lacksB f 4 = true from (not_of HL.out.2.2.1).trans (by rw [HH50.out]; rfl), show lacksB f 8 = true from (not_of HL.out.2.2.2.1).trans (by rw [HH99.out]; rfl), show lacksB f 16 = true from (not_of HL.out.2.2.2.2).trans (by rw [HH113.out]; rfl), HIMM.out, HVd.out, HV1.out, HV2.out, HVc.out]; rfl)
            clear h100 h49 h50 h99 h113 HE
            go_wp2_with fail
            refine (HHA.out _ _).mono ?_
            rintro e w' ⟨rfl, rfl⟩
            rw [HH100.out]
            go_wp2_with fail
            refine (HHA.out _ _).mono ?_
            rintro e w' ⟨rfl, rfl⟩
            rw [HH49.out]
            go_wp2_with fail
            refine (HHA.out _ _).mono ?_
            rintro e w' ⟨rfl, rfl⟩
            rw [HH50.out]
            go_wp2_with fail
            refine (HHA.out _ _).mono ?_
            rintro e w' ⟨rfl, rfl⟩
            rw [HH99.out]
            go_wp2_with fail
            refine (HHA.out _ _).mono ?_
            rintro e w' ⟨rfl, rfl⟩
            rw [HH113.out]
            go_wp2_with (first | (refine wpList_load_row rfl 24 _ rfl b rfl 24 _ (0, 0) _ HX.out Tryz.underlying24 rfl (insI _ _ _ _ _ _ _ _) ?_) | (refine wpList_store_row rfl 24 _ _ rfl w.heap.size _ rfl rfl 24 _ HRR.out (insI _ _ _ _ _ _ _ _) (HZ8.out.trans rfl) (insV_one _ _ _ _ _ _ _ _) ?_))
            refine bodyPost_ret (v := r) (by rw [HRV.out]; exact results_cell_tmp Tryz.results18 _ _ _ _ _ _ _ rfl rfl (CsAt.row HRR.out _) Tryz.underlying24 rfl (insI _ _ _ _ _ _ _ _)) rfl ⟨rfl, below_setRow HBB.out (Nat.le_refl _) _⟩

    · obtain rfl : k = 98 := by omega
      have HE := Lib.hid (show r = .tuple #[zeroInsn, .bool false] from by rw [← HR.out]; unfold decV decN; rw [HF.out])
      go_wp2_with (refine wpList_store_row rfl 24 _ _ rfl w.heap.size _ rfl rfl 24 _ HRr.out (insI 0 0 0 0 0 0 false false) rfl (insV_one 0 0 0 0 0 0 false false) ?_)
      refine bodyPost_ret (v := r) (by rw [HE.out]; exact results_cell_tmp Tryz.results18 _ _ _ _ _ _ _ rfl rfl (CsAt.row HRr.out (insV 0 0 0 0 0 0 false false)) Tryz.underlying24 rfl (insI _ _ _ _ _ _ _ _)) rfl ⟨rfl, below_setRow HB.out (Nat.le_refl _) _⟩
end Go.Proofs.YthehcplogkgkeaaGreatDoor
