/-
  The statement InsnImms (P3.1), tied card: for every format's number, word, number and op, roebucklaw03.InsnImms returns true and its arguments read afterwards as before. Condition: insn.values and insn.fields hold what the program's text lays (the card ties it).
-/
import Derived.Test.YtmaooljlkpfkoaaDoorDoor3
import Derived.Test.YtmaooljlkpfkoaaDoorTie
import Derived.Test.YtmaooljlkpfkoaaDoorCards
import Derived.SevenTiedAt
namespace Go.Proofs.YtmaooljlkpfkoaaDoor
open Go.ChangeShapes Go.WideShapes Go.ChangeAt Go.RowKit Wd

def fNum (f : Int) : Nat := if 0 ≤ f ∧ f < 15 then f.toNat else 0
theorem fNum_lt (f : Int) : fNum f < 15 := by unfold fNum; split <;> omega
theorem imm_any (f x : Int) : immS (fNum f) x = immD f x := by
  unfold fNum
  by_cases h : 0 ≤ f ∧ f < 15
  · rw [if_pos h, ← immD_eq f.toNat (by omega), show ((f.toNat : Nat) : Int) = f by omega]
  · rw [if_neg h, ← immD_eq 0 (by decide), immD_no f x (by omega), immD_no _ x (by decide)]
theorem lay_any (f n : Int) : layS (fNum f) n = layD f n := by
  unfold fNum
  by_cases h : 0 ≤ f ∧ f < 15
  · rw [if_pos h, ← layD_eq f.toNat (by omega), show ((f.toNat : Nat) : Int) = f by omega]
  · rw [if_neg h, ← layD_eq 0 (by decide), layD_no f n (by omega), layD_no _ n (by decide)]
theorem arr_new (w : World) (a b : Int) (t : TypeId) : (w.alloc (.cells #[.int .i64 a, .int .i64 b] t)).cell? ⟨w.heap.size, 0, none⟩ = some (.int .i64 a) ∧ (w.alloc (.cells #[.int .i64 a, .int .i64 b] t)).cell? ⟨w.heap.size, 1, none⟩ = some (.int .i64 b) := by
  refine ⟨?_, ?_⟩ <;> simp [go_sem]
abbrev AS (w : World) (b : Nat) (n0 n1 : Int) (w' : World) : Prop := Below w.heap.size w w' ∧ w'.cell? ⟨b, 0, none⟩ = some (.int .i64 n0) ∧ w'.cell? ⟨b, 1, none⟩ = some (.int .i64 n1)
theorem AS.on {w w' w2 : World} {b : Nat} {n0 n1 : Int} (h : AS w b n0 n1 w') (hb : Below w'.heap.size w' w2) : AS w b n0 n1 w2 :=
  ⟨h.1.trans (hb.mono h.1.size), (hb.cell (p := ⟨b, 0, none⟩) (lt_cell h.2.1)).trans h.2.1, (hb.cell (p := ⟨b, 1, none⟩) (lt_cell h.2.2)).trans h.2.2⟩
theorem AS.drew {w w' : World} {b : Nat} {n0 n1 : Int} (h : AS w b n0 n1 w') : AS w b n0 n1 w'.drew := h.on ((Below.refl _ _).drew)
abbrev NS (w : World) (b : Nat) (nm : Value) (m v : Int) (w' : World) : Prop := Below w.heap.size w w' ∧ w'.cell? ⟨b, 1, none⟩ = some nm ∧ w'.cell? ⟨b, 2, none⟩ = some (.int .u64 m) ∧ w'.cell? ⟨b, 3, none⟩ = some (.int .u64 v)
theorem NS.on {w w' w2 : World} {b : Nat} {nm : Value} {m v : Int} (h : NS w b nm m v w') (hb : Below w'.heap.size w' w2) : NS w b nm m v w2 :=
  ⟨h.1.trans (hb.mono h.1.size), (hb.cell (p := ⟨b, 1, none⟩) (lt_cell h.2.1)).trans h.2.1, (hb.cell (p := ⟨b, 2, none⟩) (lt_cell h.2.2.1)).trans h.2.2.1, (hb.cell (p := ⟨b, 3, none⟩) (lt_cell h.2.2.2)).trans h.2.2.2⟩
theorem NS.drew {w w' : World} {b : Nat} {nm : Value} {m v : Int} (h : NS w b nm m v w') : NS w b nm m v w'.drew := h.on ((Below.refl _ _).drew)
theorem row_new (w : World) (o m v : Int) (nm : Value) (t : TypeId) : (w.alloc (.cells #[.int .i64 o, nm, .int .u64 m, .int .u64 v] t)).cell? ⟨w.heap.size, 1, none⟩ = some nm ∧ (w.alloc (.cells #[.int .i64 o, nm, .int .u64 m, .int .u64 v] t)).cell? ⟨w.heap.size, 2, none⟩ = some (.int .u64 m) ∧ (w.alloc (.cells #[.int .i64 o, nm, .int .u64 m, .int .u64 v] t)).cell? ⟨w.heap.size, 3, none⟩ = some (.int .u64 v) := by
  refine ⟨?_, ?_, ?_⟩ <;> simp [go_sem]
theorem live_of {w w' : World} {b : Nat} {nm : Value} {m v : Int} (hv : VarsAt w) (h : NS w b nm m v w') : Calls Tryd.prog 10 #[] w' fun e w'' => e = .returned (.bool true) ∧ Below w'.heap.size w' w'' := live3_c w' (hv.low h.1)
theorem fix_small (op : Int) : (0 ≤ fixM op ∧ fixM op < 4294967296) ∧ 0 ≤ fixV op ∧ fixV op < 4294967296 := by
  unfold fixM fixV findRow
  split
  · rename_i h
    have l : ∀ k : Fin 98, (rowAt k.val).2.2.1 < 4294967296 ∧ (rowAt k.val).2.2.2 < 4294967296 := by decide +kernel
    have := l ⟨op.toNat - 1, by omega⟩
    simp only at this
    omega
  · decide
set_option maxHeartbeats 8000000 in
theorem imms_in (f x n0 n1 : Int) (w : World) (hv : VarsAt w) (hx0 : 0 ≤ x) (hx : x < 4294967296) (hf : 0 ≤ f ∧ f < 15) :
    Calls Tryd.prog 5 #[.int .i64 f, .int .u32 x, .agg #[.int .i64 n0, .int .i64 n1]] w fun e w' => e = .returned (.bool true) ∧ Below w.heap.size w w' := by
  have HV := Lib.hid hv
  clear hv
  have HIM := Lib.hid (fun w' => imm_c f x w' hx0 hx)
  have HIR := Lib.hid (fun w' => (show Calls Tryd.prog 17 #[strV (Tab.names3.getD (fNum f) []), .int .u64 x] w' fun e w'' => e = .returned (.int .i64 (immD f x)) ∧ Below w'.heap.size w' w'' by rw [← imm_any]; exact refImm_c (fNum f) (fNum_lt f) x w' hx0 (by omega)))
  have HLA := Lib.hid (fun w' => lay_c f n0 w')
  have HLR := Lib.hid (fun w' => (show Calls Tryd.prog 19 #[strV (Tab.names3.getD (fNum f) []), .int .i64 n0] w' fun e w'' => e = .returned (.int .u64 (layD f n0)) ∧ Below w'.heap.size w' w'' by rw [← lay_any]; exact refLay_c (fNum f) (fNum_lt f) n0 w'))
  have hll := layD_lt f n0
  have hwx : IntKind.u64.wrap x = x := IntWalk.u64_in _ (by omega)
  have hwl : IntKind.u64.wrap (layD f n0) = layD f n0 := IntWalk.u64_in _ (by omega)
  have hfs := fix_small n1
  have hwm : IntKind.u64.wrap (fixM n1) = fixM n1 := IntWalk.u64_in _ (by omega)
  have hwv : IntKind.u64.wrap (fixV n1) = fixV n1 := IntWalk.u64_in _ (by omega)
  generalize immD f x = im at *
  generalize layD f n0 = la at *
  have HFX := Lib.hid (fun w' (h : VarsAt w') => fixed_c n1 w' h)
  have HFI := Lib.hid (fun w' => (show Calls Tryd.prog 20 #[.int .i64 n1] w' fun e w'' => e = .returned (.agg #[.int .i64 ((findRow n1).1 : Nat), .string (bsOf (Tab.names3.getD (fmtN n1) [])), .int .u64 (fixM n1), .int .u64 (fixV n1)]) ∧ Below w'.heap.size w' w'' from refFind_c n1 w'))
  have HFO := Lib.hid (fun w' => formatOf_c n1 w')
  have HNU := Lib.hid (fun w' => (show Calls Tryd.prog 23 #[.string (bsOf (Tab.names3.getD (fmtN n1) []))] w' fun e w'' => e = .returned (.int .i64 (fmtN n1 : Nat)) ∧ Below w'.heap.size w' w'' from refNumber_c (fmtN n1) (fmtN_lt n1) w'))
  generalize fixM n1 = fm at *
  generalize fixV n1 = fv at *
  generalize (((findRow n1).1 : Nat) : Int) = ro at *
  generalize hnm2 : bsOf (Tab.names3.getD (fmtN n1) []) = nm2 at *
  clear hnm2
  generalize ((fmtN n1 : Nat) : Int) = ff at *
  clear hfs hll
  have hfn : fNum f = f.toNat := by unfold fNum; rw [if_pos hf]
  obtain ⟨k0, rfl⟩ : ∃ k : Nat, f = (k : Int) := ⟨f.toNat, by omega⟩
  have hk0 : k0 < 15 := by omega
  have hk1 : (k0 : Int) < 15 := by omega
  have d1 : decide ((0 : Int) ≤ (k0 : Int)) = true := by simp
  have d2 : decide ((k0 : Int) < 15) = true := by simp; omega
  have hfn2 : fNum (k0 : Int) = k0 := by rw [hfn]; omega
  rw [hfn2] at HIR HLR
  clear hf hfn hfn2
  go_enter Tryd.func5, Tryd.ntmps5
  go_wp2_with fail
  have HA0 := Lib.hid (arr_new w n0 n1 39)
  have HB0 := Lib.hid (show Below w.heap.size w (w.alloc (.cells #[.int .i64 n0, .int .i64 n1] 39)) from (Below.refl _ _).alloc (Nat.le_refl _) _)
  have hz : (w.alloc (.cells #[.int .i64 n0, .int .i64 n1] 39)).heap.size = w.heap.size + 1 := by simp
  have HZ := Lib.hid hz
  clear hz
  generalize (w.alloc (.cells #[.int .i64 n0, .int .i64 n1] 39)) = wz at *
  refine (refNames3_c _).mono ?_
  rintro e w1 ⟨rfl, rfl⟩
  have hc : (wz.alloc (.cells (Tab.names3.map strV).toArray 9)).cell? ⟨wz.heap.size, k0, none⟩ = some (strV (Tab.names3.getD k0 [])) := names3_cell wz k0 hk0
  have HS0 := Lib.hid (show AS w w.heap.size n0 n1 (wz.alloc (.cells (Tab.names3.map strV).toArray 9)) from AS.on (w' := wz) ⟨HB0.out, HA0.out⟩ ((Below.refl _ _).alloc (Nat.le_refl _) _))
  generalize (wz.alloc (.cells (Tab.names3.map strV).toArray 9)) = w1 at *
  generalize strV (Tab.names3.getD k0 []) = nm at *
  go_wp2_with fail
  go_region_held3 (fun w' => Below w.heap.size w w' ∧ w'.cell? ⟨w.heap.size, 0, none⟩ = some (.int .i64 n0) ∧ w'.cell? ⟨w.heap.size, 1, none⟩ = some (.int .i64 n1))
    (first | with_reducible exact HS0.out.drew | with_reducible exact AS.on (by assumption) (by assumption) | with_reducible assumption)
    (first
      | (go_at_call 16; refine (HIM.out _).mono ?_; rintro e wa ⟨rfl, hba⟩)
      | (go_at_call 17; refine (HIR.out _).mono ?_; rintro e wb ⟨rfl, hbb⟩)
      | (go_at_call 18; refine (HLA.out _).mono ?_; rintro e wc ⟨rfl, hbc⟩)
      | (go_at_call 19; refine (HLR.out _).mono ?_; rintro e wd ⟨rfl, hbd⟩))
  rename_i hHeldEnd
  have HAE := Lib.hid hHeldEnd
  clear hba hbb hbc hbd hHeldEnd HS0
  obtain ⟨-, a0, a1⟩ := HAE.out
  go_wp2_with fail
  refine (HFI.out _).mono ?_
  rintro e w2 ⟨rfl, hb⟩
  have HB2 := Lib.hid (HAE.out.1.trans (hb.mono HAE.out.1.size))
  clear hb a0 a1
  go_wp2_with fail
  have HR2 := Lib.hid (row_new w2 ro fm fv (.string nm2) 48)
  have HB3 := Lib.hid (HB2.out.alloc HB2.out.size (.cells #[.int .i64 ro, .string nm2, .int .u64 fm, .int .u64 fv] 48))
  generalize (w2.alloc (.cells #[.int .i64 ro, .string nm2, .int .u64 fm, .int .u64 fv] 48)) = w3 at *
  refine (HFX.out _ (HV.out.low HB3.out)).mono ?_
  rintro e w4 ⟨rfl, hb⟩
  have HS4 := Lib.hid (NS.on (w' := w3) ⟨HB3.out, HR2.out⟩ hb)
  clear hb HR2 HB3
  go_wp2_with fail
  go_region_held3 (fun w' => Below w.heap.size w w' ∧ w'.cell? ⟨w2.heap.size, 1, none⟩ = some (.string nm2) ∧ w'.cell? ⟨w2.heap.size, 2, none⟩ = some (.int .u64 fm) ∧ w'.cell? ⟨w2.heap.size, 3, none⟩ = some (.int .u64 fv))
    (first | with_reducible exact HS4.out.drew | with_reducible exact NS.on (by assumption) (by assumption) | with_reducible assumption)
    (first
      | (go_at_call 22; refine (HFO.out _).mono ?_; rintro e wa ⟨rfl, hba⟩)
      | (go_at_call 23; refine (HNU.out _).mono ?_; rintro e wb ⟨rfl, hbb⟩)
      | (go_at_call 10; refine (live_of HV.out (by with_reducible assumption)).mono ?_; rintro e wc ⟨rfl, hbc⟩))
  rename_i hHeldEnd2
  have HBE := Lib.hid hHeldEnd2.1
  clear hba hbb hbc hHeldEnd2 HS4
  go_wp2_with fail
  go_ret
  exact ⟨rfl, HBE.out⟩

set_option maxHeartbeats 8000000 in
theorem imms_out (f x n0 n1 : Int) (w : World) (hv : VarsAt w) (hx0 : 0 ≤ x) (hx : x < 4294967296) (hf : ¬ (0 ≤ f ∧ f < 15)) :
    Calls Tryd.prog 5 #[.int .i64 f, .int .u32 x, .agg #[.int .i64 n0, .int .i64 n1]] w fun e w' => e = .returned (.bool true) ∧ Below w.heap.size w w' := by
  have HV := Lib.hid hv
  clear hv
  have HIM := Lib.hid (fun w' => imm_c f x w' hx0 hx)
  have HIR := Lib.hid (fun w' => (show Calls Tryd.prog 17 #[strV (Tab.names3.getD (fNum f) []), .int .u64 x] w' fun e w'' => e = .returned (.int .i64 (immD f x)) ∧ Below w'.heap.size w' w'' by rw [← imm_any]; exact refImm_c (fNum f) (fNum_lt f) x w' hx0 (by omega)))
  have HLA := Lib.hid (fun w' => lay_c f n0 w')
  have HLR := Lib.hid (fun w' => (show Calls Tryd.prog 19 #[strV (Tab.names3.getD (fNum f) []), .int .i64 n0] w' fun e w'' => e = .returned (.int .u64 (layD f n0)) ∧ Below w'.heap.size w' w'' by rw [← lay_any]; exact refLay_c (fNum f) (fNum_lt f) n0 w'))
  have hll := layD_lt f n0
  have hwx : IntKind.u64.wrap x = x := IntWalk.u64_in _ (by omega)
  have hwl : IntKind.u64.wrap (layD f n0) = layD f n0 := IntWalk.u64_in _ (by omega)
  have hfs := fix_small n1
  have hwm : IntKind.u64.wrap (fixM n1) = fixM n1 := IntWalk.u64_in _ (by omega)
  have hwv : IntKind.u64.wrap (fixV n1) = fixV n1 := IntWalk.u64_in _ (by omega)
  generalize immD f x = im at *
  generalize layD f n0 = la at *
  have HFX := Lib.hid (fun w' (h : VarsAt w') => fixed_c n1 w' h)
  have HFI := Lib.hid (fun w' => (show Calls Tryd.prog 20 #[.int .i64 n1] w' fun e w'' => e = .returned (.agg #[.int .i64 ((findRow n1).1 : Nat), .string (bsOf (Tab.names3.getD (fmtN n1) [])), .int .u64 (fixM n1), .int .u64 (fixV n1)]) ∧ Below w'.heap.size w' w'' from refFind_c n1 w'))
  have HFO := Lib.hid (fun w' => formatOf_c n1 w')
  have HNU := Lib.hid (fun w' => (show Calls Tryd.prog 23 #[.string (bsOf (Tab.names3.getD (fmtN n1) []))] w' fun e w'' => e = .returned (.int .i64 (fmtN n1 : Nat)) ∧ Below w'.heap.size w' w'' from refNumber_c (fmtN n1) (fmtN_lt n1) w'))
  generalize fixM n1 = fm at *
  generalize fixV n1 = fv at *
  generalize (((findRow n1).1 : Nat) : Int) = ro at *
  generalize hnm2 : bsOf (Tab.names3.getD (fmtN n1) []) = nm2 at *
  clear hnm2
  generalize ((fmtN n1 : Nat) : Int) = ff at *
  clear hfs hll
  have hfn : fNum f = 0 := by unfold fNum; rw [if_neg hf]
  have HIR := Lib.hid (fun w' => (show Calls Tryd.prog 17 #[.string ⟨#[]⟩, .int .u64 x] w' fun e w'' => e = .returned (.int .i64 im) ∧ Below w'.heap.size w' w'' from by have := HIR.out w'; rw [hfn] at this; exact this))
  have HLR := Lib.hid (fun w' => (show Calls Tryd.prog 19 #[.string ⟨#[]⟩, .int .i64 n0] w' fun e w'' => e = .returned (.int .u64 la) ∧ Below w'.heap.size w' w'' from by have := HLR.out w'; rw [hfn] at this; exact this))
  have key : decide ((0 : Int) ≤ f) = false ∨ (decide ((0 : Int) ≤ f) = true ∧ decide (f < 15) = false) := by
    by_cases h1 : 0 ≤ f
    · exact .inr ⟨by simpa using h1, by simp; omega⟩
    · exact .inl (by simpa using h1)
  clear hf hfn
  rcases key with d1 | ⟨d1, d2⟩
  all_goals
    go_enter Tryd.func5, Tryd.ntmps5
    go_wp2_with fail
    have HA0 := Lib.hid (arr_new w n0 n1 39)
    have HB0 := Lib.hid (show Below w.heap.size w (w.alloc (.cells #[.int .i64 n0, .int .i64 n1] 39)) from (Below.refl _ _).alloc (Nat.le_refl _) _)
    generalize (w.alloc (.cells #[.int .i64 n0, .int .i64 n1] 39)) = wz at *
    refine (refNames3_c _).mono ?_
    rintro e w1 ⟨rfl, rfl⟩
    have HS0 := Lib.hid (show AS w w.heap.size n0 n1 (wz.alloc (.cells (Tab.names3.map strV).toArray 9)) from AS.on (w' := wz) ⟨HB0.out, HA0.out⟩ ((Below.refl _ _).alloc (Nat.le_refl _) _))
    generalize (wz.alloc (.cells (Tab.names3.map strV).toArray 9)) = w1 at *
    go_wp2_with fail
    go_region_held3 (fun w' => Below w.heap.size w w' ∧ w'.cell? ⟨w.heap.size, 0, none⟩ = some (.int .i64 n0) ∧ w'.cell? ⟨w.heap.size, 1, none⟩ = some (.int .i64 n1))
      (first | with_reducible exact HS0.out.drew | with_reducible exact AS.on (by assumption) (by assumption) | with_reducible assumption)
      (first
        | (go_at_call 16; refine (HIM.out _).mono ?_; rintro e wa ⟨rfl, hba⟩)
        | (go_at_call 17; refine (HIR.out _).mono ?_; rintro e wb ⟨rfl, hbb⟩)
        | (go_at_call 18; refine (HLA.out _).mono ?_; rintro e wc ⟨rfl, hbc⟩)
        | (go_at_call 19; refine (HLR.out _).mono ?_; rintro e wd ⟨rfl, hbd⟩))
    rename_i hHeldEnd
    have HAE := Lib.hid hHeldEnd
    clear hba hbb hbc hbd hHeldEnd HS0
    obtain ⟨-, a0, a1⟩ := HAE.out
    go_wp2_with fail
    refine (HFI.out _).mono ?_
    rintro e w2 ⟨rfl, hb⟩
    have HB2 := Lib.hid (HAE.out.1.trans (hb.mono HAE.out.1.size))
    clear hb a0 a1
    go_wp2_with fail
    have HR2 := Lib.hid (row_new w2 ro fm fv (.string nm2) 48)
    have HB3 := Lib.hid (HB2.out.alloc HB2.out.size (.cells #[.int .i64 ro, .string nm2, .int .u64 fm, .int .u64 fv] 48))
    generalize (w2.alloc (.cells #[.int .i64 ro, .string nm2, .int .u64 fm, .int .u64 fv] 48)) = w3 at *
    refine (HFX.out _ (HV.out.low HB3.out)).mono ?_
    rintro e w4 ⟨rfl, hb⟩
    have HS4 := Lib.hid (NS.on (w' := w3) ⟨HB3.out, HR2.out⟩ hb)
    clear hb HR2 HB3
    go_wp2_with fail
    go_region_held3 (fun w' => Below w.heap.size w w' ∧ w'.cell? ⟨w2.heap.size, 1, none⟩ = some (.string nm2) ∧ w'.cell? ⟨w2.heap.size, 2, none⟩ = some (.int .u64 fm) ∧ w'.cell? ⟨w2.heap.size, 3, none⟩ = some (.int .u64 fv))
      (first | with_reducible exact HS4.out.drew | with_reducible exact NS.on (by assumption) (by assumption) | with_reducible assumption)
      (first
        | (go_at_call 22; refine (HFO.out _).mono ?_; rintro e wa ⟨rfl, hba⟩)
        | (go_at_call 23; refine (HNU.out _).mono ?_; rintro e wb ⟨rfl, hbb⟩)
        | (go_at_call 10; refine (live_of HV.out (by with_reducible assumption)).mono ?_; rintro e wc ⟨rfl, hbc⟩))
    rename_i hHeldEnd2
    have HBE := Lib.hid hHeldEnd2.1
    clear hba hbb hbc hHeldEnd2 HS4
    go_wp2_with fail
    go_ret
    exact ⟨rfl, HBE.out⟩
theorem imms_walk (f x n0 n1 : Int) (_h0 : -9223372036854775808 ≤ f ∧ f ≤ 9223372036854775807) (hx : 0 ≤ x ∧ x ≤ 4294967295) (_h1 : -9223372036854775808 ≤ n0 ∧ n0 ≤ 9223372036854775807) (_h2 : -9223372036854775808 ≤ n1 ∧ n1 ≤ 9223372036854775807) (w : World) (hv : VarsAt w) :
    Calls Tryd.prog 5 #[.int .i64 f, .int .u32 x, .agg #[.int .i64 n0, .int .i64 n1]] w fun e w' => e = .returned (.bool true) ∧ Below w.heap.size w w' := by
  by_cases hf : 0 ≤ f ∧ f < 15
  · exact imms_in f x n0 n1 w hv hx.1 (by omega) hf
  · exact imms_out f x n0 n1 w hv hx.1 (by omega) hf

set_option maxRecDepth 100000 in
theorem imms_lifted (os : Os) (started : os.Started) (H : Type) (enc : TypeId × Value → H) :
    ReturnsInHanded {} Tryd.checked os 5 .any (fun w args => (Rows.insnImmsSpec.pre enc Tryd.prog Tryd.f5 [] false w args ∧ laidMetH Tryd.prog laid2 w) ∧ sizedMet enc Tryd.prog Tryd.f5 (OpenSpec.ofChange Rows.insnImmsSpec) false w args)
      (Rows.insnImmsSpec.post enc Tryd.prog Tryd.f5 false true false false) := by
  refine returnsInHanded_of_change_and (C := Tryd.checked) (X := fun w _ => laidMetH Tryd.prog laid2 w) (fun _ _ _ hh h => h.of_heap hh) own started (by kernel_rfl) Tryd.func5
    (ChangeSpec.witness_shaped (enc := enc) (C := Tryd.checked) (os := os) (X := fun w _ => laidMetH Tryd.prog laid2 w) false (World.doorLaid Tryd.prog 400 os) #[.int .i64 0, .int .u32 0, .agg #[.int .i64 0, .int .i64 0]] 8 rfl (World.shaped_of_RefB (by kernel_rfl) (by kernel_rfl)) (by kernel_rfl) (by kernel_rfl) (by kernel_rfl) (door_met os _)) ?_
  intro W base args ds gs before hval0 hW _ _ hL _
  have hval : ∀ (j : Nat) t v, Tryd.f5.params[j]? = some t → args[j]? = some v → Value.okWide Tryd.prog W .any base t v := hval0
  have hW' := hW
  obtain ⟨p, q, hA0, hV, rfl, hfz, hnd⟩ := hW
  have hA : DataW.TrodAll enc Tryd.prog W 0 (fun _ => true) true Tryd.f5.params.toList args.toList ds p := hA0
  rw [Tryd.params5] at hA hval
  obtain ⟨v0, vs0, d0, ds0, p0, q0, hargs, rfl, rfl, h0, r0⟩ := trodAll_cons hA
  obtain ⟨v1, vs1, d1, ds1, p1, q1, rfl, rfl, rfl, h1, r1⟩ := trodAll_cons r0
  obtain ⟨v2, vs2, d2, ds2, p2, q2, rfl, rfl, rfl, h2, r2⟩ := trodAll_cons r1
  obtain ⟨rfl, rfl, rfl⟩ := trodAll_nil r2
  obtain rfl : args = #[v0, v1, v2] := by cases args; simp_all
  obtain ⟨rfl, rfl⟩ := trodVars_none hV
  obtain ⟨a0, rfl, rfl, rfl, w0⟩ := open_int Tryd.underlying3 (hval 0 3 v0 rfl rfl) h0
  obtain ⟨a1, rfl, rfl, rfl, w1⟩ := open_int Tryd.underlying22 (hval 1 22 v1 rfl rfl) h1
  have k2 := h2
  have lt2 : ∀ x ∈ p2, x.block < W.heap.size := by obtain ⟨m, hm⟩ := k2; exact DataW.trod_lt m _ _ _ hm
  obtain ⟨a2, b2, rfl, w2, z2⟩ := open_arr2 Tryd.underlying39 Tryd.underlying2 (by kernel_rfl) (by kernel_rfl) (hval 2 39 v2 rfl rfl) h2
  have hvv := of_laid hL
  clear hA0 hval0
  refine (imms_walk a0 a1 a2 b2 (bounds_i64 w0) (bounds_u32 w1) (bounds_i64 w2) (bounds_i64 z2) W hvv).mono fun e W' ⟨he, bel⟩ => ?_
  subst he
  exact ⟨_, rfl, _, _, _, [], _, [], hW', trodAll_mk1 (shut_bool Tryd.underlying4 _), (trodAll_cons_mk (shut_int Tryd.underlying3 w0) (trodAll_cons_mk (shut_int Tryd.underlying22 w1) (trodAll_cons_mk (Below.trod laidOut (by kernel_rfl) (of_decide_eq_true (by kernel_rfl)) k2 bel lt2) trodAll_mk0))), rfl, bel.frame _, fun h => by cases h⟩

theorem imms_over : Rows.insnImmsRow.holds Tryd.pinned (OpenSpec.ofChange Rows.insnImmsSpec) :=
  OpenClaim.holds_of_wide 5 Tryd.f5 rfl rfl rfl rfl rfl rfl rfl ⟨rfl, rfl, rfl, rfl, rfl⟩ rfl rfl rfl rfl rfl (by kernel_rfl) Tryd.func5 (by kernel_rfl)
    (of_decide_eq_true (by kernel_rfl)) (by unfold Func.isWrapper; first | (rw [if_pos (by decide +kernel)]; kernel_rfl) | (rw [if_neg (by decide +kernel)]; exact ⟨rfl, rfl⟩))
    (fun os started H enc _ => imms_lifted os started H enc)

theorem imms_said : Rows.InsnImmsCardSaid :=
  Claim7.holds_tied_plain_at .later [] [.data, .data] true Rows.insnImmsCard.stood.harness false
    imms_over (fun _ h => by cases h) (by kernel_rfl) (fun _ h => by cases h) insnImms_row_tie rfl ⟨rfl, rfl⟩ (by kernel_rfl) rfl
    (fun f fn hf hfn => by
      obtain rfl : f = 5 := Option.some.inj ((show Tryd.prog.funcNamed "roebuck/roebucklaw03.InsnImms" = some 5 by kernel_rfl).symm.trans hf) |>.symm
      obtain rfl : fn = Tryd.f5 := (Option.some.inj (Tryd.func5.symm.trans hfn)).symm
      exact ⟨by kernel_rfl, fun j t ht => by
        rw [Tryd.params5] at ht
        have hm : t ∈ [3, 22, 39] := by simpa using Array.mem_of_getElem? ht
        have hall : ([3, 22, 39].all fun u => !Tryd.prog.wantsStandIn u) = true := by kernel_rfl
        exact (show Tryd.prog.wantsStandIn t = false by simpa using List.all_eq_true.1 hall t hm)⟩)
    (by kernel_rfl)
end Go.Proofs.YtmaooljlkpfkoaaDoor
