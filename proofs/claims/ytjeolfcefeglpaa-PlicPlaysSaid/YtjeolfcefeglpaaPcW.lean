/-
  The reference of layer 16: Read, Write, Wire.
-/
import Derived.Test.YtjeolfcefeglpaaPcZ
set_option maxRecDepth 20000
namespace Go.Proofs.Ytjeolfcefeglpaa
open Go.ChangeShapes Go.WideShapes Go.ChangeAt Go.RowKit

theorem results_cbb {F : Func} {x y z : Tmp} (ty : TypeId) (hF : F.results = #[.cell x ty, .tmp y, .tmp z]) (tmps : Array Value) (w : World) (b : Nat) (cs : Array Value) (r u : Value) (h2 : tmps.getD x undef = .pointer (some ⟨b, 0, none⟩)) (h3 : tmps.getD y undef = r) (h4 : tmps.getD z undef = u)
    (hl : (loadVar ty ⟨b, 0, none⟩).run Try.prog w = .ok (.agg cs) w) :
    (results F tmps).run Try.prog w = .ok (.tuple #[.agg cs, r, u]) w := by
  have h2' : tmps[x]?.getD undef = .pointer (some ⟨b, 0, none⟩) := by simpa using h2
  have h3' : tmps[y]?.getD undef = r := by simpa using h3
  have h4' : tmps[z]?.getD undef = u := by simpa using h4
  simp [results, hF, h2', h3', h4', asAddr, hl]
/-- The reference's value beside a cell for the result. -/
structure XqAt (w w' : World) (n : Nat) (ws : List Int) : Prop where
  x : XpAt w' w.heap.size n ws
  r : CsAt w' (w.heap.size + 1) X16 (x16V 0 Pc.zeros)
  bel : Below w.heap.size w w'
section
variable {w w' w'' : World} {n : Nat} {ws vs : List Int}
theorem XpAt.frz {b : Nat} (h : XpAt w b n ws) (i : Nat) : w.frozen? ⟨b, i, none⟩ = false := CsAt.frozen h i
theorem XqAt.upd (h : XqAt w w' n ws) {i : Nat} {v : Value} (e : (x16V n ws).setIfInBounds i v = x16V n vs) : XqAt w (w'.setCell ⟨w.heap.size, i, none⟩ v) n vs :=
  ⟨h.x.upd e, h.r.far (by omega) _, h.bel.setCell (Nat.le_refl _) _⟩
theorem XqAt.low (h : XqAt w w' n ws) (hb : Below w'.heap.size w' w'') : XqAt w w'' n ws := ⟨h.x.low hb, h.r.low hb, h.bel.trans (hb.mono h.bel.size)⟩
theorem XqAt.drew (h : XqAt w w' n ws) : XqAt w w'.drew n ws := h.low (Below.refl _ _).drew
theorem XqAt.eq (h : XqAt w w' n ws) (e : x16V n ws = x16V n vs) : XqAt w w' n vs := ⟨by have := h.x; unfold XpAt at this ⊢; rw [← e]; exact this, h.r, h.bel⟩
theorem XqAt.new (w : World) (n : Nat) (ws : List Int) : XqAt w ((w.alloc (Obj.cells (x16V n ws) X16)).alloc (Obj.cells (x16V 0 Pc.zeros) X16)) n ws := by
  have hb1 := (Below.refl w.heap.size w).alloc (Nat.le_refl _) (Obj.cells (x16V n ws) X16)
  have e : (w.alloc (Obj.cells (x16V n ws) X16)).heap.size = w.heap.size + 1 := by simp
  refine ⟨(XpAt.box w n ws).low ((Below.refl _ _).alloc (Nat.le_refl _) _), ?_, hb1.alloc hb1.size _⟩
  have := CsAt.new (w.alloc (Obj.cells (x16V n ws) X16)) X16 (x16V 0 Pc.zeros)
  rw [e] at this
  exact this
/-- 32 bools of the reference's value, loaded. -/
theorem load_bits {W : World} {b : Nat} (h : XpAt W b n ws) (i : Nat) (x : Int) (hi : i + 32 ≤ 657) (hx : ∀ j, j < 32 → xc n ws (i + j) = .bool (Wd.tb x j)) : W.rangeAt b i (bV x).toList := fun j v hv => by
  have hj : j < 32 := by
    have := (List.getElem?_eq_some_iff.1 hv).1
    simpa [bV] using this
  have e : v = .bool (Wd.tb x j) := by
    have h1 := bV_at x hj
    rw [← Array.getElem?_toList, hv] at h1
    exact Option.some.inj h1
  rw [e, ← hx j hj]
  exact h.at_ (by omega)
theorem load_wait {W : World} {b : Nat} (h : XpAt W b n ws) : W.rangeAt b 65 (bV (ws.getD 1 0)).toList := load_bits h 65 _ (by omega) fun _ hj => xc_wait hj
theorem load_serv {W : World} {b : Nat} (h : XpAt W b n ws) : W.rangeAt b 97 (bV (ws.getD 2 0)).toList := load_bits h 97 _ (by omega) fun _ hj => xc_serv hj
theorem load_on {W : World} {b : Nat} (h : XpAt W b n ws) {c : Nat} (hc : c < 16) : W.rangeAt b (129 + c * 32) (bV (ws.getD (35 + c) 0)).toList := load_bits h _ _ (by omega) fun _ hj => xc_on hc hj
end
theorem info_61 : (Try.prog.info? T61).map (·.size) = some 32 := by kernel_rfl
theorem i61 {x : Int} : (Try.prog.info? T61).map (·.size) = some (bV x).size := by rw [bV_size]; exact info_61
theorem sz16 {n : Nat} {ws : List Int} : (x16V 0 Pc.zeros).size = (x16V n ws).size := by rw [x16_size, x16_size]
theorem exec_load_mid {P : Program} {o : Oper} {a : Act} {w : World} (ty : TypeId) (x : Operand) (ho : o.op = .load ty x) (b off : Nat) (hx : a.eval x = .pointer (some ⟨b, off, none⟩)) (cs : Array Value) (d : TypeDesc) (hg : w.rangeAt b off cs.toList)
    (hu : P.underlying ty = some d) (hd : d.isRow = true) (hi : (P.info? ty).map (·.size) = some cs.size) : (execOp a.eval o).run P w = .ok (.value (.agg cs)) w := by
  have e := run_loadVar_mid (P := P) w b off ty cs.toList d hg hu hd (by simpa using hi)
  unfold execOp
  simp only [ho, hx, Instr.loadAt, Instr.sureAddr, Sem.run_bind, Sem.run_pure, Result.andThen_ok, e, Array.toArray_toList]
theorem rword61_c (x : Int) (hx : Pc.St x) (w : World) : Calls Try.prog 30 #[.agg (bV x)] w fun e w' => e = .returned (.int .u64 x) ∧ Below w.heap.size w w' := rword_c x hx.lo hx.lt32 w
set_option maxRecDepth 100000 in
set_option maxHeartbeats 16000000 in
theorem rread16_c (n : Nat) (ws : List Int) (hk : Pc.Ok n ws) (off size : Int) (w : World) :
    Calls Try.prog 42 #[.agg (x16V n ws), .int .u64 off, .int .i64 size] w fun e w' => e = .returned (.tuple #[.agg (x16V n (Pc.readW n ws off size)), .int .u64 (Pc.readV n ws off size), .bool (Pc.is n off size)]) ∧ Below w.heap.size w w' := by
  have HX := Lib.hid (XqAt.new w n ws)
  have hz := zero_x16
  have hn8 := hk.n8
  have HAT := Lib.hid (rat16_c n off size)
  have hof := Pc.at_of (n := n) (off := off) (size := size)
  have HRV := Lib.hid (show Pc.readV n ws off size = if (Pc.at_ n off size).1 = 1 then ws.getD (3 + (Pc.at_ n off size).2) 0 else if (Pc.at_ n off size).1 = 2 then ws.getD 1 0 else if (Pc.at_ n off size).1 = 3 then ws.getD (35 + (Pc.at_ n off size).2) 0
    else if (Pc.at_ n off size).1 = 4 then ws.getD (51 + (Pc.at_ n off size).2) 0 else if (Pc.at_ n off size).1 = 5 then Pc.bst ws (Pc.at_ n off size).2 0 else 0 from rfl)
  have HRW := Lib.hid (show Pc.readW n ws off size = if (Pc.at_ n off size).1 = 5 then Pc.claimP ws (Pc.at_ n off size).2 else ws from rfl)
  have HIS := Lib.hid (show Pc.is n off size = decide ((Pc.at_ n off size).1 ≠ 0) from rfl)
  have HK := Lib.hid hk
  rw [HRV.out, HRW.out, HIS.out]
  generalize Pc.at_ n off size = t at *
  obtain ⟨t1, c⟩ := t
  simp only at hof HRV HRW HIS ⊢
  have ht : (t1 = 0) ∨ (t1 = 1 ∧ c < 32) ∨ (t1 = 2) ∨ (t1 = 3 ∧ c < 16) ∨ (t1 = 4 ∧ c < 16) ∨ (t1 = 5 ∧ c < 16) := by omega
  clear hof hk HRV HRW HIS
  rcases ht with rfl | ⟨rfl, hc⟩ | rfl | ⟨rfl, hc⟩ | ⟨rfl, hc⟩ | ⟨rfl, hc⟩
  · simp only [Nat.reduceEqDiff, if_false]
    go_enter Try.func42, Try.ntmps42
    go_upto_region 1 with fail
    generalize (w.alloc (Obj.cells (x16V n ws) X16)).alloc (Obj.cells (x16V 0 Pc.zeros) X16) = w2 at *
    clear hz
    have q0 := HX.out.x.n0
    go_wp2_with fail
    refine (HAT.out w2).mono ?_
    rintro e w3 ⟨rfl, rfl⟩
    rw [atV]
    have HX9 := HX
    go_wp2_with (first | (refine wpList_load_row rfl X16 _ rfl w.heap.size rfl X16 _ (0, 0) _ HX.out.x Try.underlying65 rfl iX16 ?_) | (refine wpList_store_row rfl X16 _ _ rfl (w.heap.size + 1) (x16V n (ws)) rfl rfl X16 (x16V 0 Pc.zeros) HX.out.r iX16 sz16 x16_one ?_))
    exact bodyPost_ret (results_cbb X16 Try.results42 _ _ (w.heap.size + 1) _ _ _ rfl rfl rfl (run_loadVar_row _ _ X16 X16 _ (0, 0) _ (HX9.out.r.row _) Try.underlying65 rfl iX16)) rfl ⟨rfl, below_setRow HX9.out.bel (by omega) _⟩
  · simp only [Nat.reduceEqDiff, if_false, if_true]
    obtain ⟨v, hv⟩ : ∃ v, ws.getD (3 + c) 0 = v := ⟨_, rfl⟩
    have HV := Lib.hid hv
    clear hv
    rw [HV.out]
    have hr := HK.out.pri c hc
    rw [HV.out] at hr
    have gc : (c : Int) < 32 := by omega
    have hwv : IntKind.u64.wrap v = v := by rw [IntKind.wrap_u64]; omega
    go_enter Try.func42, Try.ntmps42
    go_upto_region 1 with fail
    generalize (w.alloc (Obj.cells (x16V n ws) X16)).alloc (Obj.cells (x16V 0 Pc.zeros) X16) = w2 at *
    clear hz
    have q0 := HX.out.x.n0
    go_wp2_with fail
    refine (HAT.out w2).mono ?_
    rintro e w3 ⟨rfl, rfl⟩
    rw [atV]
    go_upto_region 4 with fail
    have hS0 : XpAt w3.drew w.heap.size n ws ∧ Below w.heap.size w w3.drew := ⟨HX.out.drew.x, HX.out.drew.bel⟩
    have hz3 := HX.out.drew.r
    refine wp_region_noPanic ?_
    refine wp_region_held (S := (fun W => XpAt W w.heap.size n ws ∧ Below w.heap.size w W)) (by kernel_rfl) ?_
    refine takeH (fuel := 8) (i := 0) (.agg (x16V n ws)) ?_ rfl (by kernel_rfl) (by kernel_rfl) (by kernel_rfl) (fun _ _ _ h => h) (by kernel_rfl) (fun W hS => exec_load_row X16 _ rfl w.heap.size rfl X16 _ _ hS.1 Try.underlying65 rfl iX16) hS0 ?_ ?_
    rotate_left 1
    · go_simp
      exact rfl
    refine takeH (fuel := 7) (i := 1) (.int .i64 (c : Int)) ?_ rfl (by kernel_rfl) (by kernel_rfl) (by kernel_rfl) (fun _ _ _ h => h) (by kernel_rfl) (fun W hS => by go_simp) hS0 ?_ ?_
    rotate_left 1
    · go_simp
      exact rfl
    refine takeH (fuel := 6) (i := 2) (.pointer (some ⟨w.heap.size, 1, none⟩)) ?_ rfl (by kernel_rfl) (by kernel_rfl) (by kernel_rfl) (fun _ _ _ h => h) (by kernel_rfl) (fun W hS => by go_simp) hS0 ?_ ?_
    rotate_left 1
    · go_simp
      exact rfl
    refine takeH (fuel := 5) (i := 3) (.pointer (some ⟨w.heap.size, 1 + c, none⟩)) ?_ rfl (by kernel_rfl) (by kernel_rfl) (by kernel_rfl) (fun _ _ _ h => h) (by kernel_rfl) (fun W hS => by go_simp) hS0 ?_ ?_
    rotate_left 1
    · go_simp
      exact rfl
    refine takeH (fuel := 4) (i := 4) (.int .i64 v) ?_ rfl (by kernel_rfl) (by kernel_rfl) (by kernel_rfl) (fun _ _ _ h => h) (by kernel_rfl) (fun W hS => by have q := hS.1.pri hc; rw [HV.out] at q; go_simp) hS0 ?_ ?_
    rotate_left 1
    · go_simp
      exact rfl
    refine takeH (fuel := 3) (i := 5) (.int .u64 v) ?_ rfl (by kernel_rfl) (by kernel_rfl) (by kernel_rfl) (fun _ _ _ h => h) (by kernel_rfl) (fun W hS => by go_simp) hS0 ?_ ?_
    rotate_left 1
    · go_simp
      exact rfl
    refine wpAnyH_all (fuel := 2) (rs := [6]) (by kernel_rfl) (by decide) ?_
    intro i hi
    obtain rfl : i = 6 := by simpa using hi
    change Go.wpOp _ _ _ _ _ _ w3.drew
    refine wpOp_unitB (w3.drew.setRow (w.heap.size + 1) (x16V n ws)) _ rfl (by kernel_rfl) (exec_store_row X16 _ _ rfl (w.heap.size + 1) (x16V n ws) rfl rfl X16 (x16V 0 Pc.zeros) hz3 iX16 sz16 x16_one) rfl ?_
    have hS5 : XpAt (w3.drew.setRow (w.heap.size + 1) (x16V n ws)) w.heap.size n ws ∧ Below w.heap.size w (w3.drew.setRow (w.heap.size + 1) (x16V n ws)) := ⟨CsAt.rowFar hS0.1 (by omega) _, below_setRow hS0.2 (by omega) _⟩
    have HR5 := Lib.hid (CsAt.row hz3 (x16V n ws))
    refine ⟨hS5, ?_⟩
    generalize w3.drew.setRow (w.heap.size + 1) (x16V n ws) = w5 at *
    refine takeH (fuel := 1) (i := 7) (.int .u64 v) ?_ rfl (by kernel_rfl) (by kernel_rfl) (by kernel_rfl) (fun _ _ _ h => h) (by kernel_rfl) (fun W hS => by go_simp) hS5 ?_ ?_
    rotate_left 1
    · go_simp
      exact rfl
    refine takeH (fuel := 0) (i := 8) (.bool true) ?_ rfl (by kernel_rfl) (by kernel_rfl) (by kernel_rfl) (fun _ _ _ h => h) (by kernel_rfl) (fun W hS => by go_simp) hS5 ?_ ?_
    rotate_left 1
    · go_simp
      exact rfl
    refine wpAnyH_done (by kernel_rfl) ?_ _
    refine NoPanic.normal ?_
    have HB5 := Lib.hid hS5.2
    clear hS5 hS0 hz3
    go_wp2_with fail
    exact bodyPost_ret (results_cbb X16 Try.results42 _ _ (w.heap.size + 1) _ _ _ rfl rfl rfl (run_loadVar_row _ _ X16 X16 _ (0, 0) _ HR5.out Try.underlying65 rfl iX16)) rfl ⟨rfl, HB5.out⟩
  · simp only [Nat.reduceEqDiff, if_false, if_true]
    obtain ⟨v, hv⟩ : ∃ v, ws.getD 1 0 = v := ⟨_, rfl⟩
    have HV := Lib.hid hv
    clear hv
    rw [HV.out]
    have hst := HK.out.wait
    rw [HV.out] at hst
    go_enter Try.func42, Try.ntmps42
    go_upto_region 1 with fail
    generalize (w.alloc (Obj.cells (x16V n ws) X16)).alloc (Obj.cells (x16V 0 Pc.zeros) X16) = w2 at *
    clear hz
    have q0 := HX.out.x.n0
    go_wp2_with fail
    refine (HAT.out w2).mono ?_
    rintro e w3 ⟨rfl, rfl⟩
    rw [atV]
    go_upto_region 6 with fail
    have hS0 : XpAt w3.drew w.heap.size n ws ∧ Below w.heap.size w w3.drew := ⟨HX.out.drew.x, HX.out.drew.bel⟩
    have hz3 := HX.out.drew.r
    refine wp_region_noPanic ?_
    refine wp_region_held (S := (fun W => XpAt W w.heap.size n ws ∧ Below w.heap.size w W)) (by kernel_rfl) ?_
    refine takeH (fuel := 6) (i := 0) (.agg (x16V n ws)) ?_ rfl (by kernel_rfl) (by kernel_rfl) (by kernel_rfl) (fun _ _ _ h => h) (by kernel_rfl) (fun W hS => exec_load_row X16 _ rfl w.heap.size rfl X16 _ _ hS.1 Try.underlying65 rfl iX16) hS0 ?_ ?_
    rotate_left 1
    · go_simp
      exact rfl
    refine takeH (fuel := 5) (i := 1) (.pointer (some ⟨w.heap.size, 65, none⟩)) ?_ rfl (by kernel_rfl) (by kernel_rfl) (by kernel_rfl) (fun _ _ _ h => h) (by kernel_rfl) (fun W hS => by go_simp) hS0 ?_ ?_
    rotate_left 1
    · go_simp
      exact rfl
    refine takeH (fuel := 4) (i := 2) (.agg (bV v)) ?_ rfl (by kernel_rfl) (by kernel_rfl) (by kernel_rfl) (fun _ _ _ h => h) (by kernel_rfl) (fun W hS => exec_load_mid T61 _ rfl w.heap.size 65 rfl _ _ (by rw [← HV.out]; exact load_wait hS.1) Try.underlying61 rfl i61) hS0 ?_ ?_
    rotate_left 1
    · go_simp
      exact rfl
    refine wpAnyH_all (fuel := 3) (rs := [3]) (by kernel_rfl) (by decide) ?_
    intro i hi
    obtain rfl : i = 3 := by simpa using hi
    change Go.wpOp _ _ _ _ _ _ w3.drew
    refine wpOp_callX 30 #[.agg (bV v)] rfl (by kernel_rfl) (by go_simp) ?_
    refine (rword61_c v hst w3.drew).mono ?_
    rintro e w4 ⟨rfl, hb4⟩
    have hS4 : XpAt w4 w.heap.size n ws ∧ Below w.heap.size w w4 := ⟨hS0.1.low hb4, hS0.2.trans (hb4.mono hS0.2.size)⟩
    have hz4 := hz3.low hb4
    refine ⟨_, rfl, hS4, ?_⟩
    refine wpAnyH_all (fuel := 2) (rs := [4]) (by kernel_rfl) (by decide) ?_
    intro i hi
    obtain rfl : i = 4 := by simpa using hi
    refine wpOp_unitB (w4.setRow (w.heap.size + 1) (x16V n ws)) _ rfl (by kernel_rfl) (exec_store_row X16 _ _ rfl (w.heap.size + 1) (x16V n ws) rfl rfl X16 (x16V 0 Pc.zeros) hz4 iX16 sz16 x16_one) rfl ?_
    have hS5 : XpAt (w4.setRow (w.heap.size + 1) (x16V n ws)) w.heap.size n ws ∧ Below w.heap.size w (w4.setRow (w.heap.size + 1) (x16V n ws)) := ⟨CsAt.rowFar hS4.1 (by omega) _, below_setRow hS4.2 (by omega) _⟩
    have HR5 := Lib.hid (CsAt.row hz4 (x16V n ws))
    refine ⟨hS5, ?_⟩
    generalize w4.setRow (w.heap.size + 1) (x16V n ws) = w5 at *
    refine takeH (fuel := 1) (i := 5) (.int .u64 v) ?_ rfl (by kernel_rfl) (by kernel_rfl) (by kernel_rfl) (fun _ _ _ h => h) (by kernel_rfl) (fun W hS => by go_simp) hS5 ?_ ?_
    rotate_left 1
    · go_simp
      exact rfl
    refine takeH (fuel := 0) (i := 6) (.bool true) ?_ rfl (by kernel_rfl) (by kernel_rfl) (by kernel_rfl) (fun _ _ _ h => h) (by kernel_rfl) (fun W hS => by go_simp) hS5 ?_ ?_
    rotate_left 1
    · go_simp
      exact rfl
    refine wpAnyH_done (by kernel_rfl) ?_ _
    refine NoPanic.normal ?_
    have HB5 := Lib.hid hS5.2
    clear hS5 hS0 hz3 hS4 hz4 hb4
    go_wp2_with fail
    exact bodyPost_ret (results_cbb X16 Try.results42 _ _ (w.heap.size + 1) _ _ _ rfl rfl rfl (run_loadVar_row _ _ X16 X16 _ (0, 0) _ HR5.out Try.underlying65 rfl iX16)) rfl ⟨rfl, HB5.out⟩
  · simp only [Nat.reduceEqDiff, if_false, if_true]
    obtain ⟨v, hv⟩ : ∃ v, ws.getD (35 + c) 0 = v := ⟨_, rfl⟩
    have HV := Lib.hid hv
    clear hv
    rw [HV.out]
    have hst := HK.out.en c hc
    rw [HV.out] at hst
    have gc : (c : Int) < 16 := by omega
    go_enter Try.func42, Try.ntmps42
    go_upto_region 1 with fail
    generalize (w.alloc (Obj.cells (x16V n ws) X16)).alloc (Obj.cells (x16V 0 Pc.zeros) X16) = w2 at *
    clear hz
    have q0 := HX.out.x.n0
    go_wp2_with fail
    refine (HAT.out w2).mono ?_
    rintro e w3 ⟨rfl, rfl⟩
    rw [atV]
    go_upto_region 8 with fail
    have hS0 : XpAt w3.drew w.heap.size n ws ∧ Below w.heap.size w w3.drew := ⟨HX.out.drew.x, HX.out.drew.bel⟩
    have hz3 := HX.out.drew.r
    refine wp_region_noPanic ?_
    refine wp_region_held (S := (fun W => XpAt W w.heap.size n ws ∧ Below w.heap.size w W)) (by kernel_rfl) ?_
    refine takeH (fuel := 8) (i := 0) (.agg (x16V n ws)) ?_ rfl (by kernel_rfl) (by kernel_rfl) (by kernel_rfl) (fun _ _ _ h => h) (by kernel_rfl) (fun W hS => exec_load_row X16 _ rfl w.heap.size rfl X16 _ _ hS.1 Try.underlying65 rfl iX16) hS0 ?_ ?_
    rotate_left 1
    · go_simp
      exact rfl
    refine takeH (fuel := 7) (i := 1) (.int .i64 (c : Int)) ?_ rfl (by kernel_rfl) (by kernel_rfl) (by kernel_rfl) (fun _ _ _ h => h) (by kernel_rfl) (fun W hS => by go_simp) hS0 ?_ ?_
    rotate_left 1
    · go_simp
      exact rfl
    refine takeH (fuel := 6) (i := 2) (.pointer (some ⟨w.heap.size, 129, none⟩)) ?_ rfl (by kernel_rfl) (by kernel_rfl) (by kernel_rfl) (fun _ _ _ h => h) (by kernel_rfl) (fun W hS => by go_simp) hS0 ?_ ?_
    rotate_left 1
    · go_simp
      exact rfl
    refine takeH (fuel := 5) (i := 3) (.pointer (some ⟨w.heap.size, 129 + c * 32, none⟩)) ?_ rfl (by kernel_rfl) (by kernel_rfl) (by kernel_rfl) (fun _ _ _ h => h) (by kernel_rfl) (fun W hS => by go_simp) hS0 ?_ ?_
    rotate_left 1
    · go_simp
      exact rfl
    refine takeH (fuel := 4) (i := 4) (.agg (bV v)) ?_ rfl (by kernel_rfl) (by kernel_rfl) (by kernel_rfl) (fun _ _ _ h => h) (by kernel_rfl) (fun W hS => exec_load_mid T61 _ rfl w.heap.size (129 + c * 32) rfl _ _ (by rw [← HV.out]; exact load_on hS.1 hc) Try.underlying61 rfl i61) hS0 ?_ ?_
    rotate_left 1
    · go_simp
      exact rfl
    refine wpAnyH_all (fuel := 3) (rs := [5]) (by kernel_rfl) (by decide) ?_
    intro i hi
    obtain rfl : i = 5 := by simpa using hi
    change Go.wpOp _ _ _ _ _ _ w3.drew
    refine wpOp_callX 30 #[.agg (bV v)] rfl (by kernel_rfl) (by go_simp) ?_
    refine (rword61_c v hst w3.drew).mono ?_
    rintro e w4 ⟨rfl, hb4⟩
    have hS4 : XpAt w4 w.heap.size n ws ∧ Below w.heap.size w w4 := ⟨hS0.1.low hb4, hS0.2.trans (hb4.mono hS0.2.size)⟩
    have hz4 := hz3.low hb4
    refine ⟨_, rfl, hS4, ?_⟩
    refine wpAnyH_all (fuel := 2) (rs := [6]) (by kernel_rfl) (by decide) ?_
    intro i hi
    obtain rfl : i = 6 := by simpa using hi
    refine wpOp_unitB (w4.setRow (w.heap.size + 1) (x16V n ws)) _ rfl (by kernel_rfl) (exec_store_row X16 _ _ rfl (w.heap.size + 1) (x16V n ws) rfl rfl X16 (x16V 0 Pc.zeros) hz4 iX16 sz16 x16_one) rfl ?_
    have hS5 : XpAt (w4.setRow (w.heap.size + 1) (x16V n ws)) w.heap.size n ws ∧ Below w.heap.size w (w4.setRow (w.heap.size + 1) (x16V n ws)) := ⟨CsAt.rowFar hS4.1 (by omega) _, below_setRow hS4.2 (by omega) _⟩
    have HR5 := Lib.hid (CsAt.row hz4 (x16V n ws))
    refine ⟨hS5, ?_⟩
    generalize w4.setRow (w.heap.size + 1) (x16V n ws) = w5 at *
    refine takeH (fuel := 1) (i := 7) (.int .u64 v) ?_ rfl (by kernel_rfl) (by kernel_rfl) (by kernel_rfl) (fun _ _ _ h => h) (by kernel_rfl) (fun W hS => by go_simp) hS5 ?_ ?_
    rotate_left 1
    · go_simp
      exact rfl
    refine takeH (fuel := 0) (i := 8) (.bool true) ?_ rfl (by kernel_rfl) (by kernel_rfl) (by kernel_rfl) (fun _ _ _ h => h) (by kernel_rfl) (fun W hS => by go_simp) hS5 ?_ ?_
    rotate_left 1
    · go_simp
      exact rfl
    refine wpAnyH_done (by kernel_rfl) ?_ _
    refine NoPanic.normal ?_
    have HB5 := Lib.hid hS5.2
    clear hS5 hS0 hz3 hS4 hz4 hb4
    go_wp2_with fail
    exact bodyPost_ret (results_cbb X16 Try.results42 _ _ (w.heap.size + 1) _ _ _ rfl rfl rfl (run_loadVar_row _ _ X16 X16 _ (0, 0) _ HR5.out Try.underlying65 rfl iX16)) rfl ⟨rfl, HB5.out⟩
  · simp only [Nat.reduceEqDiff, if_false, if_true]
    obtain ⟨v, hv⟩ : ∃ v, ws.getD (51 + c) 0 = v := ⟨_, rfl⟩
    have HV := Lib.hid hv
    clear hv
    rw [HV.out]
    have hr := HK.out.thr c hc
    rw [HV.out] at hr
    have hwv : IntKind.u64.wrap v = v := by rw [IntKind.wrap_u64]; omega
    have gc : (c : Int) < 16 := by omega
    go_enter Try.func42, Try.ntmps42
    go_upto_region 1 with fail
    generalize (w.alloc (Obj.cells (x16V n ws) X16)).alloc (Obj.cells (x16V 0 Pc.zeros) X16) = w2 at *
    clear hz
    have q0 := HX.out.x.n0
    go_wp2_with fail
    refine (HAT.out w2).mono ?_
    rintro e w3 ⟨rfl, rfl⟩
    rw [atV]
    go_upto_region 10 with fail
    have hS0 : XpAt w3.drew w.heap.size n ws ∧ Below w.heap.size w w3.drew := ⟨HX.out.drew.x, HX.out.drew.bel⟩
    have hz3 := HX.out.drew.r
    refine wp_region_noPanic ?_
    refine wp_region_held (S := (fun W => XpAt W w.heap.size n ws ∧ Below w.heap.size w W)) (by kernel_rfl) ?_
    refine takeH (fuel := 8) (i := 0) (.agg (x16V n ws)) ?_ rfl (by kernel_rfl) (by kernel_rfl) (by kernel_rfl) (fun _ _ _ h => h) (by kernel_rfl) (fun W hS => exec_load_row X16 _ rfl w.heap.size rfl X16 _ _ hS.1 Try.underlying65 rfl iX16) hS0 ?_ ?_
    rotate_left 1
    · go_simp
      exact rfl
    refine takeH (fuel := 7) (i := 1) (.int .i64 (c : Int)) ?_ rfl (by kernel_rfl) (by kernel_rfl) (by kernel_rfl) (fun _ _ _ h => h) (by kernel_rfl) (fun W hS => by go_simp) hS0 ?_ ?_
    rotate_left 1
    · go_simp
      exact rfl
    refine takeH (fuel := 6) (i := 2) (.pointer (some ⟨w.heap.size, 641, none⟩)) ?_ rfl (by kernel_rfl) (by kernel_rfl) (by kernel_rfl) (fun _ _ _ h => h) (by kernel_rfl) (fun W hS => by go_simp) hS0 ?_ ?_
    rotate_left 1
    · go_simp
      exact rfl
    refine takeH (fuel := 5) (i := 3) (.pointer (some ⟨w.heap.size, 641 + c, none⟩)) ?_ rfl (by kernel_rfl) (by kernel_rfl) (by kernel_rfl) (fun _ _ _ h => h) (by kernel_rfl) (fun W hS => by go_simp) hS0 ?_ ?_
    rotate_left 1
    · go_simp
      exact rfl
    refine takeH (fuel := 4) (i := 4) (.int .i64 v) ?_ rfl (by kernel_rfl) (by kernel_rfl) (by kernel_rfl) (fun _ _ _ h => h) (by kernel_rfl) (fun W hS => by have q := hS.1.lev hc; rw [HV.out] at q; go_simp) hS0 ?_ ?_
    rotate_left 1
    · go_simp
      exact rfl
    refine takeH (fuel := 3) (i := 5) (.int .u64 v) ?_ rfl (by kernel_rfl) (by kernel_rfl) (by kernel_rfl) (fun _ _ _ h => h) (by kernel_rfl) (fun W hS => by go_simp) hS0 ?_ ?_
    rotate_left 1
    · go_simp
      exact rfl
    refine wpAnyH_all (fuel := 2) (rs := [6]) (by kernel_rfl) (by decide) ?_
    intro i hi
    obtain rfl : i = 6 := by simpa using hi
    change Go.wpOp _ _ _ _ _ _ w3.drew
    refine wpOp_unitB (w3.drew.setRow (w.heap.size + 1) (x16V n ws)) _ rfl (by kernel_rfl) (exec_store_row X16 _ _ rfl (w.heap.size + 1) (x16V n ws) rfl rfl X16 (x16V 0 Pc.zeros) hz3 iX16 sz16 x16_one) rfl ?_
    have hS5 : XpAt (w3.drew.setRow (w.heap.size + 1) (x16V n ws)) w.heap.size n ws ∧ Below w.heap.size w (w3.drew.setRow (w.heap.size + 1) (x16V n ws)) := ⟨CsAt.rowFar hS0.1 (by omega) _, below_setRow hS0.2 (by omega) _⟩
    have HR5 := Lib.hid (CsAt.row hz3 (x16V n ws))
    refine ⟨hS5, ?_⟩
    generalize w3.drew.setRow (w.heap.size + 1) (x16V n ws) = w5 at *
    refine takeH (fuel := 1) (i := 7) (.int .u64 v) ?_ rfl (by kernel_rfl) (by kernel_rfl) (by kernel_rfl) (fun _ _ _ h => h) (by kernel_rfl) (fun W hS => by go_simp) hS5 ?_ ?_
    rotate_left 1
    · go_simp
      exact rfl
    refine takeH (fuel := 0) (i := 8) (.bool true) ?_ rfl (by kernel_rfl) (by kernel_rfl) (by kernel_rfl) (fun _ _ _ h => h) (by kernel_rfl) (fun W hS => by go_simp) hS5 ?_ ?_
    rotate_left 1
    · go_simp
      exact rfl
    refine wpAnyH_done (by kernel_rfl) ?_ _
    refine NoPanic.normal ?_
    have HB5 := Lib.hid hS5.2
    clear hS5 hS0 hz3
    go_wp2_with fail
    exact bodyPost_ret (results_cbb X16 Try.results42 _ _ (w.heap.size + 1) _ _ _ rfl rfl rfl (run_loadVar_row _ _ X16 X16 _ (0, 0) _ HR5.out Try.underlying65 rfl iX16)) rfl ⟨rfl, HB5.out⟩
  · simp only [Nat.reduceEqDiff, if_false, if_true]
    have HBst := Lib.hid (rbest_c n ws HK.out c hc 0)
    have HOF := Lib.hid (Pc.bst_of HK.out hc 0)
    obtain ⟨m, hm⟩ : ∃ m, Pc.bst ws c 0 = m := ⟨_, rfl⟩
    rw [hm] at HBst HOF
    rw [hm]
    have gc : (c : Int) < 16 := by omega
    have HM := Lib.hid hm
    clear hm
    rcases HOF.out with rfl | ⟨m1, m2, m3, m4, m5⟩
    · have HE := Lib.hid (x_claim0 HK.out HM.out)
      rw [HE.out]
      go_enter Try.func42, Try.ntmps42
      go_upto_region 1 with fail
      generalize (w.alloc (Obj.cells (x16V n ws) X16)).alloc (Obj.cells (x16V 0 Pc.zeros) X16) = w2 at *
      clear hz
      have q0 := HX.out.x.n0
      go_wp2_with fail
      refine (HAT.out w2).mono ?_
      rintro e w3 ⟨rfl, rfl⟩
      rw [atV]
      go_wp2_with (refine wpList_load_row rfl X16 _ rfl w.heap.size rfl X16 _ (0, 0) _ HX.out.x Try.underlying65 rfl iX16 ?_)
      refine (HBst.out w3).mono ?_
      rintro e w4 ⟨rfl, hb4⟩
      have HX4 := Lib.hid (HX.out.low hb4)
      clear hb4 HX q0
      have HX9 := HX4
      go_wp2_with (first | (refine wpList_load_row rfl X16 _ rfl w.heap.size rfl X16 _ (0, 0) _ HX4.out.x Try.underlying65 rfl iX16 ?_) | (refine wpList_store_row rfl X16 _ _ rfl (w.heap.size + 1) (x16V n (ws)) rfl rfl X16 (x16V 0 Pc.zeros) HX4.out.r iX16 sz16 x16_one ?_))
      exact bodyPost_ret (results_cbb X16 Try.results42 _ _ (w.heap.size + 1) _ _ _ rfl rfl rfl (run_loadVar_row _ _ X16 X16 _ (0, 0) _ (HX9.out.r.row _) Try.underlying65 rfl iX16)) rfl ⟨rfl, below_setRow HX9.out.bel (by omega) _⟩
    · have HE2 := Lib.hid (show ∀ x, (ws.set 1 x).getD 2 0 = ws.getD 2 0 from fun x => by rw [Pc.get_set (by rw [HK.out.len]; omega), if_neg (by omega)])
      obtain ⟨us, hus⟩ : ∃ us, Pc.claimP ws c = us := ⟨_, rfl⟩
      have HUS := Lib.hid hus
      clear hus
      rw [HUS.out]
      go_enter Try.func42, Try.ntmps42
      go_upto_region 1 with fail
      generalize (w.alloc (Obj.cells (x16V n ws) X16)).alloc (Obj.cells (x16V 0 Pc.zeros) X16) = w2 at *
      clear hz
      have q0 := HX.out.x.n0
      go_wp2_with fail
      refine (HAT.out w2).mono ?_
      rintro e w3 ⟨rfl, rfl⟩
      rw [atV]
      go_wp2_with (refine wpList_load_row rfl X16 _ rfl w.heap.size rfl X16 _ (0, 0) _ HX.out.x Try.underlying65 rfl iX16 ?_)
      refine (HBst.out w3).mono ?_
      rintro e w4 ⟨rfl, hb4⟩
      have HX4 := Lib.hid (HX.out.low hb4)
      clear hb4 HX q0
      have HX5 := Lib.hid (HX4.out.upd (x16_wait HK.out.len m2 (x := Pc.stb (ws.getD 1 0) m false) (q := false) (fun j hj => Pc.tb_stb hj)))
      have HX6 := Lib.hid (HX5.out.upd (x16_serv (by simp [HK.out.len]) m2 (x := Pc.stb (ws.getD 2 0) m true) (q := true) (fun j hj => by rw [Pc.tb_stb hj, HE2.out])))
      have HX9 := Lib.hid (HX6.out.eq (x_claim HK.out HM.out m1 m2))
      rw [HUS.out] at HX9
      have q1 := HX4.out.x.wait m2
      have q2 := HX5.out.x.serv m2
      rw [m3] at q1
      rw [HE2.out, m4] at q2
      have f1 := HX4.out.x.frz (65 + m)
      have f2 := HX5.out.x.frz (97 + m)
      have gm : (m : Int) < 32 := by omega
      have g0 : decide ((m : Int) > 0) = true := by simp; omega
      clear HX4 HX5 HX6 m3 m4 m5 HOF HBst HM
      go_wp2_with (first | (refine wpList_load_row rfl X16 _ rfl w.heap.size rfl X16 _ (0, 0) _ HX9.out.x Try.underlying65 rfl iX16 ?_) | (refine wpList_store_row rfl X16 _ _ rfl (w.heap.size + 1) (x16V n (us)) rfl rfl X16 (x16V 0 Pc.zeros) HX9.out.r iX16 sz16 x16_one ?_))
      exact bodyPost_ret (results_cbb X16 Try.results42 _ _ (w.heap.size + 1) _ _ _ rfl rfl rfl (run_loadVar_row _ _ X16 X16 _ (0, 0) _ (HX9.out.r.row _) Try.underlying65 rfl iX16)) rfl ⟨rfl, below_setRow HX9.out.bel (by omega) _⟩
set_option maxRecDepth 100000 in
set_option maxHeartbeats 16000000 in
theorem rwrite16_c (n : Nat) (ws : List Int) (hk : Pc.Ok n ws) (off size v : Int) (v0 : 0 ≤ v) (v1 : v < 18446744073709551616) (w : World) :
    Calls Try.prog 43 #[.agg (x16V n ws), .int .u64 off, .int .i64 size, .int .u64 v] w fun e w' => e = .returned (.tuple #[.agg (x16V n (Pc.writeW n ws off size v)), .bool (Pc.is n off size)]) ∧ Below w.heap.size w w' := by
  have HX := Lib.hid (XqAt.new w n ws)
  have hz := zero_x16
  have hn8 := hk.n8
  have HAT := Lib.hid (rat16_c n off size)
  have hof := Pc.at_of (n := n) (off := off) (size := size)
  have HRW := Lib.hid (show Pc.writeW n ws off size v = if (Pc.at_ n off size).1 = 1 then ws.set (3 + (Pc.at_ n off size).2) (Wd.cutS v 0 3) else if (Pc.at_ n off size).1 = 3 then ws.set (35 + (Pc.at_ n off size).2) (Go.bits .and .u64 v (Wd.onesS 1 31))
    else if (Pc.at_ n off size).1 = 4 then ws.set (51 + (Pc.at_ n off size).2) (Wd.cutS v 0 3) else if (Pc.at_ n off size).1 = 5 then Pc.endP ws (Pc.at_ n off size).2 (Wd.cutS v 0 32) else ws from rfl)
  have HIS := Lib.hid (show Pc.is n off size = decide ((Pc.at_ n off size).1 ≠ 0) from rfl)
  have HK := Lib.hid hk
  rw [HRW.out, HIS.out, Pc.cut3 v0 v1, Pc.cut32 v0 v1]
  generalize Pc.at_ n off size = t at *
  obtain ⟨t1, c⟩ := t
  simp only at hof HRW HIS ⊢
  have ht : (t1 = 0) ∨ (t1 = 1 ∧ c < 32) ∨ (t1 = 2) ∨ (t1 = 3 ∧ c < 16) ∨ (t1 = 4 ∧ c < 16) ∨ (t1 = 5 ∧ c < 16) := by omega
  clear hof hk HRW HIS
  rcases ht with rfl | ⟨rfl, hc⟩ | rfl | ⟨rfl, hc⟩ | ⟨rfl, hc⟩ | ⟨rfl, hc⟩
  · simp only [Nat.reduceEqDiff, if_false]
    go_enter Try.func43, Try.ntmps43
    go_upto_region 1 with fail
    generalize (w.alloc (Obj.cells (x16V n ws) X16)).alloc (Obj.cells (x16V 0 Pc.zeros) X16) = w2 at *
    clear hz
    have q0 := HX.out.x.n0
    go_wp2_with fail
    refine (HAT.out w2).mono ?_
    rintro e w3 ⟨rfl, rfl⟩
    rw [atV]
    go_wp2_with (first | (refine wpList_load_row rfl X16 _ rfl w.heap.size rfl X16 _ (0, 0) _ HX.out.x Try.underlying65 rfl iX16 ?_) | (refine wpList_store_row rfl X16 _ _ rfl (w.heap.size + 1) (x16V n (ws)) rfl rfl X16 (x16V 0 Pc.zeros) HX.out.r iX16 sz16 x16_one ?_))
    exact bodyPost_ret (results_cb X16 Try.results43 _ _ (w.heap.size + 1) _ _ rfl rfl (run_loadVar_row _ _ X16 X16 _ (0, 0) _ (HX.out.r.row _) Try.underlying65 rfl iX16)) rfl ⟨rfl, below_setRow HX.out.bel (by omega) _⟩
  · simp only [if_true]
    go_enter Try.func43, Try.ntmps43
    go_upto_region 1 with fail
    generalize (w.alloc (Obj.cells (x16V n ws) X16)).alloc (Obj.cells (x16V 0 Pc.zeros) X16) = w2 at *
    clear hz
    have q0 := HX.out.x.n0
    have q := HX.out.x.pri hc
    have f := HX.out.x.frz (1 + c)
    generalize ws.getD (3 + c) 0 = old at *
    have HX2 := Lib.hid (HX.out.upd (x16_pri HK.out.len hc (v % 8)))
    have gc : (c : Int) < 32 := by omega
    go_wp2_with fail
    refine (HAT.out w2).mono ?_
    rintro e w3 ⟨rfl, rfl⟩
    rw [atV]
    go_wp2_with (first | (refine wpList_load_row rfl X16 _ rfl w.heap.size rfl X16 _ (0, 0) _ HX2.out.x Try.underlying65 rfl iX16 ?_) | (refine wpList_store_row rfl X16 _ _ rfl (w.heap.size + 1) (x16V n (ws.set (3 + c) (v % 8))) rfl rfl X16 (x16V 0 Pc.zeros) HX2.out.r iX16 sz16 x16_one ?_))
    exact bodyPost_ret (results_cb X16 Try.results43 _ _ (w.heap.size + 1) _ _ rfl rfl (run_loadVar_row _ _ X16 X16 _ (0, 0) _ (HX2.out.r.row _) Try.underlying65 rfl iX16)) rfl ⟨rfl, below_setRow HX2.out.bel (by omega) _⟩
  · simp only [Nat.reduceEqDiff, if_false]
    go_enter Try.func43, Try.ntmps43
    go_upto_region 1 with fail
    generalize (w.alloc (Obj.cells (x16V n ws) X16)).alloc (Obj.cells (x16V 0 Pc.zeros) X16) = w2 at *
    clear hz
    have q0 := HX.out.x.n0
    go_wp2_with fail
    refine (HAT.out w2).mono ?_
    rintro e w3 ⟨rfl, rfl⟩
    rw [atV]
    go_wp2_with (first | (refine wpList_load_row rfl X16 _ rfl w.heap.size rfl X16 _ (0, 0) _ HX.out.x Try.underlying65 rfl iX16 ?_) | (refine wpList_store_row rfl X16 _ _ rfl (w.heap.size + 1) (x16V n (ws)) rfl rfl X16 (x16V 0 Pc.zeros) HX.out.r iX16 sz16 x16_one ?_))
    exact bodyPost_ret (results_cb X16 Try.results43 _ _ (w.heap.size + 1) _ _ rfl rfl (run_loadVar_row _ _ X16 X16 _ (0, 0) _ (HX.out.r.row _) Try.underlying65 rfl iX16)) rfl ⟨rfl, below_setRow HX.out.bel (by omega) _⟩
  · simp only [Nat.reduceEqDiff, if_false, if_true]
    obtain ⟨us, hus⟩ : ∃ us, ws.set (35 + c) (Go.bits .and .u64 v (Wd.onesS 1 31)) = us := ⟨_, rfl⟩
    have HUS := Lib.hid hus
    clear hus
    rw [HUS.out]
    go_enter Try.func43, Try.ntmps43
    go_upto_region 1 with fail
    generalize (w.alloc (Obj.cells (x16V n ws) X16)).alloc (Obj.cells (x16V 0 Pc.zeros) X16) = w2 at *
    clear hz
    have q0 := HX.out.x.n0
    go_wp2_with fail
    refine (HAT.out w2).mono ?_
    rintro e w3 ⟨rfl, rfl⟩
    rw [atV]
    have gc : (c : Int) < 16 := by omega
    have HX1 := Lib.hid (HX.out.eq (x_on1 HK.out hc v))
    go_wp2_with fail
    go_loopw [12, 13] (fun nv sv wr => ∃ k : Nat, 1 ≤ k ∧ k ≤ 32 ∧ sv = .int .i64 k ∧ nv = .int .u64 (v / 2 ^ k) ∧ XqAt w wr n (ws.set (35 + c) (onY (ws.getD (35 + c) 0) v k))) (fun _ sv _ => 32 - (intOf sv).toNat)
    case atStart => exact ⟨1, by omega, by omega, rfl, rfl, HX1.out⟩
    case round =>
      obtain ⟨k, hk1, hk2, rfl, rfl, hx⟩ := hrel
      have HR := Lib.hid hx
      clear hx HX HX1 q0
      by_cases hlt : k < 32
      · have e0 : decide ((k : Int) < 32) = true := by simp; omega
        have q := HR.out.x.on hc hlt
        have f := HR.out.x.frz (129 + c * 32 + k)
        rw [Pc.get_set (by rw [HK.out.len]; omega), if_pos rfl] at q
        have HH := Lib.hid (half_bit v0 k)
        have HY := Lib.hid (show v / 2 ^ k / 2 = v / 2 ^ (k + 1) from Pc.div_next (S := v) k)
        have hy : 0 ≤ v / 2 ^ k ∧ v / 2 ^ k < 18446744073709551616 := ⟨Int.ediv_nonneg v0 (Int.pow_nonneg (by omega)), Int.lt_of_le_of_lt (Int.ediv_le_self _ v0) v1⟩
        generalize v / 2 ^ k = y at *
        obtain ⟨qb, hqb⟩ : ∃ qb, (y % 2 == 1) = qb := ⟨_, rfl⟩
        have HN := Lib.hid (HR.out.upd (x16_on (by simp [HK.out.len]) hc hlt (x := onY (ws.getD (35 + c) 0) v (k + 1)) (q := qb) (fun j hj => by rw [onY_next hk1 j hj, Pc.get_set (i := 35 + c) (by rw [HK.out.len]; omega), if_pos rfl, ← HH.out, hqb])))
        rw [set_set] at HN
        generalize Wd.tb (onY (ws.getD (35 + c) 0) v k) k = oq at *
        clear HH
        go_wp2_with fail
        go_roundw
        case rel => exact ⟨k + 1, by omega, by omega, by go_num, by rw [← HY.out], HN.out⟩
        case measure => simp [intOf]; omega
      · obtain rfl : k = 32 := by omega
        have e0 : decide (((32 : Nat) : Int) < 32) = false := by decide
        have HX9 := Lib.hid (HR.out.eq (x_on32 HK.out hc v0 v1))
        rw [HUS.out] at HX9
        rw [show ((32 : Nat) : Int) = 32 from rfl]
        go_wp2_with (first | (refine wpList_load_row rfl X16 _ rfl w.heap.size rfl X16 _ (0, 0) _ HX9.out.x Try.underlying65 rfl iX16 ?_) | (refine wpList_store_row rfl X16 _ _ rfl (w.heap.size + 1) (x16V n (us)) rfl rfl X16 (x16V 0 Pc.zeros) HX9.out.r iX16 sz16 x16_one ?_))
        exact bodyPost_ret (results_cb X16 Try.results43 _ _ (w.heap.size + 1) _ _ rfl rfl (run_loadVar_row _ _ X16 X16 _ (0, 0) _ (HX9.out.r.row _) Try.underlying65 rfl iX16)) rfl ⟨rfl, below_setRow HX9.out.bel (by omega) _⟩
  · simp only [Nat.reduceEqDiff, if_false, if_true]
    go_enter Try.func43, Try.ntmps43
    go_upto_region 1 with fail
    generalize (w.alloc (Obj.cells (x16V n ws) X16)).alloc (Obj.cells (x16V 0 Pc.zeros) X16) = w2 at *
    clear hz
    have q0 := HX.out.x.n0
    have q := HX.out.x.lev hc
    have f := HX.out.x.frz (641 + c)
    generalize ws.getD (51 + c) 0 = old at *
    have HX2 := Lib.hid (HX.out.upd (x16_lev HK.out.len hc (v % 8)))
    have gc : (c : Int) < 16 := by omega
    go_wp2_with fail
    refine (HAT.out w2).mono ?_
    rintro e w3 ⟨rfl, rfl⟩
    rw [atV]
    go_wp2_with (first | (refine wpList_load_row rfl X16 _ rfl w.heap.size rfl X16 _ (0, 0) _ HX2.out.x Try.underlying65 rfl iX16 ?_) | (refine wpList_store_row rfl X16 _ _ rfl (w.heap.size + 1) (x16V n (ws.set (51 + c) (v % 8))) rfl rfl X16 (x16V 0 Pc.zeros) HX2.out.r iX16 sz16 x16_one ?_))
    exact bodyPost_ret (results_cb X16 Try.results43 _ _ (w.heap.size + 1) _ _ rfl rfl (run_loadVar_row _ _ X16 X16 _ (0, 0) _ (HX2.out.r.row _) Try.underlying65 rfl iX16)) rfl ⟨rfl, below_setRow HX2.out.bel (by omega) _⟩
  · simp only [Nat.reduceEqDiff, if_false, if_true]
    have hx : 0 ≤ v % 4294967296 ∧ v % 4294967296 < 4294967296 := by omega
    obtain ⟨x, hxe⟩ : ∃ x, v % 4294967296 = x := ⟨_, rfl⟩
    rw [hxe] at hx ⊢
    have gc : (c : Int) < 16 := by omega
    by_cases hlo : x < 1
    · have g1 : decide (x ≥ 1) = false := by simp; omega
      have HE := Lib.hid (x_endNo HK.out hc (s := x) (.inl (by omega)))
      rw [HE.out]
      go_enter Try.func43, Try.ntmps43
      go_upto_region 1 with fail
      generalize (w.alloc (Obj.cells (x16V n ws) X16)).alloc (Obj.cells (x16V 0 Pc.zeros) X16) = w2 at *
      clear hz
      have q0 := HX.out.x.n0
      go_wp2_with fail
      refine (HAT.out w2).mono ?_
      rintro e w3 ⟨rfl, rfl⟩
      rw [atV]
      go_wp2_with (first | (refine wpList_load_row rfl X16 _ rfl w.heap.size rfl X16 _ (0, 0) _ HX.out.x Try.underlying65 rfl iX16 ?_) | (refine wpList_store_row rfl X16 _ _ rfl (w.heap.size + 1) (x16V n (ws)) rfl rfl X16 (x16V 0 Pc.zeros) HX.out.r iX16 sz16 x16_one ?_))
      exact bodyPost_ret (results_cb X16 Try.results43 _ _ (w.heap.size + 1) _ _ rfl rfl (run_loadVar_row _ _ X16 X16 _ (0, 0) _ (HX.out.r.row _) Try.underlying65 rfl iX16)) rfl ⟨rfl, below_setRow HX.out.bel (by omega) _⟩
    by_cases hhi : 31 < x
    · have g1 : decide (x ≥ 1) = true := by simp; omega
      have g2 : decide (x ≤ 31) = false := by simp; omega
      have HE := Lib.hid (x_endNo HK.out hc (s := x) (.inl (by omega)))
      rw [HE.out]
      go_enter Try.func43, Try.ntmps43
      go_upto_region 1 with fail
      generalize (w.alloc (Obj.cells (x16V n ws) X16)).alloc (Obj.cells (x16V 0 Pc.zeros) X16) = w2 at *
      clear hz
      have q0 := HX.out.x.n0
      go_wp2_with fail
      refine (HAT.out w2).mono ?_
      rintro e w3 ⟨rfl, rfl⟩
      rw [atV]
      go_wp2_with (first | (refine wpList_load_row rfl X16 _ rfl w.heap.size rfl X16 _ (0, 0) _ HX.out.x Try.underlying65 rfl iX16 ?_) | (refine wpList_store_row rfl X16 _ _ rfl (w.heap.size + 1) (x16V n (ws)) rfl rfl X16 (x16V 0 Pc.zeros) HX.out.r iX16 sz16 x16_one ?_))
      exact bodyPost_ret (results_cb X16 Try.results43 _ _ (w.heap.size + 1) _ _ rfl rfl (run_loadVar_row _ _ X16 X16 _ (0, 0) _ (HX.out.r.row _) Try.underlying65 rfl iX16)) rfl ⟨rfl, below_setRow HX.out.bel (by omega) _⟩
    obtain ⟨s, rfl⟩ := Int.eq_ofNat_of_zero_le hx.1
    have hs1 : 1 ≤ s := by omega
    have hs2 : s < 32 := by omega
    have gs : (s : Int) < 32 := by omega
    have g1 : decide ((s : Int) ≥ 1) = true := by simp; omega
    have g2 : decide ((s : Int) ≤ 31) = true := by simp; omega
    cases ho : Wd.tb (ws.getD (35 + c) 0) s with
    | false =>
      have HE := Lib.hid (x_endNo HK.out hc (s := (s : Int)) (.inr (.inl (by rw [Int.toNat_natCast]; exact ho))))
      rw [HE.out]
      go_enter Try.func43, Try.ntmps43
      go_upto_region 1 with fail
      generalize (w.alloc (Obj.cells (x16V n ws) X16)).alloc (Obj.cells (x16V 0 Pc.zeros) X16) = w2 at *
      clear hz
      have q0 := HX.out.x.n0
      have qo := HX.out.x.on hc hs2
      rw [ho] at qo
      go_wp2_with fail
      refine (HAT.out w2).mono ?_
      rintro e w3 ⟨rfl, rfl⟩
      rw [atV]
      go_wp2_with (first | (refine wpList_load_row rfl X16 _ rfl w.heap.size rfl X16 _ (0, 0) _ HX.out.x Try.underlying65 rfl iX16 ?_) | (refine wpList_store_row rfl X16 _ _ rfl (w.heap.size + 1) (x16V n (ws)) rfl rfl X16 (x16V 0 Pc.zeros) HX.out.r iX16 sz16 x16_one ?_))
      exact bodyPost_ret (results_cb X16 Try.results43 _ _ (w.heap.size + 1) _ _ rfl rfl (run_loadVar_row _ _ X16 X16 _ (0, 0) _ (HX.out.r.row _) Try.underlying65 rfl iX16)) rfl ⟨rfl, below_setRow HX.out.bel (by omega) _⟩
    | true =>
      cases hv : Wd.tb (ws.getD 2 0) s with
      | false =>
        have HE := Lib.hid (x_endNo HK.out hc (s := (s : Int)) (.inr (.inr (by rw [Int.toNat_natCast]; exact hv))))
        rw [HE.out]
        go_enter Try.func43, Try.ntmps43
        go_upto_region 1 with fail
        generalize (w.alloc (Obj.cells (x16V n ws) X16)).alloc (Obj.cells (x16V 0 Pc.zeros) X16) = w2 at *
        clear hz
        have q0 := HX.out.x.n0
        have qo := HX.out.x.on hc hs2
        rw [ho] at qo
        have qs := HX.out.x.serv hs2
        rw [hv] at qs
        go_wp2_with fail
        refine (HAT.out w2).mono ?_
        rintro e w3 ⟨rfl, rfl⟩
        rw [atV]
        go_wp2_with (first | (refine wpList_load_row rfl X16 _ rfl w.heap.size rfl X16 _ (0, 0) _ HX.out.x Try.underlying65 rfl iX16 ?_) | (refine wpList_store_row rfl X16 _ _ rfl (w.heap.size + 1) (x16V n (ws)) rfl rfl X16 (x16V 0 Pc.zeros) HX.out.r iX16 sz16 x16_one ?_))
        exact bodyPost_ret (results_cb X16 Try.results43 _ _ (w.heap.size + 1) _ _ rfl rfl (run_loadVar_row _ _ X16 X16 _ (0, 0) _ (HX.out.r.row _) Try.underlying65 rfl iX16)) rfl ⟨rfl, below_setRow HX.out.bel (by omega) _⟩
      | true =>
        have HE2 := Lib.hid (show ∀ x, (ws.set 2 x).getD 0 0 = ws.getD 0 0 from fun x => by rw [Pc.get_set (by rw [HK.out.len]; omega), if_neg (by omega)])
        have HE3 := Lib.hid (show ∀ x, (ws.set 2 x).getD 1 0 = ws.getD 1 0 from fun x => by rw [Pc.get_set (by rw [HK.out.len]; omega), if_neg (by omega)])
        obtain ⟨us, hus⟩ : ∃ us, Pc.endP ws c (s : Int) = us := ⟨_, rfl⟩
        have HUS := Lib.hid hus
        clear hus
        rw [HUS.out]
        cases hw : Wd.tb (ws.getD 0 0) s with
        | false =>
          go_enter Try.func43, Try.ntmps43
          go_upto_region 1 with fail
          generalize (w.alloc (Obj.cells (x16V n ws) X16)).alloc (Obj.cells (x16V 0 Pc.zeros) X16) = w2 at *
          clear hz
          have q0 := HX.out.x.n0
          have qo := HX.out.x.on hc hs2
          rw [ho] at qo
          have qs := HX.out.x.serv hs2
          rw [hv] at qs
          have f1 := HX.out.x.frz (97 + s)
          have HX5 := Lib.hid (HX.out.upd (x16_serv HK.out.len hs2 (x := Pc.stb (ws.getD 2 0) s false) (q := false) (fun j hj => Pc.tb_stb hj)))
          have qw := HX5.out.x.wire hs2
          rw [HE2.out, hw] at qw
          have HX9 := Lib.hid (HX5.out.eq (x_endOff HK.out hc hs1 hs2 ho hv hw))
          rw [HUS.out] at HX9
          clear HX5 ho hv hw
          go_wp2_with fail
          refine (HAT.out w2).mono ?_
          rintro e w3 ⟨rfl, rfl⟩
          rw [atV]
          go_wp2_with (first | (refine wpList_load_row rfl X16 _ rfl w.heap.size rfl X16 _ (0, 0) _ HX9.out.x Try.underlying65 rfl iX16 ?_) | (refine wpList_store_row rfl X16 _ _ rfl (w.heap.size + 1) (x16V n (us)) rfl rfl X16 (x16V 0 Pc.zeros) HX9.out.r iX16 sz16 x16_one ?_))
          exact bodyPost_ret (results_cb X16 Try.results43 _ _ (w.heap.size + 1) _ _ rfl rfl (run_loadVar_row _ _ X16 X16 _ (0, 0) _ (HX9.out.r.row _) Try.underlying65 rfl iX16)) rfl ⟨rfl, below_setRow HX9.out.bel (by omega) _⟩
        | true =>
          go_enter Try.func43, Try.ntmps43
          go_upto_region 1 with fail
          generalize (w.alloc (Obj.cells (x16V n ws) X16)).alloc (Obj.cells (x16V 0 Pc.zeros) X16) = w2 at *
          clear hz
          have q0 := HX.out.x.n0
          have qo := HX.out.x.on hc hs2
          rw [ho] at qo
          have qs := HX.out.x.serv hs2
          rw [hv] at qs
          have f1 := HX.out.x.frz (97 + s)
          have HX5 := Lib.hid (HX.out.upd (x16_serv HK.out.len hs2 (x := Pc.stb (ws.getD 2 0) s false) (q := false) (fun j hj => Pc.tb_stb hj)))
          have qw := HX5.out.x.wire hs2
          rw [HE2.out, hw] at qw
          have qa := HX5.out.x.wait hs2
          rw [HE3.out] at qa
          have f2 := HX5.out.x.frz (65 + s)
          have HX6 := Lib.hid (HX5.out.upd (x16_wait (by simp [HK.out.len]) hs2 (x := Pc.stb (ws.getD 1 0) s true) (q := true) (fun j hj => by rw [Pc.tb_stb hj, HE3.out])))
          have HX9 := Lib.hid (HX6.out.eq (x_end HK.out hc hs1 hs2 ho hv hw))
          rw [HUS.out] at HX9
          generalize Wd.tb (ws.getD 1 0) s = oq at *
          clear HX5 HX6 ho hv hw
          go_wp2_with fail
          refine (HAT.out w2).mono ?_
          rintro e w3 ⟨rfl, rfl⟩
          rw [atV]
          go_wp2_with (first | (refine wpList_load_row rfl X16 _ rfl w.heap.size rfl X16 _ (0, 0) _ HX9.out.x Try.underlying65 rfl iX16 ?_) | (refine wpList_store_row rfl X16 _ _ rfl (w.heap.size + 1) (x16V n (us)) rfl rfl X16 (x16V 0 Pc.zeros) HX9.out.r iX16 sz16 x16_one ?_))
          exact bodyPost_ret (results_cb X16 Try.results43 _ _ (w.heap.size + 1) _ _ rfl rfl (run_loadVar_row _ _ X16 X16 _ (0, 0) _ (HX9.out.r.row _) Try.underlying65 rfl iX16)) rfl ⟨rfl, below_setRow HX9.out.bel (by omega) _⟩
set_option maxRecDepth 100000 in
set_option maxHeartbeats 16000000 in
theorem rwire16_c (n : Nat) (ws : List Int) (hk : Pc.Ok n ws) (s : Int) (on : Bool) (w : World) :
    Calls Try.prog 44 #[.agg (x16V n ws), .int .i64 s, .bool on] w fun e w' => e = .returned (.tuple #[.agg (x16V n (Pc.wireW n ws s on)), .bool (Pc.wires n s)]) ∧ Below w.heap.size w w' := by
  have HX := Lib.hid (XqAt.new w n ws)
  have hz := zero_x16
  have hn8 := hk.n8
  have HK := Lib.hid hk
  clear hk
  by_cases n0 : n = 0
  · have g0 : ((n : Int) == 0) = true := by simp; omega
    have HI := Lib.hid (show Pc.wires n s = false by unfold Pc.wires; simp; omega)
    have HW := Lib.hid (show Pc.wireW n ws s on = ws by unfold Pc.wireW; rw [HI.out]; rfl)
    rw [HI.out, HW.out]
    clear n0
    go_enter Try.func44, Try.ntmps44
    go_upto_region 1 with fail
    generalize (w.alloc (Obj.cells (x16V n ws) X16)).alloc (Obj.cells (x16V 0 Pc.zeros) X16) = w2 at *
    clear hz
    have q0 := HX.out.x.n0
    go_wp2_with (first | (refine wpList_load_row rfl X16 _ rfl w.heap.size rfl X16 _ (0, 0) _ HX.out.x Try.underlying65 rfl iX16 ?_) | (refine wpList_store_row rfl X16 _ _ rfl (w.heap.size + 1) (x16V n (ws)) rfl rfl X16 (x16V 0 Pc.zeros) HX.out.r iX16 sz16 x16_one ?_))
    exact bodyPost_ret (results_cb X16 Try.results44 _ _ (w.heap.size + 1) _ _ rfl rfl (run_loadVar_row _ _ X16 X16 _ (0, 0) _ (HX.out.r.row _) Try.underlying65 rfl iX16)) rfl ⟨rfl, below_setRow HX.out.bel (by omega) _⟩
  have g0 : ((n : Int) == 0) = false := by simp; omega
  by_cases hlo : s < 1
  · have g1 : decide (s < 1) = true := by simp; omega
    have HI := Lib.hid (show Pc.wires n s = false by unfold Pc.wires; simp; omega)
    have HW := Lib.hid (show Pc.wireW n ws s on = ws by unfold Pc.wireW; rw [HI.out]; rfl)
    rw [HI.out, HW.out]
    go_enter Try.func44, Try.ntmps44
    go_upto_region 1 with fail
    generalize (w.alloc (Obj.cells (x16V n ws) X16)).alloc (Obj.cells (x16V 0 Pc.zeros) X16) = w2 at *
    clear hz
    have q0 := HX.out.x.n0
    go_wp2_with (first | (refine wpList_load_row rfl X16 _ rfl w.heap.size rfl X16 _ (0, 0) _ HX.out.x Try.underlying65 rfl iX16 ?_) | (refine wpList_store_row rfl X16 _ _ rfl (w.heap.size + 1) (x16V n (ws)) rfl rfl X16 (x16V 0 Pc.zeros) HX.out.r iX16 sz16 x16_one ?_))
    exact bodyPost_ret (results_cb X16 Try.results44 _ _ (w.heap.size + 1) _ _ rfl rfl (run_loadVar_row _ _ X16 X16 _ (0, 0) _ (HX.out.r.row _) Try.underlying65 rfl iX16)) rfl ⟨rfl, below_setRow HX.out.bel (by omega) _⟩
  have g1 : decide (s < 1) = false := by simp; omega
  by_cases hhi : 31 < s
  · have g2 : decide (s > 31) = true := by simp; omega
    have HI := Lib.hid (show Pc.wires n s = false by unfold Pc.wires; simp; omega)
    have HW := Lib.hid (show Pc.wireW n ws s on = ws by unfold Pc.wireW; rw [HI.out]; rfl)
    rw [HI.out, HW.out]
    go_enter Try.func44, Try.ntmps44
    go_upto_region 1 with fail
    generalize (w.alloc (Obj.cells (x16V n ws) X16)).alloc (Obj.cells (x16V 0 Pc.zeros) X16) = w2 at *
    clear hz
    have q0 := HX.out.x.n0
    go_wp2_with (first | (refine wpList_load_row rfl X16 _ rfl w.heap.size rfl X16 _ (0, 0) _ HX.out.x Try.underlying65 rfl iX16 ?_) | (refine wpList_store_row rfl X16 _ _ rfl (w.heap.size + 1) (x16V n (ws)) rfl rfl X16 (x16V 0 Pc.zeros) HX.out.r iX16 sz16 x16_one ?_))
    exact bodyPost_ret (results_cb X16 Try.results44 _ _ (w.heap.size + 1) _ _ rfl rfl (run_loadVar_row _ _ X16 X16 _ (0, 0) _ (HX.out.r.row _) Try.underlying65 rfl iX16)) rfl ⟨rfl, below_setRow HX.out.bel (by omega) _⟩
  have g2 : decide (s > 31) = false := by simp; omega
  obtain ⟨k, rfl⟩ := Int.eq_ofNat_of_zero_le (by omega : 0 ≤ s)
  have hs1 : 1 ≤ k := by omega
  have hs2 : k < 32 := by omega
  have gs : (k : Int) < 32 := by omega
  have HI := Lib.hid (show Pc.wires n (k : Int) = true by unfold Pc.wires; simp; omega)
  have HW := Lib.hid (show Pc.wireW n ws (k : Int) on = Pc.wireP ws (k : Int) on by unfold Pc.wireW; rw [HI.out, if_pos rfl])
  rw [HI.out, HW.out]
  have HE2 := Lib.hid (show ∀ x, (ws.set 0 x).getD 2 0 = ws.getD 2 0 from fun x => by rw [Pc.get_set (by rw [HK.out.len]; omega), if_neg (by omega)])
  have HE3 := Lib.hid (show ∀ x, (ws.set 0 x).getD 1 0 = ws.getD 1 0 from fun x => by rw [Pc.get_set (by rw [HK.out.len]; omega), if_neg (by omega)])
  clear HI HW n0 hlo hhi
  obtain ⟨us, hus⟩ : ∃ us, Pc.wireP ws (k : Int) on = us := ⟨_, rfl⟩
  have HUS := Lib.hid hus
  clear hus
  rw [HUS.out]
  cases on with
  | false =>
    go_enter Try.func44, Try.ntmps44
    go_upto_region 1 with fail
    generalize (w.alloc (Obj.cells (x16V n ws) X16)).alloc (Obj.cells (x16V 0 Pc.zeros) X16) = w2 at *
    clear hz
    have q0 := HX.out.x.n0
    have qw := HX.out.x.wire hs2
    have f0 := HX.out.x.frz (33 + k)
    have HX5 := Lib.hid (HX.out.upd (x16_wire HK.out.len hs2 (x := Pc.stb (ws.getD 0 0) k false) (q := false) (fun j hj => Pc.tb_stb hj)))
    have qs := HX5.out.x.serv hs2
    rw [HE2.out] at qs
    have HX9 := Lib.hid (HX5.out.eq (x_wireOff HK.out hs1 hs2))
    rw [HUS.out] at HX9
    generalize Wd.tb (ws.getD 0 0) k = ow at *
    generalize Wd.tb (ws.getD 2 0) k = os at *
    clear HX5
    go_wp2_with (first | (refine wpList_load_row rfl X16 _ rfl w.heap.size rfl X16 _ (0, 0) _ HX9.out.x Try.underlying65 rfl iX16 ?_) | (refine wpList_store_row rfl X16 _ _ rfl (w.heap.size + 1) (x16V n (us)) rfl rfl X16 (x16V 0 Pc.zeros) HX9.out.r iX16 sz16 x16_one ?_))
    exact bodyPost_ret (results_cb X16 Try.results44 _ _ (w.heap.size + 1) _ _ rfl rfl (run_loadVar_row _ _ X16 X16 _ (0, 0) _ (HX9.out.r.row _) Try.underlying65 rfl iX16)) rfl ⟨rfl, below_setRow HX9.out.bel (by omega) _⟩
  | true =>
    cases hv : Wd.tb (ws.getD 2 0) k with
    | false =>
      go_enter Try.func44, Try.ntmps44
      go_upto_region 1 with fail
      generalize (w.alloc (Obj.cells (x16V n ws) X16)).alloc (Obj.cells (x16V 0 Pc.zeros) X16) = w2 at *
      clear hz
      have q0 := HX.out.x.n0
      have qw := HX.out.x.wire hs2
      have f0 := HX.out.x.frz (33 + k)
      have HX5 := Lib.hid (HX.out.upd (x16_wire HK.out.len hs2 (x := Pc.stb (ws.getD 0 0) k true) (q := true) (fun j hj => Pc.tb_stb hj)))
      have qs := HX5.out.x.serv hs2
      rw [HE2.out] at qs
      rw [hv] at qs
      have qa := HX5.out.x.wait hs2
      rw [HE3.out] at qa
      have f1 := HX5.out.x.frz (65 + k)
      have HX6 := Lib.hid (HX5.out.upd (x16_wait (by simp [HK.out.len]) hs2 (x := Pc.stb (ws.getD 1 0) k true) (q := true) (fun j hj => by rw [Pc.tb_stb hj, HE3.out])))
      have HX9 := Lib.hid (HX6.out.eq (x_wireOn HK.out hs1 hs2 hv))
      generalize Wd.tb (ws.getD 1 0) k = oq at *
      clear HX6
      rw [HUS.out] at HX9
      generalize Wd.tb (ws.getD 0 0) k = ow at *
      clear HX5
      go_wp2_with (first | (refine wpList_load_row rfl X16 _ rfl w.heap.size rfl X16 _ (0, 0) _ HX9.out.x Try.underlying65 rfl iX16 ?_) | (refine wpList_store_row rfl X16 _ _ rfl (w.heap.size + 1) (x16V n (us)) rfl rfl X16 (x16V 0 Pc.zeros) HX9.out.r iX16 sz16 x16_one ?_))
      exact bodyPost_ret (results_cb X16 Try.results44 _ _ (w.heap.size + 1) _ _ rfl rfl (run_loadVar_row _ _ X16 X16 _ (0, 0) _ (HX9.out.r.row _) Try.underlying65 rfl iX16)) rfl ⟨rfl, below_setRow HX9.out.bel (by omega) _⟩
    | true =>
      go_enter Try.func44, Try.ntmps44
      go_upto_region 1 with fail
      generalize (w.alloc (Obj.cells (x16V n ws) X16)).alloc (Obj.cells (x16V 0 Pc.zeros) X16) = w2 at *
      clear hz
      have q0 := HX.out.x.n0
      have qw := HX.out.x.wire hs2
      have f0 := HX.out.x.frz (33 + k)
      have HX5 := Lib.hid (HX.out.upd (x16_wire HK.out.len hs2 (x := Pc.stb (ws.getD 0 0) k true) (q := true) (fun j hj => Pc.tb_stb hj)))
      have qs := HX5.out.x.serv hs2
      rw [HE2.out] at qs
      rw [hv] at qs
      have HX9 := Lib.hid (HX5.out.eq (x_wireHeld HK.out hs1 hs2 hv))
      rw [HUS.out] at HX9
      generalize Wd.tb (ws.getD 0 0) k = ow at *
      clear HX5
      go_wp2_with (first | (refine wpList_load_row rfl X16 _ rfl w.heap.size rfl X16 _ (0, 0) _ HX9.out.x Try.underlying65 rfl iX16 ?_) | (refine wpList_store_row rfl X16 _ _ rfl (w.heap.size + 1) (x16V n (us)) rfl rfl X16 (x16V 0 Pc.zeros) HX9.out.r iX16 sz16 x16_one ?_))
      exact bodyPost_ret (results_cb X16 Try.results44 _ _ (w.heap.size + 1) _ _ rfl rfl (run_loadVar_row _ _ X16 X16 _ (0, 0) _ (HX9.out.r.row _) Try.underlying65 rfl iX16)) rfl ⟨rfl, below_setRow HX9.out.bel (by omega) _⟩
end Go.Proofs.Ytjeolfcefeglpaa
