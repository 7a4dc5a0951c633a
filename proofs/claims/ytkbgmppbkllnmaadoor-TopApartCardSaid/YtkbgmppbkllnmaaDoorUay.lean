/-
  The code of layer 24: what waits, which interrupt is taken, what wakes; told for whatever a file's registers read as. The reference of layer 21: First; CauseFirst walked. The reference of layer 24: share, Waiting, Next.
-/
import Derived.Test.YtkbgmppbkllnmaaDoorUao
import Derived.Test.YtkbgmppbkllnmaaDoorUah
import Derived.Test.YtkbgmppbkllnmaaDoorUal
import Derived.Test.YtkbgmppbkllnmaaDoorUam
import Derived.Test.YtkbgmppbkllnmaaDoorUav
set_option maxRecDepth 20000
namespace Go.Proofs.YtkbgmppbkllnmaaDoor
open Go.ChangeShapes Go.WideShapes Go.ChangeAt Go.RowKit Wd Csr Sta Cf Cau

/-- What is read of a file by its numbers, whatever pointer it is. -/
def Reads (v : Value) (gt : Int → Int → Int) (w : World) : Prop :=
  ∀ n l W, Below w.heap.size w W → Calls Tryd.prog 24 #[v, .int .i64 n, .int .u64 l] W fun e w' => e = .returned (.int .u64 (gt n l)) ∧ Below W.heap.size W w'
theorem Reads.low {v : Value} {gt : Int → Int → Int} {w W : World} (h : Reads v gt w) (hb : Below w.heap.size w W) : Reads v gt W := fun n l V hv => h n l V (hb.trans (hv.mono hb.size))
theorem reads_file {g : Nat} {s : S} {w : World} (hK : KeptIn w) (h : FlAt w g s) : Reads (.pointer (some ⟨g, 0, none⟩)) (getS s) w := fun n l W hb => fcget_c g n l s W (hK.low hb) (h.low hb)
theorem zgetI_c (n l : Int) (w : World) : Calls Tryd.prog 24 #[.pointer none, .int .i64 n, .int .u64 l] w fun e w' => e = .returned (.int .u64 0) ∧ Below w.heap.size w w' := by
  go_enter Tryd.func24, Tryd.ntmps24
  go_wp2_with fail
  go_ret
  exact ⟨rfl, Below.refl _ _⟩
theorem reads_nil (w : World) : Reads (.pointer none) (fun _ _ => 0) w := fun n l W _ => zgetI_c n l W
def waitG (gt : Int → Int → Int) (l : Int) : Int := bits .and .u64 (gt 836 l) (gt 772 0)
/-- What waits for a privilege. -/
def forM (gt : Int → Int → Int) (l : Int) : Int := bits .andNot .u64 (waitG gt l) (gt 771 0)
def forS (gt : Int → Int → Int) (l : Int) : Int := bits .and .u64 (waitG gt l) (gt 771 0)
def rowO (gt : Int → Int → Int) (p l : Int) (k : Nat) : Option Nat := if letsS (gt 768 0) p (if k = 0 then 3 else 1) then fstI (if k = 0 then forM gt l else forS gt l) else none
def nextG (gt : Int → Int → Int) (p l : Int) : Option Nat := match rowO gt p l 0 with
  | some c => some c
  | none => rowO gt p l 1
def oI (o : Option Nat) : Value := .tuple #[.agg #[.bool o.isSome, .int .i64 (o.getD 0 : Nat)], .bool o.isSome]
theorem fI_is (x : Int) : fI x = oI (fstI x) := rfl
def W64s (gt : Int → Int → Int) : Prop := ∀ n l, W64 l → W64 (gt n l)
theorem waitG_64 {gt : Int → Int → Int} (h : W64s gt) {l : Int} (hl : W64 l) : W64 (waitG gt l) := and_64 (h _ _ hl) (h _ _ ⟨by omega, by omega⟩)
theorem forM_64 {gt : Int → Int → Int} (h : W64s gt) {l : Int} (hl : W64 l) : W64 (forM gt l) := by
  have a := waitG_64 h hl
  have b := h 771 0 ⟨by omega, by omega⟩
  exact andNot_range a.1 a.2 b.1 b.2
theorem forS_64 {gt : Int → Int → Int} (h : W64s gt) {l : Int} (hl : W64 l) : W64 (forS gt l) := and_64 (waitG_64 h hl) (h _ _ ⟨by omega, by omega⟩)
theorem w64_zero : W64s (fun _ _ => 0) := fun _ _ _ => ⟨Int.le_refl _, by show (0 : Int) < _; omega⟩
theorem w64_file {s : S} (ok : Ok s) : W64s (getS s) := fun n _ hl => get_64 ok n hl
set_option maxHeartbeats 2000000 in
theorem iwait_c (v : Value) (gt : Int → Int → Int) (l : Int) (w : World) (hr : Reads v gt w) : Calls Tryd.prog 18 #[v, .int .u64 l] w fun e w' => e = .returned (.int .u64 (waitG gt l)) ∧ Below w.heap.size w w' := by
  have HR := Lib.hid hr
  have HV := Lib.hid (show waitG gt l = bits .and .u64 (gt 836 l) (gt 772 0) from rfl)
  clear hr
  generalize waitG gt l = r at *
  go_enter Tryd.func18, Tryd.ntmps18
  go_wp2_with fail
  refine (HR.out 836 l _ (Below.refl _ _)).mono ?_
  rintro e w1 ⟨rfl, hb⟩
  have HB := Lib.hid hb
  clear hb
  go_wp2_with fail
  refine (HR.out 772 0 _ HB.out).mono ?_
  rintro e w2 ⟨rfl, hb⟩
  have HB2 := Lib.hid (HB.out.trans (hb.mono HB.out.size))
  clear hb
  go_wp2_with fail
  go_ret
  exact ⟨by rw [HV.out]; rfl, HB2.out⟩
set_option maxHeartbeats 2000000 in
theorem iwakes_c (v : Value) (gt : Int → Int → Int) (l : Int) (w : World) (hr : Reads v gt w) : Calls Tryd.prog 19 #[v, .int .u64 l] w fun e w' => e = .returned (.bool (waitG gt l != 0)) ∧ Below w.heap.size w w' := by
  have HW := Lib.hid (iwait_c v gt l w hr)
  clear hr
  generalize waitG gt l = r at *
  go_enter Tryd.func19, Tryd.ntmps19
  go_wp2_with fail
  refine HW.out.mono ?_
  rintro e w1 ⟨rfl, hb⟩
  have HB := Lib.hid hb
  clear hb
  go_wp2_with fail
  go_ret
  exact ⟨rfl, HB.out⟩
abbrev IrT : TypeId := 97
abbrev I2T : TypeId := 98
abbrev zI2 : Array Value := #[.int .i64 0, .int .u64 0, .int .i64 0, .int .u64 0]
abbrev zIr : Array Value := #[.int .i64 0, .int .u64 0]
theorem info_i2 : (Tryd.prog.info? I2T).map (·.size) = some 4 := by kernel_rfl
theorem info_ir : (Tryd.prog.info? IrT).map (·.size) = some 2 := by kernel_rfl
theorem info_caI : (Tryd.prog.info? CaT).map (·.size) = some 2 := by kernel_rfl
theorem zero_i2 (W : World) : (zeroValue I2T).run Tryd.prog W = .ok (.agg zI2) W := by kernel_rfl
theorem zero_ir (W : World) : (zeroValue IrT).run Tryd.prog W = .ok (.agg zIr) W := by kernel_rfl
theorem zero_caI (W : World) : (zeroValue CaT).run Tryd.prog W = .ok (.agg #[.bool false, .int .i64 0]) W := by kernel_rfl
set_option maxHeartbeats 2000000 in
theorem irows_c (v : Value) (gt : Int → Int → Int) (l : Int) (w : World) (hr : Reads v gt w) : Calls Tryd.prog 43 #[v, .int .u64 l] w fun e w' => e = .returned (.agg #[.int .i64 3, .int .u64 (forM gt l), .int .i64 1, .int .u64 (forS gt l)]) ∧ Below w.heap.size w w' := by
  have hB : Below w.heap.size w (w.alloc (.cells zI2 I2T)) := (Below.refl _ _).alloc (Nat.le_refl _) _
  have HB := Lib.hid hB
  have HZ := Lib.hid (CsAt.new w I2T zI2)
  have HW := Lib.hid (iwait_c v gt l _ (hr.low hB))
  have HR := Lib.hid hr
  have HM := Lib.hid (show forM gt l = bits .andNot .u64 (waitG gt l) (gt 771 0) from rfl)
  have HS := Lib.hid (show forS gt l = bits .and .u64 (waitG gt l) (gt 771 0) from rfl)
  clear hr hB
  generalize forM gt l = fm at *
  generalize forS gt l = fs at *
  generalize waitG gt l = r at *
  go_enter Tryd.func43, Tryd.ntmps43
  go_upto_region 1 with (refine wpList_allocY rfl _ rfl I2T rfl zI2 (zero_i2 _) ?_)
  generalize w.alloc (.cells zI2 I2T) = w1 at *
  go_wp2_with fail
  refine HW.out.mono ?_
  rintro e w2 ⟨rfl, hb⟩
  have HB2 := Lib.hid (HB.out.trans (hb.mono HB.out.size))
  have HZ2 := Lib.hid (HZ.out.low hb)
  clear hb
  go_wp2_with fail
  refine (HR.out 771 0 _ HB2.out).mono ?_
  rintro e w3 ⟨rfl, hb⟩
  have HB3 := Lib.hid (HB2.out.trans (hb.mono HB2.out.size))
  have HZ3 := Lib.hid (HZ2.out.low hb)
  clear hb HB HZ HB2 HZ2 HW HR
  generalize gt 771 0 = d at *
  have c0 := HZ3.out.cell 0
  have c1 := HZ3.out.cell 1
  have c2 := HZ3.out.cell 2
  have c3 := HZ3.out.cell 3
  have y0 := HZ3.out.frozen 0
  have y1 := HZ3.out.frozen 1
  have y2 := HZ3.out.frozen 2
  have y3 := HZ3.out.frozen 3
  simp only [List.getElem?_toArray, List.getElem?_cons_zero, List.getElem?_cons_succ] at c0 c1 c2 c3
  go_wp2_with fail
  refine bodyPost_ret (v := .agg #[.int .i64 3, .int .u64 (bits .andNot .u64 r d), .int .i64 1, .int .u64 (bits .and .u64 r d)]) (by simp [results, Tryd.results43, go_sem, c0, c1, c2, c3]) rfl ⟨by rw [HM.out, HS.out], ?_⟩
  exact (((HB3.out.setCell (by exact Nat.le_refl _) _).setCell (by exact Nat.le_refl _) _).setCell (by exact Nat.le_refl _) _).setCell (by exact Nat.le_refl _) _
theorem results_cbQ {F : Func} {x y : Tmp} (ty : TypeId) (hF : F.results = #[.cell x ty, .tmp y]) (tmps : Array Value) (w : World) (b : Nat) (cs : Array Value) (r : Value) (h2 : tmps.getD x undef = .pointer (some ⟨b, 0, none⟩)) (h3 : tmps.getD y undef = r)
    (hl : (loadVar ty ⟨b, 0, none⟩).run Tryd.prog w = .ok (.agg cs) w) : (results F tmps).run Tryd.prog w = .ok (.tuple #[.agg cs, r]) w := by
  have h2' : tmps[x]?.getD undef = .pointer (some ⟨b, 0, none⟩) := by simpa using h2
  have h3' : tmps[y]?.getD undef = r := by simpa using h3
  simp [results, hF, h2', h3', asAddr, hl]
/-- What stands while Next looks: its result's box. -/
structure NxS (w W : World) : Prop where
  z : CsAt W w.heap.size CaT #[.bool false, .int .i64 0]
  bel : Below w.heap.size w W
theorem NxS.low {w W W' : World} (h : NxS w W) (hb : Below W.heap.size W W') : NxS w W' := ⟨h.z.low hb, h.bel.trans (hb.mono h.bel.size)⟩
set_option maxHeartbeats 8000000 in
theorem inext_c (v : Value) (gt : Int → Int → Int) (h64 : W64s gt) (p l : Int) (hl : W64 l) (w : World) (hr : Reads v gt w) (hO : OrderIn w) : Calls Tryd.prog 17 #[v, .int .i64 p, .int .u64 l] w fun e w' => e = .returned (oI (nextG gt p l)) ∧ Below w.heap.size w w' := by
  have HR := Lib.hid hr
  have HO := Lib.hid hO
  have HS1 := Lib.hid (show NxS w (w.alloc (.cells #[.bool false, .int .i64 0] CaT)) from ⟨CsAt.new w CaT _, (Below.refl _ _).alloc (Nat.le_refl _) _⟩)
  have HRW := Lib.hid (fun W (hb : Below w.heap.size w W) => irows_c v gt l W (hr.low hb))
  have HL := Lib.hid (fun dst W => lets_c (gt 768 0) p dst (h64 768 0 ⟨by omega, by omega⟩) W)
  have HFM := Lib.hid (forM_64 h64 hl)
  have HFS := Lib.hid (forS_64 h64 hl)
  have HV := Lib.hid (show nextG gt p l = match rowO gt p l 0 with
    | some c => some c
    | none => rowO gt p l 1 from rfl)
  have HR0 := Lib.hid (show rowO gt p l 0 = if letsS (gt 768 0) p 3 then fstI (forM gt l) else none from rfl)
  have HR1 := Lib.hid (show rowO gt p l 1 = if letsS (gt 768 0) p 1 then fstI (forS gt l) else none from rfl)
  clear hr hO hl h64
  generalize nextG gt p l = nx at *
  generalize rowO gt p l 0 = r0 at *
  generalize rowO gt p l 1 = r1 at *
  generalize forM gt l = fm at *
  generalize forS gt l = fs at *
  go_enter Tryd.func17, Tryd.ntmps17
  go_upto_region 1 with (refine wpList_allocY rfl _ rfl CaT rfl #[.bool false, .int .i64 0] (zero_caI _) ?_)
  generalize w.alloc (.cells #[.bool false, .int .i64 0] CaT) = w1 at *
  go_wp2_with fail
  refine (HR.out 768 0 _ HS1.out.bel).mono ?_
  rintro e w2 ⟨rfl, hb⟩
  have HS2 := Lib.hid (HS1.out.low hb)
  clear hb
  generalize gt 768 0 = st at *
  go_wp2_with fail
  refine (HRW.out _ HS2.out.bel).mono ?_
  rintro e w3 ⟨rfl, hb⟩
  have HS3 := Lib.hid (HS2.out.low hb)
  clear hb HS1 HS2 HR HRW
  go_wp2_with fail
  go_loopw [18] (fun i wr => ∃ k : Nat, k ≤ 2 ∧ i = .int .i64 k ∧ (0 < k → r0 = none) ∧ (1 < k → r1 = none) ∧ NxS w wr) (fun i _ => 2 - (intOf i).toNat)
  case atStart => exact ⟨0, Nat.zero_le _, rfl, fun h => absurd h (by omega), fun h => absurd h (by omega), HS3.out⟩
  case round =>
    clear HS3
    obtain ⟨k, hk, rfl, hn0, hn1, hs⟩ := hrel
    have HS := Lib.hid hs
    have HN0 := Lib.hid hn0
    have HN1 := Lib.hid hn1
    clear hs hn0 hn1
    obtain rfl | rfl | rfl : k = 0 ∨ k = 1 ∨ k = 2 := by omega
    · have h2 : ((0 : Nat) : Int) < 2 := by decide
      have hix : (Instr.index I2T (.agg #[.int .i64 3, .int .u64 fm, .int .i64 1, .int .u64 fs]) (.int .i64 0)).run Tryd.prog wr = .ok (.agg #[.int .i64 3, .int .u64 fm]) wr := by kernel_rfl
      go_upto_region 5 with (first
        | (refine wpList_allocY rfl _ rfl IrT rfl zIr (zero_ir _) ?_)
        | (refine wpList_storeNew (w0 := wr) rfl IrT _ _ rfl zIr #[.int .i64 3, .int .u64 fm] IrT rfl rfl info_ir rfl rfl ?_))
      have hb4 : Below wr.heap.size wr (wr.alloc (.cells #[.int .i64 3, .int .u64 fm] IrT)) := (Below.refl _ _).alloc (Nat.le_refl _) _
      have HA := Lib.hid (CsAt.new wr IrT #[.int .i64 3, .int .u64 fm])
      have HS4 := Lib.hid (HS.out.low hb4)
      clear hb4 HS
      generalize wr.alloc (.cells #[.int .i64 3, .int .u64 fm] IrT) = w4 at *
      generalize wr.heap.size = ga at *
      have c0 := HA.out.cell 0
      simp only [List.getElem?_toArray, List.getElem?_cons_zero] at c0
      go_wp2_with fail
      refine (HL.out 3 _).mono ?_
      rintro e w5 ⟨rfl, hb⟩
      have HA5 := Lib.hid (HA.out.low hb)
      have HS5 := Lib.hid (HS4.out.low hb)
      clear hb HA HS4 c0
      cases hlt : letsS st p 3
      · have HN := Lib.hid (show r0 = none by rw [HR0.out, hlt]; rfl)
        clear hlt
        go_wp2_with fail
        go_roundw
        case rel => exact ⟨1, by omega, by go_num, fun _ => HN.out, fun h => absurd h (by omega), HS5.out⟩
        case measure => simp [intOf]
      · have HQ := Lib.hid (show r0 = fstI fm by rw [HR0.out, hlt]; rfl)
        clear hlt
        have c1 := HA5.out.cell 1
        simp only [List.getElem?_toArray, List.getElem?_cons_zero, List.getElem?_cons_succ] at c1
        go_wp2_with fail
        refine (kfirst_c fm HFM.out _ (HO.out.low HS5.out.bel)).mono ?_
        rintro e w6 ⟨rfl, hb⟩
        have HS6 := Lib.hid (HS5.out.low hb)
        clear hb HS5 HA5 c1
        unfold fI
        cases hf : fstI fm with
        | none =>
          have HN := Lib.hid (show r0 = none by rw [HQ.out, hf])
          clear hf HQ
          dsimp only [Option.isSome, Option.getD]
          go_upto_region 7 with (first
            | (refine wpList_allocY rfl _ rfl CaT rfl #[.bool false, .int .i64 0] (zero_caI _) ?_)
            | (refine wpList_storeNew (w0 := w6) rfl CaT _ _ rfl #[.bool false, .int .i64 0] #[.bool false, .int .i64 (0 : Nat)] CaT rfl rfl info_caI rfl rfl ?_))
          have hb7 : Below w6.heap.size w6 (w6.alloc (.cells #[.bool false, .int .i64 (0 : Nat)] CaT)) := (Below.refl _ _).alloc (Nat.le_refl _) _
          have HS7 := Lib.hid (HS6.out.low hb7)
          clear hb7 HS6
          generalize w6.alloc (.cells #[.bool false, .int .i64 (0 : Nat)] CaT) = w7 at *
          go_wp2_with fail
          go_roundw
          case rel => exact ⟨1, by omega, by go_num, fun _ => HN.out, fun h => absurd h (by omega), HS7.out⟩
          case measure => simp [intOf]
        | some c =>
          have HX := Lib.hid (show nx = some c by rw [HV.out, HQ.out, hf])
          clear hf HQ
          dsimp only [Option.isSome, Option.getD]
          go_upto_region 7 with (first
            | (refine wpList_allocY rfl _ rfl CaT rfl #[.bool false, .int .i64 0] (zero_caI _) ?_)
            | (refine wpList_storeNew (w0 := w6) rfl CaT _ _ rfl #[.bool false, .int .i64 0] #[.bool true, .int .i64 (c : Nat)] CaT rfl rfl info_caI rfl rfl ?_))
          have hb7 : Below w6.heap.size w6 (w6.alloc (.cells #[.bool true, .int .i64 (c : Nat)] CaT)) := (Below.refl _ _).alloc (Nat.le_refl _) _
          have HS7 := Lib.hid (HS6.out.low hb7)
          have HC7 := Lib.hid (CsAt.new w6 CaT #[.bool true, .int .i64 (c : Nat)])
          clear hb7 HS6
          generalize w6.alloc (.cells #[.bool true, .int .i64 (c : Nat)] CaT) = w7 at *
          generalize w6.heap.size = gc at *
          have z0 := HS7.out.z.cell 0
          have z1 := HS7.out.z.cell 1
          have y0 := HS7.out.z.frozen 0
          have y1 := HS7.out.z.frozen 1
          simp only [List.getElem?_toArray, List.getElem?_cons_zero, List.getElem?_cons_succ] at z0 z1
          go_wp2_with (refine wpList_load_row rfl CaT _ rfl gc rfl CaT _ (0, 0) _ HC7.out Tryd.underlying24 rfl info_caI ?_)
          refine bodyPost_ret (v := .tuple #[.agg #[.bool true, .int .i64 (c : Nat)], .bool true]) (by simp [results, Tryd.results17, go_sem, z0, z1]) rfl ⟨by rw [HX.out]; rfl, ?_⟩
          exact ((HS7.out.bel.setCell (by exact Nat.le_refl _) _).setCell (by exact Nat.le_refl _) _)
    · have h2 : ((1 : Nat) : Int) < 2 := by decide
      have hix : (Instr.index I2T (.agg #[.int .i64 3, .int .u64 fm, .int .i64 1, .int .u64 fs]) (.int .i64 1)).run Tryd.prog wr = .ok (.agg #[.int .i64 1, .int .u64 fs]) wr := by kernel_rfl
      go_upto_region 5 with (first
        | (refine wpList_allocY rfl _ rfl IrT rfl zIr (zero_ir _) ?_)
        | (refine wpList_storeNew (w0 := wr) rfl IrT _ _ rfl zIr #[.int .i64 1, .int .u64 fs] IrT rfl rfl info_ir rfl rfl ?_))
      have hb4 : Below wr.heap.size wr (wr.alloc (.cells #[.int .i64 1, .int .u64 fs] IrT)) := (Below.refl _ _).alloc (Nat.le_refl _) _
      have HA := Lib.hid (CsAt.new wr IrT #[.int .i64 1, .int .u64 fs])
      have HS4 := Lib.hid (HS.out.low hb4)
      clear hb4 HS
      generalize wr.alloc (.cells #[.int .i64 1, .int .u64 fs] IrT) = w4 at *
      generalize wr.heap.size = ga at *
      have c0 := HA.out.cell 0
      simp only [List.getElem?_toArray, List.getElem?_cons_zero] at c0
      go_wp2_with fail
      refine (HL.out 1 _).mono ?_
      rintro e w5 ⟨rfl, hb⟩
      have HA5 := Lib.hid (HA.out.low hb)
      have HS5 := Lib.hid (HS4.out.low hb)
      clear hb HA HS4 c0
      cases hlt : letsS st p 1
      · have HN := Lib.hid (show r1 = none by rw [HR1.out, hlt]; rfl)
        clear hlt
        go_wp2_with fail
        go_roundw
        case rel => exact ⟨2, by omega, by go_num, fun _ => HN0.out (by omega), fun _ => HN.out, HS5.out⟩
        case measure => simp [intOf]
      · have HQ := Lib.hid (show r1 = fstI fs by rw [HR1.out, hlt]; rfl)
        clear hlt
        have c1 := HA5.out.cell 1
        simp only [List.getElem?_toArray, List.getElem?_cons_zero, List.getElem?_cons_succ] at c1
        go_wp2_with fail
        refine (kfirst_c fs HFS.out _ (HO.out.low HS5.out.bel)).mono ?_
        rintro e w6 ⟨rfl, hb⟩
        have HS6 := Lib.hid (HS5.out.low hb)
        clear hb HS5 HA5 c1
        unfold fI
        cases hf : fstI fs with
        | none =>
          have HN := Lib.hid (show r1 = none by rw [HQ.out, hf])
          clear hf HQ
          dsimp only [Option.isSome, Option.getD]
          go_upto_region 7 with (first
            | (refine wpList_allocY rfl _ rfl CaT rfl #[.bool false, .int .i64 0] (zero_caI _) ?_)
            | (refine wpList_storeNew (w0 := w6) rfl CaT _ _ rfl #[.bool false, .int .i64 0] #[.bool false, .int .i64 (0 : Nat)] CaT rfl rfl info_caI rfl rfl ?_))
          have hb7 : Below w6.heap.size w6 (w6.alloc (.cells #[.bool false, .int .i64 (0 : Nat)] CaT)) := (Below.refl _ _).alloc (Nat.le_refl _) _
          have HS7 := Lib.hid (HS6.out.low hb7)
          clear hb7 HS6
          generalize w6.alloc (.cells #[.bool false, .int .i64 (0 : Nat)] CaT) = w7 at *
          go_wp2_with fail
          go_roundw
          case rel => exact ⟨2, by omega, by go_num, fun _ => HN0.out (by omega), fun _ => HN.out, HS7.out⟩
          case measure => simp [intOf]
        | some c =>
          have HX := Lib.hid (show nx = some c by rw [HV.out, HN0.out (by omega), HQ.out, hf])
          clear hf HQ
          dsimp only [Option.isSome, Option.getD]
          go_upto_region 7 with (first
            | (refine wpList_allocY rfl _ rfl CaT rfl #[.bool false, .int .i64 0] (zero_caI _) ?_)
            | (refine wpList_storeNew (w0 := w6) rfl CaT _ _ rfl #[.bool false, .int .i64 0] #[.bool true, .int .i64 (c : Nat)] CaT rfl rfl info_caI rfl rfl ?_))
          have hb7 : Below w6.heap.size w6 (w6.alloc (.cells #[.bool true, .int .i64 (c : Nat)] CaT)) := (Below.refl _ _).alloc (Nat.le_refl _) _
          have HS7 := Lib.hid (HS6.out.low hb7)
          have HC7 := Lib.hid (CsAt.new w6 CaT #[.bool true, .int .i64 (c : Nat)])
          clear hb7 HS6
          generalize w6.alloc (.cells #[.bool true, .int .i64 (c : Nat)] CaT) = w7 at *
          generalize w6.heap.size = gc at *
          have z0 := HS7.out.z.cell 0
          have z1 := HS7.out.z.cell 1
          have y0 := HS7.out.z.frozen 0
          have y1 := HS7.out.z.frozen 1
          simp only [List.getElem?_toArray, List.getElem?_cons_zero, List.getElem?_cons_succ] at z0 z1
          go_wp2_with (refine wpList_load_row rfl CaT _ rfl gc rfl CaT _ (0, 0) _ HC7.out Tryd.underlying24 rfl info_caI ?_)
          refine bodyPost_ret (v := .tuple #[.agg #[.bool true, .int .i64 (c : Nat)], .bool true]) (by simp [results, Tryd.results17, go_sem, z0, z1]) rfl ⟨by rw [HX.out]; rfl, ?_⟩
          exact ((HS7.out.bel.setCell (by exact Nat.le_refl _) _).setCell (by exact Nat.le_refl _) _)
    · have h2 : ((2 : Nat) : Int) < 2 ↔ False := by simp
      have z0 := HS.out.z.cell 0
      have z1 := HS.out.z.cell 1
      have y0 := HS.out.z.frozen 0
      have y1 := HS.out.z.frozen 1
      simp only [List.getElem?_toArray, List.getElem?_cons_zero, List.getElem?_cons_succ] at z0 z1
      have HX := Lib.hid (show nx = none by rw [HV.out, HN0.out (by omega), HN1.out (by omega)])
      go_wp2_with fail
      refine bodyPost_ret (v := .tuple #[.agg #[.bool false, .int .i64 0], .bool false]) (by simp [results, Tryd.results17, go_sem, z0, z1]) rfl ⟨by rw [HX.out]; rfl, ?_⟩
      exact ((HS.out.bel.setCell (by exact Nat.le_refl _) _).setCell (by exact Nat.le_refl _) _)
end Go.Proofs.YtkbgmppbkllnmaaDoor
set_option maxRecDepth 20000
namespace Go.Proofs.YtkbgmppbkllnmaaDoor
open Go.ChangeShapes Go.WideShapes Go.ChangeAt Go.RowKit Wd Cau

def nmsI : List (List UInt8) := [[109, 97, 99, 104, 105, 110, 101, 45, 111, 117, 116, 101, 114], [109, 97, 99, 104, 105, 110, 101, 45, 115, 111, 102, 116], [109, 97, 99, 104, 105, 110, 101, 45, 116, 105, 109, 101], [115, 117, 112, 101, 114, 45, 111, 117, 116, 101, 114], [115, 117, 112, 101, 114, 45, 115, 111, 102, 116], [115, 117, 112, 101, 114, 45, 116, 105, 109, 101]]
abbrev nsCells : Array Value := (nmsI.map fun l => Value.string (kB l)).toArray
theorem info_str1 : (Tryd.prog.info? 9).map (fun i => (i.zero, i.size, i.bytes)) = some (some (.string ⟨#[]⟩), 1, 16) := by kernel_rfl
theorem nms_at : ∀ k : Fin 6, kCV (fstK (isNamK (kB (nmsI.getD k.val [])))) = .tuple #[.agg #[.bool true, .int .i64 (ordK.getD k.val 0 : Nat)], .bool true] := by
  intro k
  obtain ⟨k, hk⟩ := k
  obtain rfl | rfl | rfl | rfl | rfl | rfl : k = 0 ∨ k = 1 ∨ k = 2 ∨ k = 3 ∨ k = 4 ∨ k = 5 := by omega
  all_goals kernel_rfl
/-- What stands while the reference looks for the first one: its result, the list of names. -/
structure NsS (w W : World) : Prop where
  r : CsAt W w.heap.size RcT zCa
  n : CsAt W (w.heap.size + 1) 9 nsCells
  bel : Below w.heap.size w W
theorem NsS.low {w W W' : World} (h : NsS w W) (hb : Below W.heap.size W W') : NsS w W' := ⟨h.r.low hb, h.n.low hb, h.bel.trans (hb.mono h.bel.size)⟩
theorem NsS.new (w : World) : NsS w ((w.alloc (.cells zCa RcT)).alloc (.cells nsCells 9)) := by
  refine ⟨(CsAt.new w RcT zCa).alloc _, ?_, ((Below.refl _ _).alloc (Nat.le_refl _) _).alloc (by simp) _⟩
  have := CsAt.new (w.alloc (.cells zCa RcT)) 9 nsCells
  simpa using this
theorem NsS.name {w W : World} (h : NsS w W) {k : Nat} (hk : k < 6) : W.cell? ⟨w.heap.size + 1, k, none⟩ = some (.string (kB (nmsI.getD k []))) := by
  rw [h.n.cell k]
  obtain rfl | rfl | rfl | rfl | rfl | rfl : k = 0 ∨ k = 1 ∨ k = 2 ∨ k = 3 ∨ k = 4 ∨ k = 5 := by omega
  all_goals rfl
set_option maxHeartbeats 4000000 in
theorem krfirst_c (x : Int) (hx : 0 ≤ x ∧ x < 18446744073709551616) (w : World) : Calls Tryd.prog 47 #[.int .u64 x] w fun e w' => e = .returned (fI x) ∧ Below w.heap.size w w' := by
  have HX := Lib.hid hx
  have HF := Lib.hid (fun s W => krfind_c s W)
  clear hx
  go_enter Tryd.func47, Tryd.ntmps47
  obtain ⟨i0, hi, hz0, hz1, hz2⟩ := info_parts info_str1
  go_wp2_with (with_reducible refine Go.wpList_buildSlice rfl 140 9 6 _ rfl nsCells i0 (.string ⟨#[]⟩) Tryd.underlying140 hi hz0 (by rw [hz1]; decide) (by rw [hz1]; decide) (by rw [hz1]; kernel_rfl) ?_)
  have HS0 := Lib.hid (NsS.new w)
  generalize ((w.alloc (.cells zCa RcT)).alloc (.cells nsCells 9)) = w1 at *
  clear hi hz0 hz1 hz2
  go_loopw [5] (fun iv wr => ∃ k : Nat, k ≤ 6 ∧ iv = .int .i64 k ∧ (∀ j, j < k → tb x (ordK.getD j 0) = false) ∧ NsS w wr) (fun iv _ => 6 - (intOf iv).toNat)
  case atStart => exact ⟨0, Nat.zero_le _, rfl, fun i h => by omega, HS0.out⟩
  case round =>
    obtain ⟨k, hk, rfl, hn, hS⟩ := hrel
    have HN' := Lib.hid hn
    have HS := Lib.hid hS
    clear hn hS HS0
    by_cases hlt : k < 6
    · have c0 := HS.out.name hlt
      have hl2 : (k : Int) < 6 := by omega
      have hq : ordK.getD k 0 < 64 := (by decide : ∀ k : Fin 6, ordK.getD k.val 0 < 64) ⟨k, hlt⟩
      have HC := Lib.hid (HF.out (kB (nmsI.getD k [])))
      rw [nms_at ⟨k, hlt⟩] at HC
      have HBt := Lib.hid (fun W => bit_c x (ordK.getD k 0 : Nat) W HX.out.1 HX.out.2)
      rw [tbI_nat x _ hq] at HBt
      dsimp only at HC
      generalize kB (nmsI.getD k []) = s at *
      have HH := Lib.hid (fun h => ifst_hit (w := x) hlt HN'.out h)
      cases ht : tb x (ordK.getD k 0)
      · rw [ht] at HBt
        have HT := Lib.hid ht
        clear ht HH hq
        generalize hqk : ordK.getD k 0 = q at *
        have HQ := Lib.hid hqk
        clear hqk
        go_wp2_with fail
        refine (HC.out _).mono ?_
        rintro e w2 ⟨rfl, hb⟩
        have HS2 := Lib.hid (HS.out.low hb)
        clear hb c0 HS
        go_wp2_with fail
        have HS3 := Lib.hid (HS2.out.low ((Below.refl w2.heap.size w2).alloc (Nat.le_refl _) (.cells #[.bool true, .int .i64 (q : Nat)] RcT)))
        refine (HBt.out _).mono ?_
        rintro e w3 ⟨rfl, rfl⟩
        go_wp2_with fail
        go_roundw
        case rel => exact ⟨k + 1, by omega, by go_num, fun i hi => if e : i = k then by rw [e, HQ.out]; exact HT.out else HN'.out i (by omega), HS3.out⟩
        case measure => simp [intOf]; omega
      · rw [ht] at HBt
        have HF := Lib.hid (HH.out ht)
        clear ht HH hq
        generalize ordK.getD k 0 = q at *
        go_wp2_with fail
        refine (HC.out _).mono ?_
        rintro e w2 ⟨rfl, hb⟩
        have HS2 := Lib.hid (HS.out.low hb)
        clear hb c0 HS
        go_wp2_with fail
        have HS3 := Lib.hid (HS2.out.low ((Below.refl w2.heap.size w2).alloc (Nat.le_refl _) (.cells #[.bool true, .int .i64 (q : Nat)] RcT)))
        have h5 := CsAt.new w2 RcT #[.bool true, .int .i64 (q : Nat)]
        generalize (w2.alloc (.cells #[.bool true, .int .i64 (q : Nat)] RcT)) = w3 at *
        refine (HBt.out _).mono ?_
        rintro e w4 ⟨rfl, rfl⟩
        have x0 := h5.cell 0
        have x1 := h5.cell 1
        have z0 := HS3.out.r.cell 0
        have z1 := HS3.out.r.cell 1
        have y0 := HS3.out.r.frozen 0
        have y1 := HS3.out.r.frozen 1
        simp only [List.getElem?_toArray, List.getElem?_cons_zero, List.getElem?_cons_succ] at z0 z1 x0 x1
        clear h5
        go_wp2_with fail
        refine bodyPost_ret (v := .tuple #[.agg #[.bool true, .int .i64 q], .bool true]) (by simp [results, Tryd.results47, go_sem, z0, z1]) rfl ⟨by unfold fI; rw [HF.out]; rfl, ?_⟩
        exact ((HS3.out.bel.setCell (by exact Nat.le_refl _) _).setCell (by exact Nat.le_refl _) _)
    · obtain rfl : k = 6 := by omega
      have HF := Lib.hid (ifst_none HN'.out)
      have z0 := HS.out.r.cell 0
      have z1 := HS.out.r.cell 1
      have y0 := HS.out.r.frozen 0
      have y1 := HS.out.r.frozen 1
      simp only [List.getElem?_toArray, List.getElem?_cons_zero, List.getElem?_cons_succ] at z0 z1
      go_wp2_with fail
      refine bodyPost_ret (v := .tuple #[.agg zCa, .bool false]) (by simp [results, Tryd.results47, go_sem, z0, z1]) rfl ⟨by unfold fI; rw [HF.out]; rfl, ?_⟩
      exact ((HS.out.bel.setCell (by exact Nat.le_refl _) _).setCell (by exact Nat.le_refl _) _)
theorem bt2730 {i : Nat} (hi : i < 64) : tb 2730 i = (i == 11 || i == 3 || i == 7 || i == 9 || i == 1 || i == 5) := (by decide +kernel : ∀ i : Fin 64, tb 2730 i.val = (i.val == 11 || i.val == 3 || i.val == 7 || i.val == 9 || i.val == 1 || i.val == 5)) ⟨i, hi⟩
theorem fst_none_iff {x : Int} (hx : 0 ≤ x ∧ x < 18446744073709551616) : (bits .and .u64 x 2730 != 0) = (fstI x).isSome := by
  have hr := and_range hx.1 hx.2 (y := 2730) (by omega) (by omega)
  have hbit : ∀ i, i < 64 → tb (bits .and .u64 x 2730) i = (tb x i && tb 2730 i) := fun i _ => tb_and hx.1 hx.2 (by omega) (by omega) i
  cases h : fstI x with
  | none =>
    have hb : ∀ k ∈ ordK, tb x k = false := by
      unfold fstI at h
      rw [List.find?_eq_none] at h
      intro k hk
      simpa using h k hk
    have hz : bits .and .u64 x 2730 = 0 := by
      apply ext hr.1 hr.2 (by omega) (by omega)
      intro i hi
      rw [hbit i hi, bt2730 hi, tb_zero]
      rcases hd : (i == 11 || i == 3 || i == 7 || i == 9 || i == 1 || i == 5) with _ | _
      · simp
      · have hm : i ∈ ordK := by
          simp at hd
          simp [ordK]; omega
        simp [hb i hm]
    rw [hz]; rfl
  | some c =>
    have hm := List.mem_of_find?_eq_some h
    have ht : tb x c = true := List.find?_some h
    have hc : c < 64 := (by decide : ∀ k ∈ ordK, k < 64) c hm
    have h27 : tb 2730 c = true := (by decide +kernel : ∀ k ∈ ordK, tb 2730 k = true) c hm
    have := hbit c hc
    rw [ht, h27] at this
    simp only [Option.isSome_some, bne_iff_ne, ne_eq]
    intro h0
    rw [h0, tb_zero] at this
    cases this
/-- A bit alone. -/
theorem tb_one {c i : Nat} : tb ((2 : Int) ^ c) i = decide (i = c) := by
  unfold tb
  rw [toNat_pow, Nat.testBit_two_pow]
  exact decide_eq_decide.2 eq_comm
theorem one_range {c : Nat} (h : c < 64) : 0 ≤ (2 : Int) ^ c ∧ (2 : Int) ^ c < 18446744073709551616 := by
  have := pow_le (k := c) (by omega)
  omega
theorem find_mem {x : Int} {c : Nat} (h : fstI x = some c) : c ∈ ordK ∧ tb x c = true := ⟨List.mem_of_find?_eq_some h, List.find?_some h⟩
theorem ord_64 {c : Nat} (h : c ∈ ordK) : c < 64 := (by decide : ∀ k ∈ ordK, k < 64) c h
/-- The first one, taken away; what is then first; both alone. -/
theorem fst_again {x : Int} (hx : 0 ≤ x ∧ x < 18446744073709551616) {c d : Nat} (h : fstI x = some c) (h2 : fstI (bits .andNot .u64 x (2 ^ c)) = some d) : fstI (bits .or .u64 (2 ^ c) (2 ^ d)) = some c := by
  have hc := find_mem h
  have hd := find_mem h2
  have c6 := ord_64 hc.1
  have d6 := ord_64 hd.1
  have e1 := one_range c6
  have e2 := one_range d6
  have hx2 : ∀ i, i < 64 → tb (bits .andNot .u64 x (2 ^ c)) i = (tb x i && !decide (i = c)) := fun i _ => by rw [tb_andNot hx.1 hx.2 e1.1 e1.2, tb_one]
  have ho : ∀ i, i < 64 → tb (bits .or .u64 (2 ^ c) (2 ^ d)) i = (decide (i = c) || decide (i = d)) := fun i _ => by rw [tb_or e1.1 e1.2 e2.1 e2.2, tb_one, tb_one]
  have hdx := hd.2
  rw [hx2 d d6] at hdx
  rw [ifst_bits] at h ⊢
  rw [ho 11 (by omega), ho 3 (by omega), ho 7 (by omega), ho 9 (by omega), ho 1 (by omega), ho 5 (by omega)]
  have hm := hc.1
  have hm2 := hd.1
  simp only [ordK, List.mem_cons, List.not_mem_nil, or_false] at hm hm2
  clear hx2 ho hx h2 hc hd
  rcases hm with rfl | rfl | rfl | rfl | rfl | rfl <;> rcases hm2 with rfl | rfl | rfl | rfl | rfl | rfl <;> simp_all
  all_goals
    revert h
    cases tb x 11 <;> cases tb x 3 <;> cases tb x 7 <;> cases tb x 9 <;> cases tb x 1 <;> simp
theorem ne_self (b : Bool) {n : Int} (hn : I64 n) (W : World) : (binOp .neq RcT (.agg #[.bool b, .int .i64 n]) (.agg #[.bool b, .int .i64 n])).run Tryd.prog W = .ok (.bool false) W := by
  rw [neq_rc b b hn hn W]; simp
theorem eq_self (b : Bool) {n : Int} (hn : I64 n) (W : World) : (binOp .eql CaT (.agg #[.bool b, .int .i64 n]) (.agg #[.bool b, .int .i64 n])).run Tryd.prog W = .ok (.bool true) W := by
  rw [eql_ca b b hn hn W]; simp
end Go.Proofs.YtkbgmppbkllnmaaDoor
set_option maxRecDepth 20000
namespace Go.Proofs.YtkbgmppbkllnmaaDoor
open Go.ChangeShapes Go.WideShapes Go.ChangeAt Go.RowKit Wd Csr Sta Cf Cau

/-- The bits that two words have, and a third one has so. -/
def shF (a b c : Int) (q : Bool) (i : Nat) : Bool := (tb a i && tb b i) && (tb c i == q)
def shS (a b c : Int) (q : Bool) : Int := (sumTo (shF a b c q) 64 : Nat)
theorem sh_no {a b c : Int} (ha : W64 a) (hb : W64 b) (hc : W64 c) : shS a b c false = bits .andNot .u64 (bits .and .u64 a b) c := by
  have r := and_64 ha hb
  have r2 := andNot_range r.1 r.2 hc.1 hc.2
  refine (eq_word r2.1 r2.2 (fun i _ => ?_)).symm
  rw [tb_andNot r.1 r.2 hc.1 hc.2, tb_and ha.1 ha.2 hb.1 hb.2]
  unfold shF
  cases tb c i <;> rfl
theorem sh_yes {a b c : Int} (ha : W64 a) (hb : W64 b) (hc : W64 c) : shS a b c true = bits .and .u64 (bits .and .u64 a b) c := by
  have r := and_64 ha hb
  have r2 := and_64 r hc
  refine (eq_word r2.1 r2.2 (fun i _ => ?_)).symm
  rw [tb_and r.1 r.2 hc.1 hc.2, tb_and ha.1 ha.2 hb.1 hb.2]
  unfold shF
  cases tb c i <;> rfl
theorem andNot_0 {a : Int} (ha : W64 a) : bits .andNot .u64 a 0 = a := by
  have r := andNot_range ha.1 ha.2 (y := 0) (by omega) (by omega)
  apply Wd.ext r.1 r.2 ha.1 ha.2
  intro i _
  rw [tb_andNot ha.1 ha.2 (by omega) (by omega), tb_zero]
  simp
set_option maxHeartbeats 4000000 in
theorem rshare_c (a b c : Int) (q : Bool) (ha : W64 a) (hb : W64 b) (hc : W64 c) (w : World) :
    Calls Tryd.prog 48 #[.int .u64 a, .int .u64 b, .int .u64 c, .int .u64 (bi q)] w fun e w' => e = .returned (.int .u64 (shS a b c q)) ∧ Below w.heap.size w w' := by
  obtain ⟨i0, hi, hz0, hz1, hz2⟩ := info_parts info_u64
  obtain ⟨f, hf⟩ : ∃ f : Nat → Bool, f = shF a b c q := ⟨_, rfl⟩
  have HF := Lib.hid hf
  have HS := Lib.hid (show shS a b c q = ((sumTo f 64 : Nat) : Int) by rw [hf]; rfl)
  have HAA := Lib.hid ha
  have HBB := Lib.hid hb
  have HCC := Lib.hid hc
  clear hf ha hb hc
  obtain ⟨qv, hqv⟩ : ∃ x, bi q = x := ⟨_, rfl⟩
  have HQ := Lib.hid hqv
  rw [hqv]
  clear hqv
  go_enter Tryd.func48, Tryd.ntmps48
  go_wp2_with fail
  go_loopw [9, 10] (fun l i wr => ∃ k : Nat, k ≤ 64 ∧ i = .int .i64 k ∧ wr.ownsRow w.heap.size 25 1 l k (bl f k) ∧ Below w.heap.size w wr) (fun _ i _ => 64 - (intOf i).toNat)
  case atStart => exact ⟨0, Nat.zero_le _, rfl, World.ownsRow_nil _ _ _ _, Below.refl _ _⟩
  case round =>
    obtain ⟨k, hk, rfl, hown, hnx⟩ := hrel
    have hsz := hnx.size
    have HW := Lib.hid hown
    have HNX := Lib.hid hnx
    clear hown hnx
    by_cases hlt : k < 64
    · have hd1 : decide ((k : Int) < 64) = true := decide_eq_true (by omega)
      have HBk := Lib.hid (show ((tbI a k && tbI b k) && (tbI c k == q)) = f k by rw [HF.out, tbI_nat a k hlt, tbI_nat b k hlt, tbI_nat c k hlt]; rfl)
      have HB1 := Lib.hid (fun W => bit_c a k W HAA.out.1 HAA.out.2)
      have HB2 := Lib.hid (fun W => bit_c b k W HBB.out.1 HBB.out.2)
      have HB3 := Lib.hid (fun W => bit_c c k W HCC.out.1 HCC.out.2)
      generalize tbI a k = x at *
      generalize tbI b k = y at *
      generalize tbI c k = z at *
      have HM := Lib.hid (show IntKind.u64.wrap (bi x * bi y) = bi (x && y) by cases x <;> cases y <;> decide)
      have hcz : (bi z != qv) = !(z == q) := by rw [← HQ.out]; cases z <;> cases q <;> decide
      generalize bi z = zv at *
      cases hzq : (z == q)
      · rw [hzq] at hcz HBk
        clear hzq
        have HBf := Lib.hid (show false = f k by rw [← HBk.out, Bool.and_false])
        clear HBk
        go_wp2_with fail
        refine (HB1.out _).mono ?_
        rintro e w2 ⟨rfl, rfl⟩
        go_wp2_with fail
        refine (HB2.out _).mono ?_
        rintro e w2 ⟨rfl, rfl⟩
        go_wp2_with fail
        refine (HB3.out _).mono ?_
        rintro e w2 ⟨rfl, rfl⟩
        go_wp2_with (at_builtin; refine wpList_append_own _ rfl _ _ 142 rfl w.heap.size 25 i0 (.int .u64 0) 1 8 Tryd.underlying142 hi hz0 hz1 hz2 rfl (by decide) _ _ _ rfl (HW.out.alloc _) ⟨wr.heap.size, 0, none⟩ 1 1 [.int .u64 (bi false)] rfl rfl news_one (one_cell _) (by unfold maxLen; omega) (by omega) (by simp; omega) ?_; intro v' w3 hown' hgrow _)
        have R := rel_app hsz HBf.out HW.out hown' hgrow HNX.out
        go_roundw
        case rel => exact ⟨k + 1, by omega, by go_num, R.1, R.2⟩
        case measure => simp [intOf]; omega
      · rw [hzq] at hcz HBk
        clear hzq
        have HBf := Lib.hid (show (x && y) = f k by rw [← HBk.out, Bool.and_true])
        clear HBk
        go_wp2_with fail
        refine (HB1.out _).mono ?_
        rintro e w2 ⟨rfl, rfl⟩
        go_wp2_with fail
        refine (HB2.out _).mono ?_
        rintro e w2 ⟨rfl, rfl⟩
        go_wp2_with fail
        refine (HB3.out _).mono ?_
        rintro e w2 ⟨rfl, rfl⟩
        go_wp2_with (at_builtin; rw [HM.out]; refine wpList_append_own _ rfl _ _ 142 rfl w.heap.size 25 i0 (.int .u64 0) 1 8 Tryd.underlying142 hi hz0 hz1 hz2 rfl (by decide) _ _ _ rfl (HW.out.alloc _) ⟨wr.heap.size, 0, none⟩ 1 1 [.int .u64 (bi (x && y))] rfl rfl news_one (one_cell _) (by unfold maxLen; omega) (by omega) (by simp; omega) ?_; intro v' w3 hown' hgrow _)
        have R := rel_app hsz HBf.out HW.out hown' hgrow HNX.out
        go_roundw
        case rel => exact ⟨k + 1, by omega, by go_num, R.1, R.2⟩
        case measure => simp [intOf]; omega
    · obtain rfl : k = 64 := by omega
      have HOF := Lib.hid (of_c f 64 _ w.heap.size _ (by omega) (by omega) HW.out)
      rw [← HS.out] at HOF
      generalize hz : shS a b c q = z at *
      have HZZ := Lib.hid hz
      clear hsz hz
      go_wp2_with fail
      refine HOF.out.mono ?_
      rintro e w3 ⟨rfl, rfl⟩
      go_wp2_with fail
      go_ret
      exact ⟨by rw [HZZ.out]; rfl, HNX.out⟩
set_option maxHeartbeats 2000000 in
theorem rwait_c (s : S) (ok : Ok s) (l : Int) (hl : W64 l) (w : World) : Calls Tryd.prog 22 #[.agg (refV s), .int .u64 l] w fun e w' => e = .returned (.int .u64 (waitG (getS s) l)) ∧ Below w.heap.size w w' := by
  have HS1 := Lib.hid (show RgS w (w.alloc (.cells (refV s) RfT)) s from ⟨CsAt.new w RfT _, (Below.refl _ _).alloc (Nat.le_refl _) _⟩)
  have HG := Lib.hid (fun W => rget22_c s ok 836 l hl W)
  have HI := Lib.hid (fun W => rword_c s ⟨#[109, 105, 101]⟩ 14 (by decide) nc_mie W)
  rw [show ((((rowC 14).1 : Nat) : Int)) = 772 from rfl] at HI
  have h1 := get_64 ok 836 hl
  have h2 := ok.w 772
  have hz : W64 0 := ⟨by omega, by omega⟩
  have HH := Lib.hid (fun W => rshare_c (getS s 836 l) (s.f 772) 0 false h1 h2 hz W)
  rw [sh_no h1 h2 hz, andNot_0 (and_64 h1 h2), show bi false = 0 from rfl, show bits .and .u64 (getS s 836 l) (s.f 772) = waitG (getS s) l from rfl] at HH
  clear h1 h2 hz ok hl
  generalize waitG (getS s) l = r at *
  generalize getS s 836 l = mp at *
  generalize s.f 772 = me at *
  go_enter Tryd.func22, Tryd.ntmps22
  go_upto_region 1 with fail
  generalize w.alloc (.cells (refV s) RfT) = w1 at *
  refine wp_region_steady (fun W => RgS w W s) (by kernel_rfl) (by kernel_rfl) HS1.out.drew ?_
  refine steady_val (.agg (refV s)) ?_ (by kernel_rfl) (fun W hS => exec_load_row RfT _ rfl w.heap.size rfl RfT _ _ hS.r Tryd.underlying38 rfl (iRf _)) ?_ ?_
  rotate_left 1
  · go_simp
    exact rfl
  refine steady_val ?_ ?_ (by kernel_rfl) (fun W hS => ?_) ?_ ?_
  rotate_left 2
  · go_simp
    exact rfl
  · go_simp
    exact rfl
  refine steady_enter (.int .u64 mp) 41 #[.agg (refV s), .int .i64 836, .int .u64 l] ?_ (by kernel_rfl) (fun W hS => ?_) (fun W hS => (HG.out W).mono (by rintro e w' ⟨rfl, hb⟩; exact ⟨rfl, hS.low hb⟩)) ?_ ?_
  rotate_left 1
  · go_simp
  · go_simp
    exact rfl
  refine steady_val (.agg (refV s)) ?_ (by kernel_rfl) (fun W hS => exec_load_row RfT _ rfl w.heap.size rfl RfT _ _ hS.r Tryd.underlying38 rfl (iRf _)) ?_ ?_
  rotate_left 1
  · go_simp
    exact rfl
  refine steady_enter (.int .u64 me) 35 #[.agg (refV s), .string ⟨#[109, 105, 101]⟩] ?_ (by kernel_rfl) (fun W hS => ?_) (fun W hS => (HI.out W).mono (by rintro e w' ⟨rfl, hb⟩; exact ⟨rfl, hS.low hb⟩)) ?_ ?_
  rotate_left 1
  · go_simp
  · go_simp
    exact rfl
  refine steady_enter (.int .u64 r) 48 #[.int .u64 mp, .int .u64 me, .int .u64 0, .int .u64 0] ?_ (by kernel_rfl) (fun W hS => ?_) (fun W hS => (HH.out W).mono (by rintro e w' ⟨rfl, hb⟩; exact ⟨rfl, hS.low hb⟩)) ?_ ?_
  rotate_left 1
  · go_simp
  · go_simp
    exact rfl
  refine steady_val ?_ ?_ (by kernel_rfl) (fun W hS => ?_) ?_ ?_
  rotate_left 2
  · go_simp
    exact rfl
  · go_simp
    exact rfl
  refine steady_nil ?_
  intro W hS
  have HS2 := Lib.hid hS
  clear hS
  go_wp2_with fail
  go_ret
  exact ⟨rfl, HS2.out.bel⟩
/-- What stands while the reference looks: its file in a box, its result. -/
structure RxS (w W : World) (s : S) : Prop where
  r : CsAt W w.heap.size RfT (refV s)
  z : CsAt W (w.heap.size + 1) RcT #[.bool false, .int .i64 0]
  bel : Below w.heap.size w W
theorem RxS.low {w W W' : World} {s : S} (h : RxS w W s) (hb : Below W.heap.size W W') : RxS w W' s := ⟨h.r.low hb, h.z.low hb, h.bel.trans (hb.mono h.bel.size)⟩
theorem RxS.drew {w W : World} {s : S} (h : RxS w W s) : RxS w W.drew s := ⟨h.r, h.z, h.bel.drew⟩
theorem RxS.new (w : World) (s : S) : RxS w ((w.alloc (.cells (refV s) RfT)).alloc (.cells #[.bool false, .int .i64 0] RcT)) s := by
  refine ⟨(CsAt.new w RfT _).alloc _, ?_, ((Below.refl _ _).alloc (Nat.le_refl _) _).alloc (by rw [World.size_alloc]; omega) _⟩
  have := CsAt.new (w.alloc (.cells (refV s) RfT)) RcT #[.bool false, .int .i64 0]
  rw [World.size_alloc] at this
  exact this
theorem info_rcI : (Tryd.prog.info? RcT).map (·.size) = some 2 := by kernel_rfl
theorem zero_rcI (W : World) : (zeroValue RcT).run Tryd.prog W = .ok (.agg #[.bool false, .int .i64 0]) W := by kernel_rfl
set_option maxHeartbeats 8000000 in
theorem rnext_c (s : S) (ok : Ok s) (p l : Int) (hl : W64 l) (w : World) : Calls Tryd.prog 21 #[.agg (refV s), .int .i64 p, .int .u64 l] w fun e w' => e = .returned (oI (nextG (getS s) p l)) ∧ Below w.heap.size w w' := by
  have HS1 := Lib.hid (RxS.new w s)
  have HG := Lib.hid (fun W => rget22_c s ok 836 l hl W)
  have HI := Lib.hid (fun W => rword_c s ⟨#[109, 105, 101]⟩ 14 (by decide) nc_mie W)
  rw [show ((((rowC 14).1 : Nat) : Int)) = 772 from rfl] at HI
  have HD := Lib.hid (fun W => rword_c s ⟨#[109, 105, 100, 101, 108, 101, 103]⟩ 13 (by decide) nc_mideleg W)
  rw [show ((((rowC 13).1 : Nat) : Int)) = 771 from rfl] at HD
  have HM := Lib.hid (fun W => rword_c s ⟨#[109, 115, 116, 97, 116, 117, 115]⟩ 10 (by decide) nc_mstatus W)
  rw [show ((((rowC 10).1 : Nat) : Int)) = 768 from rfl] at HM
  have h1 := get_64 ok 836 hl
  have h2 := ok.w 772
  have h3 := ok.w 771
  have HH0 := Lib.hid (fun W => rshare_c (getS s 836 l) (s.f 772) (s.f 771) false h1 h2 h3 W)
  rw [sh_no h1 h2 h3, show bi false = 0 from rfl, show bits .andNot .u64 (bits .and .u64 (getS s 836 l) (s.f 772)) (s.f 771) = forM (getS s) l from rfl] at HH0
  have HH1 := Lib.hid (fun W => rshare_c (getS s 836 l) (s.f 772) (s.f 771) true h1 h2 h3 W)
  rw [sh_yes h1 h2 h3, show bi true = 1 from rfl, show bits .and .u64 (bits .and .u64 (getS s 836 l) (s.f 772)) (s.f 771) = forS (getS s) l from rfl] at HH1
  have HFM := Lib.hid (forM_64 (w64_file ok) hl)
  have HFS := Lib.hid (forS_64 (w64_file ok) hl)
  have HL := Lib.hid (fun dst W => rlets_c (s.f 768) p dst (ok.w _) W)
  have HV := Lib.hid (show nextG (getS s) p l = match rowO (getS s) p l 0 with
    | some c => some c
    | none => rowO (getS s) p l 1 from rfl)
  have HR0 := Lib.hid (show rowO (getS s) p l 0 = if letsS (s.f 768) p 3 then fstI (forM (getS s) l) else none from rfl)
  have HR1 := Lib.hid (show rowO (getS s) p l 1 = if letsS (s.f 768) p 1 then fstI (forS (getS s) l) else none from rfl)
  clear h1 h2 h3 hl ok
  generalize nextG (getS s) p l = nx at *
  generalize rowO (getS s) p l 0 = r0 at *
  generalize rowO (getS s) p l 1 = r1 at *
  generalize forM (getS s) l = fm at *
  generalize forS (getS s) l = fs at *
  generalize getS s 836 l = mp at *
  generalize s.f 772 = me at *
  generalize s.f 771 = dg at *
  generalize s.f 768 = st at *
  go_enter Tryd.func21, Tryd.ntmps21
  go_upto_region 1 with (refine wpList_allocY rfl _ rfl RcT rfl #[.bool false, .int .i64 0] (zero_rcI _) ?_)
  generalize ((w.alloc (.cells (refV s) RfT)).alloc (.cells #[.bool false, .int .i64 0] RcT)) = w1 at *
  refine wp_region_steady (fun W => RxS w W s) (by kernel_rfl) (by kernel_rfl) HS1.out.drew ?_
  refine steady_val (.agg (refV s)) ?_ (by kernel_rfl) (fun W hS => exec_load_row RfT _ rfl w.heap.size rfl RfT _ _ hS.r Tryd.underlying38 rfl (iRf _)) ?_ ?_
  rotate_left 1
  · go_simp
    exact rfl
  refine steady_val ?_ ?_ (by kernel_rfl) (fun W hS => ?_) ?_ ?_
  rotate_left 2
  · go_simp
    exact rfl
  · go_simp
    exact rfl
  refine steady_enter (.int .u64 mp) 41 #[.agg (refV s), .int .i64 836, .int .u64 l] ?_ (by kernel_rfl) (fun W hS => ?_) (fun W hS => (HG.out W).mono (by rintro e w' ⟨rfl, hb⟩; exact ⟨rfl, hS.low hb⟩)) ?_ ?_
  rotate_left 1
  · go_simp
  · go_simp
    exact rfl
  refine steady_val (.agg (refV s)) ?_ (by kernel_rfl) (fun W hS => exec_load_row RfT _ rfl w.heap.size rfl RfT _ _ hS.r Tryd.underlying38 rfl (iRf _)) ?_ ?_
  rotate_left 1
  · go_simp
    exact rfl
  refine steady_enter (.int .u64 me) 35 #[.agg (refV s), .string ⟨#[109, 105, 101]⟩] ?_ (by kernel_rfl) (fun W hS => ?_) (fun W hS => (HI.out W).mono (by rintro e w' ⟨rfl, hb⟩; exact ⟨rfl, hS.low hb⟩)) ?_ ?_
  rotate_left 1
  · go_simp
  · go_simp
    exact rfl
  refine steady_val (.agg (refV s)) ?_ (by kernel_rfl) (fun W hS => exec_load_row RfT _ rfl w.heap.size rfl RfT _ _ hS.r Tryd.underlying38 rfl (iRf _)) ?_ ?_
  rotate_left 1
  · go_simp
    exact rfl
  refine steady_enter (.int .u64 dg) 35 #[.agg (refV s), .string ⟨#[109, 105, 100, 101, 108, 101, 103]⟩] ?_ (by kernel_rfl) (fun W hS => ?_) (fun W hS => (HD.out W).mono (by rintro e w' ⟨rfl, hb⟩; exact ⟨rfl, hS.low hb⟩)) ?_ ?_
  rotate_left 1
  · go_simp
  · go_simp
    exact rfl
  iterate 3
    refine steady_val ?_ ?_ (by kernel_rfl) (fun W hS => ?_) ?_ ?_
    rotate_left 2
    · go_simp
      exact rfl
    · go_simp
      exact rfl
  refine steady_nil ?_
  intro W hS
  have HS2 := Lib.hid hS
  clear hS HS1 HG HI HD
  go_wp2_with (refine wpList_load_row rfl RfT _ rfl w.heap.size rfl RfT _ (0, 0) _ HS2.out.r Tryd.underlying38 rfl (iRf _) ?_)
  refine (HM.out _).mono ?_
  rintro e w3 ⟨rfl, hb⟩
  have HS3 := Lib.hid (HS2.out.low hb)
  clear hb HS2 HM
  go_wp2_with fail
  refine (HL.out 3 _).mono ?_
  rintro e w4 ⟨rfl, rfl⟩
  cases hl3 : letsS st p 3
  · have HN0 := Lib.hid (show r0 = none by rw [HR0.out, hl3]; rfl)
    clear hl3
    go_wp2_with fail
    refine (HL.out 1 _).mono ?_
    rintro e wb ⟨rfl, rfl⟩
    cases hl1 : letsS st p 1
    · have HX := Lib.hid (show nx = none by rw [HV.out, HN0.out, HR1.out, hl1]; rfl)
      clear hl1
      have z0 := HS3.out.z.cell 0
      have z1 := HS3.out.z.cell 1
      have y0 := HS3.out.z.frozen 0
      have y1 := HS3.out.z.frozen 1
      simp only [List.getElem?_toArray, List.getElem?_cons_zero, List.getElem?_cons_succ] at z0 z1
      go_wp2_with fail
      refine bodyPost_ret (v := .tuple #[.agg #[.bool false, .int .i64 0], .bool false]) (by simp [results, Tryd.results21, go_sem, z0, z1]) rfl ⟨by rw [HX.out]; rfl, ?_⟩
      exact ((HS3.out.bel.setCell (by show w.heap.size ≤ w.heap.size + 1; omega) _).setCell (by show w.heap.size ≤ w.heap.size + 1; omega) _)
    · have HX := Lib.hid (show nx = fstI fs by rw [HV.out, HN0.out, HR1.out, hl1]; rfl)
      clear hl1
      go_wp2_with fail
      refine (HH1.out _).mono ?_
      rintro e wc ⟨rfl, hb⟩
      have HSC := Lib.hid (HS3.out.low hb)
      clear hb
      go_wp2_with fail
      refine (krfirst_c fs HFS.out _).mono ?_
      rintro e wd ⟨rfl, hb⟩
      have HSD := Lib.hid (HSC.out.low hb)
      clear hb HSC
      unfold fI
      rw [← HX.out]
      clear HX HV
      generalize hnb : nx.isSome = nb at *
      generalize hnn : ((nx.getD 0 : Nat) : Int) = nn at *
      have HNB := Lib.hid hnb
      have HNN := Lib.hid hnn
      clear hnb hnn
      have z0 := HSD.out.z.cell 0
      have z1 := HSD.out.z.cell 1
      have y0 := HSD.out.z.frozen 0
      have y1 := HSD.out.z.frozen 1
      simp only [List.getElem?_toArray, List.getElem?_cons_zero, List.getElem?_cons_succ] at z0 z1
      go_wp2_with fail
      refine bodyPost_ret (v := .tuple #[.agg #[.bool nb, .int .i64 nn], .bool nb]) (by simp [results, Tryd.results21, go_sem, z0, z1]) rfl ⟨by unfold oI; rw [HNB.out, HNN.out], ?_⟩
      exact ((HSD.out.bel.setCell (by show w.heap.size ≤ w.heap.size + 1; omega) _).setCell (by show w.heap.size ≤ w.heap.size + 1; omega) _)
  · have HQ := Lib.hid (show r0 = fstI fm by rw [HR0.out, hl3]; rfl)
    clear hl3
    go_wp2_with fail
    refine (HH0.out _).mono ?_
    rintro e w5 ⟨rfl, hb⟩
    have HS5 := Lib.hid (HS3.out.low hb)
    clear hb HS3
    go_wp2_with fail
    refine (krfirst_c fm HFM.out _).mono ?_
    rintro e w6 ⟨rfl, hb⟩
    have HS6 := Lib.hid (HS5.out.low hb)
    clear hb HS5
    unfold fI
    cases hf : fstI fm with
    | none =>
      have HN0 := Lib.hid (show r0 = none by rw [HQ.out, hf])
      clear hf HQ
      dsimp only [Option.isSome, Option.getD]
      go_upto_region 5 with (first
        | (refine wpList_allocY rfl _ rfl RcT rfl #[.bool false, .int .i64 0] (zero_rcI _) ?_)
        | (refine wpList_storeNew (w0 := w6) rfl RcT _ _ rfl #[.bool false, .int .i64 0] #[.bool false, .int .i64 (0 : Nat)] RcT rfl rfl info_rcI rfl rfl ?_))
      have hb7 : Below w6.heap.size w6 (w6.alloc (.cells #[.bool false, .int .i64 (0 : Nat)] RcT)) := (Below.refl _ _).alloc (Nat.le_refl _) _
      have HS7 := Lib.hid (HS6.out.low hb7)
      have HC7 := Lib.hid (CsAt.new w6 RcT #[.bool false, .int .i64 (0 : Nat)])
      clear hb7 HS6
      generalize w6.alloc (.cells #[.bool false, .int .i64 (0 : Nat)] RcT) = w7 at *
      generalize w6.heap.size = gc at *
      go_wp2_with fail
      refine (HL.out 1 _).mono ?_
      rintro e wb ⟨rfl, rfl⟩
      cases hl1 : letsS st p 1
      · have HX := Lib.hid (show nx = none by rw [HV.out, HN0.out, HR1.out, hl1]; rfl)
        clear hl1
        have z0 := HS7.out.z.cell 0
        have z1 := HS7.out.z.cell 1
        have y0 := HS7.out.z.frozen 0
        have y1 := HS7.out.z.frozen 1
        simp only [List.getElem?_toArray, List.getElem?_cons_zero, List.getElem?_cons_succ] at z0 z1
        go_wp2_with fail
        refine bodyPost_ret (v := .tuple #[.agg #[.bool false, .int .i64 0], .bool false]) (by simp [results, Tryd.results21, go_sem, z0, z1]) rfl ⟨by rw [HX.out]; rfl, ?_⟩
        exact ((HS7.out.bel.setCell (by show w.heap.size ≤ w.heap.size + 1; omega) _).setCell (by show w.heap.size ≤ w.heap.size + 1; omega) _)
      · have HX := Lib.hid (show nx = fstI fs by rw [HV.out, HN0.out, HR1.out, hl1]; rfl)
        clear hl1
        go_wp2_with fail
        refine (HH1.out _).mono ?_
        rintro e wc ⟨rfl, hb⟩
        have HSC := Lib.hid (HS7.out.low hb)
        clear hb
        go_wp2_with fail
        refine (krfirst_c fs HFS.out _).mono ?_
        rintro e wd ⟨rfl, hb⟩
        have HSD := Lib.hid (HSC.out.low hb)
        clear hb HSC
        unfold fI
        rw [← HX.out]
        clear HX HV
        generalize hnb : nx.isSome = nb at *
        generalize hnn : ((nx.getD 0 : Nat) : Int) = nn at *
        have HNB := Lib.hid hnb
        have HNN := Lib.hid hnn
        clear hnb hnn
        have z0 := HSD.out.z.cell 0
        have z1 := HSD.out.z.cell 1
        have y0 := HSD.out.z.frozen 0
        have y1 := HSD.out.z.frozen 1
        simp only [List.getElem?_toArray, List.getElem?_cons_zero, List.getElem?_cons_succ] at z0 z1
        go_wp2_with fail
        refine bodyPost_ret (v := .tuple #[.agg #[.bool nb, .int .i64 nn], .bool nb]) (by simp [results, Tryd.results21, go_sem, z0, z1]) rfl ⟨by unfold oI; rw [HNB.out, HNN.out], ?_⟩
        exact ((HSD.out.bel.setCell (by show w.heap.size ≤ w.heap.size + 1; omega) _).setCell (by show w.heap.size ≤ w.heap.size + 1; omega) _)
    | some c =>
      have HX := Lib.hid (show nx = some c by rw [HV.out, HQ.out, hf])
      clear hf HQ
      dsimp only [Option.isSome, Option.getD]
      go_upto_region 5 with (first
        | (refine wpList_allocY rfl _ rfl RcT rfl #[.bool false, .int .i64 0] (zero_rcI _) ?_)
        | (refine wpList_storeNew (w0 := w6) rfl RcT _ _ rfl #[.bool false, .int .i64 0] #[.bool true, .int .i64 (c : Nat)] RcT rfl rfl info_rcI rfl rfl ?_))
      have hb7 : Below w6.heap.size w6 (w6.alloc (.cells #[.bool true, .int .i64 (c : Nat)] RcT)) := (Below.refl _ _).alloc (Nat.le_refl _) _
      have HS7 := Lib.hid (HS6.out.low hb7)
      have HC7 := Lib.hid (CsAt.new w6 RcT #[.bool true, .int .i64 (c : Nat)])
      clear hb7 HS6
      generalize w6.alloc (.cells #[.bool true, .int .i64 (c : Nat)] RcT) = w7 at *
      generalize w6.heap.size = gc at *
      have z0 := HS7.out.z.cell 0
      have z1 := HS7.out.z.cell 1
      have y0 := HS7.out.z.frozen 0
      have y1 := HS7.out.z.frozen 1
      simp only [List.getElem?_toArray, List.getElem?_cons_zero, List.getElem?_cons_succ] at z0 z1
      go_wp2_with (refine wpList_load_row rfl RcT _ rfl gc rfl RcT _ (0, 0) _ HC7.out Tryd.underlying41 rfl info_rcI ?_)
      refine bodyPost_ret (v := .tuple #[.agg #[.bool true, .int .i64 (c : Nat)], .bool true]) (by simp [results, Tryd.results21, go_sem, z0, z1]) rfl ⟨by rw [HX.out]; rfl, ?_⟩
      exact ((HS7.out.bel.setCell (by show w.heap.size ≤ w.heap.size + 1; omega) _).setCell (by show w.heap.size ≤ w.heap.size + 1; omega) _)
end Go.Proofs.YtkbgmppbkllnmaaDoor
