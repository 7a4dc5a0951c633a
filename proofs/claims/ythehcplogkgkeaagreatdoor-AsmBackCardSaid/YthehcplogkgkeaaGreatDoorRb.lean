/-
  The contract of roebucklaw06.live.
-/
import Derived.Test.YthehcplogkgkeaaGreatDoorQy
import Derived.Test.YthehcplogkgkeaaGreatDoorRa
set_option maxRecDepth 4000
namespace Go.Proofs.YthehcplogkgkeaaGreatDoor
open Go.ChangeShapes Go.WideShapes Go.ChangeAt Go.RowKit Wd Num Wds

def l6a : List UInt8 := [115, 119, 32, 97, 48, 32, 115, 112, 32, 45, 52]
def l6b : List UInt8 := [97, 100, 100, 105, 32, 97, 48, 32, 98, 48, 32, 53, 48, 48, 48]
theorem spl6a : splF l6a = [[115, 119], [97, 48], [115, 112], [45, 52]] := by decide +kernel
theorem spl6b : splF l6b = [[97, 100, 100, 105], [97, 48], [98, 48], [53, 48, 48, 48]] := by decide +kernel
theorem nm6a : nameL [115, 119] = some (20, 0) := by decide +kernel
theorem nm6b : nameL [97, 100, 100, 105] = some (22, 0) := by decide +kernel
theorem kd6a : kdL (fmtN ((20 : Nat) : Int)) = [.rs2, .rs1, .imm] := by kernel_rfl
theorem kd6b : kdL (fmtN ((22 : Nat) : Int)) = [.rd, .rs1, .imm] := by kernel_rfl
theorem fa0 : Rg.findR (bs6 [97, 48]) = some 10 := by decide +kernel
theorem fsp : Rg.findR (bs6 [115, 112]) = some 2 := by decide +kernel
theorem fb0 : Rg.findR (bs6 [98, 48]) = none := by decide +kernel
theorem num4 : numR [45, 52] = some (-4) := by
  have h : Lib.itoa (-4) = [45, 52] := by
    unfold Lib.itoa
    rw [if_pos (by decide)]
    show 45 :: Lib.decDigits 4 = _
    rw [Lib.decDigits, dif_pos (by decide)]
    rfl
  have hg := good_itoa (-4) (by decide) (by decide)
  unfold numR
  rw [← h, hg.1, hg.2]
  simp
theorem chk6 : checkS 20 0 2 10 (-4) 0 false false = 0 := by decide +kernel
theorem ref6a : refE l6a = .ok ⟨20, 0, 2, 10, -4, 0, false, false⟩ := by
  unfold refE
  rw [if_neg (by decide), if_neg (by decide), spl6a, if_neg (by decide), show ([[115, 119], [97, 48], [115, 112], [45, 52]] : List (List UInt8)).getD 0 [] = [115, 119] from rfl, nm6a]
  simp only [kd6a]
  rw [if_neg (by decide)]
  simp only [List.length_cons, List.length_nil, preR, List.getD_cons_zero, List.getD_cons_succ, rstep, restW, fa0, fsp, num4, finR]
  rw [if_neg (by decide)]
  change (if checkF ⟨20, 0, 2, 10, -4, 0, false, false⟩ = 0 then Except.ok (⟨20, 0, 2, 10, -4, 0, false, false⟩ : Fl) else Except.error 3) = _
  rw [if_pos (show checkF ⟨20, 0, 2, 10, -4, 0, false, false⟩ = 0 from chk6)]
theorem ref6b : refE l6b = .error 9 := by
  unfold refE
  rw [if_neg (by decide), if_neg (by decide), spl6b, if_neg (by decide), show ([[97, 100, 100, 105], [97, 48], [98, 48], [53, 48, 48, 48]] : List (List UInt8)).getD 0 [] = [97, 100, 100, 105] from rfl, nm6b]
  simp only [kd6b]
  rw [if_neg (by decide)]
  simp only [List.length_cons, List.length_nil, preR, List.getD_cons_zero, List.getD_cons_succ, rstep, restW, fa0, fb0, finR]
theorem pv6a : parseV ⟨#[115, 119, 32, 97, 48, 32, 115, 112, 32, 45, 52]⟩ = .tuple #[.agg #[.int .i64 20, .int .i64 0, .int .i64 2, .int .i64 10, .int .i64 (-4), .int .i64 0, .bool false, .bool false], .int .i64 0] := by
  rw [parse_ref]
  show retV (refE l6a) = _
  rw [ref6a]
  rfl
theorem pv6b : parseV ⟨#[97, 100, 100, 105, 32, 97, 48, 32, 98, 48, 32, 53, 48, 48, 48]⟩ = .tuple #[.agg zeroI, .int .i64 9] := by
  rw [parse_ref]
  show retV (refE l6b) = _
  rw [ref6b]
  rfl
theorem chk70 : checkS 70 10 11 12 0 0 true false = 0 := by decide +kernel
theorem txt70 : textS 70 10 11 12 0 0 true false = ⟨#[97, 109, 111, 97, 100, 100, 46, 119, 46, 97, 113, 32, 97, 48, 32, 97, 50, 32, 97, 49]⟩ := by kernel_rfl
theorem fit70 : FitI 10 11 12 0 0 := by constructor <;> (unfold Fit; decide)
/-- What layer 6's functions ask of memory. -/
structure Mem6 (w : World) : Prop where
  ok : AsmOk w
  errs : ErrsAt w
  max : MaxAt w
theorem Mem6.low {w w' : World} (h : Mem6 w) (hb : Below w.heap.size w w') : Mem6 w' := ⟨h.ok.low hb, h.errs.low hb, h.max.low hb⟩
set_option maxHeartbeats 4000000 in
theorem live6_c (w : World) (hm : Mem6 w) : Calls Tryz.prog 7 #[] w fun e w' => e = .returned (.bool true) ∧ Below w.heap.size w w' := by
  have HM := Lib.hid hm
  have HT := Lib.hid (show Calls Tryz.prog 8 #[.agg #[.int .i64 70, .int .i64 10, .int .i64 11, .int .i64 12, .int .i64 0, .int .i64 0, .bool true, .bool false]] w fun e w' => e = .returned (.tuple #[.string ⟨#[97, 109, 111, 97, 100, 100, 46, 119, 46, 97, 113, 32, 97, 48, 32, 97, 50, 32, 97, 49]⟩, .int .i64 0]) ∧ Below w.heap.size w w' from by
    rw [← txt70]
    exact text_yes 70 10 11 12 0 0 true false w hm.ok fit70 chk70)
  have HP := Lib.hid (fun W (h : Mem6 W) => (show Calls Tryz.prog 12 #[.string ⟨#[115, 119, 32, 97, 48, 32, 115, 112, 32, 45, 52]⟩] W fun e w' => e = .returned (.tuple #[.agg #[.int .i64 20, .int .i64 0, .int .i64 2, .int .i64 10, .int .i64 (-4), .int .i64 0, .bool false, .bool false], .int .i64 0]) ∧ Below W.heap.size W w' from by
    rw [← pv6a]
    exact parse_c _ W (by decide) h.max h.ok h.errs))
  have HQ := Lib.hid (fun W (h : Mem6 W) => (show Calls Tryz.prog 12 #[.string ⟨#[97, 100, 100, 105, 32, 97, 48, 32, 98, 48, 32, 53, 48, 48, 48]⟩] W fun e w' => e = .returned (.tuple #[.agg zeroI, .int .i64 9]) ∧ Below W.heap.size W w' from by
    rw [← pv6b]
    exact parse_c _ W (by decide) h.max h.ok h.errs))
  clear hm
  go_enter Tryz.func7, Tryz.ntmps7
  go_wp2_with fail
  refine HT.out.mono ?_
  rintro e w1 ⟨rfl, hb⟩
  have HB1 := Lib.hid hb
  clear hb HT
  go_wp2_with fail
  refine (HP.out _ (HM.out.low HB1.out)).mono ?_
  rintro e w2 ⟨rfl, hb⟩
  have HB2 := Lib.hid (HB1.out.trans (hb.mono HB1.out.size))
  have HI2 := Lib.hid (CsAt.row (CsAt.new w2 24 zeroI) #[.int .i64 20, .int .i64 0, .int .i64 2, .int .i64 10, .int .i64 (-4), .int .i64 0, .bool false, .bool false])
  have HB3 := Lib.hid (below_setRow (HB2.out.alloc HB2.out.size (.cells zeroI 24)) HB2.out.size #[.int .i64 20, .int .i64 0, .int .i64 2, .int .i64 10, .int .i64 (-4), .int .i64 0, .bool false, .bool false])
  clear hb HP HB1
  go_upto_region 3 with (refine wpList_store_row rfl 24 _ _ rfl w2.heap.size _ rfl rfl 24 zeroI (CsAt.new w2 24 zeroI) info_ins rfl (by kernel_rfl) ?_)
  generalize (w2.alloc (.cells zeroI 24)).setRow w2.heap.size #[.int .i64 20, .int .i64 0, .int .i64 2, .int .i64 10, .int .i64 (-4), .int .i64 0, .bool false, .bool false] = w3 at *
  generalize w2.heap.size = b2 at *
  go_wp2_with fail
  refine (HQ.out _ (HM.out.low HB3.out)).mono ?_
  rintro e w4 ⟨rfl, hb⟩
  have HB4 := Lib.hid (HB3.out.trans (hb.mono HB3.out.size))
  have HI4 := Lib.hid (HI2.out.low hb)
  clear hb HQ HB3
  have HI5 := Lib.hid (CsAt.rowFar (HI4.out.alloc (.cells zeroI 24)) (show b2 ≠ w4.heap.size by have := lt_cell (HI4.out.cell 0); omega) zeroI)
  have HB5 := Lib.hid (below_setRow (HB4.out.alloc HB4.out.size (.cells zeroI 24)) HB4.out.size zeroI)
  go_upto_region 4 with (refine wpList_store_row rfl 24 _ _ rfl w4.heap.size zeroI rfl rfl 24 zeroI (CsAt.new w4 24 zeroI) info_ins rfl (by kernel_rfl) ?_)
  generalize (w4.alloc (.cells zeroI 24)).setRow w4.heap.size zeroI = w5 at *
  have c0 : w5.cell? ⟨b2, 0, none⟩ = some (.int .i64 20) := HI5.out.cell 0
  have c1 : w5.cell? ⟨b2, 1, none⟩ = some (.int .i64 0) := HI5.out.cell 1
  have c2 : w5.cell? ⟨b2, 2, none⟩ = some (.int .i64 2) := HI5.out.cell 2
  have c3 : w5.cell? ⟨b2, 3, none⟩ = some (.int .i64 10) := HI5.out.cell 3
  have c4 : w5.cell? ⟨b2, 4, none⟩ = some (.int .i64 (-4)) := HI5.out.cell 4
  have c5 : w5.cell? ⟨b2, 5, none⟩ = some (.int .i64 0) := HI5.out.cell 5
  have c6 : w5.cell? ⟨b2, 6, none⟩ = some (.bool false) := HI5.out.cell 6
  have c7 : w5.cell? ⟨b2, 7, none⟩ = some (.bool false) := HI5.out.cell 7
  go_wp2_with fail
  go_ret
  exact ⟨rfl, HB5.out⟩
end Go.Proofs.YthehcplogkgkeaaGreatDoor
