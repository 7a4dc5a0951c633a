/-
  InsnBack (P3.4): the walk, with instructions as whole rows of eight cells.
-/
import Derived.Test.YteknlcigfjdmdaaDoorBkA
import Derived.Test.YteknlcigfjdmdaaDoorRow
import Derived.Deep.DeepCutAuto
namespace Go.Proofs.YteknlcigfjdmdaaDoor
open Go.ChangeShapes Go.WideShapes Go.ChangeAt Go.RowKit Wd

/-- The eight cells of an instruction. -/
def insV (op rd rs1 rs2 imm csr : Int) (aq rl : Bool) : Array Value := #[.int .i64 op, .int .i64 rd, .int .i64 rs1, .int .i64 rs2, .int .i64 imm, .int .i64 csr, .bool aq, .bool rl]
theorem insV_one (op rd rs1 rs2 imm csr : Int) (aq rl : Bool) : (insV op rd rs1 rs2 imm csr aq rl).all (·.oneCell') = true := by kernel_rfl
theorem insI (op rd rs1 rs2 imm csr : Int) (aq rl : Bool) : (Tryd.prog.info? 25).map (·.size) = some (insV op rd rs1 rs2 imm csr aq rl).size := by kernel_rfl
/-- What the walk asks of the word's instruction: there is none, or it is encoded as it was. -/
def DecIs (X : Nat) (y : Array Value) (b : Bool) : Prop := decV X = .tuple #[.agg y, .bool b]
def EncIs (y : Array Value) (V E : Int) : Prop := ∀ w', VarsAt w' → Calls Tryd.prog 9 #[.agg y] w' fun e w'' => e = .returned (.tuple #[.int .u32 V, .int .i64 E]) ∧ Below w'.heap.size w' w''
/-- The shape of what is asked of an array of eight cells. -/
structure Eight (y : Array Value) : Prop where
  one : y.all (·.oneCell') = true
  size : y.size = 8
theorem Eight.info {y : Array Value} (h : Eight y) : (Tryd.prog.info? 25).map (·.size) = some y.size := by rw [h.size]; kernel_rfl
theorem zero_is : (#[.int .i64 0, .int .i64 0, .int .i64 0, .int .i64 0, .int .i64 0, .int .i64 0, .bool false, .bool false] : Array Value).size = 8 := rfl
set_option maxHeartbeats 2000000 in
theorem back_n (X : Nat) (hX : X < 4294967296) (x y : Array Value) (b : Bool) (E : Int) (w : World) (hv : VarsAt w) (h8 : Eight x) (h8' : Eight y) (hd : DecIs X y b) (he : b = true → EncIs y X 0) (hc : EncIs x 0 E) (hE : (E != 0) = true) :
    Calls Tryd.prog 5 #[.int .u32 (X : Nat), .agg x] w fun e w' => e = .returned (.bool true) ∧ Below w.heap.size w w' := by
  have HD := Lib.hid (show decV X = .tuple #[.agg y, .bool b] from hd)
  have HV := Lib.hid hv
  have HC := Lib.hid hc
  have HE := Lib.hid he
  have H8 := Lib.hid h8
  have H8' := Lib.hid h8'
  clear hd hv hc he h8 h8'
  go_enter Tryd.func5, Tryd.ntmps5
  go_wp2_with fail
  have hX0 := CsAt.new w 25 x
  have hB0 : Below w.heap.size w (w.alloc (.cells x 25)) := (Below.refl _ _).alloc (Nat.le_refl _) _
  generalize w.alloc (.cells x 25) = w0 at *
  have HX0 := Lib.hid hX0
  have HB0 := Lib.hid hB0
  clear hX0 hB0
  refine (decode_c X hX _ (HV.out.low HB0.out)).mono ?_
  rintro e w1 ⟨rfl, hb⟩
  have HX1 := Lib.hid (HX0.out.low hb)
  have HB1 := Lib.hid (HB0.out.trans (hb.mono HB0.out.size))
  clear hb HX0 HB0
  rw [HD.out]
  cases b
  · go_upto_region 2 with (refine wpList_storeNew rfl 25 _ _ rfl _ _ _ rfl rfl H8'.out.info (H8'.out.size ▸ zero_is) H8'.out.one ?_)
    have hX2 := HX1.out.alloc (.cells y 25)
    have hB2 := HB1.out.alloc HB1.out.size (.cells y 25)
    generalize w1.alloc (.cells y 25) = w2 at *
    have HX2 := Lib.hid hX2
    have HB2 := Lib.hid hB2
    clear hX2 hB2 HX1 HB1 HE HD
    go_wp2_with (refine wpList_load_row rfl 25 _ rfl w.heap.size rfl 25 _ (0, 0) _ HX2.out Tryd.underlying25 rfl H8.out.info ?_)
    refine (HC.out _ (HV.out.low HB2.out)).mono ?_
    rintro e w4 ⟨rfl, hb⟩
    have HB4 := Lib.hid (HB2.out.trans (hb.mono HB2.out.size))
    clear hb
    go_wp2_with fail
    refine (live3_c _ (HV.out.low HB4.out)).mono ?_
    rintro e w5 ⟨rfl, hb⟩
    have HB5 := Lib.hid (HB4.out.trans (hb.mono HB4.out.size))
    clear hb
    go_wp2_with fail
    go_ret
    exact ⟨rfl, HB5.out⟩
  · have hz := HX1.out.lt
    go_upto_region 2 with (refine wpList_storeNew rfl 25 _ _ rfl _ _ _ rfl rfl H8'.out.info (H8'.out.size ▸ zero_is) H8'.out.one ?_)
    have hX2 := HX1.out.alloc (.cells y 25)
    have hY2 := CsAt.new w1 25 y
    have hB2 := HB1.out.alloc HB1.out.size (.cells y 25)
    generalize w1.alloc (.cells y 25) = w2 at *
    have HX2 := Lib.hid hX2
    have HY2 := Lib.hid hY2
    have HB2 := Lib.hid hB2
    clear hX2 hB2 hY2 HX1 HB1 HD
    go_wp2_with (refine wpList_load_row rfl 25 _ rfl w1.heap.size rfl 25 _ (0, 0) _ HY2.out Tryd.underlying25 rfl H8'.out.info ?_)
    refine (HE.out (by trivial) _ (HV.out.low HB2.out)).mono ?_
    rintro e w3 ⟨rfl, hb⟩
    have HX3 := Lib.hid (HX2.out.low hb)
    have HY3 := Lib.hid (HY2.out.low hb)
    have HB3 := Lib.hid (HB2.out.trans (hb.mono HB2.out.size))
    clear hb HX2 HY2 HB2 HE
    generalize ((X : Nat) : Int) = Z at *
    go_wp2_with (refine wpList_load_row rfl 25 _ rfl w.heap.size rfl 25 _ (0, 0) _ HX3.out Tryd.underlying25 rfl H8.out.info ?_)
    refine (HC.out _ (HV.out.low HB3.out)).mono ?_
    rintro e w4 ⟨rfl, hb⟩
    have HB4 := Lib.hid (HB3.out.trans (hb.mono HB3.out.size))
    clear hb
    go_wp2_with fail
    refine (live3_c _ (HV.out.low HB4.out)).mono ?_
    rintro e w5 ⟨rfl, hb⟩
    have HB5 := Lib.hid (HB4.out.trans (hb.mono HB4.out.size))
    clear hb
    go_wp2_with fail
    go_ret
    exact ⟨rfl, HB5.out⟩
end Go.Proofs.YteknlcigfjdmdaaDoor
