/-
  InsnBack (P3.4): the walk where the instruction has a word, with instructions as whole rows of eight cells.
-/
import Derived.Test.YteknlcigfjdmdaaDoorBkB
namespace Go.Proofs.YteknlcigfjdmdaaDoor
open Go.ChangeShapes Go.WideShapes Go.ChangeAt Go.RowKit Wd

theorem ins_cells {w : World} {b : Nat} {t : TypeId} {op rd rs1 rs2 imm csr : Int} {aq rl : Bool} (h : CsAt w b t (insV op rd rs1 rs2 imm csr aq rl)) :
    w.cell? ⟨b, 0, none⟩ = some (.int .i64 op) ∧ w.cell? ⟨b, 1, none⟩ = some (.int .i64 rd) ∧ w.cell? ⟨b, 2, none⟩ = some (.int .i64 rs1) ∧ w.cell? ⟨b, 3, none⟩ = some (.int .i64 rs2) ∧ w.cell? ⟨b, 4, none⟩ = some (.int .i64 imm) ∧ w.cell? ⟨b, 5, none⟩ = some (.int .i64 csr) ∧ w.cell? ⟨b, 6, none⟩ = some (.bool aq) ∧ w.cell? ⟨b, 7, none⟩ = some (.bool rl) :=
  ⟨h.cell 0, h.cell 1, h.cell 2, h.cell 3, h.cell 4, h.cell 5, h.cell 6, h.cell 7⟩
set_option maxHeartbeats 4000000 in
theorem back_y (X V : Nat) (hX : X < 4294967296) (hV : V < 4294967296) (op rd rs1 rs2 imm csr : Int) (aq rl : Bool) (x y : Array Value) (hx : x = insV op rd rs1 rs2 imm csr aq rl) (b : Bool) (w : World) (hv : VarsAt w) (h8 : Eight x) (h8' : Eight y) (hd : DecIs X y b) (he : b = true → EncIs y X 0) (hc : EncIs x V 0) (hdx : DecIs V x true) :
    Calls Tryd.prog 5 #[.int .u32 (X : Nat), .agg x] w fun e w' => e = .returned (.bool true) ∧ Below w.heap.size w w' := by
  have HD := Lib.hid (show decV X = .tuple #[.agg y, .bool b] from hd)
  have HV := Lib.hid hv
  have HXE := Lib.hid hx
  have HDX := Lib.hid (show decV V = .tuple #[.agg x, .bool true] from hdx)
  have HC := Lib.hid hc
  have HE := Lib.hid he
  have H8 := Lib.hid h8
  have H8' := Lib.hid h8'
  clear hd hv hc he h8 h8' hdx hx
  go_enter Tryd.func5, Tryd.ntmps5
  go_wp2_with fail
  have hX0 := CsAt.new w 25 x
  have hB0 : Below w.heap.size w (w.alloc (.cells x 25)) := (Below.refl _ _).alloc (Nat.le_refl _) _
  generalize w.alloc (.cells x 25) = w0 at *
  have HX0 := Lib.hid hX0
  have HB0 := Lib.hid hB0
  clear hX0 hB0
  refine (decode_c X hX _ (HV.out.low HB0.out)).mono ?_
  rintro e w1 ⟨rfl, hb⟩
  have HX1 := Lib.hid (HX0.out.low hb)
  have HB1 := Lib.hid (HB0.out.trans (hb.mono HB0.out.size))
  clear hb HX0 HB0
  rw [HD.out]
  cases b
  · have hz := HX1.out.lt
    go_upto_region 2 with (refine wpList_storeNew rfl 25 _ _ rfl _ _ _ rfl rfl H8'.out.info (H8'.out.size ▸ zero_is) H8'.out.one ?_)
    have hX2 := HX1.out.alloc (.cells y 25)
    have hY2 := CsAt.new w1 25 y
    have hB2 := HB1.out.alloc HB1.out.size (.cells y 25)
    generalize w1.alloc (.cells y 25) = w3 at *
    have HX3 := Lib.hid hX2
    have HY3 := Lib.hid hY2
    have HB3 := Lib.hid hB2
    clear hX2 hB2 hY2 HX1 HB1 HE HD
    generalize hzz : ((V : Nat) : Int) = ZV at *
    have HZV := Lib.hid hzz
    clear hzz
    go_wp2_with (refine wpList_load_row rfl 25 _ rfl w.heap.size rfl 25 _ (0, 0) _ HX3.out Tryd.underlying25 rfl H8.out.info ?_)
    refine (HC.out _ (HV.out.low HB3.out)).mono ?_
    rintro e w4 ⟨rfl, hb⟩
    have HX4 := Lib.hid (HX3.out.low hb)
    have HY4 := Lib.hid (HY3.out.low hb)
    have HB4 := Lib.hid (HB3.out.trans (hb.mono HB3.out.size))
    clear hb HX3 HY3 HB3
    go_wp2_with fail
    rw [← HZV.out]
    refine (decode_c V hV _ (HV.out.low HB4.out)).mono ?_
    rintro e w5 ⟨rfl, hb⟩
    have HX5 := Lib.hid (HX4.out.low hb)
    have HY5 := Lib.hid (HY4.out.low hb)
    have HB5 := Lib.hid (HB4.out.trans (hb.mono HB4.out.size))
    clear hb HX4 HY4 HB4
    rw [HDX.out, HZV.out]
    go_upto_region 10 with (refine wpList_store_row rfl 25 _ _ rfl w1.heap.size _ rfl rfl 25 _ HY5.out H8.out.info (H8'.out.size.trans H8.out.size.symm) H8.out.one ?_)
    have hY6 := HY5.out.row x
    have hX6 := HX5.out.rowFar (c := w1.heap.size) (by omega) x
    have hB6 := below_setRow HB5.out (g := w1.heap.size) (by omega) x
    generalize w5.setRow w1.heap.size x = w6 at *
    have HB6 := Lib.hid hB6
    clear HX5 HY5 HB5 hB6
    rw [HXE.out] at hY6 hX6
    obtain ⟨y0, y1, y2, y3, y4, y5, y6, y7⟩ := ins_cells hY6
    obtain ⟨c0, c1, c2, c3, c4, c5, c6, c7⟩ := ins_cells hX6
    clear hY6 hX6
    go_wp2_with fail
    refine (live3_c _ (HV.out.low HB6.out)).mono ?_
    rintro e w7 ⟨rfl, hb⟩
    have HB7 := Lib.hid (HB6.out.trans (hb.mono HB6.out.size))
    clear hb
    go_wp2_with fail
    go_ret
    exact ⟨rfl, HB7.out⟩
  · have hz := HX1.out.lt
    go_upto_region 2 with (refine wpList_storeNew rfl 25 _ _ rfl _ _ _ rfl rfl H8'.out.info (H8'.out.size ▸ zero_is) H8'.out.one ?_)
    have hX2 := HX1.out.alloc (.cells y 25)
    have hY2 := CsAt.new w1 25 y
    have hB2 := HB1.out.alloc HB1.out.size (.cells y 25)
    generalize w1.alloc (.cells y 25) = w2 at *
    have HX2 := Lib.hid hX2
    have HY2 := Lib.hid hY2
    have HB2 := Lib.hid hB2
    clear hX2 hB2 hY2 HX1 HB1 HD
    go_wp2_with (refine wpList_load_row rfl 25 _ rfl w1.heap.size rfl 25 _ (0, 0) _ HY2.out Tryd.underlying25 rfl H8'.out.info ?_)
    refine (HE.out (by trivial) _ (HV.out.low HB2.out)).mono ?_
    rintro e w3 ⟨rfl, hb⟩
    have HX3 := Lib.hid (HX2.out.low hb)
    have HY3 := Lib.hid (HY2.out.low hb)
    have HB3 := Lib.hid (HB2.out.trans (hb.mono HB2.out.size))
    clear hb HX2 HY2 HB2 HE
    generalize ((X : Nat) : Int) = Z at *
    generalize hzz : ((V : Nat) : Int) = ZV at *
    have HZV := Lib.hid hzz
    clear hzz
    go_wp2_with (refine wpList_load_row rfl 25 _ rfl w.heap.size rfl 25 _ (0, 0) _ HX3.out Tryd.underlying25 rfl H8.out.info ?_)
    refine (HC.out _ (HV.out.low HB3.out)).mono ?_
    rintro e w4 ⟨rfl, hb⟩
    have HX4 := Lib.hid (HX3.out.low hb)
    have HY4 := Lib.hid (HY3.out.low hb)
    have HB4 := Lib.hid (HB3.out.trans (hb.mono HB3.out.size))
    clear hb HX3 HY3 HB3
    go_wp2_with fail
    rw [← HZV.out]
    refine (decode_c V hV _ (HV.out.low HB4.out)).mono ?_
    rintro e w5 ⟨rfl, hb⟩
    have HX5 := Lib.hid (HX4.out.low hb)
    have HY5 := Lib.hid (HY4.out.low hb)
    have HB5 := Lib.hid (HB4.out.trans (hb.mono HB4.out.size))
    clear hb HX4 HY4 HB4
    rw [HDX.out, HZV.out]
    go_upto_region 10 with (refine wpList_store_row rfl 25 _ _ rfl w1.heap.size _ rfl rfl 25 _ HY5.out H8.out.info (H8'.out.size.trans H8.out.size.symm) H8.out.one ?_)
    have hY6 := HY5.out.row x
    have hX6 := HX5.out.rowFar (c := w1.heap.size) (by omega) x
    have hB6 := below_setRow HB5.out (g := w1.heap.size) (by omega) x
    generalize w5.setRow w1.heap.size x = w6 at *
    have HB6 := Lib.hid hB6
    clear HX5 HY5 HB5 hB6
    rw [HXE.out] at hY6 hX6
    obtain ⟨y0, y1, y2, y3, y4, y5, y6, y7⟩ := ins_cells hY6
    obtain ⟨c0, c1, c2, c3, c4, c5, c6, c7⟩ := ins_cells hX6
    clear hY6 hX6
    go_wp2_with fail
    refine (live3_c _ (HV.out.low HB6.out)).mono ?_
    rintro e w7 ⟨rfl, hb⟩
    have HB7 := Lib.hid (HB6.out.trans (hb.mono HB6.out.size))
    clear hb
    go_wp2_with fail
    go_ret
    exact ⟨rfl, HB7.out⟩
end Go.Proofs.YteknlcigfjdmdaaDoor
