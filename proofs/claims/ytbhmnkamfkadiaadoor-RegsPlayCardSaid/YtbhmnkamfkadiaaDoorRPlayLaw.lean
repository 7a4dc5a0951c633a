/-
  The statement RegsPlay (P5.1), tied card: for every words, slice of registers that are set, and number, roebucklaw05.RegsPlay returns true and its arguments read afterwards as before. Condition: regs.names holds what the program's text lays (the card ties it).
-/
import Derived.Test.YtbhmnkamfkadiaaDoorOpen5
import Derived.Test.YtbhmnkamfkadiaaDoorReg5
import Derived.Test.YtbhmnkamfkadiaaDoorSteady
import Derived.Test.YtbhmnkamfkadiaaDoorTie
import Derived.Test.YtbhmnkamfkadiaaDoorCards
import Derived.SevenTiedAt
import Derived.Deep.RegionLaw
import Derived.BigRegion
namespace Go.Proofs.YtbhmnkamfkadiaaDoor
open Go.ChangeShapes Go.WideShapes Go.ChangeAt Go.RowKit

theorem zeros_size {ws : List Int} (h : ws.length = 32) : (aV .u64 (List.replicate 32 0)).size = (aV .u64 ws).size := by rw [aV_size, aV_size, h]; rfl
/-- The deeds in their block. -/
def Deeds (w : World) (b off : Nat) (l : List (Int × Int)) : Prop := ∀ j, j < l.length → w.cell? ⟨b, off + j * 2, none⟩ = some (.int .i64 (l.getD j (0, 0)).1) ∧ w.cell? ⟨b, off + j * 2 + 1, none⟩ = some (.int .u64 (l.getD j (0, 0)).2)
def playL (ws : List Int) (l : List (Int × Int)) : List Int := l.foldl (fun s d => setR s d.1 d.2) ws
theorem playL_len (l : List (Int × Int)) : ∀ ws : List Int, (playL ws l).length = ws.length := by
  induction l with
  | nil => intro ws; rfl
  | cons d l ih => intro ws; show (playL (setR ws d.1 d.2) l).length = _; rw [ih, setR_len]
theorem playL_snoc (ws : List Int) (l : List (Int × Int)) (k : Nat) (hk : k < l.length) : playL ws (l.take (k + 1)) = setR (playL ws (l.take k)) (l.getD k (0, 0)).1 (l.getD k (0, 0)).2 := by
  have e : l.take (k + 1) = l.take k ++ [l.getD k (0, 0)] := by
    rw [List.take_add_one, List.getElem?_eq_getElem hk]; simp [List.getD, hk]
  unfold playL
  rw [e, List.foldl_append]; rfl
theorem zv34 (w : World) : (zeroValue 34).run Tryd.prog w = .ok (.agg (aV .u64 (List.replicate 32 0))) w := by kernel_rfl
theorem zv31 (w : World) : (zeroValue 31).run Tryd.prog w = .ok (.agg (aV .u64 (List.replicate 32 0))) w := by kernel_rfl
set_option maxRecDepth 100000 in
set_option maxHeartbeats 4000000 in
theorem rplay_start (ws : List Int) (ao : Option Addr) (n cap : Nat) (l : List (Int × Int)) (at_ : Int) (hl : ws.length = 32) (w : World) (hN : NamesAt w) (hn : ¬ 200 < n) (hln : l.length = n) (hd : 0 < n → ∃ b off, ao = some ⟨b, off, none⟩ ∧ b < w.heap.size ∧ Deeds w b off l) :
    Calls Tryd.prog 4 #[.agg (aV .u64 ws), .slice ao n cap, .int .i64 at_] w fun e w' => e = .returned (.bool true) ∧ Below w.heap.size w w' := by
  have HN := Lib.hid hN
  have HL := Lib.hid hl
  have HLN := Lib.hid hln
  have HD := Lib.hid hd
  clear hln hd
  have HO := Lib.hid ((ofR_len ws).trans hl)
  have el : decide (200 < (n : Int)) = false := by simp; omega
  clear hN hl
  go_enter Tryd.func4, Tryd.ntmps4
  go_upto_region 1 with (fail)
  have hR0 : RowAt .u64 (w.alloc (.cells (aV .u64 ws) 31)) w.heap.size 31 ws := RowAt.new _ _ _ _
  have hB0 : Below w.heap.size w (w.alloc (.cells (aV .u64 ws) 31)) := (Below.refl _ _).alloc (Nat.le_refl _) _
  generalize w.alloc (.cells (aV .u64 ws) 31) = w0 at *
  have HR0 := Lib.hid hR0
  have HB0 := Lib.hid hB0
  clear hR0 hB0
  go_wp2_with (refine wpList_load_row rfl 31 _ rfl w.heap.size rfl 31 _ (0, 0) _ HR0.out Tryd.underlying31 rfl (i31 HL.out) ?_)
  refine (of_c ws HL.out _).mono ?_
  rintro e w1 ⟨rfl, hb⟩
  have HB1 := Lib.hid (HB0.out.trans (hb.mono HB0.out.size))
  have HR1 := Lib.hid (HR0.out.low hb)
  clear hb HR0 HB0
  go_upto_region 4 with (refine wpList_storeNew rfl 34 _ _ rfl _ _ _ rfl rfl (i34 HO.out) (zeros_size HO.out) (aV_one _ _) ?_)
  have hf1 := HR1.out.lt
  have hF2 := RowAt.new .u64 w1 34 (ofR ws)
  have hR2 := HR1.out.alloc (.cells (aV .u64 (ofR ws)) 34)
  have hB2 := HB1.out.alloc HB1.out.size (.cells (aV .u64 (ofR ws)) 34)
  generalize w1.alloc (.cells (aV .u64 (ofR ws)) 34) = w2 at *
  have HF2 := Lib.hid hF2
  have HR2 := Lib.hid hR2
  have HB2 := Lib.hid hB2
  have hf2 := hF2.lt
  clear hF2 hR2 hB2 HR1 HB1
  go_upto_region 5 with (first | (refine wpList_load_row rfl 31 _ rfl w.heap.size rfl 31 _ (0, 0) _ HR2.out Tryd.underlying31 rfl (i31 HL.out) ?_) | (refine wpList_storeNew rfl 31 _ _ rfl _ _ _ rfl rfl (i31 HL.out) (zeros_size HL.out) (aV_one _ _) ?_))
  have hX3 := RowAt.new .u64 w2 31 ws
  have hF3 := HF2.out.alloc (.cells (aV .u64 ws) 31)
  have hB3 := HB2.out.alloc HB2.out.size (.cells (aV .u64 ws) 31)
  generalize w2.alloc (.cells (aV .u64 ws) 31) = w3 at *
  have hc := hX3.cell 0 (by rw [HL.out]; decide)
  have hf := hX3.frozen 0
  have hX4 := hX3.set 0 0
  have hF4 := hF3.far (c := w2.heap.size) (i := 0) (by omega) (.int .u64 0)
  have hB4 := hB3.setCell (p := ⟨w2.heap.size, 0, none⟩) (by show w.heap.size ≤ w2.heap.size; omega) (.int .u64 0)
  have HX4 := Lib.hid (show RowAt .u64 (w3.setCell ⟨w2.heap.size, 0, none⟩ (.int .u64 0)) w2.heap.size 31 (ofR ws) from hX4)
  have HF4 := Lib.hid hF4
  have HB4 := Lib.hid hB4
  clear hX3 hF3 hB3 hX4 hF4 hB4 HF2 HR2 HB2
  generalize ws.getD 0 0 = v0 at *
  go_upto_region 6 with (fail)
  clear hc hf
  generalize w3.setCell ⟨w2.heap.size, 0, none⟩ (.int .u64 0) = w4 at *
  have hp1 := HF4.out.lt
  have hp2 := HX4.out.lt
  go_cut [9, 10] (fun s9 s10 wx => ∃ b9 b10 : Nat, s9 = .pointer (some ⟨b9, 0, none⟩) ∧ s10 = .pointer (some ⟨b10, 0, none⟩) ∧ RowAt .u64 wx w1.heap.size 34 (ofR ws) ∧ RowAt .u64 wx w2.heap.size 31 (ofR ws) ∧ RowAt .u64 wx b9 34 (ofR ws) ∧ RowAt .u64 wx b10 31 (ofR ws) ∧ w2.heap.size < b9 ∧ w2.heap.size < b10 ∧ Below w.heap.size w wx)
  case first =>
    refine wp_region_noPanic ?_
    refine wp_region_held (S := fun W => RowAt .u64 W w1.heap.size 34 (ofR ws) ∧ RowAt .u64 W w2.heap.size 31 (ofR ws)) (by kernel_rfl) ?_
    refine wpAnyH_take (fuel := 5) (i := 0) (oi := _) (v := .agg (aV .u64 (ofR ws))) rfl (by kernel_rfl) (by kernel_rfl) (by kernel_rfl) (fun _ _ _ h => h) (Or.inl ⟨by rfl, fun W hS => exec_load_row _ _ rfl _ rfl _ _ _ hS.1 Tryd.underlying34 rfl (i34 HO.out)⟩) ⟨HF4.out, HX4.out⟩ ?_
    refine wpAnyH_take (fuel := 4) (i := 1) (oi := _) (v := .agg (aV .u64 (ofR ws))) rfl (by kernel_rfl) (by kernel_rfl) (by kernel_rfl) (fun _ _ _ h => h) (Or.inl ⟨by rfl, fun W hS => exec_load_row _ _ rfl _ rfl _ _ _ hS.2 Tryd.underlying31 rfl (i31 HO.out)⟩) ⟨HF4.out, HX4.out⟩ ?_
    refine wpAnyH_all (rs := [2, 3]) (by kernel_rfl) (by decide) ?_
    intro i hi
    simp only [List.mem_cons, List.not_mem_nil, or_false] at hi
    have RF : RowAt .u64 w4.drew w1.heap.size 34 (ofR ws) := HF4.out
    have RX : RowAt .u64 w4.drew w2.heap.size 31 (ofR ws) := HX4.out
    have RB : Below w.heap.size w w4.drew := HB4.out.drew
    have hp2 : w2.heap.size < w4.drew.heap.size := hp2
    change Go.wpOp _ _ _ _ _ _ w4.drew
    generalize w4.drew = W0 at *
    rcases hi with rfl | rfl
    · refine wpOp_val _ _ rfl (by rfl) (exec_alloc _ rfl _ (zv34 _)) ?_
      refine ⟨⟨RF.alloc _, RX.alloc _⟩, ?_⟩
      refine wpAnyH_all (fuel := 2) (rs := [3]) (by kernel_rfl) (by decide) ?_
      intro i hi
      obtain rfl : i = 3 := by simpa using hi
      refine wpOp_val _ _ rfl (by rfl) (exec_alloc _ rfl _ (zv31 _)) ?_
      refine ⟨⟨(RF.alloc _).alloc _, (RX.alloc _).alloc _⟩, ?_⟩
      have r9 : RowAt .u64 ((W0.alloc (.cells (aV .u64 (List.replicate 32 0)) 34)).alloc (.cells (aV .u64 (List.replicate 32 0)) 31)) W0.heap.size 34 (List.replicate 32 0) := (RowAt.new .u64 W0 34 (List.replicate 32 0)).alloc _
      have r10 : RowAt .u64 ((W0.alloc (.cells (aV .u64 (List.replicate 32 0)) 34)).alloc (.cells (aV .u64 (List.replicate 32 0)) 31)) (W0.alloc (.cells (aV .u64 (List.replicate 32 0)) 34)).heap.size 31 (List.replicate 32 0) := RowAt.new .u64 (W0.alloc (.cells (aV .u64 (List.replicate 32 0)) 34)) 31 (List.replicate 32 0)
      have rf : RowAt .u64 ((W0.alloc (.cells (aV .u64 (List.replicate 32 0)) 34)).alloc (.cells (aV .u64 (List.replicate 32 0)) 31)) w1.heap.size 34 (ofR ws) := (RF.alloc _).alloc _
      have rx : RowAt .u64 ((W0.alloc (.cells (aV .u64 (List.replicate 32 0)) 34)).alloc (.cells (aV .u64 (List.replicate 32 0)) 31)) w2.heap.size 31 (ofR ws) := (RX.alloc _).alloc _
      have rb : Below w.heap.size w ((W0.alloc (.cells (aV .u64 (List.replicate 32 0)) 34)).alloc (.cells (aV .u64 (List.replicate 32 0)) 31)) := (RB.alloc RB.size _).alloc (by simp; omega) _
      have hz : (W0.alloc (.cells (aV .u64 (List.replicate 32 0)) 34)).heap.size = W0.heap.size + 1 := by simp
      have hlb : w2.heap.size < W0.heap.size := hp2
      have hla : w1.heap.size < w2.heap.size := hf2
      have hlw : w.heap.size < w1.heap.size := hf1
      refine wpAnyH_all (fuel := 1) (rs := [4]) (by kernel_rfl) (by decide) ?_
      intro i hi
      obtain rfl : i = 4 := by simpa using hi
      refine wpOp_unit _ rfl (by rfl) (exec_store_row _ _ _ rfl W0.heap.size _ (by rfl) rfl _ _ r9 (i34 HO.out) (zeros_size HO.out) (aV_one _ _)) ?_
      have q9 := r9.row (ofR ws)
      have q10 := r10.rowFar (c := W0.heap.size) (by omega) (aV .u64 (ofR ws))
      have qf := rf.rowFar (c := W0.heap.size) (by omega) (aV .u64 (ofR ws))
      have qx := rx.rowFar (c := W0.heap.size) (by omega) (aV .u64 (ofR ws))
      have qb := below_setRow rb (g := W0.heap.size) (by omega) (aV .u64 (ofR ws))
      refine ⟨⟨qf, qx⟩, ?_⟩
      refine wpAnyH_all (fuel := 0) (rs := [5]) (by kernel_rfl) (by decide) ?_
      intro i hi
      obtain rfl : i = 5 := by simpa using hi
      refine wpOp_unit _ rfl (by rfl) (exec_store_row _ _ _ rfl (W0.alloc (.cells (aV .u64 (List.replicate 32 0)) 34)).heap.size _ (by rfl) rfl _ _ q10 (i31 HO.out) (zeros_size HO.out) (aV_one _ _)) ?_
      refine ⟨⟨qf.rowFar (by omega) _, qx.rowFar (by omega) _⟩, ?_⟩
      refine wpAnyH_done (by kernel_rfl) ?_ _
      refine NoPanic.normal ?_
      go_wp2_with fail
      go_meet
      exact ⟨W0.heap.size, (W0.alloc (.cells (aV .u64 (List.replicate 32 0)) 34)).heap.size, by rfl, by rfl, qf.rowFar (by omega) _, qx.rowFar (by omega) _, q9.rowFar (by omega) _, q10.row _, by omega, by omega, below_setRow qb (by omega) _⟩
    · refine wpOp_val _ _ rfl (by rfl) (exec_alloc _ rfl _ (zv31 _)) ?_
      refine ⟨⟨RF.alloc _, RX.alloc _⟩, ?_⟩
      refine wpAnyH_all (fuel := 2) (rs := [2]) (by kernel_rfl) (by decide) ?_
      intro i hi
      obtain rfl : i = 2 := by simpa using hi
      refine wpOp_val _ _ rfl (by rfl) (exec_alloc _ rfl _ (zv34 _)) ?_
      refine ⟨⟨(RF.alloc _).alloc _, (RX.alloc _).alloc _⟩, ?_⟩
      have r9 : RowAt .u64 ((W0.alloc (.cells (aV .u64 (List.replicate 32 0)) 31)).alloc (.cells (aV .u64 (List.replicate 32 0)) 34)) (W0.alloc (.cells (aV .u64 (List.replicate 32 0)) 31)).heap.size 34 (List.replicate 32 0) := RowAt.new .u64 (W0.alloc (.cells (aV .u64 (List.replicate 32 0)) 31)) 34 (List.replicate 32 0)
      have r10 : RowAt .u64 ((W0.alloc (.cells (aV .u64 (List.replicate 32 0)) 31)).alloc (.cells (aV .u64 (List.replicate 32 0)) 34)) W0.heap.size 31 (List.replicate 32 0) := (RowAt.new .u64 W0 31 (List.replicate 32 0)).alloc _
      have rf : RowAt .u64 ((W0.alloc (.cells (aV .u64 (List.replicate 32 0)) 31)).alloc (.cells (aV .u64 (List.replicate 32 0)) 34)) w1.heap.size 34 (ofR ws) := (RF.alloc _).alloc _
      have rx : RowAt .u64 ((W0.alloc (.cells (aV .u64 (List.replicate 32 0)) 31)).alloc (.cells (aV .u64 (List.replicate 32 0)) 34)) w2.heap.size 31 (ofR ws) := (RX.alloc _).alloc _
      have rb : Below w.heap.size w ((W0.alloc (.cells (aV .u64 (List.replicate 32 0)) 31)).alloc (.cells (aV .u64 (List.replicate 32 0)) 34)) := (RB.alloc RB.size _).alloc (by simp; omega) _
      have hz : (W0.alloc (.cells (aV .u64 (List.replicate 32 0)) 31)).heap.size = W0.heap.size + 1 := by simp
      have hlb : w2.heap.size < W0.heap.size := hp2
      have hla : w1.heap.size < w2.heap.size := hf2
      have hlw : w.heap.size < w1.heap.size := hf1
      refine wpAnyH_all (fuel := 1) (rs := [4]) (by kernel_rfl) (by decide) ?_
      intro i hi
      obtain rfl : i = 4 := by simpa using hi
      refine wpOp_unit _ rfl (by rfl) (exec_store_row _ _ _ rfl (W0.alloc (.cells (aV .u64 (List.replicate 32 0)) 31)).heap.size _ (by rfl) rfl _ _ r9 (i34 HO.out) (zeros_size HO.out) (aV_one _ _)) ?_
      have q9 := r9.row (ofR ws)
      have q10 := r10.rowFar (c := (W0.alloc (.cells (aV .u64 (List.replicate 32 0)) 31)).heap.size) (by omega) (aV .u64 (ofR ws))
      have qf := rf.rowFar (c := (W0.alloc (.cells (aV .u64 (List.replicate 32 0)) 31)).heap.size) (by omega) (aV .u64 (ofR ws))
      have qx := rx.rowFar (c := (W0.alloc (.cells (aV .u64 (List.replicate 32 0)) 31)).heap.size) (by omega) (aV .u64 (ofR ws))
      have qb := below_setRow rb (g := (W0.alloc (.cells (aV .u64 (List.replicate 32 0)) 31)).heap.size) (by omega) (aV .u64 (ofR ws))
      refine ⟨⟨qf, qx⟩, ?_⟩
      refine wpAnyH_all (fuel := 0) (rs := [5]) (by kernel_rfl) (by decide) ?_
      intro i hi
      obtain rfl : i = 5 := by simpa using hi
      refine wpOp_unit _ rfl (by rfl) (exec_store_row _ _ _ rfl W0.heap.size _ (by rfl) rfl _ _ q10 (i31 HO.out) (zeros_size HO.out) (aV_one _ _)) ?_
      refine ⟨⟨qf.rowFar (by omega) _, qx.rowFar (by omega) _⟩, ?_⟩
      refine wpAnyH_done (by kernel_rfl) ?_ _
      refine NoPanic.normal ?_
      go_wp2_with fail
      go_meet
      exact ⟨(W0.alloc (.cells (aV .u64 (List.replicate 32 0)) 31)).heap.size, W0.heap.size, by rfl, by rfl, qf.rowFar (by omega) _, qx.rowFar (by omega) _, q9.rowFar (by omega) _, q10.row _, by omega, by omega, below_setRow qb (by omega) _⟩
  case rest =>
    obtain ⟨b9, b10, rfl, rfl, qf, qx, q9, q10, h9, h10, qb⟩ := hcut
    have HQ := Lib.hid (And.intro qf (And.intro qx (And.intro q9 (And.intro q10 qb))))
    clear qf qx q9 q10 qb HX4 HF4 HB4 hp1 hp2
    generalize w1.heap.size = f at *
    generalize w2.heap.size = x at *
    go_wp2_with fail
    go_loopw [11] (fun t wr => ∃ k : Nat, k ≤ n ∧ t = .int .i64 k ∧ RowAt .u64 wr f 34 (playL (ofR ws) (l.take k)) ∧ RowAt .u64 wr x 31 (playL (ofR ws) (l.take k)) ∧ RowAt .u64 wr b9 34 (ofR ws) ∧ RowAt .u64 wr b10 31 (ofR ws) ∧ Below w.heap.size w wr) (fun t _ => n - (intOf t).toNat)
    case atStart => exact ⟨0, Nat.zero_le _, rfl, HQ.out.1, HQ.out.2.1, HQ.out.2.2.1, HQ.out.2.2.2.1, HQ.out.2.2.2.2⟩
    case round =>
      obtain ⟨k, hk, rfl, qf, qx, q9, q10, qb⟩ := hrel
      have HP := Lib.hid ((playL_len (l.take k) (ofR ws)).trans HO.out)
      by_cases hlt : k < n
      · obtain ⟨b, off, rfl, hbl, hD⟩ := HD.out (by omega)
        have hl2 : (k : Int) < (n : Int) := by omega
        obtain ⟨e0, e1⟩ := hD k (by rw [HLN.out]; exact hlt)
        have HE := Lib.hid (show ∀ W, Below w.heap.size w W → W.cell? ⟨b, off + k * 2, none⟩ = some (.int .i64 (l.getD k (0, 0)).1) ∧ W.cell? ⟨b, off + k * 2 + 1, none⟩ = some (.int .u64 (l.getD k (0, 0)).2) from fun W hb => ⟨(hb.cell (p := ⟨b, off + k * 2, none⟩) hbl).trans e0, (hb.cell (p := ⟨b, off + k * 2 + 1, none⟩) hbl).trans e1⟩)
        have HSN := Lib.hid (playL_snoc (ofR ws) l k (by rw [HLN.out]; exact hlt))
        have HS0 := Lib.hid (show (wr.cell? ⟨b, off + k * 2, none⟩ = some (.int .i64 (l.getD k (0, 0)).1) ∧ wr.cell? ⟨b, off + k * 2 + 1, none⟩ = some (.int .u64 (l.getD k (0, 0)).2)) ∧ RowAt .u64 wr f 34 (playL (ofR ws) (l.take k)) ∧ RowAt .u64 wr x 31 (playL (ofR ws) (l.take k)) ∧ RowAt .u64 wr b9 34 (ofR ws) ∧ RowAt .u64 wr b10 31 (ofR ws) ∧ Below w.heap.size w wr from ⟨HE.out wr qb, qf, qx, q9, q10, qb⟩)
        clear qf qx q9 q10 qb e0 e1 hD hk
        generalize (l.getD k (0, 0)).1 = di at *
        generalize (l.getD k (0, 0)).2 = dx at *
        generalize playL (ofR ws) (l.take k) = ps at *
        go_wp2_with fail
        refine wp_region_steady_tail (fun W => W.cell? ⟨b, off + k * 2, none⟩ = some (.int .i64 di) ∧ W.cell? ⟨b, off + k * 2 + 1, none⟩ = some (.int .u64 dx) ∧ RowAt .u64 W f 34 ps ∧ RowAt .u64 W x 31 ps ∧ RowAt .u64 W b9 34 (ofR ws) ∧ RowAt .u64 W b10 31 (ofR ws) ∧ Below w.heap.size w W) 10 (by kernel_rfl) (by kernel_rfl) ⟨HS0.out.1.1, HS0.out.1.2, HS0.out.2.1, HS0.out.2.2.1, HS0.out.2.2.2.1, HS0.out.2.2.2.2.1, HS0.out.2.2.2.2.2.drew⟩ ?_
        iterate 10
          refine steady_val ?_ ?_ (by rfl) (fun W hS => ?_) ?_ ?_
          rotate_left 2
          · obtain ⟨c0, c1, -⟩ := hS
            go_simp
            exact rfl
          · go_simp
            exact rfl
        refine steady_nil ?_
        rintro W ⟨c0, c1, qf, qx, q9, q10, qb⟩
        simp only [List.drop_succ_cons, List.drop_zero]
        have HH := Lib.hid (And.intro qf (And.intro qx (And.intro q9 (And.intro q10 qb))))
        clear qf qx q9 q10 qb c0 c1
        go_wp2_with fail
        refine (set_c _ _ _ HP.out _ _ _ HH.out.1).mono ?_
        rintro e W1 ⟨rfl, rfl⟩
        have qf := HH.out.1.row (setR ps di dx)
        have qx := HH.out.2.1.rowFar (c := f) (by omega) (aV .u64 (setR ps di dx))
        have q9 := HH.out.2.2.1.rowFar (c := f) (by omega) (aV .u64 (setR ps di dx))
        have q10 := HH.out.2.2.2.1.rowFar (c := f) (by omega) (aV .u64 (setR ps di dx))
        have qb := below_setRow HH.out.2.2.2.2 (g := f) (by omega) (aV .u64 (setR ps di dx))
        have HP2 := Lib.hid ((setR_len ps di dx).trans HP.out)
        generalize W.setRow f (aV .u64 (setR ps di dx)) = W1 at *
        have qc := HE.out W1 qb
        have HS1 := Lib.hid (And.intro qc (And.intro qf (And.intro qx (And.intro q9 (And.intro q10 qb)))))
        clear qf qx q9 q10 qb qc HH HS0
        generalize hps : setR ps di dx = ps2 at *
        have HPS := Lib.hid hps
        clear hps
        go_wp2_with fail
        refine wp_region_steady_tail (fun W => W.cell? ⟨b, off + k * 2, none⟩ = some (.int .i64 di) ∧ W.cell? ⟨b, off + k * 2 + 1, none⟩ = some (.int .u64 dx) ∧ RowAt .u64 W f 34 ps2 ∧ RowAt .u64 W x 31 ps ∧ RowAt .u64 W b9 34 (ofR ws) ∧ RowAt .u64 W b10 31 (ofR ws) ∧ Below w.heap.size w W) 11 (by kernel_rfl) (by kernel_rfl) ⟨HS1.out.1.1, HS1.out.1.2, HS1.out.2.1, HS1.out.2.2.1, HS1.out.2.2.2.1, HS1.out.2.2.2.2.1, HS1.out.2.2.2.2.2.drew⟩ ?_
        refine steady_val (.agg (aV .u64 ps)) ?_ (by rfl) (fun W hS => exec_load_row _ _ rfl _ rfl _ _ _ hS.2.2.2.1 Tryd.underlying31 rfl (i31 HP.out)) ?_ ?_
        rotate_left 1
        · go_simp
          exact rfl
        iterate 10
          refine steady_val ?_ ?_ (by rfl) (fun W hS => ?_) ?_ ?_
          rotate_left 2
          · obtain ⟨c0, c1, -⟩ := hS
            go_simp
            exact rfl
          · go_simp
            exact rfl
        refine steady_nil ?_
        rintro W ⟨c0, c1, qf, qx, q9, q10, qb⟩
        simp only [List.drop_succ_cons, List.drop_zero]
        have HH := Lib.hid (And.intro qf (And.intro qx (And.intro q9 (And.intro q10 qb))))
        clear qf qx q9 q10 qb c0 c1
        go_wp2_with fail
        refine (refset_c _ HP.out _ _ _).mono ?_
        rintro e W2 ⟨rfl, hb⟩
        rw [HPS.out]
        have HH2 := Lib.hid (And.intro (HH.out.1.low hb) (And.intro (HH.out.2.1.low hb) (And.intro (HH.out.2.2.1.low hb) (And.intro (HH.out.2.2.2.1.low hb) (HH.out.2.2.2.2.trans (hb.mono HH.out.2.2.2.2.size))))))
        clear hb HH
        go_wp2_with (refine wpList_store_row rfl 31 _ _ rfl x _ rfl rfl 31 _ HH2.out.2.1 (i31 HP2.out) (by rw [aV_size, aV_size, HP.out, HP2.out]) (aV_one _ _) ?_)
        have qf := HH2.out.1.rowFar (c := x) (by omega) (aV .u64 ps2)
        have qx := HH2.out.2.1.row ps2
        have q9 := HH2.out.2.2.1.rowFar (c := x) (by omega) (aV .u64 ps2)
        have q10 := HH2.out.2.2.2.1.rowFar (c := x) (by omega) (aV .u64 ps2)
        have qb := below_setRow HH2.out.2.2.2.2 (g := x) (by omega) (aV .u64 ps2)
        generalize W2.setRow x (aV .u64 ps2) = W3 at *
        clear HH2 HS1
        refine wp_region_steady (fun W => RowAt .u64 W f 34 ps2 ∧ RowAt .u64 W x 31 ps2 ∧ RowAt .u64 W b9 34 (ofR ws) ∧ RowAt .u64 W b10 31 (ofR ws) ∧ Below w.heap.size w W) (by kernel_rfl) (by kernel_rfl) ⟨qf, qx, q9, q10, qb.drew⟩ ?_
        clear qf qx q9 q10 qb
        refine steady_enter (.agg (aV .u64 ps2)) _ _ ?_ (by rfl) (fun W hS => ?_) (fun W hS => (words_c _ _ _ HP2.out _ hS.1).mono fun e W' ⟨he, hb⟩ => ⟨he, hS.1.low hb, hS.2.1.low hb, hS.2.2.1.low hb, hS.2.2.2.1.low hb, hS.2.2.2.2.trans (hb.mono hS.2.2.2.2.size)⟩) ?_ ?_
        rotate_left 1
        · go_simp
        · go_simp
          exact rfl
        refine steady_val (.agg (aV .u64 ps2)) ?_ (by rfl) (fun W hS => exec_load_row _ _ rfl _ rfl _ _ _ hS.2.1 Tryd.underlying31 rfl (i31 HP2.out)) ?_ ?_
        rotate_left 1
        · go_simp
          exact rfl
        refine steady_val (.bool false) ?_ (by rfl) (fun W hS => exec_cmp .neq _ _ _ _ rfl _ _ rfl rfl guard_arr _ (by rw [ne_arr _ _ _ HP2.out HP2.out]; simp)) ?_ ?_
        rotate_left 1
        · go_simp
          exact rfl
        refine steady_nil ?_
        rintro W ⟨qf, qx, q9, q10, qb⟩
        have HH := Lib.hid (And.intro qf (And.intro qx (And.intro q9 (And.intro q10 qb))))
        clear qf qx q9 q10 qb
        go_wp2_with fail
        go_roundw
        case rel => exact ⟨k + 1, by omega, by go_num, by rw [HSN.out]; exact HH.out.1, by rw [HSN.out]; exact HH.out.2.1, HH.out.2.2.1, HH.out.2.2.2.1, HH.out.2.2.2.2⟩
        case measure => simp [intOf]; omega
      · obtain rfl : k = n := by omega
        have HH := Lib.hid (And.intro qf (And.intro qx (And.intro q9 (And.intro q10 qb))))
        clear qf qx q9 q10 qb
        generalize playL (ofR ws) (l.take k) = ps at *
        obtain ⟨r, hr⟩ : ∃ r, (ps == ofR ws) = r := ⟨_, rfl⟩
        have HRR := Lib.hid hr
        clear hr
        obtain ⟨g, hg⟩ : ∃ g, getR ps at_ = g := ⟨_, rfl⟩
        have HG := Lib.hid hg
        by_cases ha : 0 ≤ at_ ∧ at_ < 32
        · obtain ⟨j, rfl⟩ := Int.eq_ofNat_of_zero_le ha.1
          have hj : j < 32 := by omega
          have d1 : decide ((0 : Int) ≤ (j : Int)) = true := by simp
          have d2 : decide ((j : Int) < 32) = true := by simp; omega
          have hj2 : (j : Int) < 32 := by omega
          have hc := HH.out.2.1.cell j (by rw [HP.out]; exact hj)
          rw [show ps.getD j 0 = g by rw [← hg]; unfold getR; rw [if_pos ha, Int.toNat_natCast]] at hc
          clear ha hg
          go_wp2_with fail
          refine wp_region_steady (fun W => RowAt .u64 W f 34 ps ∧ RowAt .u64 W x 31 ps ∧ RowAt .u64 W b9 34 (ofR ws) ∧ RowAt .u64 W b10 31 (ofR ws) ∧ Below w.heap.size w W) (by kernel_rfl) (by kernel_rfl) ⟨HH.out.1, HH.out.2.1, HH.out.2.2.1, HH.out.2.2.2.1, HH.out.2.2.2.2.drew⟩ ?_
          iterate 1
            refine steady_val ?_ ?_ (by rfl) (fun W hS => ?_) ?_ ?_
            rotate_left 2
            · go_simp
              exact rfl
            · go_simp
              exact rfl
          refine steady_enter (.int .u64 g) _ _ ?_ (by rfl) (fun W hS => ?_) (fun W hS => (get_c _ _ _ HP.out (j : Int) _ hS.1).mono fun e W' ⟨he, hw⟩ => ⟨by rw [he, HG.out], hw ▸ hS⟩) ?_ ?_
          rotate_left 1
          · go_simp
          · go_simp
            exact rfl
          iterate 3
            refine steady_val ?_ ?_ (by rfl) (fun W hS => ?_) ?_ ?_
            rotate_left 2
            · go_simp
              exact rfl
            · go_simp
              exact rfl
          refine steady_enter (.agg (aV .u64 (ofR ws))) _ _ ?_ (by rfl) (fun W hS => ?_) (fun W hS => (words_c _ _ _ HO.out _ hS.2.2.1).mono fun e W' ⟨he, hb⟩ => ⟨he, hS.1.low hb, hS.2.1.low hb, hS.2.2.1.low hb, hS.2.2.2.1.low hb, hS.2.2.2.2.trans (hb.mono hS.2.2.2.2.size)⟩) ?_ ?_
          rotate_left 1
          · go_simp
          · go_simp
            exact rfl
          refine steady_val (.agg (aV .u64 (ofR ws))) ?_ (by rfl) (fun W hS => exec_load_row _ _ rfl _ rfl _ _ _ hS.2.2.2.1 Tryd.underlying31 rfl (i31 HO.out)) ?_ ?_
          rotate_left 1
          · go_simp
            exact rfl
          refine steady_val (.bool true) ?_ (by rfl) (fun W hS => exec_cmp .eql _ _ _ _ rfl _ _ rfl rfl guard_arr _ (by rw [eq_arr _ _ _ HO.out HO.out]; simp)) ?_ ?_
          rotate_left 1
          · go_simp
            exact rfl
          iterate 2
            refine steady_val ?_ ?_ (by rfl) (fun W hS => ?_) ?_ ?_
            rotate_left 2
            · go_simp
              exact rfl
            · go_simp
              exact rfl
          refine steady_val (.agg (aV .u64 ps)) ?_ (by rfl) (fun W hS => exec_load_row _ _ rfl _ rfl _ _ _ hS.1 Tryd.underlying34 rfl (i34 HP.out)) ?_ ?_
          rotate_left 1
          · go_simp
            exact rfl
          refine steady_val (.agg (aV .u64 (ofR ws))) ?_ (by rfl) (fun W hS => exec_load_row _ _ rfl _ rfl _ _ _ hS.2.2.1 Tryd.underlying34 rfl (i34 HO.out)) ?_ ?_
          rotate_left 1
          · go_simp
            exact rfl
          refine steady_val (.bool r) ?_ (by rfl) (fun W hS => exec_cmp .eql _ _ _ _ rfl _ _ rfl rfl guard_file _ (by rw [eq_file _ _ _ HP.out HO.out, HRR.out])) ?_ ?_
          rotate_left 1
          · go_simp
            exact rfl
          refine steady_val (.agg (aV .u64 ps)) ?_ (by rfl) (fun W hS => exec_load_row _ _ rfl _ rfl _ _ _ hS.2.1 Tryd.underlying31 rfl (i31 HP.out)) ?_ ?_
          rotate_left 1
          · go_simp
            exact rfl
          refine steady_val (.agg (aV .u64 (ofR ws))) ?_ (by rfl) (fun W hS => exec_load_row _ _ rfl _ rfl _ _ _ hS.2.2.2.1 Tryd.underlying31 rfl (i31 HO.out)) ?_ ?_
          rotate_left 1
          · go_simp
            exact rfl
          refine steady_val (.bool r) ?_ (by rfl) (fun W hS => exec_cmp .eql _ _ _ _ rfl _ _ rfl rfl guard_arr _ (by rw [eq_arr _ _ _ HP.out HO.out, HRR.out])) ?_ ?_
          rotate_left 1
          · go_simp
            exact rfl
          iterate 3
            refine steady_val ?_ ?_ (by rfl) (fun W hS => ?_) ?_ ?_
            rotate_left 2
            · go_simp
              exact rfl
            · go_simp
              exact rfl
          refine steady_enter (.bool true) _ _ ?_ (by rfl) (fun W hS => ?_) (fun W hS => (live5_c _ (HN.out.low hS.2.2.2.2)).mono fun e W' ⟨he, hw⟩ => ⟨he, hw ▸ hS⟩) ?_ ?_
          rotate_left 1
          · go_simp
          · go_simp
            exact rfl
          iterate 2
            refine steady_val ?_ ?_ (by rfl) (fun W hS => ?_) ?_ ?_
            rotate_left 2
            · go_simp
              exact rfl
            · go_simp
              exact rfl
          refine steady_nil ?_
          rintro W ⟨-, -, -, -, qb⟩
          have HB := Lib.hid qb
          clear qb
          go_wp2_with fail
          go_ret
          exact ⟨rfl, HB.out⟩
        · have hd : (decide ((0 : Int) ≤ at_) = false) ∨ (decide ((0 : Int) ≤ at_) = true ∧ decide (at_ < 32) = false) := by
            by_cases h0 : 0 ≤ at_
            · exact .inr ⟨by simpa using h0, by simp; omega⟩
            · exact .inl (by simpa using h0)
          obtain rfl : g = 0 := by rw [← hg]; unfold getR; rw [if_neg ha]
          clear ha hg
          generalize hgz : (0 : Int) = z at HG
          have HZ := Lib.hid hgz
          clear hgz
          rcases hd with d1 | ⟨d1, d2⟩
          all_goals
            go_wp2_with fail
            refine wp_region_steady (fun W => RowAt .u64 W f 34 ps ∧ RowAt .u64 W x 31 ps ∧ RowAt .u64 W b9 34 (ofR ws) ∧ RowAt .u64 W b10 31 (ofR ws) ∧ Below w.heap.size w W) (by kernel_rfl) (by kernel_rfl) ⟨HH.out.1, HH.out.2.1, HH.out.2.2.1, HH.out.2.2.2.1, HH.out.2.2.2.2.drew⟩ ?_
            iterate 1
              refine steady_val ?_ ?_ (by rfl) (fun W hS => ?_) ?_ ?_
              rotate_left 2
              · go_simp
                exact rfl
              · go_simp
                exact rfl
            refine steady_enter (.int .u64 0) _ _ ?_ (by rfl) (fun W hS => ?_) (fun W hS => (get_c _ _ _ HP.out at_ _ hS.1).mono fun e W' ⟨he, hw⟩ => ⟨by rw [he, HG.out, ← HZ.out], hw ▸ hS⟩) ?_ ?_
            rotate_left 1
            · go_simp
            · go_simp
              exact rfl
            iterate 3
              refine steady_val ?_ ?_ (by rfl) (fun W hS => ?_) ?_ ?_
              rotate_left 2
              · go_simp
                exact rfl
              · go_simp
                exact rfl
            refine steady_enter (.agg (aV .u64 (ofR ws))) _ _ ?_ (by rfl) (fun W hS => ?_) (fun W hS => (words_c _ _ _ HO.out _ hS.2.2.1).mono fun e W' ⟨he, hb⟩ => ⟨he, hS.1.low hb, hS.2.1.low hb, hS.2.2.1.low hb, hS.2.2.2.1.low hb, hS.2.2.2.2.trans (hb.mono hS.2.2.2.2.size)⟩) ?_ ?_
            rotate_left 1
            · go_simp
            · go_simp
              exact rfl
            refine steady_val (.agg (aV .u64 (ofR ws))) ?_ (by rfl) (fun W hS => exec_load_row _ _ rfl _ rfl _ _ _ hS.2.2.2.1 Tryd.underlying31 rfl (i31 HO.out)) ?_ ?_
            rotate_left 1
            · go_simp
              exact rfl
            refine steady_val (.bool true) ?_ (by rfl) (fun W hS => exec_cmp .eql _ _ _ _ rfl _ _ rfl rfl guard_arr _ (by rw [eq_arr _ _ _ HO.out HO.out]; simp)) ?_ ?_
            rotate_left 1
            · go_simp
              exact rfl
            iterate 2
              refine steady_val ?_ ?_ (by rfl) (fun W hS => ?_) ?_ ?_
              rotate_left 2
              · go_simp
                exact rfl
              · go_simp
                exact rfl
            refine steady_val (.agg (aV .u64 ps)) ?_ (by rfl) (fun W hS => exec_load_row _ _ rfl _ rfl _ _ _ hS.1 Tryd.underlying34 rfl (i34 HP.out)) ?_ ?_
            rotate_left 1
            · go_simp
              exact rfl
            refine steady_val (.agg (aV .u64 (ofR ws))) ?_ (by rfl) (fun W hS => exec_load_row _ _ rfl _ rfl _ _ _ hS.2.2.1 Tryd.underlying34 rfl (i34 HO.out)) ?_ ?_
            rotate_left 1
            · go_simp
              exact rfl
            refine steady_val (.bool r) ?_ (by rfl) (fun W hS => exec_cmp .eql _ _ _ _ rfl _ _ rfl rfl guard_file _ (by rw [eq_file _ _ _ HP.out HO.out, HRR.out])) ?_ ?_
            rotate_left 1
            · go_simp
              exact rfl
            refine steady_val (.agg (aV .u64 ps)) ?_ (by rfl) (fun W hS => exec_load_row _ _ rfl _ rfl _ _ _ hS.2.1 Tryd.underlying31 rfl (i31 HP.out)) ?_ ?_
            rotate_left 1
            · go_simp
              exact rfl
            refine steady_val (.agg (aV .u64 (ofR ws))) ?_ (by rfl) (fun W hS => exec_load_row _ _ rfl _ rfl _ _ _ hS.2.2.2.1 Tryd.underlying31 rfl (i31 HO.out)) ?_ ?_
            rotate_left 1
            · go_simp
              exact rfl
            refine steady_val (.bool r) ?_ (by rfl) (fun W hS => exec_cmp .eql _ _ _ _ rfl _ _ rfl rfl guard_arr _ (by rw [eq_arr _ _ _ HP.out HO.out, HRR.out])) ?_ ?_
            rotate_left 1
            · go_simp
              exact rfl
            iterate 3
              refine steady_val ?_ ?_ (by rfl) (fun W hS => ?_) ?_ ?_
              rotate_left 2
              · go_simp
                exact rfl
              · go_simp
                exact rfl
            refine steady_enter (.bool true) _ _ ?_ (by rfl) (fun W hS => ?_) (fun W hS => (live5_c _ (HN.out.low hS.2.2.2.2)).mono fun e W' ⟨he, hw⟩ => ⟨he, hw ▸ hS⟩) ?_ ?_
            rotate_left 1
            · go_simp
            · go_simp
              exact rfl
            iterate 2
              refine steady_val ?_ ?_ (by rfl) (fun W hS => ?_) ?_ ?_
              rotate_left 2
              · go_simp
                exact rfl
              · go_simp
                exact rfl
            refine steady_nil ?_
            rintro W ⟨-, -, -, -, qb⟩
            have HB := Lib.hid qb
            clear qb
            go_wp2_with fail
            go_ret
            exact ⟨rfl, HB.out⟩
theorem add_plain (b off j : Nat) : (⟨b, off, none⟩ : Addr).add j = ⟨b, off + j, none⟩ := by unfold Addr.add; split <;> simp_all
/-- What came in as deeds. -/
def IsDeeds (w : World) (ao : Option Addr) (n : Nat) (l : List (Int × Int)) : Prop := l.length = n ∧ n ≤ 9223372036854775807 ∧ (0 < n → ∃ b off, ao = some ⟨b, off, none⟩ ∧ b < w.heap.size ∧ Deeds w b off l)
theorem open_deeds {H : Type} {enc : TypeId × Value → H} {w : World} {r : Reach} {b0 base : Nat} {spare : Nat → Bool} {held : Bool} {v : Value} {d : DataW H} {ps : List MemPlace}
    (hval : Value.okWide Tryd.prog w r b0 32 v) (hd : DataW.Trod enc Tryd.prog w base spare held 32 v d ps) : ∃ ao n cap l, v = .slice ao n cap ∧ IsDeeds w ao n l := by
  obtain ⟨ao, n, cap, rfl⟩ := okWide_slice Tryd.underlying32 hval
  have hce : Tryd.prog.cellsOf 38 = 2 := by kernel_rfl
  have k0 : Tryd.prog.cellsOf 3 = 1 := by kernel_rfl
  have k1 : Tryd.prog.cellsOf 30 = 1 := by kernel_rfl
  obtain ⟨fuel, hf⟩ := hd
  rcases Go.Deep.open_slice Tryd.underlying32 hf with ⟨hcs, _⟩ | ⟨a, len, cap', m, nf, D, Pl, hcs, hb, hl, hm, hmm, _, hel⟩
  · simp [Value.cells] at hcs
    obtain ⟨rfl, rfl, rfl⟩ := hcs
    exact ⟨_, _, _, [], rfl, rfl, by omega, fun h => by omega⟩
  · simp [Value.cells] at hcs
    obtain ⟨rfl, rfl, rfl⟩ := hcs
    have hmn : n ≤ m := by rw [hmm]; split <;> omega
    have key : ∀ i, i < n → ∃ q : Int × Int, w.cell? (a.add (i * 2)) = some (.int .i64 q.1) ∧ w.cell? ((a.add (i * 2)).add 1) = some (.int .u64 q.2) := by
      intro i hi
      obtain ⟨cs', hc, htr⟩ := hel i (by omega)
      rw [hce] at hc
      obtain ⟨_, hlen, hat⟩ := World.cells?_some hc
      obtain ⟨xs, nn, _, hx, _, hxl, hg⟩ := DataW.trod_struct Tryd.underlying38 htr
      have h0 := hg 0 _ rfl
      have h1 := hg 1 _ rfl
      obtain ⟨x0, e0⟩ : ∃ x, xs[0]? = some x := ⟨xs[0]'(by rw [hxl]; decide), List.getElem?_eq_getElem _⟩
      obtain ⟨x1, e1⟩ : ∃ x, xs[1]? = some x := ⟨xs[1]'(by rw [hxl]; decide), List.getElem?_eq_getElem _⟩
      change DataW.trod enc Tryd.prog w base spare held nn 3 (List.take (Tryd.prog.cellsOf 3) (List.drop 0 _)) = _ at h0
      change DataW.trod enc Tryd.prog w base spare held nn 30 (List.take (Tryd.prog.cellsOf 30) (List.drop 1 _)) = _ at h1
      rw [k0, e0] at h0
      rw [k1, e1] at h1
      obtain ⟨p, hp, -, -⟩ := DataW.trod_int Tryd.underlying3 h0
      obtain ⟨s, hs, -, -⟩ := DataW.trod_int Tryd.underlying30 h1
      have c0 := hat 0 (by omega)
      have c1 := hat 1 (by omega)
      match cs', hlen with
      | [v0, v1], _ =>
        simp at hp hs
        subst hp
        subst hs
        exact ⟨(p, s), by simpa [Addr.add] using c0, by simpa using c1⟩
    by_cases hn0 : n = 0
    · subst hn0
      exact ⟨_, _, _, [], rfl, rfl, by omega, fun h => by omega⟩
    · obtain ⟨f, hf⟩ := Go.Deep.choose_lt key
      have hsp : a.spot = none := by
        have := World.cell?_spot (hf 0 (by omega)).1
        simpa [Addr.add] using this
      have hlt : a.block < w.heap.size := by
        have h := (hf 0 (by omega)).1
        simp only [Nat.zero_mul] at h
        have h' : w.cell? a = some (.int .i64 (f 0).1) := by simpa [Addr.add] using h
        exact block_lt_of_cell h'
      obtain ⟨b, off, sp⟩ := a
      simp only at hsp hlt
      subst hsp
      have hget : ∀ j, j < n → ((List.range n).map f).getD j (0, 0) = f j := by
        intro j hj
        simp [List.getD, hj]
      refine ⟨_, _, _, (List.range n).map f, rfl, by simp, by unfold maxLen at hm; omega, fun _ => ⟨b, off, rfl, hlt, ?_⟩⟩
      intro j hj
      have hj' : j < n := by simpa using hj
      rw [hget j hj']
      obtain ⟨a1, a2⟩ := hf j hj'
      rw [add_plain] at a1
      rw [add_plain, add_plain] at a2
      exact ⟨a1, a2⟩
set_option maxHeartbeats 1000000 in
theorem rplay_walk (ws : List Int) (ao : Option Addr) (n cap : Nat) (l : List (Int × Int)) (at_ : Int) (hl : ws.length = 32) (_hw : ∀ y ∈ ws, (Lit.int .u64 y).wf = true) {w : World} (hd : IsDeeds w ao n l) (_ha : -9223372036854775808 ≤ at_ ∧ at_ ≤ 9223372036854775807) (hN : NamesAt w) :
    Calls Tryd.prog 4 #[.agg (aV .u64 ws), .slice ao n cap, .int .i64 at_] w fun e w' => e = .returned (.bool true) ∧ Below w.heap.size w w' := by
  obtain ⟨hln, hmax, hdd⟩ := hd
  by_cases hn : 200 < n
  · have el : decide (200 < (n : Int)) = true := by simp; omega
    have HN := Lib.hid hN
    clear hN _ha hdd hln
    go_enter Tryd.func4, Tryd.ntmps4
    go_wp2_with fail
    have HB := Lib.hid (show Below w.heap.size w (w.alloc (.cells (aV .u64 ws) 31)) from (Below.refl _ _).alloc (Nat.le_refl _) _)
    refine (live5_c _ (HN.out.low HB.out)).mono ?_
    rintro e w2 ⟨rfl, rfl⟩
    go_wp2_with fail
    go_ret
    exact ⟨rfl, HB.out⟩
  · exact rplay_start ws ao n cap l at_ hl w hN hn hln hdd

set_option maxRecDepth 100000 in
theorem rplay_lifted (os : Os) (started : os.Started) (H : Type) (enc : TypeId × Value → H) :
    ReturnsInHanded {} Tryd.checked os 4 .any (fun w args => (Rows.regsPlaySpec.pre enc Tryd.prog Tryd.f4 [] false w args ∧ laidMetH Tryd.prog laid5 w) ∧ sizedMet enc Tryd.prog Tryd.f4 (OpenSpec.ofChange Rows.regsPlaySpec) false w args)
      (Rows.regsPlaySpec.post enc Tryd.prog Tryd.f4 false true false false) := by
  refine returnsInHanded_of_change_and (C := Tryd.checked) (X := fun w _ => laidMetH Tryd.prog laid5 w) (fun _ _ _ hh h => h.of_heap hh) own started (by kernel_rfl) Tryd.func4
    (ChangeSpec.witness_shaped (enc := enc) (C := Tryd.checked) (os := os) (X := fun w _ => laidMetH Tryd.prog laid5 w) false (World.doorLaid Tryd.prog 400 os) #[.agg #[.int .u64 0, .int .u64 0, .int .u64 0, .int .u64 0, .int .u64 0, .int .u64 0, .int .u64 0, .int .u64 0, .int .u64 0, .int .u64 0, .int .u64 0, .int .u64 0, .int .u64 0, .int .u64 0, .int .u64 0, .int .u64 0, .int .u64 0, .int .u64 0, .int .u64 0, .int .u64 0, .int .u64 0, .int .u64 0, .int .u64 0, .int .u64 0, .int .u64 0, .int .u64 0, .int .u64 0, .int .u64 0, .int .u64 0, .int .u64 0, .int .u64 0, .int .u64 0], .slice none 0 0, .int .i64 0] 8 rfl (World.shaped_of_RefB (by kernel_rfl) (by kernel_rfl)) (by kernel_rfl) (by kernel_rfl) (by kernel_rfl) (door5_met os _)) ?_
  intro W base args ds gs before hval0 hW _ _ hL _
  have hval : ∀ (j : Nat) t v, Tryd.f4.params[j]? = some t → args[j]? = some v → Value.okWide Tryd.prog W .any base t v := hval0
  have hW' := hW
  obtain ⟨p, q, hA0, hV, rfl, hfz, hnd⟩ := hW
  have hA : DataW.TrodAll enc Tryd.prog W 0 (fun _ => true) true Tryd.f4.params.toList args.toList ds p := hA0
  rw [Tryd.params4] at hA hval
  obtain ⟨v0, vs0, d0, ds0, p0, q0, hargs, rfl, rfl, h0, r0⟩ := trodAll_cons hA
  obtain ⟨v1, vs1, d1, ds1, p1, q1, rfl, rfl, rfl, h1, r1⟩ := trodAll_cons r0
  obtain ⟨v2, vs2, d2, ds2, p2, q2, rfl, rfl, rfl, h2, r2⟩ := trodAll_cons r1
  obtain ⟨rfl, rfl, rfl⟩ := trodAll_nil r2
  obtain rfl : args = #[v0, v1, v2] := by cases args; simp_all
  obtain ⟨rfl, rfl⟩ := trodVars_none hV
  have k0 := h0
  have lt0 : ∀ x ∈ p0, x.block < W.heap.size := by obtain ⟨m, hm⟩ := k0; exact DataW.trod_lt m _ _ _ hm
  obtain ⟨a0, rfl, w0, z0⟩ := open_arr Tryd.underlying31 Tryd.underlying30 (by kernel_rfl) (by kernel_rfl) (hval 0 31 v0 rfl rfl) h0
  have k1 := h1
  have lt1 : ∀ x ∈ p1, x.block < W.heap.size := by obtain ⟨m, hm⟩ := k1; exact DataW.trod_lt m _ _ _ hm
  obtain ⟨ao1, n1, cap1, l1, rfl, w1⟩ := open_deeds (hval 1 32 v1 rfl rfl) h1
  obtain ⟨a2, rfl, rfl, rfl, w2⟩ := open_int Tryd.underlying3 (hval 2 3 v2 rfl rfl) h2
  have hvv := of_laid5 hL
  clear hA0 hval0
  refine (rplay_walk a0 ao1 n1 cap1 l1 a2 w0 z0 w1 (bounds_i64 w2) hvv).mono fun e W' ⟨he, bel⟩ => ?_
  subst he
  exact ⟨_, rfl, _, _, _, [], _, [], hW', trodAll_mk1 (shut_bool Tryd.underlying4 _), (trodAll_cons_mk (Below.trod laidOut (by kernel_rfl) (of_decide_eq_true (by kernel_rfl)) k0 bel lt0) (trodAll_cons_mk (Below.trod laidOut (by kernel_rfl) (of_decide_eq_true (by kernel_rfl)) k1 bel lt1) (trodAll_cons_mk (shut_int Tryd.underlying3 w2) trodAll_mk0))), rfl, bel.frame _, fun h => by cases h⟩

theorem rplay_over : Rows.regsPlayRow.holds Tryd.pinned (OpenSpec.ofChange Rows.regsPlaySpec) :=
  OpenClaim.holds_of_wide 4 Tryd.f4 rfl rfl rfl rfl rfl rfl rfl ⟨rfl, rfl, rfl, rfl, rfl⟩ rfl rfl rfl rfl rfl (by kernel_rfl) Tryd.func4 (by kernel_rfl)
    (of_decide_eq_true (by kernel_rfl)) (by unfold Func.isWrapper; first | (rw [if_pos (by decide +kernel)]; kernel_rfl) | (rw [if_neg (by decide +kernel)]; exact ⟨rfl, rfl⟩))
    (fun os started H enc _ => rplay_lifted os started H enc)

theorem rplay_said : Rows.RegsPlayCardSaid :=
  Claim7.holds_tied_plain_at .later [] [.data, .data, .data, .data] true Rows.regsPlayCard.stood.harness false
    rplay_over (fun _ h => by cases h) (by kernel_rfl) (fun _ h => by cases h) regsPlay_row_tie rfl ⟨rfl, rfl⟩ (by kernel_rfl) rfl
    (fun f fn hf hfn => by
      obtain rfl : f = 4 := Option.some.inj ((show Tryd.prog.funcNamed "roebuck/roebucklaw05.RegsPlay" = some 4 by kernel_rfl).symm.trans hf) |>.symm
      obtain rfl : fn = Tryd.f4 := (Option.some.inj (Tryd.func4.symm.trans hfn)).symm
      exact ⟨by kernel_rfl, fun j t ht => by
        rw [Tryd.params4] at ht
        have hm : t ∈ [31, 32, 3] := by simpa using Array.mem_of_getElem? ht
        have hall : ([31, 32, 3].all fun u => !Tryd.prog.wantsStandIn u) = true := by kernel_rfl
        exact (show Tryd.prog.wantsStandIn t = false by simpa using List.all_eq_true.1 hall t hm)⟩)
    (by kernel_rfl)
end Go.Proofs.YtbhmnkamfkadiaaDoor
