/-
  The reference of layer 15: New, Read, Write, Tick, Lines.
-/
import Derived.Test.YtkknfhbaldeigaaBrA
set_option maxRecDepth 20000
namespace Go.Proofs.Ytkknfhbaldeigaa
open Go.ChangeShapes Go.WideShapes Go.ChangeAt Go.RowKit

theorem zero_x15 (W : World) : (zeroValue X15).run Try.prog W = .ok (.agg (x15V 0 (Ct.newW 0))) W := by kernel_rfl
theorem build_x15 (n : Nat) : (x15V 0 (Ct.newW 0)).setIfInBounds 0 (.int .i64 n) = x15V n (Ct.newW 0) := rfl
/-- The reference's value in a block. -/
structure XcAt (w : World) (b : Nat) (n : Nat) (ws : List Int) : Prop where
  row : CsAt w b X15 (x15V n ws)
  ok : Ct.Ok n ws
section
variable {w w' : World} {b n : Nat} {ws : List Int}
theorem XcAt.low (h : XcAt w b n ws) (hb : Below w.heap.size w w') : XcAt w' b n ws := ⟨h.row.low hb, h.ok⟩
theorem XcAt.n0 (h : XcAt w b n ws) : w.cell? ⟨b, 0, none⟩ = some (.int .i64 n) := by rw [h.row.cell]; exact x15V_0
theorem XcAt.cw (h : XcAt w b n ws) {i : Nat} (hi : i < 9) : w.cell? ⟨b, i + 1, none⟩ = some (.int .u64 (ws.getD i 0)) := by rw [h.row.cell]; exact x15V_w h.ok.len hi
theorem XcAt.cb (h : XcAt w b n ws) {i : Nat} (hi : i < 8) : w.cell? ⟨b, i + 10, none⟩ = some (.bool (ws.getD (9 + i) 0 == 1)) := by rw [h.row.cell]; exact x15V_b h.ok.len hi
theorem XcAt.setW (h : XcAt w b n ws) {i : Nat} (hi : i < 9) (v : Int) (hk : Ct.Ok n (ws.set i v)) : XcAt (w.setCell ⟨b, i + 1, none⟩ (.int .u64 v)) b n (ws.set i v) := by
  refine ⟨?_, hk⟩
  unfold CsAt
  rw [heap_setCell_same w b (i + 1) _ X15 _ h.row, x15V_setW h.ok.len hi]
theorem XcAt.setB (h : XcAt w b n ws) {i : Nat} (hi : i < 8) (v : Int) (hk : Ct.Ok n (ws.set (9 + i) v)) : XcAt (w.setCell ⟨b, i + 10, none⟩ (.bool (v == 1))) b n (ws.set (9 + i) v) := by
  refine ⟨?_, hk⟩
  unfold CsAt
  rw [heap_setCell_same w b (i + 10) _ X15 _ h.row, x15V_setB h.ok.len hi]
theorem XcAt.box (w : World) (hk : Ct.Ok n ws) : XcAt (w.alloc (Obj.cells (x15V n ws) X15)) w.heap.size n ws := ⟨CsAt.new w X15 _, hk⟩
end
set_option maxRecDepth 100000 in
set_option maxHeartbeats 4000000 in
theorem rnew15_c (harts : Int) (w : World) : Calls Try.prog 46 #[.int .i64 harts] w fun e w' => e = .returned (.agg (x15V (Ct.cnt harts) (Ct.newW (Ct.cnt harts)))) ∧ Below w.heap.size w w' := by
  have HB0 := Lib.hid ((Below.refl w.heap.size w).alloc (Nat.le_refl _) (Obj.cells (x15V 0 (Ct.newW 0)) X15))
  have HR0 := Lib.hid (CsAt.new w X15 (x15V 0 (Ct.newW 0)))
  have hz := zero_x15
  have i0 : (Try.prog.info? X15).map (·.size) = some (x15V 0 (Ct.newW 0)).size := iX15 rfl
  by_cases hlo : harts < 1
  · have HE := Lib.hid (show Ct.cnt harts = 0 by unfold Ct.cnt; rw [if_neg (by omega)])
    rw [HE.out]
    have g0 : decide (harts < 1) = true := by simpa using hlo
    clear hlo
    go_enter Try.func46, Try.ntmps46
    go_upto_region 1 with fail
    go_wp2_with (refine wpList_storeNew (w0 := w) rfl X15 _ _ rfl _ (x15V 0 (Ct.newW 0)) _ rfl rfl i0 rfl x15V_one ?_)
    exact bodyPost_ret (results_cell_row Try.results46 _ _ _ _ _ _ _ rfl HR0.out Try.underlying54 rfl i0) rfl ⟨rfl, HB0.out⟩
  by_cases hhi : 8 < harts
  · have HE := Lib.hid (show Ct.cnt harts = 0 by unfold Ct.cnt; rw [if_neg (by omega)])
    rw [HE.out]
    have g0 : decide (harts < 1) = false := by simpa using hlo
    have g1 : decide (harts > 8) = true := by simpa using hhi
    clear hlo hhi
    go_enter Try.func46, Try.ntmps46
    go_upto_region 1 with fail
    go_wp2_with (refine wpList_storeNew (w0 := w) rfl X15 _ _ rfl _ (x15V 0 (Ct.newW 0)) _ rfl rfl i0 rfl x15V_one ?_)
    exact bodyPost_ret (results_cell_row Try.results46 _ _ _ _ _ _ _ rfl HR0.out Try.underlying54 rfl i0) rfl ⟨rfl, HB0.out⟩
  · skip
    obtain ⟨n, hn⟩ : ∃ n : Nat, harts = n := ⟨harts.toNat, by omega⟩
    subst hn
    have HE := Lib.hid (show Ct.cnt (n : Int) = n by unfold Ct.cnt; rw [if_pos (by omega)]; omega)
    rw [HE.out]
    have hn1 : 1 ≤ n := by omega
    have hn8 : n ≤ 8 := by omega
    have g0 : decide ((n : Int) < 1) = false := by simp; omega
    have g1 : decide ((n : Int) > 8) = false := by simp; omega
    have i1 : (Try.prog.info? X15).map (·.size) = some (x15V n (Ct.newW 0)).size := iX15 rfl
    clear HE hlo hhi
    go_enter Try.func46, Try.ntmps46
    go_upto_region 1 with fail
    generalize w.alloc (Obj.cells (x15V 0 (Ct.newW 0)) X15) = w1 at *
    go_upto_region 4 with (refine wpList_storeNew (w0 := w1) rfl X15 _ _ rfl _ (x15V n (Ct.newW 0)) _ rfl rfl i1 rfl x15V_one ?_)
    have HB1 := Lib.hid (HB0.out.alloc HB0.out.size (Obj.cells (x15V n (Ct.newW 0)) X15))
    have HR1 := Lib.hid (CsAt.new w1 X15 (x15V n (Ct.newW 0)))
    have HQ1 := Lib.hid (HR0.out.alloc (Obj.cells (x15V n (Ct.newW 0)) X15))
    have hlt := HB0.out.size
    have hlt2 := HR0.out.lt
    clear HB0 HR0
    generalize w1.alloc (Obj.cells (x15V n (Ct.newW 0)) X15) = w2 at *
    go_wp2_with fail
    go_loopw [4] (fun i wr => ∃ k : Nat, k ≤ n ∧ i = .int .i64 k ∧ CsAt wr w1.heap.size X15 (x15V n (Ct.newW k)) ∧ CsAt wr w.heap.size X15 (x15V 0 (Ct.newW 0)) ∧ Below w.heap.size w wr) (fun i _ => n - (intOf i).toNat)
    case atStart => exact ⟨0, Nat.zero_le _, rfl, HR1.out, HQ1.out, HB1.out⟩
    case round =>
      obtain ⟨k, hk, rfl, hr, hq, hb⟩ := hrel
      have HRR := Lib.hid hr
      have HQR := Lib.hid hq
      have HBR := Lib.hid hb
      clear hr hq hb HR1 HQ1 HB1
      by_cases hkn : k < n
      · have e0 : decide (k < n) = true := by simpa using hkn
        have gk : (k : Int) < 8 := by omega
        have hc : wr.cell? ⟨w1.heap.size, 2 + k, none⟩ = some (.int .u64 ((Ct.newW k).getD (1 + k) 0)) := by
          rw [HRR.out.cell, show 2 + k = (1 + k) + 1 by omega]; exact x15V_w (Ct.newW_len (by omega)) (by omega)
        have hf := HRR.out.frozen (2 + k)
        generalize (Ct.newW k).getD (1 + k) 0 = v at *
        go_wp2_with fail
        go_roundw
        case rel =>
          refine ⟨k + 1, by omega, by go_num, ?_, HQR.out.far (by omega) _, HBR.out.setCell (by simp; omega) _⟩
          have := HRR.out
          unfold CsAt at this ⊢
          rw [heap_setCell_same wr w1.heap.size (2 + k) _ X15 _ this, show 2 + k = (1 + k) + 1 by omega, x15V_setW (Ct.newW_len (by omega)) (by omega), Ct.newW_set (by omega)]
        case measure => simp [intOf]; omega
      · obtain rfl : k = n := by omega
        have e0 : decide (k < k) = false := by simp
        have ik : (Try.prog.info? X15).map (·.size) = some (x15V k (Ct.newW k)).size := iX15 (Ct.newW_len (by omega))
        go_wp2_with (first | (refine wpList_load_row rfl X15 _ rfl w1.heap.size rfl X15 _ (0, 0) _ HRR.out Try.underlying54 rfl ik ?_) | (refine wpList_store_row rfl X15 _ _ rfl w.heap.size (x15V k (Ct.newW k)) rfl rfl X15 (x15V 0 (Ct.newW 0)) HQR.out ik (by rw [x15V_size rfl, x15V_size (Ct.newW_len (by omega))]) x15V_one ?_))
        exact bodyPost_ret (results_cell_row Try.results46 _ _ _ _ _ _ _ rfl (HQR.out.row _) Try.underlying54 rfl ik) rfl ⟨rfl, below_setRow HBR.out (Nat.le_refl _) _⟩
/-- What stands at a place, and which one. -/
theorem four {t : Nat × Nat × Nat} (h : t.1 < 4) : t.1 = 0 ∨ t.1 = 1 ∨ t.1 = 2 ∨ t.1 = 3 := by omega
end Go.Proofs.Ytkknfhbaldeigaa
