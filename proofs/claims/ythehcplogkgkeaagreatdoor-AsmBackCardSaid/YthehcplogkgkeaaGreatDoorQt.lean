/-
  The contract of asm.Parse (layer 6): a line with too few or too many words.
-/
import Derived.Test.YthehcplogkgkeaaGreatDoorQs
import Derived.Deep.DeepCutAuto
import Derived.Deep.CutRange
set_option maxRecDepth 4000
namespace Go.Proofs.YthehcplogkgkeaaGreatDoor
open Go.ChangeShapes Go.WideShapes Go.ChangeAt Go.RowKit Wd Num

set_option maxHeartbeats 8000000 in
theorem parse_count (l s0 : ByteArray) (x0 : Fl) (w : World) (h0 : 0 < l.size) (h : l.size ≤ 200) (hm : MaxAt w) (ho : AsmOk w) (hn1 : 0 < (wordsB l).length) (hn2 : (wordsB l).length ≤ 300) (hcs : Lib.containsS (wordsB l) ⟨#[]⟩ = false)
    (hs0 : (wordsB l).getD 0 ByteArray.empty = s0) (hsz : s0.size ≤ 1000) (hnm : nameE s0 = .returned (.agg (flA x0))) (hf1 : 1 ≤ fmtN x0.op) (hct : (wordsB l).length ≠ (kdL (fmtN x0.op)).length + 1) :
    Calls Tryz.prog 12 #[.string l] w fun r w' => r = .returned (.tuple #[.agg zeroI, .int .i64 2]) ∧ Below w.heap.size w w' := by
  obtain ⟨-, -, n3⟩ := two_new w
  have hf2 := fmt_le x0.op
  have HA := Lib.hid (splitAt_new w l)
  have c0 := HA.out.words 0 hn1
  rw [hs0] at c0
  obtain ⟨n, hn⟩ : ∃ n, (wordsB l).length = n := ⟨_, rfl⟩
  rw [hn] at hn1 hn2 hct
  have HS := Lib.hid (split_gen2 l _ h0 h (hm.low n3) n hn hn2 false hcs _ rfl)
  have HR := Lib.hid (fun w' (hb : Below w.heap.size w w') => (show Calls Tryz.prog 33 #[.string s0] w' fun r w'' => r = .returned (.agg (flA x0)) ∧ Below w'.heap.size w' w'' by
    have hh := readName_c s0 w' (ho.orders.low hb) hsz
    rw [hnm] at hh
    exact hh))
  clear n3 hm hcs hs0 hnm hn
  have hn1' : (0 : Int) < (n : Int) := by omega
  have hmf : ∀ (fn : Fn) (first cap : Array Value) (w : World), (Instr.makeFunc fn first cap).run Tryz.prog w = .ok (.func fn first cap) w := fun _ _ _ _ => rfl
  have HWE := Lib.hid (show ((w.alloc (.cells zeroI 24)).alloc (.cells #[.int .i64 0] 26)).alloc (wordsObj l) = splitW w (wordsObj l) from rfl)
  have HSZ := Lib.hid (show ((w.alloc (.cells zeroI 24)).alloc (.cells #[.int .i64 0] 26)).heap.size = w.heap.size + 2 by simp)
  generalize splitW w (wordsObj l) = W at *
  go_enter_defers Tryz.func12, Tryz.ntmps12
  go_wp2_with fail
  refine HS.out.mono ?_
  rintro e w1 ⟨rfl, rfl⟩
  simp only [Bool.false_eq_true, if_false]
  rw [HWE.out, HSZ.out]
  go_wp2_with fail
  refine (HR.out _ HA.out.low).mono ?_
  rintro e w2 ⟨rfl, hb⟩
  have HB2 := Lib.hid hb
  clear hb
  go_upto_region 4 with (refine wpList_store_row rfl 24 _ _ rfl w.heap.size (flA x0) rfl rfl 24 zeroI (HA.out.ins.low HB2.out) info_ins rfl (by kernel_rfl) ?_)
  have HI3 := Lib.hid (CsAt.row (HA.out.ins.low HB2.out) (flA x0))
  have HE3 := Lib.hid (CsAt.rowFar (HA.out.err.low HB2.out) (show w.heap.size + 1 ≠ w.heap.size by omega) (flA x0))
  have HL3 := Lib.hid (below_setRow (HA.out.low.trans (HB2.out.mono HA.out.low.size)) (Nat.le_refl w.heap.size) (flA x0))
  have HW3 := Lib.hid (show ∀ j, j < (wordsB l).length → (w2.setRow w.heap.size (flA x0)).cell? ⟨w.heap.size + 2, j, none⟩ = some (.string ((wordsB l).getD j ByteArray.empty)) from fun j hj =>
    (cell_setRow_other w2 w.heap.size (flA x0) ⟨w.heap.size + 2, j, none⟩ (by simp)).trans ((HB2.out.cell (p := ⟨w.heap.size + 2, j, none⟩) (lt_cell (HA.out.words j hj))).trans (HA.out.words j hj)))
  generalize w2.setRow w.heap.size (flA x0) = W3 at *
  clear c0
  simp only [Act.put]
  obtain ⟨n', rfl⟩ : ∃ n', n = n' + 1 := ⟨n - 1, by omega⟩
  go_cut [5, 6] from 10 to 47 (fun s5 s6 wx => s6 = .slice (if n' = 0 then some ⟨w.heap.size + 2, 0, none⟩ else some ⟨w.heap.size + 2, 1, none⟩) n' n' ∧ OpsAny wx s5 (opsL (fmtN x0.op)) ∧ Below W3.heap.size W3 wx)
  case first =>
    have i0 : W3.drew.cell? ⟨w.heap.size, 0, none⟩ = some (.int .i64 x0.op) := HI3.out.cell 0
    have hn1i : (1 : Int) ≤ (n' : Int) + 1 := by omega
    rcases n' with _ | n'
    · refine wp_region_noPanic ?_
      go_region_with ((first | (go_at_call 22; refine (formatOf_c _ _).mono ?_; rintro e wf ⟨rfl, hbf⟩; have HBf := Lib.hid (((Below.refl W3.heap.size W3).drew).trans hbf); clear hbf) | (go_at_call 21; refine (operands_c _ hf1 hf2 _).mono ?_; rintro e wo ⟨v, rfl, hbo, hop⟩; have HBo := Lib.hid (HBf.out.trans (hbo.mono HBf.out.size)); have HOP := Lib.hid hop; clear hbo hop)))
      all_goals
        refine NoPanic.normal ?_
        go_wp2_with fail
        go_meet
        case rel => exact ⟨rfl, HOP.out, HBo.out⟩
    · refine wp_region_noPanic ?_
      go_region_with ((first | (go_at_call 22; refine (formatOf_c _ _).mono ?_; rintro e wf ⟨rfl, hbf⟩; have HBf := Lib.hid (((Below.refl W3.heap.size W3).drew).trans hbf); clear hbf) | (go_at_call 21; refine (operands_c _ hf1 hf2 _).mono ?_; rintro e wo ⟨v, rfl, hbo, hop⟩; have HBo := Lib.hid (HBf.out.trans (hbo.mono HBf.out.size)); have HOP := Lib.hid hop; clear hbo hop)))
      all_goals
        refine NoPanic.normal ?_
        go_wp2_with fail
        go_meet
        case rel => exact ⟨rfl, HOP.out, HBo.out⟩
  case rest =>
    obtain ⟨hs6, hop, hbx⟩ := hcut
    generalize (if n' = 0 then some (⟨w.heap.size + 2, 0, none⟩ : Addr) else some ⟨w.heap.size + 2, 1, none⟩) = pq at hs6
    subst hs6
    rw [opsL_kd _ hf2] at hop
    obtain ⟨o, rfl, -⟩ := opsEach hop
    have HBx := Lib.hid hbx
    clear hop hbx
    have hlen := kdL_len (fmtN x0.op)
    generalize kdL (fmtN x0.op) = Ks at *
    have e1 : (((n' : Nat) : Int) == ((Ks.length : Nat) : Int)) = false := by
      rw [beq_eq_false_iff_ne]
      omega
    have e2 : (n' == Ks.length) = false := by
      rw [beq_eq_false_iff_ne]
      omega
    go_wp2_with fail
    refine (must_no _ _).mono ?_
    rintro e wm ⟨rfl, rfl⟩
    go_wp2_with fail
    exact parse_exit 2 _ w.heap.size (w.heap.size + 1) w.heap.size _ _ w _ rfl rfl (HI3.out.low HBx.out) rfl (HE3.out.low HBx.out) (by omega) (HL3.out.trans (HBx.out.mono HL3.out.size)) (Nat.le_refl _) (by omega)
end Go.Proofs.YthehcplogkgkeaaGreatDoor
