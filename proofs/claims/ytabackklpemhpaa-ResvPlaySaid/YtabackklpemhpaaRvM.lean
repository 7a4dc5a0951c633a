/-
  Contract of resv.Lines, walked.
-/
import Derived.Test.YtabackklpemhpaaRvL
namespace Go.Proofs.Ytabackklpemhpaa
open Go.ChangeShapes Go.WideShapes Go.ChangeAt Go.RowKit

theorem info_u64U : (Try.prog.info? 23).map (fun i => (i.zero, i.size, i.bytes)) = some (some (.int .u64 0), 1, 8) := by kernel_rfl
theorem one_u64U (k : Int) : (#[Value.int .u64 k] : Array Value).all (·.oneCell') = true := by simp [Value.oneCell']
theorem lines_nil_c (w : World) : Calls Try.prog 11 #[.pointer none] w fun e w' => e = .returned (.slice none 0 0) ∧ w' = w := by
  go_enter Try.func11, Try.ntmps11
  go_wp2_with fail
  go_ret
  exact ⟨rfl, rfl⟩
theorem wpList_indexRow {P : Program} {ops : Array Oper} {rest : List Oper} {o : Oper} {a : Act} {w : World} {Q : Exit → Act → World → Prop} (hg : o.guard = none) (t : TypeId) (x y : Operand) (ho : o.op = .index t x y)
    (cs : Array Value) (i : Int) (r : Value) (hx : a.eval x = .agg cs) (hy : a.eval y = .int .i64 i) (hr : (Instr.index t (.agg cs) (.int .i64 i)).run P w = .ok r w)
    (h : wpList P ops Q rest (a.put o.dst r) w) : wpList P ops Q (o :: rest) a w :=
  wpList_plain hg fun _ hK => by
    unfold Oper.wp execOp
    simp only [ho, hx, hy, Sem.run_bind, hr, Result.andThen_ok, Sem.run_pure]
    exact hK _ _ h
theorem wpList_entryAt {P : Program} {ops : Array Oper} {rest : List Oper} {o : Oper} {a : Act} {w : World} {Q : Exit → Act → World → Prop} (hg : o.guard = none) (it : Operand) (ho : o.op = .entry it)
    (p r : Value) (hp : a.eval it = p) (hr : (Instr.entry p).run P w = .ok r w) (h : wpList P ops Q rest (a.put o.dst r) w) : wpList P ops Q (o :: rest) a w :=
  wpList_plain hg fun _ hK => by
    unfold Oper.wp execOp
    simp only [ho, hp, Sem.run_bind, hr, Result.andThen_ok, Sem.run_pure]
    exact hK _ _ h
theorem own_map_reset {w : World} {P : Program} {k : TypeId} {R : Value → Option (DataW Unit × List MemPlace)} {b n : Nat} {D : DataW Unit} (h : w.ownsMap P k R b n D) : w.ownsMap P k R b (Maps.size D) D := by
  obtain ⟨es, clock, hb, F, hs, rfl⟩ := h
  refine ⟨es, clock, hb, F, ?_, rfl⟩
  simp [Maps.size, length_sorted]
theorem below_map {B b : Nat} {w w1 w2 : World} (h : Below B w w1) (hg : w1.grownBy w2 (some b)) (hb : B ≤ b) (hB : B ≤ w.heap.size) : Below B w w2 :=
  ⟨hg.os.trans h.os, hg.tape.trans h.tape, hg.output.trans h.output, Nat.le_trans h.size hg.size, fun k hk => (hg.block k (Nat.lt_of_lt_of_le (Nat.lt_of_lt_of_le hk hB) h.size) (fun e => by cases e; omega)).trans (h.block k hk)⟩
set_option maxRecDepth 100000 in
set_option maxHeartbeats 8000000 in
theorem rlines_c (b o : Nat) (T : Rv.Tb) (w : World) (hT : TbAt w b o T) :
    Calls Try.prog 11 #[.pointer (some ⟨b, o, none⟩)] w fun e w' => ∃ v, e = .returned v ∧ w'.ownsRow w.heap.size 23 1 v (Rv.lines T).length (U.uV (Rv.lines T)) ∧ Below w.heap.size w w' := by
  have hb0 := (Below.refl w.heap.size w).alloc (Nat.le_refl _) (.map #[] 0)
  have HB := Lib.hid hb0
  have HT := Lib.hid (hT.low hb0)
  have HR := Lib.hid (hT.low hb0).all
  have HOK := Lib.hid hT.ok
  have HM := Lib.hid (World.ownsMap_made w Try.prog ST unitElem)
  have hmm := @run_makeMap Try.prog
  have HSZ := Lib.hid (show (w.alloc (.map #[] 0)).heap.size = w.heap.size + 1 by simp)
  clear hT hb0
  go_enter Try.func11, Try.ntmps11
  go_wp2_with (refine wpList_load_mid rfl AT _ rfl b o rfl _ _ HR.out Try.underlying35 rfl info_arr8 ?_)
  generalize w.alloc (.map #[] 0) = w1 at *
  go_loopw [15] (fun i wr => ∃ k : Nat, k ≤ 8 ∧ i = .int .i64 k ∧ (∃ D : DataW Unit, wr.ownsMap Try.prog ST unitElem w.heap.size (Maps.size D) D ∧ Lm T k D) ∧ Below w.heap.size w wr) (fun i _ => 8 - (intOf i).toNat)
  case atStart => exact ⟨0, by omega, rfl, ⟨.map [], by simpa [Maps.size] using HM.out, Lm.zero T⟩, HB.out⟩
  case round =>
    obtain ⟨k, hk, rfl, ⟨D, hD, hL⟩, hb⟩ := hrel
    have HBR := Lib.hid hb
    have HL := Lib.hid hL
    by_cases hlt : k < 8
    · have g : (k : Int) < 8 := by omega
      have hix := fun W => run_index_tab T hlt W
      have hwr := hb.size
      have hmlt := hD.lt
      have hD2 := hD.kept (row := none) (w' := wr.alloc (.cells #[.int .u64 (Rv.ln T k), .bool (Rv.is T k)] ST)) (World.grownBy_alloc _ _ _) (by simp)
      have HD := Lib.hid hD2
      have HB2 := Lib.hid (hb.alloc hwr (.cells #[.int .u64 (Rv.ln T k), .bool (Rv.is T k)] ST))
      have HC := Lib.hid (CsAt.new wr ST #[.int .u64 (Rv.ln T k), .bool (Rv.is T k)])
      have HTI := Lib.hid (hD.tidy slot_law)
      have HSM := Lib.hid (show Maps.size D < maxLen from by have := hL.size; unfold maxLen; omega)
      have HKY := Lib.hid (pV_key (Rv.is T k) (tb_wf HOK.out k))
      clear hD hD2 hL hb HM HB HT HR hmm
      go_upto_region 7 with (first | (refine wpList_indexRow rfl AT _ _ rfl _ _ _ rfl rfl (hix _) ?_) | (refine wpList_storeNew (w0 := wr) rfl ST _ _ rfl _ #[.int .u64 (Rv.ln T k), .bool (Rv.is T k)] _ rfl rfl info_slot rfl rfl ?_))
      generalize wr.alloc (.cells #[.int .u64 (Rv.ln T k), .bool (Rv.is T k)] ST) = w2 at *
      clear hix
      go_wp2_with (first | (refine wpList_load_row rfl ST _ rfl wr.heap.size rfl ST _ (0, 0) _ HC.out Try.underlying34 rfl info_slot ?_) | (refine wpList_mapUpdate_own _ rfl _ _ _ MT rfl ST 78 slot_law Try.underlying77 unitElem w.heap.size (Maps.size D) D rfl HD.out HSM.out _ _ _ rfl rfl HKY.out (.agg []) [] unitElem_mk ?_))
      intro w3 h1 h2
      have HD3 := Lib.hid (show ∃ D : DataW Unit, w3.ownsMap Try.prog ST unitElem w.heap.size (Maps.size D) D ∧ Lm T (k + 1) D from ⟨_, own_map_reset h1, HL.out.put HOK.out HTI.out⟩)
      have HB3 := Lib.hid (below_map HB2.out h2 (Nat.le_refl _) (Nat.le_refl _))
      clear h1 h2 HD HC HTI HSM HKY HL HB2
      go_wp2_with fail
      go_roundw
      case rel => exact ⟨k + 1, by omega, by go_num, HD3.out, HB3.out⟩
      case measure => simp [intOf]; omega
    · obtain rfl : k = 8 := by omega
      have HD := Lib.hid hD
      have HTI := Lib.hid (hD.tidy slot_law)
      have HKY := Lib.hid (pV_key false (wf_u (a := 0) (by decide) (by decide)))
      have hmlt := hD.lt
      clear hD hL hb HM HB HT HR hmm hk hlt
      go_upto_region 10 with (refine wpList_delete_own _ rfl _ _ MT ST rfl 78 slot_law Try.underlying77 unitElem w.heap.size (Maps.size D) D rfl HD.out _ _ rfl HKY.out ?_)
      intro w2 h1 h2
      have HLQ := Lib.hid (HL.out.del HOK.out HTI.out)
      have HD2 := Lib.hid (own_map_reset h1)
      have HB2 := Lib.hid (below_map HBR.out h2.grown (Nat.le_refl _) (Nat.le_refl _))
      clear h1 h2 HD HTI HKY HL HBR
      generalize D.del (pL 0 false) = D2 at *
      go_wp2_with (at_range; refine wpList_range_own _ rfl _ MT rfl ST 78 slot_law Try.underlying77 unitElem w.heap.size (Maps.size D2) D2 rfl HD2.out ?_)
      intro w3 hrg hg3 hs3
      have hb3 : Below w2.heap.size w2 w3 := ⟨hg3.os, hg3.tape, hg3.output, hg3.size, fun k hk => hg3.block k hk (by simp)⟩
      have HRG := Lib.hid hrg
      have HB3 := Lib.hid (HB2.out.trans (hb3.mono HB2.out.size))
      have HST := Lib.hid HLQ.out.start
      have hwm : w.heap.size < w2.heap.size := by have := HD2.out.lt; exact this
      clear hrg hg3 hb3 HD2
      go_wp2_with fail
      go_loopw [6, 7] (fun v _ wr => ∃ left cnt xs, Lr T left cnt xs ∧ wr.ranges Try.prog ST unitElem w.heap.size w2.heap.size (Maps.size D2) D2 left cnt ∧ wr.ownsRow (w2.heap.size + 1) 23 1 v xs.length (U.uV xs) ∧ Below w.heap.size w wr ∧ (w2.heap.size + 1) ≤ wr.heap.size) (fun _ _ wr => wr.rangeLeft w.heap.size w2.heap.size)
      case atStart => exact ⟨_, _, [], HST.out, HRG.out, World.ownsRow_nil _ _ _ _, HB3.out, by omega⟩
      case round =>
        obtain ⟨left, cnt, xs, hlr, hrg, hown, hb, hsz⟩ := hrel
        have HLR := Lib.hid hlr
        have HRG2 := Lib.hid hrg
        have HO := Lib.hid hown
        have HB4 := Lib.hid hb
        clear hlr hrg hown hb HRG HB3 HST
        go_wp2_with (at_next; refine wpList_next_ranges _ rfl _ rfl ST slot_law unitElem (fun v : Value => v) (fun v : Value => v) (fun key kl hk => ⟨key, rfl⟩) (fun v y hv => ⟨v, rfl⟩) w.heap.size w2.heap.size (Maps.size D2) D2 left cnt rfl HRG2.out ?_ ?_)
        · intro _ hl0
          have HE := Lib.hid (HLR.out.done hl0)
          have hlen := HLR.out.len
          by_cases hpos : 0 < xs.length
          · obtain ⟨g, cp, rfl, hg1, hg2, -⟩ := own_pos HO.out hpos
            have HS := Lib.hid (U.sort_c (w2.heap.size + 1) g cp xs wr ⟨HO.out⟩ hpos (by omega))
            go_wp2_with fail
            refine HS.out.mono ?_
            rintro e w5 ⟨rfl, hso⟩
            have HSO := Lib.hid hso
            rw [HE.out] at HSO
            have hll : xs.length = (Rv.lines T).length := HSO.out.len.symm
            rw [hll]
            go_wp2_with fail
            go_ret
            exact ⟨_, rfl, own_mono HSO.out.row.own (by omega), HB4.out.trans (HSO.out.bel.mono (by omega))⟩
          · have hx0 : xs = [] := List.length_eq_zero_iff.1 (by omega)
            subst hx0
            have hl0' : Rv.lines T = [] := HE.out.symm
            obtain ⟨p, cap, rfl, -, -, -⟩ := own_form HO.out
            have HS := Lib.hid (U.sort_none p cap wr)
            go_wp2_with fail
            refine HS.out.mono ?_
            rintro e w5 ⟨rfl, rfl⟩
            go_wp2_with fail
            go_ret
            exact ⟨_, rfl, by rw [hl0']; exact own_mono HO.out (by omega), HB4.out⟩
        · intro x c kl y ps w4 cnt1 hkey hlx hrow hat hrg1 hlt hg1 hs1 hen
          obtain ⟨l, hl, rfl, hn⟩ := HLR.out.only kl hlx
          obtain ⟨i0, hi0, ht0⟩ := hl
          obtain rfl : x = .agg #[.int .u64 l, .bool true] := slot_law.inj hkey (pV_key true (l_wf HOK.out ht0))
          obtain rfl : c = .agg #[] := unitElem_some hrow
          have HLR2 := Lib.hid (HLR.out.step HOK.out ⟨i0, hi0, ht0⟩ hn hlt)
          have hbr : Below w.heap.size wr w4 := ⟨hg1.os, hg1.tape, hg1.output, hg1.size, fun k hk => hg1.block k (by have := HB4.out.size; omega) (fun e => by cases e; omega)⟩
          have hal : Below (w2.heap.size + 1) w4 (w4.alloc (.cells #[.int .u64 l, .bool true] ST)) := (Below.refl _ _).alloc (by omega) _
          have HB5 := Lib.hid ((HB4.out.trans hbr).trans (hal.mono (by omega)))
          have HRG3 := Lib.hid (hrg1.alloc (.cells #[.int .u64 l, .bool true] ST))
          have HLT := Lib.hid (show cnt1 < cnt from hlt)
          have HLE := Lib.hid hrg1.left_eq
          have HLO := Lib.hid HRG2.out.left_eq
          have HO2 := Lib.hid ((own_keep HO.out (fun k hk => hg1.block k (HO.out.lt k hk).2 (fun e => by cases e; have := (HO.out.lt _ hk).1; omega))).alloc (.cells #[.int .u64 l, .bool true] ST))
          have c0 : (w4.alloc (.cells #[.int .u64 l, .bool true] ST)).cell? ⟨w4.heap.size, 0, none⟩ = some (.int .u64 l) := (CsAt.new w4 ST #[.int .u64 l, .bool true]).cell 0
          have hsz5 : (w2.heap.size + 1) ≤ (w4.alloc (.cells #[.int .u64 l, .bool true] ST)).heap.size := by simp; omega
          have hlen := HLR.out.len
          have hmr : w.heap.size < (w2.heap.size + 1) := by omega
          have hrr : w2.heap.size < (w2.heap.size + 1) := by omega
          clear hkey hlx hrow hat hlt hg1 hbr hal hrg1 hn ht0 hs1
          go_upto_region 14 with (first | (refine wpList_entryAt rfl _ rfl _ _ rfl hen ?_) | (refine wpList_storeNew (w0 := w4) rfl ST _ _ rfl _ #[.int .u64 l, .bool true] _ rfl rfl info_slot rfl rfl ?_))
          clear hen
          generalize w4.alloc (.cells #[.int .u64 l, .bool true] ST) = w5 at *
          go_wp2_with (at_builtin; refine wpList_push rfl _ _ 30 rfl (w2.heap.size + 1) 23 _ 1 8 Try.underlying30 info_u64U rfl (by omega) (by omega) _ xs.length _ rfl HO2.out #[.int .u64 l] rfl (one_u64U _) _ rfl rfl (by omega) hsz5 ?_)
          intro v' w6 hown hb6
          have HB6 := Lib.hid (HB5.out.trans (hb6.mono (by omega)))
          have hrg6 := ranges_on HRG3.out (hb6.block _ hmr) (hb6.block _ hrr)
          have HRG6 := Lib.hid hrg6
          have HLE6 := Lib.hid hrg6.left_eq
          have HO6 := Lib.hid (show w6.ownsRow (w2.heap.size + 1) 23 1 v' (xs ++ [l]).length (U.uV (xs ++ [l])) from by
            rw [List.length_append]
            simp only [U.uV, List.map_append, List.map_cons, List.map_nil, List.length_cons, List.length_nil]
            simpa using hown)
          have hsz6 : (w2.heap.size + 1) ≤ w6.heap.size := Nat.le_trans hsz5 hb6.size
          clear hown hb6 hrg6 c0
          go_wp2_with fail
          go_roundw
          case rel => exact ⟨_, _, _, HLR2.out, HRG6.out, HO6.out, HB6.out, hsz6⟩
          case measure => rw [HLE6.out, HLO.out]; exact HLT.out
end Go.Proofs.Ytabackklpemhpaa
