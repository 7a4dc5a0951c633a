/-
  What memory does with an ask, plainly (layer 14). Contracts of resv.Table: Who, Kill. Memory that takes asks, in memory: its struct at block sb, its ram at rb, the ram's map at mb (layer 14).
-/
import Derived.Test.YtjeolfcefeglpabGreatXar
import Derived.Test.YtjeolfcefeglpabGreatXaw
set_option maxRecDepth 20000
namespace Go.Proofs.YtjeolfcefeglpabGreat
open Go.RowKit Wd

namespace Sh
abbrev pcs (a : Ak) : List Sp.P := Sp.pieces a.addr a.next a.cut a.size
/-- May an ask be? -/
def mayB (N : Nat) (a : Ak) : Bool := formB a && (pcs a).all fun p => hasB N p.a p.n
def nB (B : List Int) (N : Nat) (a : Ak) : Int := num B N a.addr a.next a.cut a.size.toNat
def layA (B : List Int) (N : Nat) (a : Ak) (v : Int) : List Int := layB B N a.addr a.next a.cut v a.size.toNat
def killA (T : Rv.Tb) (a : Ak) (hart : Int) : Rv.Tb := killB T a.addr a.next a.cut hart a.size.toNat
def wrB (kind : Int) (good : Bool) : Bool := decide (kind = 3 ∨ kind = 4) || (decide (kind = 6 ∨ kind = 8) && good)
def ansD (B : List Int) (N : Nat) (a : Ak) : Int := if a.kind = 3 ∨ a.kind = 6 then 0 else nB B N a
def ansG (B : List Int) (N : Nat) (T : Rv.Tb) (hart : Int) (a : Ak) : Bool := if a.kind = 6 then a.live && Rv.has T hart (a.addr / 64) else if a.kind = 8 then nB B N a == a.old else false
def laidV (B : List Int) (N : Nat) (a : Ak) : Int := if a.kind = 4 then amoV a.op (nB B N a) a.data else a.data
def midT (T : Rv.Tb) (hart : Int) (a : Ak) : Rv.Tb := if a.kind = 5 then Rv.set T hart (a.addr / 64) else if a.kind = 6 then Rv.clr T hart else T
def doB (B : List Int) (N : Nat) (T : Rv.Tb) (hart : Int) (a : Ak) : List Int := if wrB a.kind (ansG B N T hart a) then layA B N a (laidV B N a) else B
def doT (B : List Int) (N : Nat) (T : Rv.Tb) (hart : Int) (a : Ak) : Rv.Tb := if wrB a.kind (ansG B N T hart a) then killA (midT T hart a) a hart else midT T hart a
def okD (N : Nat) (harts hart : Int) (a : Ak) : Bool := mayB N a && btwB hart 0 (harts - 1)
theorem szS_48 (a : Ak) : szS a = 0 ∨ szS a = 4 ∨ szS a = 8 := by
  have key : ∀ op : Int, 67 ≤ op → op ≤ 88 → sizeS op = 4 ∨ sizeS op = 8 := by
    intro op h1 h2
    have l2 : ∀ k : Fin 99, 67 ≤ k.val → k.val ≤ 88 → sizeL.getD k.val 0 = 4 ∨ sizeL.getD k.val 0 = 8 := by decide +kernel
    unfold sizeS
    rw [if_pos (by omega)]
    have := l2 ⟨op.toNat, by omega⟩ (by simp only; omega) (by simp only; omega)
    simp only at this
    omega
  unfold szS
  split
  · exact .inr (.inl rfl)
  · split
    · exact .inr (.inr rfl)
    · split
      · rename_i h
        have hr : 67 ≤ a.op ∧ a.op ≤ 88 := by
          rcases h with ⟨-, h⟩ | ⟨-, h⟩ | ⟨-, h⟩
          · unfold isB at h
            simp only [Bool.and_eq_true, beq_iff_eq] at h
            exact class_seven.1 h.1.1
          · unfold linkB at h
            simp only [Bool.or_eq_true, beq_iff_eq] at h
            omega
          · unfold condB at h
            simp only [Bool.or_eq_true, beq_iff_eq] at h
            omega
        have := key a.op hr.1 hr.2
        omega
      · exact .inl rfl
theorem pow_iff {n : Int} : powB n = true ↔ (n = 1 ∨ n = 2 ∨ n = 4 ∨ n = 8) := by simp [powB]
/-- What an ask has whose form is right. -/
structure Form (a : Ak) : Prop where
  kind : 1 ≤ a.kind ∧ a.kind ≤ 8
  size : a.size = 1 ∨ a.size = 2 ∨ a.size = 4 ∨ a.size = 8
  cut : Sp.okA a.cut a.size = true
  one : ¬ (a.kind = 2 ∨ a.kind = 3) → a.cut = 0 ∧ a.size = szS a ∧ a.addr % a.size = 0
theorem form_of {a : Ak} (h : formB a = true) : Form a := by
  by_cases k : a.kind = 2 ∨ a.kind = 3
  · rw [formB_ls k, Bool.and_eq_true] at h
    exact ⟨by omega, pow_iff.1 h.1, h.2, fun hc => absurd k hc⟩
  · rw [formB_el k] at h
    simp only [Bool.and_eq_true, decide_eq_true_eq, beq_iff_eq] at h
    obtain ⟨⟨⟨h1, h2⟩, h3⟩, h4⟩ := h
    have h48 := szS_48 a
    refine ⟨?_, by omega, Sp.okA_iff.2 (by omega), fun _ => ⟨h3, h2, by rw [h2]; exact h4⟩⟩
    by_cases hk : 1 ≤ a.kind ∧ a.kind ≤ 8
    · exact hk
    · rw [szS_no (by omega)] at h1
      omega
theorem may_form {N : Nat} {a : Ak} (h : mayB N a = true) : Form a := form_of (by unfold mayB at h; rw [Bool.and_eq_true] at h; exact h.1)
theorem Form.pcs {a : Ak} (h : Form a) (ha : a.In) : Pcs a.addr a.next a.cut (pcs a) a.size.toNat := pcs_of (by have := ha.addr; omega) (by have := ha.next; omega) h.cut
theorem getD_mem {l : List Sp.P} {k : Nat} (hk : k < l.length) : l.getD k Sp.p0 ∈ l := by rw [List.getD_eq_getElem?_getD, List.getElem?_eq_getElem hk]; exact List.getElem_mem hk
theorem all_iff {l : List Sp.P} {N : Nat} : (l.all fun p => hasB N p.a p.n) = true ↔ ∀ k, k < l.length → hasB N (l.getD k Sp.p0).a (l.getD k Sp.p0).n = true := by
  rw [List.all_eq_true]
  constructor
  · intro h k hk
    exact h _ (getD_mem hk)
  · intro h p hp
    obtain ⟨k, hk, rfl⟩ := List.mem_iff_getElem.1 hp
    have := h k hk
    rw [List.getD_eq_getElem?_getD, List.getElem?_eq_getElem hk] at this
    exact this
theorem may_in {N : Nat} {a : Ak} (ha : a.In) (h : mayB N a = true) : inAll N a.addr a.next a.cut a.size.toNat := by
  have hp := (may_form h).pcs ha
  unfold mayB at h
  rw [Bool.and_eq_true] at h
  exact (all_pieces hp).1 (all_iff.1 h.2)
theorem may_iff {N : Nat} {a : Ak} (ha : a.In) : mayB N a = true ↔ formB a = true ∧ inAll N a.addr a.next a.cut a.size.toNat := by
  constructor
  · intro h
    refine ⟨?_, may_in ha h⟩
    unfold mayB at h
    rw [Bool.and_eq_true] at h
    exact h.1
  · rintro ⟨h1, h2⟩
    unfold mayB
    rw [Bool.and_eq_true]
    exact ⟨h1, all_iff.2 ((all_pieces ((form_of h1).pcs ha)).2 h2)⟩
theorem nB_word {B : List Int} {N : Nat} (hB : Rm.Ok B N) {a : Ak} (h : Form a) : 0 ≤ nB B N a ∧ nB B N a < 18446744073709551616 := num_range hB _ _ _ (by have := h.size; omega)
theorem laid_word {B : List Int} {N : Nat} (hB : Rm.Ok B N) {a : Ak} (ha : a.In) (h : Form a) : 0 ≤ laidV B N a ∧ laidV B N a < 18446744073709551616 := by
  have hn := nB_word hB h
  have hd := ha.data
  unfold laidV
  split
  · exact (amo_fit a.op _ _ hn.1 hn.2 hd.1 (by omega)).2.2
  · omega
theorem layA_ok {B : List Int} {N : Nat} (hB : Rm.Ok B N) (a : Ak) (v : Int) : Rm.Ok (layA B N a v) N := layB_ok hB _ _ _ _ _
theorem doB_ok {B : List Int} {N : Nat} (hB : Rm.Ok B N) (T : Rv.Tb) (hart : Int) (a : Ak) : Rm.Ok (doB B N T hart a) N := by
  unfold doB
  split
  · exact layA_ok hB a _
  · exact hB
theorem killA_ok {T : Rv.Tb} (hT : Rv.Ok T) (a : Ak) (hart : Int) : Rv.Ok (killA T a hart) := killB_ok hT _ _ _ _ _
theorem midT_ok {T : Rv.Tb} (hT : Rv.Ok T) (hart : Int) {a : Ak} (ha : a.In) : Rv.Ok (midT T hart a) := by
  have := ha.addr
  unfold midT
  split
  · exact Rv.set_ok hT _ _ (by omega) (by omega)
  · split
    · exact Rv.clr_ok hT _
    · exact hT
theorem doT_ok {T : Rv.Tb} (hT : Rv.Ok T) (B : List Int) (N : Nat) (hart : Int) {a : Ak} (ha : a.In) : Rv.Ok (doT B N T hart a) := by
  unfold doT
  split
  · exact killA_ok (midT_ok hT hart ha) a hart
  · exact midT_ok hT hart ha
end Sh
end Go.Proofs.YtjeolfcefeglpabGreat
set_option maxRecDepth 20000
namespace Go.Proofs.YtjeolfcefeglpabGreat
open Go.ChangeShapes Go.WideShapes Go.ChangeAt Go.RowKit

theorem one_intR (k : Int) : (#[Value.int .i64 k] : Array Value).all (·.oneCell') = true := by simp [Value.oneCell']
theorem info_intR : (Tryz.prog.info? 3).map (fun i => (i.zero, i.size, i.bytes)) = some (some (.int .i64 0), 1, 8) := by kernel_rfl
set_option maxHeartbeats 4000000 in
theorem rwho_c (b o : Nat) (T : Rv.Tb) (l : Int) (w : World) (hT : TbAt w b o T) :
    Calls Tryz.prog 130 #[.pointer (some ⟨b, o, none⟩), .int .u64 l] w fun e w' => ∃ v, e = .returned v ∧ w'.ownsRow w.heap.size 3 1 v (Rv.who T l 8).length (iV (Rv.who T l 8)) ∧ Below w.heap.size w w' := by
  have HT := Lib.hid hT
  clear hT
  go_enter Tryz.func130, Tryz.ntmps130
  go_wp2_with fail
  go_loopw [7, 5] (fun i v wr => ∃ k : Nat, k ≤ 8 ∧ i = .int .i64 k ∧ wr.ownsRow w.heap.size 3 1 v (Rv.who T l k).length (iV (Rv.who T l k)) ∧ Below w.heap.size w wr) (fun i _ _ => 8 - (intOf i).toNat)
  case atStart => exact ⟨0, by omega, rfl, World.ownsRow_nil _ _ _ _, Below.refl _ _⟩
  case round =>
    obtain ⟨k, hk, rfl, hown, hb⟩ := hrel
    have HO := Lib.hid hown
    have HB := Lib.hid hb
    have HTR := Lib.hid (HT.out.low hb)
    clear hown hb
    by_cases hlt : k < 8
    · have g : (k : Int) < 8 := by omega
      have HC := Lib.hid (rhasl_c b o T (k : Int) l wr HTR.out)
      go_wp2_with fail
      refine HC.out.mono ?_
      rintro e w1 ⟨rfl, rfl⟩
      by_cases ht : T k = some l
      · have hh : Rv.has T (k : Int) l = true := by unfold Rv.has; rw [Rv.at_in hlt]; simpa using ht
        have HE := Lib.hid (show Rv.who T l (k + 1) = Rv.who T l k ++ [(k : Int)] by rw [Rv.who, if_pos ht])
        have hlen := Rv.who_len T l k
        have hsz := HB.out.size
        rw [hh]
        go_wp2_with (at_builtin; refine wpList_push rfl _ _ 45 rfl w.heap.size 3 (.int .i64 0) 1 8 Tryz.underlying45 info_intR rfl (by omega) (by omega) _ (Rv.who T l k).length _ rfl HO.out #[.int .i64 (k : Int)] rfl (one_intR _) _ rfl rfl (by omega) hsz ?_)
        rintro v' w2 hown hb
        have HB2 := Lib.hid (HB.out.trans hb)
        have HO2 := Lib.hid (show w2.ownsRow w.heap.size 3 1 v' (Rv.who T l (k + 1)).length (iV (Rv.who T l (k + 1))) from by
          rw [HE.out, List.length_append]
          simp only [iV, List.map_append, List.map_cons, List.map_nil, List.length_cons, List.length_nil]
          simpa using hown)
        clear hown hb
        go_wp2_with fail
        go_roundw
        case rel => exact ⟨k + 1, by omega, by go_num, HO2.out, HB2.out⟩
        case measure => simp [intOf]; omega
      · have hh : Rv.has T (k : Int) l = false := by unfold Rv.has; rw [Rv.at_in hlt]; simpa using ht
        have HE := Lib.hid (show Rv.who T l (k + 1) = Rv.who T l k by rw [Rv.who, if_neg ht])
        rw [hh]
        go_wp2_with fail
        go_roundw
        case rel => exact ⟨k + 1, by omega, by go_num, by rw [HE.out]; exact HO.out, HB.out⟩
        case measure => simp [intOf]; omega
    · obtain rfl : k = 8 := by omega
      go_wp2_with fail
      go_ret
      exact ⟨_, rfl, HO.out, HB.out⟩
theorem own_keep {w w' : World} {base : Nat} {e : TypeId} {size : Nat} {v : Value} {n : Nat} {xs : List Value} (h : w.ownsRow base e size v n xs) (hk : ∀ k, v.ownBlock = some k → w'.heap[k]? = w.heap[k]?) : w'.ownsRow base e size v n xs := by
  refine ⟨h.1, h.2.imp id ?_⟩
  rintro ⟨g, cap, cur, rfl, h1, h2, h3⟩
  exact ⟨g, cap, cur, rfl, h1, (hk g rfl).trans h2, h3⟩
theorem own_mid {w w' : World} {base : Nat} {e : TypeId} {size : Nat} {v : Value} {n : Nat} {xs : List Value} {b o m : Nat} (h : w.ownsRow base e size v n xs) (hm : Mid b o m w w') (hb : b < base) : w'.ownsRow base e size v n xs :=
  own_keep h fun k hk => hm.block k (h.lt k hk).2 (by have := (h.lt k hk).1; omega)
set_option maxHeartbeats 4000000 in
theorem rkill_c (b o : Nat) (T : Rv.Tb) (l but : Int) (w : World) (hT : TbAt w b o T) :
    Calls Tryz.prog 78 #[.pointer (some ⟨b, o, none⟩), .int .u64 l, .int .i64 but] w fun e w' => e = .returned (.int .i64 (Rv.cnt T l but 8 : Nat)) ∧ TbAt w' b o (Rv.kill T l but) ∧ Mid b o 16 w w' := by
  have HT := Lib.hid hT
  have HW := Lib.hid (rwho_c b o T l w hT)
  clear hT
  go_enter Tryz.func78, Tryz.ntmps78
  go_wp2_with fail
  refine HW.out.mono ?_
  rintro e w1 ⟨v, rfl, hown, hb⟩
  have HM := Lib.hid (Mid.of_below (b := b) (o := o) (n := 16) hb HT.out.lt)
  have HT1 := Lib.hid (HT.out.low hb)
  have HO := Lib.hid hown
  obtain ⟨p, cap, rfl, -, -, -⟩ := own_form hown
  have hlen := Rv.who_len T l 8
  have hbw := HT.out.lt
  have hok := HT.out.ok
  clear hb HW hown HT
  go_wp2_with fail
  go_loopw [14, 7] (fun i c wr => ∃ j : Nat, j ≤ (Rv.who T l 8).length ∧ i = .int .i64 j ∧ c = .int .i64 (Rv.midN T l but j : Nat) ∧ TbAt wr b o (Rv.mid T l but j) ∧ Mid b o 16 w wr ∧ wr.ownsRow w.heap.size 3 1 (.slice p (Rv.who T l 8).length cap) (Rv.who T l 8).length (iV (Rv.who T l 8))) (fun i _ _ => (Rv.who T l 8).length - (intOf i).toNat)
  case atStart => exact ⟨0, Nat.zero_le _, rfl, rfl, by rw [Rv.mid_zero]; exact HT1.out, HM.out, HO.out⟩
  case round =>
    obtain ⟨j, hj, rfl, rfl, hT, hm, hown⟩ := hrel
    have HTR := Lib.hid hT
    have HMR := Lib.hid hm
    have HOR := Lib.hid hown
    clear hT hm hown HT1 HM HO
    have hcn := Rv.midN_le T l but j
    by_cases hlt : j < (Rv.who T l 8).length
    · obtain ⟨g, cp, hp, -, -, -⟩ := own_pos HOR.out (by omega)
      obtain ⟨rfl, rfl⟩ : p = some ⟨g, 0, none⟩ ∧ cap = cp := by cases hp; exact ⟨rfl, rfl⟩
      obtain ⟨i, hi, hx, ht⟩ := Rv.who_in hlt
      have c := HOR.out.cellAt j (by omega)
      rw [iV_at _ _ hlt, hx] at c
      have gl : (j : Int) < (Rv.who T l 8).length := by omega
      have HCL := Lib.hid (rclr_c b o _ (i : Int) wr HTR.out)
      clear hp
      by_cases hne : (i : Int) = but
      · have HE := Lib.hid (Rv.mid_but (T := T) (l := l) (but := but) hlt (hx.trans hne))
        have gn : ((i : Int) == but) = true := by simpa using hne
        generalize (Rv.who T l 8).length = len at *
        go_wp2_with fail
        go_roundw
        case rel => exact ⟨j + 1, by omega, by go_num, by rw [HE.out.2], by rw [HE.out.1]; exact HTR.out, HMR.out, HOR.out⟩
        case measure => simp [intOf]; omega
      · obtain ⟨e1, e2, e3⟩ := Rv.mid_step (T := T) (l := l) (but := but) hlt hx hne
        have gn : ((i : Int) == but) = false := by simpa using hne
        have HCE := Lib.hid (show (Rv.at_ (Rv.mid T l but j) (i : Int)).isSome = true by rw [Rv.at_in hi, e1, ht]; rfl)
        have HEE := Lib.hid (show Rv.clr (Rv.mid T l but j) (i : Int) = Rv.mid T l but (j + 1) by rw [Rv.clr_in hi, e2])
        have HNN := Lib.hid e3
        rw [HCE.out, HEE.out] at HCL
        clear e1 e2 e3 HCE HEE
        generalize Rv.midN T l but j = n0 at *
        go_wp2_with fail
        refine HCL.out.mono ?_
        rintro e w2 ⟨rfl, hT, hm⟩
        have HT2 := Lib.hid hT
        have HM2 := Lib.hid (HMR.out.trans hm)
        have HO2 := Lib.hid (own_mid HOR.out hm hbw)
        clear hT hm HCL
        go_wp2_with fail
        go_roundw
        case rel => exact ⟨j + 1, by omega, by go_num, by rw [HNN.out]; go_num, HT2.out, HM2.out, HO2.out⟩
        case measure => simp [intOf]; omega
    · obtain rfl : j = (Rv.who T l 8).length := by omega
      have HE := Lib.hid (Rv.mid_end hok l but)
      rw [HE.out] at HTR
      have HN := Lib.hid (Rv.midN_end T l but)
      generalize (Rv.who T l 8).length = len at *
      go_wp2_with fail
      go_ret
      exact ⟨by rw [← HN.out]; rfl, HTR.out, HMR.out⟩
end Go.Proofs.YtjeolfcefeglpabGreat
set_option maxRecDepth 20000
namespace Go.Proofs.YtjeolfcefeglpabGreat
open Go.ChangeShapes Go.WideShapes Go.ChangeAt Go.RowKit Wd

/-- Between two worlds only the blocks b and c have changed; others may have been made. -/
structure Two (b c : Nat) (w w' : World) : Prop where
  os : w'.os = w.os
  tape : w'.tape = w.tape
  output : w'.output = w.output
  size : w.heap.size ≤ w'.heap.size
  block : ∀ k, k < w.heap.size → k ≠ b → k ≠ c → w'.heap[k]? = w.heap[k]?
theorem Two.refl (b c : Nat) (w : World) : Two b c w w := ⟨rfl, rfl, rfl, Nat.le_refl _, fun _ _ _ _ => rfl⟩
theorem Two.trans {b c : Nat} {u v w : World} (h : Two b c u v) (k : Two b c v w) : Two b c u w :=
  ⟨k.os.trans h.os, k.tape.trans h.tape, k.output.trans h.output, Nat.le_trans h.size k.size, fun i hi h1 h2 => (k.block i (Nat.lt_of_lt_of_le hi h.size) h1 h2).trans (h.block i hi h1 h2)⟩
theorem Two.of_below {b c : Nat} {w w' : World} (h : Below w.heap.size w w') : Two b c w w' := ⟨h.os, h.tape, h.output, h.size, fun k hk _ _ => h.block k hk⟩
theorem Two.of_only {b c : Nat} {w w' : World} (h : Only c w w') : Two b c w w' := ⟨h.os, h.tape, h.output, h.size, fun k hk _ h2 => h.block k hk h2⟩
theorem Two.of_mid {b c o n : Nat} {w w' : World} (h : Mid b o n w w') : Two b c w w' := ⟨h.os, h.tape, h.output, h.size, fun k hk h1 _ => h.block k hk h1⟩
theorem Two.below {b c N : Nat} {w w' : World} (h : Two b c w w') (hb : N ≤ b) (hc : N ≤ c) (hN : N ≤ w.heap.size) : Below N w w' := ⟨h.os, h.tape, h.output, h.size, fun k hk => h.block k (by omega) (by omega) (by omega)⟩
theorem Two.cell {b c : Nat} {w w' : World} (h : Two b c w w') {p : Addr} {v : Value} (hv : w.cell? p = some v) (h1 : p.block ≠ b) (h2 : p.block ≠ c) : w'.cell? p = some v :=
  (World.cell?_of_block (w := w) (h.block p.block (World.block_lt_of_cell? _ _ hv) h1 h2)).trans hv
theorem map_on {H : Type} {w w' : World} {P : Program} {k : TypeId} {R : Value → Option (DataW H × List MemPlace)} {b n : Nat} {D : DataW H} (h : w.ownsMap P k R b n D) (e : w'.heap[b]? = w.heap[b]?) : w'.ownsMap P k R b n D := by
  obtain ⟨es, clock, hb, F, hs, hD⟩ := h
  exact ⟨es, clock, e.trans hb, F, hs, hD⟩
/-- Memory that takes asks. -/
structure ShAt (w : World) (sb rb mb : Nat) (c : Cf) (B : List Int) (T : Rv.Tb) : Prop where
  right : rightS c = true
  ram : RamAt w rb mb c.lines.toNat B
  c0 : w.cell? ⟨sb, 0, none⟩ = some (.pointer (some ⟨rb, 0, none⟩))
  k0 : w.cell? ⟨sb, 1, none⟩ = some (.int .i64 c.harts)
  k1 : w.cell? ⟨sb, 2, none⟩ = some (.int .i64 c.stripes)
  k2 : w.cell? ⟨sb, 3, none⟩ = some (.int .i64 c.lines)
  k3 : w.cell? ⟨sb, 4, none⟩ = some (.int .i64 c.tlb)
  tab : TbAt w sb 5 T
  nr : sb ≠ rb
  nm : sb ≠ mb
section
variable {w w' : World} {sb rb mb : Nat} {c : Cf} {B : List Int} {T : Rv.Tb}
theorem rightS_iff {c : Cf} : rightS c = true ↔ (1 ≤ c.harts ∧ c.harts ≤ 8) ∧ (1 ≤ c.stripes ∧ c.stripes ≤ 64) ∧ (1 ≤ c.lines ∧ c.lines ≤ 4096) ∧ (1 ≤ c.tlb ∧ c.tlb ≤ 32) := by
  simp [rightS, btwB, and_assoc]
theorem ShAt.conf (h : ShAt w sb rb mb c B T) : (1 ≤ c.harts ∧ c.harts ≤ 8) ∧ (1 ≤ c.stripes ∧ c.stripes ≤ 64) ∧ (1 ≤ c.lines ∧ c.lines ≤ 4096) ∧ (1 ≤ c.tlb ∧ c.tlb ≤ 32) := rightS_iff.1 h.right
theorem ShAt.slt (h : ShAt w sb rb mb c B T) : sb < w.heap.size := World.block_lt_of_cell? w _ h.c0
theorem ShAt.low (h : ShAt w sb rb mb c B T) (hb : Below w.heap.size w w') : ShAt w' sb rb mb c B T :=
  have f : ∀ i v, w.cell? ⟨sb, i, none⟩ = some v → w'.cell? ⟨sb, i, none⟩ = some v := fun i _ hv => (hb.cell (p := ⟨sb, i, none⟩) (World.block_lt_of_cell? w _ hv)).trans hv
  ⟨h.right, h.ram.low hb, f _ _ h.c0, f _ _ h.k0, f _ _ h.k1, f _ _ h.k2, f _ _ h.k3, h.tab.low hb, h.nr, h.nm⟩
theorem ShAt.drew (h : ShAt w sb rb mb c B T) : ShAt w.drew sb rb mb c B T := h.low (Below.refl _ _).drew
/-- Other blocks than its own have changed. -/
theorem ShAt.two {b d : Nat} (h : ShAt w sb rb mb c B T) (hk : Two b d w w') (h1 : sb ≠ b ∧ sb ≠ d) (h2 : rb ≠ b ∧ rb ≠ d) (h3 : mb ≠ b ∧ mb ≠ d) : ShAt w' sb rb mb c B T :=
  have f : ∀ i v, w.cell? ⟨sb, i, none⟩ = some v → w'.cell? ⟨sb, i, none⟩ = some v := fun i _ hv => hk.cell hv h1.1 h1.2
  ⟨h.right, by
    obtain ⟨D, hD, hF⟩ := h.ram.own
    exact ⟨h.ram.ok, h.ram.n0, h.ram.n1, hk.cell h.ram.c0 h2.1 h2.2, hk.cell h.ram.c1 h2.1 h2.2, Nat.lt_of_lt_of_le h.ram.lt hk.size, h.ram.ne, D, map_on hD (hk.block mb hD.lt h3.1 h3.2), hF⟩,
   f _ _ h.c0, f _ _ h.k0, f _ _ h.k1, f _ _ h.k2, f _ _ h.k3, h.tab.on (hk.block sb h.slt h1.1 h1.2), h.nr, h.nm⟩
/-- The ram has changed. -/
theorem ShAt.laid {B' : List Int} (h : ShAt w sb rb mb c B T) (hr : RamAt w' rb mb c.lines.toNat B') (ho : Only mb w w') : ShAt w' sb rb mb c B' T :=
  have hb := ho.block sb h.slt h.nm
  have f : ∀ i v, w.cell? ⟨sb, i, none⟩ = some v → w'.cell? ⟨sb, i, none⟩ = some v := fun i _ hv => (World.cell?_of_block (w := w) (a := ⟨sb, i, none⟩) hb).trans hv
  ⟨h.right, hr, f _ _ h.c0, f _ _ h.k0, f _ _ h.k1, f _ _ h.k2, f _ _ h.k3, h.tab.on hb, h.nr, h.nm⟩
/-- The table has changed. -/
theorem ShAt.set {T' : Rv.Tb} (h : ShAt w sb rb mb c B T) (ht : TbAt w' sb 5 T') (hm : Mid sb 5 16 w w') : ShAt w' sb rb mb c B T' :=
  have f : ∀ i v, i < 5 → w.cell? ⟨sb, i, none⟩ = some v → w'.cell? ⟨sb, i, none⟩ = some v := fun i v hi hv => (hm.cell i (.inl hi)).trans hv
  ⟨h.right, by
    obtain ⟨D, hD, hF⟩ := h.ram.own
    have g : ∀ i v, w.cell? ⟨rb, i, none⟩ = some v → w'.cell? ⟨rb, i, none⟩ = some v := fun i v hv => (World.cell?_of_block (w := w) (a := ⟨rb, i, none⟩) (hm.block rb h.ram.lt (Ne.symm h.nr))).trans hv
    exact ⟨h.ram.ok, h.ram.n0, h.ram.n1, g _ _ h.ram.c0, g _ _ h.ram.c1, Nat.lt_of_lt_of_le h.ram.lt hm.size, h.ram.ne, D, map_on hD (hm.block mb hD.lt (Ne.symm h.nm)), hF⟩,
   f _ _ (by omega) h.c0, f _ _ (by omega) h.k0, f _ _ (by omega) h.k1, f _ _ (by omega) h.k2, f _ _ (by omega) h.k3, ht, h.nr, h.nm⟩
theorem ShAt.confR (h : ShAt w sb rb mb c B T) : w.rangeAt sb 1 (cfC c).toList := by
  intro j v hv
  have hj : j < 4 := (List.getElem?_eq_some_iff.1 hv).1
  obtain rfl | rfl | rfl | rfl : j = 0 ∨ j = 1 ∨ j = 2 ∨ j = 3 := by omega
  · cases hv; exact h.k0
  · cases hv; exact h.k1
  · cases hv; exact h.k2
  · cases hv; exact h.k3
theorem ShAt.ramR (h : ShAt w sb rb mb c B T) : w.rangeAt sb 0 [.pointer (some ⟨rb, 0, none⟩)] := by
  intro j v hv
  have hj : j < 1 := (List.getElem?_eq_some_iff.1 hv).1
  obtain rfl : j = 0 := by omega
  cases hv
  exact h.c0
end
end Go.Proofs.YtjeolfcefeglpabGreat
