/-
  Who has a reservation of what, told by what was asked and answered (layer 14, plain). Contract of shard: Do. Contract of shard: Do, done.
-/
import Derived.Test.YtjeolfcefeglpabGreatXax
import Derived.Test.YtjeolfcefeglpabGreatXba
import Derived.Deep.CutBlock
set_option maxRecDepth 20000
namespace Go.Proofs.YtjeolfcefeglpabGreat
open Go.RowKit Wd

namespace Sh
/-- What a hart asked, and whether it was answered Good. -/
structure Ev where
  hart : Int
  a : Ak
  good : Bool
def touchB (a : Ak) (line : Int) : Nat → Bool
  | 0 => false
  | k + 1 => touchB a line k || Sp.byte a.addr a.next a.cut (k : Int) / 64 == line
/-- Does a hart's last Lr still count? The newest first. -/
def cntR (h line : Int) : List Ev → Bool
  | [] => false
  | e :: r => if e.hart = h then (if e.a.kind = 6 then false else if e.a.kind = 5 then e.a.addr / 64 == line else cntR h line r) else if wrB e.a.kind e.good && touchB e.a line e.a.size.toNat then false else cntR h line r
/-- The table is what the history tells. -/
def TellsT (T : Rv.Tb) (evs : List Ev) : Prop := ∀ h : Nat, h < 8 → ∀ line, T h = some line ↔ cntR h line evs = true
theorem tells_nil : TellsT Rv.none_ [] := fun h _ line => by simp [Rv.none_, cntR]
theorem killB_own (T : Rv.Tb) (a b c : Int) (h : Nat) : ∀ k, killB T a b c h k h = T h
  | 0 => rfl
  | k + 1 => by
    unfold killB Rv.kill
    rw [if_neg (by simp), killB_own T a b c h k]
theorem killB_other (T : Rv.Tb) (a : Ak) (h : Nat) (but line : Int) (hne : (h : Int) ≠ but) : ∀ k, (killB T a.addr a.next a.cut but k h = some line ↔ T h = some line ∧ touchB a line k = false)
  | 0 => by simp [killB, touchB]
  | k + 1 => by
    have ih := killB_other T a h but line hne k
    unfold killB Rv.kill touchB
    by_cases e : killB T a.addr a.next a.cut but k h = some (Sp.byte a.addr a.next a.cut (k : Int) / 64)
    · rw [if_pos ⟨e, hne⟩]
      constructor
      · intro hc
        exact absurd hc (by simp)
      · rintro ⟨h1, h2⟩
        rw [Bool.or_eq_false_iff] at h2
        have := ih.2 ⟨h1, h2.1⟩
        rw [e] at this
        simp only [Option.some.injEq] at this
        rw [this] at h2
        simp at h2
    · rw [if_neg (fun hc => e hc.1), ih, Bool.or_eq_false_iff]
      constructor
      · rintro ⟨h1, h2⟩
        refine ⟨h1, h2, ?_⟩
        rw [beq_eq_false_iff_ne]
        intro hc
        rw [hc] at e
        exact e (ih.2 ⟨h1, h2⟩)
      · rintro ⟨h1, h2, -⟩
        exact ⟨h1, h2⟩
theorem midT_other (T : Rv.Tb) (hart : Int) (a : Ak) (h : Nat) (hne : (h : Int) ≠ hart) : midT T hart a h = T h := by
  unfold midT
  split
  · unfold Rv.set
    split
    · rename_i hi
      have := Rv.inH_iff.1 hi
      unfold Rv.upd
      rw [if_neg (by omega)]
    · rfl
  · split
    · unfold Rv.clr
      split
      · rename_i hi
        have := Rv.inH_iff.1 hi
        unfold Rv.upd
        rw [if_neg (by omega)]
      · rfl
    · rfl
theorem tells_step {T : Rv.Tb} {evs : List Ev} (h : TellsT T evs) {B : List Int} {N : Nat} {hart : Int} (hh : Rv.inH hart = true) (a : Ak) : TellsT (doT B N T hart a) (⟨hart, a, ansG B N T hart a⟩ :: evs) := by
  intro i hi line
  obtain ⟨H, hH, rfl⟩ : ∃ k : Nat, k < 8 ∧ hart = k := by have := Rv.inH_iff.1 hh; exact ⟨hart.toNat, by omega, by omega⟩
  by_cases e : i = H
  · subst e
    have hd : doT B N T i a i = midT T i a i := by
      unfold doT
      split
      · exact killB_own _ _ _ _ i _
      · rfl
    rw [hd]
    unfold cntR midT
    rw [if_pos rfl]
    by_cases k5 : a.kind = 5
    · rw [if_pos k5, if_neg (by simp only [k5]; omega), if_pos k5]
      unfold Rv.set Rv.upd
      rw [if_pos hh]
      simp
    · rw [if_neg k5]
      by_cases k6 : a.kind = 6
      · rw [if_pos k6, if_pos k6]
        unfold Rv.clr Rv.upd
        rw [if_pos hh]
        simp
      · rw [if_neg k6, if_neg k6, if_neg k5]
        exact h i hi line
  · have hne : (i : Int) ≠ (H : Int) := by omega
    unfold cntR
    rw [if_neg (by simp only []; omega)]
    have hm := midT_other T H a i hne
    unfold doT
    cases hw : wrB a.kind (ansG B N T H a)
    · simp only [Bool.false_and, Bool.false_eq_true, if_false]
      rw [hm]
      exact h i hi line
    · simp only [Bool.true_and, if_true]
      unfold killA
      rw [killB_other _ a i H line hne, hm, h i hi line]
      cases touchB a line a.size.toNat <;> simp
/-- So a conditional store is Good. -/
theorem tells_good {T : Rv.Tb} {evs : List Ev} (h : TellsT T evs) {hart : Int} (hh : Rv.inH hart = true) (line : Int) : Rv.has T hart line = cntR hart line evs := by
  obtain ⟨H, hH, rfl⟩ : ∃ k : Nat, k < 8 ∧ hart = k := by have := Rv.inH_iff.1 hh; exact ⟨hart.toNat, by omega, by omega⟩
  unfold Rv.has
  rw [Rv.at_in hH]
  have := h H hH line
  cases hc : cntR H line evs
  · rw [hc] at this
    simp only [Bool.false_eq_true, iff_false] at this
    exact decide_eq_false this
  · rw [hc] at this
    exact decide_eq_true (this.2 rfl)
end Sh
end Go.Proofs.YtjeolfcefeglpabGreat
set_option maxRecDepth 20000
namespace Go.Proofs.YtjeolfcefeglpabGreat
open Go.ChangeShapes Go.WideShapes Go.ChangeAt Go.RowKit Wd

theorem results_an {F : Func} {x y : Tmp} {t : TypeId} (hF : F.results = #[.cell x ANT, .tmp y]) (tmps : Array Value) (w : World) (b : Nat) (d : Int) (g : Bool) (r : Value) (h2 : tmps.getD x undef = .pointer (some ⟨b, 0, none⟩)) (h3 : tmps.getD y undef = r) (hb : CsAt w b t (anC d g)) :
    (results F tmps).run Tryz.prog w = .ok (.tuple #[.agg (anC d g), r]) w := by
  have h2' : tmps[x]?.getD undef = .pointer (some ⟨b, 0, none⟩) := by simpa using h2
  have h3' : tmps[y]?.getD undef = r := by simpa using h3
  have hl := run_loadVar_row w b t ANT (anC d g) (0, 0) _ hb Tryz.underlying66 rfl info_an
  simp [results, hF, h2', h3', asAddr, hl]
/-- What Do has made: the ask's box, and the answer's cell. -/
structure DoAt (w W : World) (sb rb mb : Nat) (c : Cf) (B : List Int) (T : Rv.Tb) (a : Ak) : Prop where
  sh : ShAt W sb rb mb c B T
  ak : AkAt W w.heap.size a
  res : CsAt W (w.heap.size + 1) ANT (anC 0 false)
  bel : Two sb mb w W
  sw : sb < w.heap.size
  rw : rb < w.heap.size
  mw : mb < w.heap.size
theorem DoAt.low {w W W' : World} {sb rb mb : Nat} {c : Cf} {B : List Int} {T : Rv.Tb} {a : Ak} (h : DoAt w W sb rb mb c B T a) (hb : Below W.heap.size W W') : DoAt w W' sb rb mb c B T a := ⟨h.sh.low hb, h.ak.low hb, h.res.low hb, h.bel.trans (Two.of_below hb), h.sw, h.rw, h.mw⟩
theorem DoAt.drew {w W : World} {sb rb mb : Nat} {c : Cf} {B : List Int} {T : Rv.Tb} {a : Ak} (h : DoAt w W sb rb mb c B T a) : DoAt w W.drew sb rb mb c B T a := h.low (Below.refl _ _).drew
theorem do_new {w : World} {sb rb mb : Nat} {c : Cf} {B : List Int} {T : Rv.Tb} (h : ShAt w sb rb mb c B T) (a : Ak) : DoAt w ((w.alloc (.cells (akC a) AKT)).alloc (.cells (anC 0 false) ANT)) sb rb mb c B T a := by
  have hb := box_below w (akC a) AKT
  have hb2 := box_below (w.alloc (.cells (akC a) AKT)) (anC 0 false) ANT
  exact ⟨(h.low hb).low hb2, (akAt_new w a).low hb2, by simpa using CsAt.new (w.alloc (.cells (akC a) AKT)) ANT (anC 0 false), Two.of_below (hb.trans (hb2.mono hb.size)), h.slt, h.ram.lt, h.ram.mlt⟩
/-- A block that is newer than w may change. -/
theorem two_row {b c g : Nat} {w W : World} (h : Two b c w W) (hg : w.heap.size ≤ g) (cs : Array Value) : Two b c w (W.setRow g cs) :=
  ⟨h.os, h.tape, h.output, by simpa using h.size, fun k hk h1 h2 => (setRow_other W g k cs (by omega)).trans (h.block k hk h1 h2)⟩
theorem row_only (W : World) (g : Nat) (cs : Array Value) : Only g W (W.setRow g cs) := ⟨rfl, rfl, rfl, by simp, fun k _ hne => setRow_other W g k cs hne⟩
theorem two_cell {b c g i : Nat} {w W : World} (h : Two b c w W) (hg : w.heap.size ≤ g) (v : Value) : Two b c w (W.setCell ⟨g, i, none⟩ v) :=
  ⟨h.os, h.tape, h.output, by simpa using h.size, fun k hk h1 h2 => (heap_setCell_other W ⟨g, i, none⟩ k v (by show k ≠ g; omega)).trans (h.block k hk h1 h2)⟩
theorem ShAt.only {w w' : World} {sb rb mb g : Nat} {c : Cf} {B : List Int} {T : Rv.Tb} (h : ShAt w sb rb mb c B T) (ho : Only g w w') (h1 : sb ≠ g) (h2 : rb ≠ g) (h3 : mb ≠ g) : ShAt w' sb rb mb c B T :=
  h.two (b := g) (d := g) (Two.of_only ho) ⟨h1, h1⟩ ⟨h2, h2⟩ ⟨h3, h3⟩
theorem do_no (a : Ak) (ha : a.In) {sb rb mb : Nat} {c : Cf} {B : List Int} {T : Rv.Tb} (hart : Int) (w : World) (h : ShAt w sb rb mb c B T) (hn : Sh.okD c.lines.toNat c.harts hart a = false) :
    Calls Tryz.prog 14 #[.pointer (some ⟨sb, 0, none⟩), .int .i64 hart, .agg (akC a)] w fun e w' => e = .returned (.tuple #[.agg (anC 0 false), .bool false]) ∧ Two sb mb w w' ∧ ShAt w' sb rb mb c B T := by
  have HD := Lib.hid (do_new h a)
  have HM := Lib.hid (fun W (H : ShAt W sb rb mb c B T) => smay_c a ha W H)
  have hcf := h.conf
  have hw1 : IntKind.i64.wrap (c.harts - 1) = c.harts - 1 := by rw [IntKind.wrap_i64]; omega
  have HW1 := Lib.hid hw1
  unfold Sh.okD at hn
  generalize Sh.mayB c.lines.toNat a = mv at *
  have HN := Lib.hid hn
  clear h hn hcf hw1
  go_enter Tryz.func14, Tryz.ntmps14
  go_upto_region 1 with fail
  rw [zero_an]
  generalize (w.alloc (.cells (akC a) AKT)).alloc (.cells (anC 0 false) ANT) = w1 at *
  go_wp2_with (refine wpList_load_row rfl AKT _ rfl w.heap.size rfl AKT (akC a) (0, 0) _ HD.out.ak.cs Tryz.underlying58 rfl info_ak ?_)
  refine (HM.out w1 HD.out.sh).mono ?_
  rintro e w2 ⟨rfl, hb2⟩
  have HD2 := Lib.hid (HD.out.low hb2)
  clear hb2 HD HM
  cases mv
  · go_wp2_with (refine wpList_store_row rfl ANT _ _ rfl (w.heap.size + 1) (anC 0 false) rfl rfl ANT (anC 0 false) HD2.out.res info_an rfl (anC_one _ _) ?_)
    refine bodyPost_ret (results_an Tryz.results14 _ _ (w.heap.size + 1) 0 false (.bool false) rfl rfl (HD2.out.res.row _)) rfl ⟨rfl, ?_, ?_⟩
    · exact two_row HD2.out.bel (by omega) _
    · exact HD2.out.sh.only (row_only _ _ _) (by have := HD2.out.sw; omega) (by have := HD2.out.rw; omega) (by have := HD2.out.mw; omega)
  · have k0 := HD2.out.sh.k0
    have hw1 := HW1.out
    have HBT := Lib.hid (show btwB hart 0 (c.harts - 1) = false from HN.out)
    go_wp2_with fail
    refine (sbtw_c _ _ _ _).mono ?_
    rintro e w3 ⟨rfl, rfl⟩
    rw [HBT.out]
    go_wp2_with (refine wpList_store_row rfl ANT _ _ rfl (w.heap.size + 1) (anC 0 false) rfl rfl ANT (anC 0 false) HD2.out.res info_an rfl (anC_one _ _) ?_)
    refine bodyPost_ret (results_an Tryz.results14 _ _ (w.heap.size + 1) 0 false (.bool false) rfl rfl (HD2.out.res.row _)) rfl ⟨rfl, ?_, ?_⟩
    · exact two_row HD2.out.bel (by omega) _
    · exact HD2.out.sh.only (row_only _ _ _) (by have := HD2.out.sw; omega) (by have := HD2.out.rw; omega) (by have := HD2.out.mw; omega)
end Go.Proofs.YtjeolfcefeglpabGreat
set_option maxRecDepth 20000
namespace Go.Proofs.YtjeolfcefeglpabGreat
open Go.ChangeShapes Go.WideShapes Go.ChangeAt Go.RowKit Wd

/-- With the pieces of the ask. -/
structure DoL (w W : World) (sb rb mb : Nat) (c : Cf) (B : List Int) (T : Rv.Tb) (a : Ak) (p : Option Addr) (cap base : Nat) : Prop where
  d : DoAt w W sb rb mb c B T a
  row : W.ownsRow base PCT 3 (.slice p (Sh.pcs a).length cap) (Sh.pcs a).length (Sp.cellsOf (Sh.pcs a))
  b0 : w.heap.size + 1 < base
theorem DoL.low {w W W' : World} {sb rb mb : Nat} {c : Cf} {B : List Int} {T : Rv.Tb} {a : Ak} {p : Option Addr} {cap base : Nat} (h : DoL w W sb rb mb c B T a p cap base) (hb : Below W.heap.size W W') : DoL w W' sb rb mb c B T a p cap base := ⟨h.d.low hb, own_low h.row hb, h.b0⟩
theorem DoL.mid {w W W' : World} {sb rb mb : Nat} {c : Cf} {B : List Int} {T T' : Rv.Tb} {a : Ak} {p : Option Addr} {cap base : Nat} (h : DoL w W sb rb mb c B T a p cap base) (ht : TbAt W' sb 5 T') (hm : Mid sb 5 16 W W') : DoL w W' sb rb mb c B T' a p cap base :=
  ⟨⟨h.d.sh.set ht hm, ⟨(hm.block _ h.d.ak.cs.lt (by have := h.d.sw; omega)).trans h.d.ak.cs⟩, (hm.block _ h.d.res.lt (by have := h.d.sw; omega)).trans h.d.res, h.d.bel.trans (Two.of_mid hm), h.d.sw, h.d.rw, h.d.mw⟩, own_mid h.row hm (by have := h.d.sw; have := h.b0; omega), h.b0⟩
section
variable (B : List Int) (N : Nat) (T : Rv.Tb) (hart : Int) (a : Ak)
theorem kd_plain (h : a.kind = 1 ∨ a.kind = 2 ∨ a.kind = 7) : Sh.laidV B N a = a.data ∧ Sh.midT T hart a = T ∧ Sh.ansD B N a = Sh.nB B N a ∧ Sh.ansG B N T hart a = false := by
  unfold Sh.laidV Sh.midT Sh.ansD Sh.ansG
  refine ⟨if_neg (by omega), ?_, if_neg (by omega), ?_⟩ <;> rw [if_neg (by omega), if_neg (by omega)]
theorem kd_3 (h : a.kind = 3) : Sh.laidV B N a = a.data ∧ Sh.midT T hart a = T ∧ Sh.ansD B N a = 0 ∧ Sh.ansG B N T hart a = false := by
  unfold Sh.laidV Sh.midT Sh.ansD Sh.ansG
  refine ⟨if_neg (by omega), ?_, if_pos (by omega), ?_⟩ <;> rw [if_neg (by omega), if_neg (by omega)]
theorem kd_4 (h : a.kind = 4) : Sh.laidV B N a = amoV a.op (Sh.nB B N a) a.data ∧ Sh.midT T hart a = T ∧ Sh.ansD B N a = Sh.nB B N a ∧ Sh.ansG B N T hart a = false := by
  unfold Sh.laidV Sh.midT Sh.ansD Sh.ansG
  refine ⟨if_pos h, ?_, if_neg (by omega), ?_⟩ <;> rw [if_neg (by omega), if_neg (by omega)]
theorem kd_5 (h : a.kind = 5) : Sh.laidV B N a = a.data ∧ Sh.midT T hart a = Rv.set T hart (a.addr / 64) ∧ Sh.ansD B N a = Sh.nB B N a ∧ Sh.ansG B N T hart a = false := by
  unfold Sh.laidV Sh.midT Sh.ansD Sh.ansG
  refine ⟨if_neg (by omega), if_pos h, if_neg (by omega), ?_⟩
  rw [if_neg (by omega), if_neg (by omega)]
theorem kd_6 (h : a.kind = 6) : Sh.laidV B N a = a.data ∧ Sh.midT T hart a = Rv.clr T hart ∧ Sh.ansD B N a = 0 ∧ Sh.ansG B N T hart a = (a.live && Rv.has T hart (a.addr / 64)) := by
  unfold Sh.laidV Sh.midT Sh.ansD Sh.ansG
  exact ⟨if_neg (by omega), by rw [if_neg (by omega), if_pos h], if_pos (by omega), if_pos h⟩
theorem kd_8 (h : a.kind = 8) : Sh.laidV B N a = a.data ∧ Sh.midT T hart a = T ∧ Sh.ansD B N a = Sh.nB B N a ∧ Sh.ansG B N T hart a = (Sh.nB B N a == a.old) := by
  unfold Sh.laidV Sh.midT Sh.ansD Sh.ansG
  exact ⟨if_neg (by omega), by rw [if_neg (by omega), if_neg (by omega)], if_neg (by omega), by rw [if_neg (by omega), if_pos h]⟩
end
theorem pcs_number {B : List Int} {N : Nat} (hB : Rm.Ok B N) {a : Ak} (ha : a.In) (hm : Sh.mayB N a = true) : joinS (Sh.pcs a) (ldL B N (Sh.pcs a)) (Sh.pcs a).length = Sh.nB B N a := Sh.pieces_number hB ((Sh.may_form hm).pcs ha) (Sh.may_in ha hm)
theorem pcs_lay {B : List Int} {N : Nat} (hB : Rm.Ok B N) {a : Ak} (ha : a.In) (hm : Sh.mayB N a = true) {v : Int} (hv : 0 ≤ v ∧ v < 18446744073709551616) (T : Rv.Tb) (hart : Int) :
    Sh.layP B N v (Sh.pcs a) (Sh.pcs a).length = Sh.layA B N a v ∧ Sh.killP T hart (Sh.pcs a) (Sh.pcs a).length = Sh.killA T a hart :=
  ⟨Sh.lay_pieces hB hv.1 hv.2 ((Sh.may_form hm).pcs ha) (Sh.may_in ha hm), Sh.kill_pieces T hart ((Sh.may_form hm).pcs ha)⟩
set_option maxHeartbeats 16000000 in
set_option maxRecDepth 100000 in
theorem do_yes (a : Ak) (ha : a.In) {sb rb mb : Nat} {c : Cf} {B : List Int} {T : Rv.Tb} (hart : Int) (w : World) (h : ShAt w sb rb mb c B T) (hn : Sh.okD c.lines.toNat c.harts hart a = true) :
    Calls Tryz.prog 14 #[.pointer (some ⟨sb, 0, none⟩), .int .i64 hart, .agg (akC a)] w fun e w' =>
      e = .returned (.tuple #[.agg (anC (Sh.ansD B c.lines.toNat a) (Sh.ansG B c.lines.toNat T hart a)), .bool true]) ∧ ShAt w' sb rb mb c (Sh.doB B c.lines.toNat T hart a) (Sh.doT B c.lines.toNat T hart a) ∧ Two sb mb w w' := by
  have HD := Lib.hid (do_new h a)
  have HM := Lib.hid (fun W (H : ShAt W sb rb mb c B T) => smay_c a ha W H)
  have HOK := Lib.hid h.ram.ok
  have hcf := h.conf
  have hw1 : IntKind.i64.wrap (c.harts - 1) = c.harts - 1 := by rw [IntKind.wrap_i64]; omega
  have HW1 := Lib.hid hw1
  unfold Sh.okD at hn
  rw [Bool.and_eq_true] at hn
  have HMAY := Lib.hid hn.1
  have HBT := Lib.hid hn.2
  have HA := Lib.hid ha
  have HNB := Lib.hid (Sh.nB_word h.ram.ok (Sh.may_form hn.1))
  have HNUM := Lib.hid (pcs_number h.ram.ok ha hn.1)
  have HX := Lib.hid (fun W => saccess_c a W)
  have HP := Lib.hid (fun W => pieces_c a.addr a.next a.cut a.size W (by have := ha.addr; omega) (by have := ha.next; omega))
  have HLN := Lib.hid (fun W => sline_c a.addr W (by have := ha.addr; omega) (by have := ha.addr; omega))
  have HPI := Lib.hid (pcIn_pieces a ha)
  have HLL := Lib.hid (Sp.pieces_len a.addr a.next a.cut a.size)
  rw [hn.1] at HM
  clear h hn hcf hw1 ha
  go_enter Tryz.func14, Tryz.ntmps14
  go_upto_region 1 with fail
  rw [zero_an]
  generalize (w.alloc (.cells (akC a) AKT)).alloc (.cells (anC 0 false) ANT) = w1 at *
  go_wp2_with (refine wpList_load_row rfl AKT _ rfl w.heap.size rfl AKT (akC a) (0, 0) _ HD.out.ak.cs Tryz.underlying58 rfl info_ak ?_)
  refine (HM.out w1 HD.out.sh).mono ?_
  rintro e w2 ⟨rfl, hb2⟩
  have HD2 := Lib.hid (HD.out.low hb2)
  clear hb2 HD HM
  have k0 := HD2.out.sh.k0
  have hw1 := HW1.out
  go_wp2_with fail
  refine (sbtw_c _ _ _ _).mono ?_
  rintro e w3 ⟨rfl, rfl⟩
  rw [HBT.out]
  clear k0 hw1
  go_upto_region 3 with fail
  refine wp_region_noPanic ?_
  refine wp_region_held (S := fun W => DoAt w W sb rb mb c B T a) (by kernel_rfl) ?_
  have hS0 := HD2.out.drew
  clear HD2
  refine takeH (fuel := 7) (i := 0) (.agg (akC a)) ?_ rfl (by kernel_rfl) (by kernel_rfl) (by kernel_rfl) (fun _ _ _ h => h) (by kernel_rfl) (fun W hS => exec_load_row AKT _ rfl w.heap.size rfl AKT _ _ hS.ak.cs Tryz.underlying58 rfl info_ak) hS0 ?_ ?_
  rotate_left 1
  · go_simp
    exact rfl
  refine takeH (fuel := 6) (i := 3) (.pointer (some ⟨w.heap.size, 1, none⟩)) ?_ rfl (by kernel_rfl) (by kernel_rfl) (by kernel_rfl) (fun _ _ _ h => h) (by kernel_rfl) (fun W hS => by go_simp) hS0 ?_ ?_
  rotate_left 1
  · go_simp
    exact rfl
  refine takeH (fuel := 5) (i := 4) (.int .u64 a.addr) ?_ rfl (by kernel_rfl) (by kernel_rfl) (by kernel_rfl) (fun _ _ _ h => h) (by kernel_rfl) (fun W hS => by have k1 := hS.ak.addr; go_simp) hS0 ?_ ?_
  rotate_left 1
  · go_simp
    exact rfl
  refine wpAnyH_all (fuel := 4) (rs := [1]) (by kernel_rfl) (by decide) ?_
  intro i hi
  obtain rfl : i = 1 := by simpa using hi
  refine wpOp_callX 30 #[.agg (akC a)] rfl (by kernel_rfl) (by go_simp) ?_
  refine (HX.out w3.drew).mono ?_
  rintro e w4 ⟨rfl, hb4⟩
  have hS1 := hS0.low hb4
  clear hS0 hb4 HX
  refine ⟨_, rfl, hS1, ?_⟩
  refine wpAnyH_all (fuel := 3) (rs := [2]) (by kernel_rfl) (by decide) ?_
  intro i hi
  obtain rfl : i = 2 := by simpa using hi
  refine wpOp_callX 36 #[.agg (axV a.addr a.next a.cut a.size)] rfl (by kernel_rfl) (by go_simp) ?_
  refine (HP.out w4).mono ?_
  rintro e w5 ⟨v5, rfl, hown, hb5⟩
  have hown : w5.ownsRow w4.heap.size PCT 3 v5 (Sh.pcs a).length (Sp.cellsOf (Sh.pcs a)) := hown
  obtain ⟨p, cap, rfl, -, -, -⟩ := own_form hown
  have hS2 := hS1.low hb5
  have HL2 := Lib.hid (show DoL w w5 sb rb mb c B T a p cap w4.heap.size from ⟨hS2, hown, hS1.res.lt⟩)
  clear hb5 hown HP hS1
  generalize w4.heap.size = base at *
  refine ⟨_, rfl, hS2, ?_⟩
  refine wpAnyH_all (fuel := 2) (rs := [5]) (by kernel_rfl) (by decide) ?_
  intro i hi
  obtain rfl : i = 5 := by simpa using hi
  refine wpOp_callX 37 #[.int .u64 a.addr] rfl (by kernel_rfl) (by go_simp) ?_
  refine (HLN.out w5).mono ?_
  rintro e w6 ⟨rfl, rfl⟩
  refine ⟨_, rfl, hS2, ?_⟩
  refine takeH (fuel := 1) (i := 6) (.slice p (Sh.pcs a).length cap) ?_ rfl (by kernel_rfl) (by kernel_rfl) (by kernel_rfl) (fun _ _ _ h => h) (by kernel_rfl) (fun W hS => by go_simp) hS2 ?_ ?_
  rotate_left 1
  · go_simp
    exact rfl
  refine takeH (fuel := 0) (i := 7) (.int .u64 (a.addr / 64)) ?_ rfl (by kernel_rfl) (by kernel_rfl) (by kernel_rfl) (fun _ _ _ h => h) (by kernel_rfl) (fun W hS => by go_simp) hS2 ?_ ?_
  rotate_left 1
  · go_simp
    exact rfl
  refine wpAnyH_done (by kernel_rfl) ?_ _
  refine NoPanic.normal ?_
  clear hS2 HLN
  go_upto_region 4 with fail
  refine wp_region_steady (fun W => DoL w W sb rb mb c B T a p cap base) (by kernel_rfl) (by kernel_rfl) (HL2.out.low (Below.refl _ _).drew) ?_
  iterate 3
    refine steady_val ?_ ?_ (by kernel_rfl) (fun W hS => ?_) ?_ ?_
    rotate_left 2
    · go_simp
      exact rfl
    · go_simp
      exact rfl
  refine steady_val (.agg #[.pointer (some ⟨rb, 0, none⟩)]) ?_ (by kernel_rfl) (fun W hS => exec_load_mid (cs := [.pointer (some ⟨rb, 0, none⟩)]) MMT _ rfl sb 0 rfl _ hS.d.sh.ramR Tryz.underlying87 rfl (by kernel_rfl)) ?_ ?_
  rotate_left 1
  · go_simp
    exact rfl
  refine steady_val ?_ ?_ (by kernel_rfl) (fun W hS => ?_) ?_ ?_
  rotate_left 2
  · go_simp
    exact rfl
  · go_simp
    exact rfl
  refine steady_enter (.int .u64 (Sh.nB B c.lines.toNat a)) 38 #[.agg #[.pointer (some ⟨rb, 0, none⟩)], .slice p (Sh.pcs a).length cap] ?_ (by kernel_rfl) (fun W hS => ?_) (fun W hS => (number_c p cap base (Sh.pcs a) W hS.d.sh.ram hS.row HPI.out HLL.out).mono fun e w' hh => ⟨HNUM.out ▸ hh.1, hS.low hh.2⟩) ?_ ?_
  rotate_left 1
  · go_simp
  · go_simp
    exact rfl
  refine steady_val ?_ ?_ (by kernel_rfl) (fun W hS => ?_) ?_ ?_
  rotate_left 2
  · go_simp
    exact rfl
  · go_simp
    exact rfl
  refine steady_val ?_ ?_ (by kernel_rfl) (fun W hS => ?_) ?_ ?_
  rotate_left 2
  · have k1 := hS.d.ak.data; go_simp
    exact rfl
  · go_simp
    exact rfl
  iterate 2
    refine steady_val ?_ ?_ (by kernel_rfl) (fun W hS => ?_) ?_ ?_
    rotate_left 2
    · go_simp
      exact rfl
    · go_simp
      exact rfl
  refine steady_nil ?_
  intro W7 hW
  have HL7 := Lib.hid hW
  clear hW HL2 HNUM
  have HKD := Lib.hid (Sh.may_form HMAY.out).kind
  go_upto_region 6 with fail
  rw [zero_an]
  have HX8 := Lib.hid (CsAt.new W7 ANT (anC 0 false))
  have hb8 := box_below W7 (anC 0 false) ANT
  have HL8 := Lib.hid (HL7.out.low hb8)
  have HNE := Lib.hid (show sb < W7.heap.size ∧ rb < W7.heap.size ∧ mb < W7.heap.size ∧ w.heap.size + 1 < W7.heap.size by
    have h1 := HL7.out.d.sh.slt
    have h2 := HL7.out.d.sh.ram.lt
    have h3 := HL7.out.d.sh.ram.mlt
    have h4 := HL7.out.d.res.lt
    omega)
  have HB8 := Lib.hid hb8
  clear hb8
  generalize W7.alloc (.cells (anC 0 false) ANT) = w8 at *
  have HLQ := Lib.hid (show ∀ W, Below W7.heap.size W7 W → DoL w W sb rb mb c B T a p cap base from fun W hW => HL7.out.low hW)
  clear HL7
  generalize W7.heap.size = xb at *
  have d0 := HL8.out.d.ak.kind
  go_upto_block 0 with fail
  clear d0
  go_cut [11, 44] (fun s11 _ wy => s11 = .int .u64 (Sh.laidV B c.lines.toNat a) ∧ DoL w wy sb rb mb c B (Sh.midT T hart a) a p cap base ∧ CsAt wy xb ANT (anC (Sh.ansD B c.lines.toNat a) (Sh.ansG B c.lines.toNat T hart a)))
  case first =>
    have x0 : w8.cell? ⟨xb, 0, none⟩ = some (.int .u64 0) := HX8.out.cell 0
    have f0 := HX8.out.frozen 0
    have x1 : w8.cell? ⟨xb, 1, none⟩ = some (.bool false) := HX8.out.cell 1
    have f1 := HX8.out.frozen 1
    have HD8 := Lib.hid (HB8.out.setCell (p := ⟨xb, 0, none⟩) (Nat.le_refl _) (.int .u64 (Sh.nB B c.lines.toNat a)))
    have HXS := Lib.hid (show CsAt (w8.setCell ⟨xb, 0, none⟩ (.int .u64 (Sh.nB B c.lines.toNat a))) xb ANT (anC (Sh.nB B c.lines.toNat a) false) from setAn HX8.out 0 _)
    have hk := HKD.out
    have hkk : (a.kind = 1 ∨ a.kind = 2 ∨ a.kind = 7) ∨ a.kind = 3 ∨ a.kind = 4 ∨ a.kind = 5 ∨ a.kind = 6 ∨ a.kind = 8 := by omega
    rcases hkk with k | k | k | k | k | k
    · have HE := Lib.hid (kd_plain B c.lines.toNat T hart a k)
      clear hk x1 f1
      rcases k with k | k | k
      all_goals
        rw [k]
        clear k
        go_wp2_with fail
        go_meet
        exact ⟨by rw [HE.out.1], by rw [HE.out.2.1]; exact HLQ.out _ HD8.out, by rw [HE.out.2.2.1, HE.out.2.2.2]; exact HXS.out⟩
    · have HE := Lib.hid (kd_3 B c.lines.toNat T hart a k)
      rw [k]
      clear k hk x0 f0 x1 f1
      go_wp2_with fail
      go_meet
      exact ⟨by rw [HE.out.1], by rw [HE.out.2.1]; exact HLQ.out _ HB8.out, by rw [HE.out.2.2.1, HE.out.2.2.2]; exact HX8.out⟩
    · have HE := Lib.hid (kd_4 B c.lines.toNat T hart a k)
      rw [k]
      clear k hk x1 f1
      have HAM := Lib.hid (fun W => (amo_fit a.op (Sh.nB B c.lines.toNat a) a.data HNB.out.1 HNB.out.2 HA.out.data.1 (by have := HA.out.data; omega)).1 W)
      go_upto_region 14 with fail
      generalize w8.setCell ⟨xb, 0, none⟩ (.int .u64 (Sh.nB B c.lines.toNat a)) = w9 at *
      have HL9 := Lib.hid (HLQ.out w9 HD8.out)
      have d5 := HL9.out.d.ak.op
      have d6 := HL9.out.d.ak.data
      clear x0 f0
      go_wp2_with fail
      refine (HAM.out w9).mono ?_
      rintro e w10 ⟨rfl, rfl⟩
      go_wp2_with fail
      go_meet
      exact ⟨by rw [HE.out.1], by rw [HE.out.2.1]; exact HL9.out, by rw [HE.out.2.2.1, HE.out.2.2.2]; exact HXS.out⟩
    · have HE := Lib.hid (kd_5 B c.lines.toNat T hart a k)
      rw [k]
      clear k hk x1 f1
      go_upto_region 17 with fail
      generalize w8.setCell ⟨xb, 0, none⟩ (.int .u64 (Sh.nB B c.lines.toNat a)) = w9 at *
      have HL9 := Lib.hid (HLQ.out w9 HD8.out)
      clear x0 f0
      go_wp2_with fail
      refine (rset_c sb 5 T hart (a.addr / 64) w9 HL9.out.d.sh.tab (by have := HA.out.addr; omega) (by have := HA.out.addr; omega)).mono ?_
      rintro e w10 ⟨rfl, ht, hm⟩
      have HL10 := Lib.hid (HL9.out.mid ht hm)
      have HX10 := Lib.hid (show CsAt w10 xb ANT (anC (Sh.nB B c.lines.toNat a) false) from (hm.block xb HXS.out.lt (by have := HNE.out; omega)).trans HXS.out)
      clear ht hm
      go_wp2_with fail
      go_meet
      exact ⟨by rw [HE.out.1], by rw [HE.out.2.1]; exact HL10.out, by rw [HE.out.2.2.1, HE.out.2.2.2]; exact HX10.out⟩
    · have HE := Lib.hid (kd_6 B c.lines.toNat T hart a k)
      rw [k]
      clear k hk x0 f0
      have HHS := Lib.hid (rhasl_c sb 5 T hart (a.addr / 64) w8 HL8.out.d.sh.tab)
      have d8 := HL8.out.d.ak.live
      have HW9 := Lib.hid (fun g => HB8.out.setCell (p := ⟨xb, 1, none⟩) (Nat.le_refl _) (.bool g))
      have HX9 := Lib.hid (fun g => show CsAt (w8.setCell ⟨xb, 1, none⟩ (.bool g)) xb ANT (anC 0 g) from setAn HX8.out 1 _)
      generalize Rv.has T hart (a.addr / 64) = hg at *
      cases hlv : a.live
      · rw [hlv] at d8
        have HE := Lib.hid (show _ ∧ _ ∧ _ ∧ Sh.ansG B c.lines.toNat T hart a = false from ⟨HE.out.1, HE.out.2.1, HE.out.2.2.1, HE.out.2.2.2.trans (by rw [hlv, Bool.false_and])⟩)
        have HW9 := Lib.hid (HW9.out false)
        have HX9 := Lib.hid (HX9.out false)
        go_upto_region 20 with fail
        generalize w8.setCell ⟨xb, 1, none⟩ (.bool false) = w9 at *
        have HL9 := Lib.hid (HLQ.out w9 HW9.out)
        clear x1 f1 d8
        go_wp2_with fail
        refine (rclr_c sb 5 T hart w9 HL9.out.d.sh.tab).mono ?_
        rintro e w10 ⟨rfl, ht, hm⟩
        have HL10 := Lib.hid (HL9.out.mid ht hm)
        have HX10 := Lib.hid (show CsAt w10 xb ANT (anC 0 false) from (hm.block xb HX9.out.lt (by have := HNE.out; omega)).trans HX9.out)
        clear ht hm
        go_wp2_with fail
        go_meet
        exact ⟨by rw [HE.out.1], by rw [HE.out.2.1]; exact HL10.out, by rw [HE.out.2.2.1, HE.out.2.2.2]; exact HX10.out⟩
      · rw [hlv] at d8
        have HE := Lib.hid (show _ ∧ _ ∧ _ ∧ Sh.ansG B c.lines.toNat T hart a = hg from ⟨HE.out.1, HE.out.2.1, HE.out.2.2.1, HE.out.2.2.2.trans (by rw [hlv, Bool.true_and])⟩)
        have HW9 := Lib.hid (HW9.out hg)
        have HX9 := Lib.hid (HX9.out hg)
        go_upto_region 20 with (refine HHS.out.mono ?_; rintro e w9 ⟨rfl, rfl⟩)
        generalize w9.setCell ⟨xb, 1, none⟩ (.bool hg) = w9 at *
        have HL9 := Lib.hid (HLQ.out w9 HW9.out)
        clear x1 f1 d8
        go_wp2_with fail
        refine (rclr_c sb 5 T hart w9 HL9.out.d.sh.tab).mono ?_
        rintro e w10 ⟨rfl, ht, hm⟩
        have HL10 := Lib.hid (HL9.out.mid ht hm)
        have HX10 := Lib.hid (show CsAt w10 xb ANT (anC 0 hg) from (hm.block xb HX9.out.lt (by have := HNE.out; omega)).trans HX9.out)
        clear ht hm
        go_wp2_with fail
        go_meet
        exact ⟨by rw [HE.out.1], by rw [HE.out.2.1]; exact HL10.out, by rw [HE.out.2.2.1, HE.out.2.2.2]; exact HX10.out⟩
    · have HE := Lib.hid (kd_8 B c.lines.toNat T hart a k)
      rw [k]
      clear k hk x0 f0 x1 f1
      have d7 := HL8.out.d.ak.old
      go_wp2_with (refine wpList_store_row rfl ANT _ _ rfl xb (anC (Sh.nB B c.lines.toNat a) (Sh.nB B c.lines.toNat a == a.old)) rfl rfl ANT (anC 0 false) HX8.out info_an rfl (anC_one _ _) ?_)
      go_meet
      exact ⟨by rw [HE.out.1], by rw [HE.out.2.1]; exact HLQ.out _ (below_setRow HB8.out (Nat.le_refl _) _), by rw [HE.out.2.2.1, HE.out.2.2.2]; exact HX8.out.row _⟩
  case rest =>
    obtain ⟨rfl, hl, hx⟩ := hcut
    have HLY := Lib.hid hl
    have HXY := Lib.hid hx
    have HPL := Lib.hid (fun T' => pcs_lay HOK.out HA.out HMAY.out (Sh.laid_word HOK.out HA.out (Sh.may_form HMAY.out)) T' hart)
    have HLW := Lib.hid (Sh.laid_word HOK.out HA.out (Sh.may_form HMAY.out))
    have HEB := Lib.hid (show Sh.doB B c.lines.toNat T hart a = if Sh.wrB a.kind (Sh.ansG B c.lines.toNat T hart a) then Sh.layA B c.lines.toNat a (Sh.laidV B c.lines.toNat a) else B from rfl)
    have HET := Lib.hid (show Sh.doT B c.lines.toNat T hart a = if Sh.wrB a.kind (Sh.ansG B c.lines.toNat T hart a) then Sh.killA (Sh.midT T hart a) a hart else Sh.midT T hart a from rfl)
    clear hl hx HL8 HX8
    generalize hq : Sh.doB B c.lines.toNat T hart a = B' at *
    have HQB := Lib.hid hq
    clear hq
    generalize hq : Sh.doT B c.lines.toNat T hart a = T' at *
    have HQT := Lib.hid hq
    clear hq
    generalize Sh.laidV B c.lines.toNat a = lv at *
    generalize Sh.midT T hart a = T2 at *
    generalize hq : Sh.ansD B c.lines.toNat a = an at *
    have HQD := Lib.hid hq
    clear hq
    generalize hq : Sh.ansG B c.lines.toNat T hart a = ag at *
    have HQG := Lib.hid hq
    clear hq
    go_wp2_with (first
      | (refine wpList_load_row rfl AKT _ rfl w.heap.size rfl AKT (akC a) (0, 0) _ HLY.out.d.ak.cs Tryz.underlying58 rfl info_ak ?_)
      | (refine wpList_load_row rfl ANT _ rfl xb rfl ANT (anC an ag) (0, 0) _ HXY.out Tryz.underlying66 rfl info_an ?_))
    refine (swrites_c a (anC an ag) ag rfl wc).mono ?_
    rintro e w9 ⟨rfl, hb9⟩
    have HL9 := Lib.hid (HLY.out.low hb9)
    have HX9 := Lib.hid (HXY.out.low hb9)
    clear hb9 HLY HXY
    cases hw : Sh.wrB a.kind ag
    · rw [hw] at HEB HET
      have HE1 := Lib.hid (show B' = B from HEB.out)
      have HE2 := Lib.hid (show T' = T2 from HET.out)
      clear HEB HET
      go_wp2_with (first
        | (refine wpList_load_row rfl ANT _ rfl xb rfl ANT (anC an ag) (0, 0) _ HX9.out Tryz.underlying66 rfl info_an ?_)
        | (refine wpList_store_row rfl ANT _ _ rfl (w.heap.size + 1) (anC an ag) rfl rfl ANT (anC 0 false) HL9.out.d.res info_an rfl (anC_one _ _) ?_))
      refine bodyPost_ret (results_an Tryz.results14 _ _ (w.heap.size + 1) an ag (.bool true) rfl rfl (HL9.out.d.res.row _)) rfl ⟨by rw [HQD.out, HQG.out], ?_, ?_⟩
      · rw [HQB.out, HQT.out, HE1.out, HE2.out]
        exact HL9.out.d.sh.only (row_only _ _ _) (by have := HL9.out.d.sw; omega) (by have := HL9.out.d.rw; omega) (by have := HL9.out.d.mw; omega)
      · exact two_row HL9.out.d.bel (by omega) _
    · rw [hw] at HEB HET
      have HE1 := Lib.hid (show B' = Sh.layA B c.lines.toNat a lv from HEB.out)
      have HE2 := Lib.hid (show T' = Sh.killA T2 a hart from HET.out)
      clear HEB HET
      go_wp2_with fail
      refine (lay_c p cap base (Sh.pcs a) hart lv w9 HL9.out.d.sh HL9.out.row (by have := HL9.out.d.sw; have := HL9.out.b0; omega) (by have := HL9.out.d.mw; have := HL9.out.b0; omega) HPI.out HLL.out HLW.out).mono ?_
      rintro e w10 ⟨rfl, hs10, ht10⟩
      rw [(HPL.out T2).1, (HPL.out T2).2, ← HE1.out, ← HE2.out] at hs10
      have HS10 := Lib.hid hs10
      have HX10 := Lib.hid (show CsAt w10 xb ANT (anC an ag) from (ht10.block xb HX9.out.lt (by have := HNE.out; omega) (by have := HNE.out; omega)).trans HX9.out)
      have HR10 := Lib.hid (show CsAt w10 (w.heap.size + 1) ANT (anC 0 false) from (ht10.block _ HL9.out.d.res.lt (by have := HL9.out.d.sw; omega) (by have := HL9.out.d.mw; omega)).trans HL9.out.d.res)
      have HT10 := Lib.hid (HL9.out.d.bel.trans ht10)
      have HW := Lib.hid (And.intro HL9.out.d.sw (And.intro HL9.out.d.rw HL9.out.d.mw))
      clear hs10 ht10 HX9 HL9
      go_wp2_with (first
        | (refine wpList_load_row rfl ANT _ rfl xb rfl ANT (anC an ag) (0, 0) _ HX10.out Tryz.underlying66 rfl info_an ?_)
        | (refine wpList_store_row rfl ANT _ _ rfl (w.heap.size + 1) (anC an ag) rfl rfl ANT (anC 0 false) HR10.out info_an rfl (anC_one _ _) ?_))
      refine bodyPost_ret (results_an Tryz.results14 _ _ (w.heap.size + 1) an ag (.bool true) rfl rfl (HR10.out.row _)) rfl ⟨by rw [HQD.out, HQG.out], ?_, ?_⟩
      · rw [HQB.out, HQT.out]
        exact HS10.out.only (row_only _ _ _) (by have := HW.out; omega) (by have := HW.out; omega) (by have := HW.out; omega)
      · exact two_row HT10.out (by omega) _
end Go.Proofs.YtjeolfcefeglpabGreat
