/-
  Contract of the reference of layer 12: a job's Step.
-/
import Derived.Test.YtgegahnjhaldeaaRlD
import Derived.Test.YtgegahnjhaldeaaLjA
namespace Go.Proofs.Ytgegahnjhaldeaa
open Go.ChangeShapes Go.WideShapes Go.ChangeAt Go.RowKit
variable {Z : Nat → Prop}

theorem results3 {P : Program} {fn : Func} {p u v : Tmp} {ty : TypeId} (h : fn.results = #[.cell p ty, .tmp u, .tmp v]) (tmps : Array Value) (w : World) (g : Nat) (t : TypeId) (cs : Array Value) (fr : Nat × Nat) (d : TypeDesc)
    (hp : tmps.getD p undef = .pointer (some ⟨g, 0, none⟩)) (hg : w.heap[g]? = some (.cells cs t fr))
    (hu : P.underlying ty = some d) (hd : (match d with | .struct _ | .array _ _ => true | _ => false) = true) (hi : (P.info? ty).map (·.size) = some cs.size) :
    (results fn tmps).run P w = .ok (.tuple #[.agg cs, tmps.getD u undef, tmps.getD v undef]) w := by
  have hp' : tmps[p]?.getD undef = .pointer (some ⟨g, 0, none⟩) := by simpa using hp
  simp [results, h, hp', asAddr, run_loadVar_row w g t ty cs fr d hg hu hd hi]
theorem info_rj : (Try.prog.info? 53).map (·.size) = some 2 := by kernel_rfl
abbrev rjV (p : Option Addr) (m cap : Nat) (k : Int) : Array Value := #[.slice p m cap, .int .i64 k]
theorem OneAt.far {b c i : Nat} {w W : World} (h : OneAt b w W) (hc : w.heap.size ≤ c) (v : Value) : OneAt b w (W.setCell ⟨c, i, none⟩ v) := by
  have h2 := (Below.refl 0 W).setCell (p := ⟨c, i, none⟩) (Nat.zero_le _) v
  exact ⟨h2.os.trans h.os, h2.tape.trans h.tape, h2.output.trans h.output, Nat.le_trans h.size h2.size, fun k hk hb => (heap_setCell_other W ⟨c, i, none⟩ k v (show k ≠ c by omega)).trans (h.blk k hk hb)⟩
theorem OneAt.row {b c : Nat} {w W : World} (h : OneAt b w W) (hc : w.heap.size ≤ c) (cs : Array Value) : OneAt b w (W.setRow c cs) := by
  have h2 := below_setRowL (Below.refl 0 W) (g := c) (Nat.zero_le _) cs
  exact ⟨h2.os.trans h.os, h2.tape.trans h.tape, h2.output.trans h.output, Nat.le_trans h.size h2.size, fun k hk hb => (setRow_other W c k cs (show k ≠ c by omega)).trans (h.blk k hk hb)⟩
/-- The reference's blocks: those that there were, and those made behind the two boxes. -/
def ZX (Z : Nat → Prop) (w W : World) : Nat → Prop := fun k => (Z k ∧ k < w.heap.size) ∨ (w.heap.size + 2 ≤ k ∧ k < W.heap.size)
/-- What stands while a step is made. -/
structure SjAt (Z : Nat → Prop) (w W : World) (rb n : Nat) (R : Int → List Int) (jc rc : Array Value) : Prop where
  one : OneAt rb w W
  rl : RlAt (ZX Z w W) W rb n R
  cj : CsAt W w.heap.size 53 jc
  cr : CsAt W (w.heap.size + 1) 53 rc
theorem SjAt.start {w : World} {rb n : Nat} {R : Int → List Int} (h : RlAt Z w rb n R) (jc rc : Array Value) :
    SjAt Z w ((w.alloc (.cells jc 53)).alloc (.cells rc 53)) rb n R jc rc := by
  have hb := (alloc_below w (.cells jc 53)).trans ((alloc_below (w.alloc (.cells jc 53)) (.cells rc 53)).mono (alloc_below _ _).size)
  have hs : (w.alloc (.cells jc 53)).heap.size = w.heap.size + 1 := by simp
  refine ⟨OneAt.of_below hb, ?_, (CsAt.new w _ jc).alloc _, hs ▸ CsAt.new (w.alloc (.cells jc 53)) _ rc⟩
  have h2 := h.low hb
  refine ⟨h2.lt, .inl ⟨h.zb, h.lt⟩, h2.hold, fun i hi => ?_, h2.froz⟩
  obtain ⟨p, cap, k1, k2, k3, k4⟩ := h2.que i hi
  refine ⟨p, cap, k1, k2, ?_, k4⟩
  obtain ⟨p', cap', q1, -, q3, -⟩ := h.que i hi
  have e := (hb.cell (p := ⟨rb, i * 2 + 1, none⟩) h.lt).trans q1
  rw [k1] at e
  obtain ⟨rfl, -, rfl⟩ : p = p' ∧ True ∧ cap = cap' := by simp only [Option.some.injEq, Value.slice.injEq] at e; exact ⟨e.1, trivial, e.2.2⟩
  exact q3.imp id fun ⟨b, e1, e2, e3, e4⟩ => ⟨b, e1, e2, Nat.lt_of_lt_of_le e3 hb.size, .inl ⟨e4, e3⟩⟩
theorem SjAt.sz {w W : World} {rb n : Nat} {R : Int → List Int} {jc rc : Array Value} (h : SjAt Z w W rb n R jc rc) : w.heap.size + 2 ≤ W.heap.size := h.cr.lt
theorem SjAt.nz {w W : World} {k : Nat} (h : ZX Z w W k) : k ≠ w.heap.size ∧ k ≠ w.heap.size + 1 := by rcases h with h | h <;> omega
theorem SjAt.on {w W W' : World} {rb n : Nat} {R R' : Int → List Int} {jc rc : Array Value} (h : SjAt Z w W rb n R jc rc) (ho : OneAt rb W W') (hr : RlAt (ZN (ZX Z w W) W W') W' rb n R') : SjAt Z w W' rb n R' jc rc := by
  have hz := SjAt.nz (Z := Z) h.rl.zb
  have hs := h.sz
  have hs2 := ho.size
  refine ⟨h.one.trans ho, hr.weak fun k hk => ?_, (ho.blk _ (by omega) (Ne.symm hz.1)).trans h.cj, (ho.blk _ (by omega) (Ne.symm hz.2)).trans h.cr⟩
  rcases hk with (hk | hk) | hk
  · exact .inl hk
  · exact .inr (by omega)
  · exact .inr (by omega)
theorem SjAt.setJ {w W : World} {rb n : Nat} {R : Int → List Int} {p : Option Addr} {m cap : Nat} {k : Int} {rc : Array Value} (h : SjAt Z w W rb n R (rjV p m cap k) rc) (k' : Int) : SjAt Z w (W.setCell ⟨w.heap.size, 1, none⟩ (.int .i64 k')) rb n R (rjV p m cap k') rc := by
  have hsz : (W.setCell ⟨w.heap.size, 1, none⟩ (.int .i64 k')).heap.size = W.heap.size := World.size_setCell ..
  refine ⟨h.one.far (Nat.le_refl _) _, h.rl.keep (by omega) (fun k hk _ => heap_setCell_other W ⟨w.heap.size, 1, none⟩ k _ (SjAt.nz hk).1) (fun k hk => by unfold ZX at *; rw [hsz]; exact hk), ?_, h.cr.far (by omega) _⟩
  have := h.cj
  unfold CsAt at *
  rw [heap_setCell_same W w.heap.size 1 _ _ _ this]
  rfl
theorem SjAt.setR {w W : World} {rb n : Nat} {R : Int → List Int} {jc rc : Array Value} (h : SjAt Z w W rb n R jc rc) (cs : Array Value) : SjAt Z w (W.setRow (w.heap.size + 1) cs) rb n R jc cs := by
  have hsz : (W.setRow (w.heap.size + 1) cs).heap.size = W.heap.size := by simp [World.setRow]
  exact ⟨h.one.row (by omega) _, h.rl.keep (by omega) (fun k hk _ => setRow_other W (w.heap.size + 1) k cs (SjAt.nz hk).2) (fun k hk => by unfold ZX at *; rw [hsz]; exact hk), h.cj.rowFar (by omega) _, h.cr.row _⟩
theorem SjAt.done {w W : World} {rb n : Nat} {R : Int → List Int} {jc rc : Array Value} (h : SjAt Z w W rb n R jc rc) : RlAt (ZN Z w W) W rb n R :=
  h.rl.weak fun k hk => hk.elim (fun h => .inl h.1) fun h => .inr (by omega)
theorem Vw.one {w W : World} {rb : Nat} {p : Option Addr} {xs : List Value} (h : Vw w p xs) (ho : OneAt rb w W) (hp : ∀ b off, p = some ⟨b, off, none⟩ → b ≠ rb) : Vw W p xs := h.keep2 ho.size fun b off e hlt => ho.blk b hlt (hp b off e)
set_option maxRecDepth 100000 in
set_option maxHeartbeats 8000000 in
theorem rstep_c (rb n cap : Nat) (R : Int → List Int) (who : Int) (p : Option Addr) (cp : Nat) (s : Lk.JS) (w : World) (h : RlAt Z w rb n R) (hok : Lk.Ok R n) (hs : Lk.Jv s) (hv : Vw w p (iV s.xs)) (hpr : ∀ b off, p = some ⟨b, off, none⟩ → b ≠ rb) :
    Calls Try.prog 30 #[.agg (rjV p s.xs.length cp ((Lk.sv s : Nat) : Int)), .slice (some ⟨rb, 0, none⟩) n cap, .int .i64 who] w fun e w' =>
      e = .returned (.tuple #[.agg (rjV p s.xs.length cp ((Lk.sv (Lk.stJ R n who s) : Nat) : Int)), .int .i64 (Lk.stT R n who s), .bool (Lk.stD s)]) ∧ RlAt (ZN Z w w') w' rb n (Lk.stR R n who s) ∧ OneAt rb w w' := by
  have HS := Lib.hid (SjAt.start h (rjV p s.xs.length cp ((Lk.sv s : Nat) : Int)) (rjV none 0 0 0))
  have HV := Lib.hid hv
  have hov := hs.over_iff
  have hlt := hs.lt_iff
  have hlen := hs.len
  have ht0 := hs.t
  have hg0 := hs.g
  have hdt := hs.dt
  have hdg := hs.dg
  have hrng := hs.rng
  have hsv : Lk.sv s = s.t + s.d.toNat + s.g := rfl
  have hdn := Bool.toNat_le s.d
  have c0 : ((w.alloc (.cells (rjV p s.xs.length cp ((Lk.sv s : Nat) : Int)) 53)).alloc (.cells (rjV none 0 0 0) 53)).cell? ⟨w.heap.size, 0, none⟩ = some (.slice p s.xs.length cp) := HS.out.cj.cell 0
  have c1 : ((w.alloc (.cells (rjV p s.xs.length cp ((Lk.sv s : Nat) : Int)) 53)).alloc (.cells (rjV none 0 0 0) 53)).cell? ⟨w.heap.size, 1, none⟩ = some (.int .i64 ((Lk.sv s : Nat) : Int)) := HS.out.cj.cell 1
  clear h hv
  cases ho : s.over
  · rw [ho] at hov
    have hov2 : ¬ 2 * s.xs.length < Lk.sv s := by simpa using hov.symm
    by_cases ht : s.t < s.xs.length
    · -- a lock is taken
      have htv := hlt.1 ht
      have hd : s.d = false := by
        cases hd : s.d
        · rfl
        · have := hdt hd; omega
      have hvt : Lk.sv s = s.t := by rw [hsv, hd, hdg hd]; rfl
      have e1 : Lk.stR R n who s = Lk.take R n who (s.xs.getD s.t 0) := by unfold Lk.stR; simp [ho, ht]
      have e2 : Lk.stT R n who s = if Lk.takeT R n who (s.xs.getD s.t 0) = true then 1 else 0 := by unfold Lk.stT; simp [ho, ht]
      have e3 : Lk.sv (Lk.stJ R n who s) = if Lk.takeT R n who (s.xs.getD s.t 0) = true then s.t + 1 else s.t := by
        unfold Lk.stJ
        simp only [ho, ht, if_true, Bool.false_eq_true, if_false]
        cases hT : Lk.takeT R n who (s.xs.getD s.t 0)
        · rw [if_neg (by simp), if_neg (by simp)]; exact hvt
        · rw [if_pos rfl, if_pos rfl]
          show s.t + 1 + s.d.toNat + s.g = s.t + 1
          rw [hd, hdg hd]; rfl
      have e4 : Lk.stD s = false := by unfold Lk.stD; simp [ht]
      rw [e1, e2, e3, e4, hvt]
      rw [hvt] at HS c0 c1
      obtain ⟨b, off, rfl, hbl, hcl⟩ := HV.out.cells (show 0 < s.xs.length by omega)
      have hbr := hpr b off rfl
      have cx := hcl s.t ht
      clear e1 e2 e3 e4 hov hov2 hlt hdt hdg hrng hsv hdn hd hvt htv hg0 ht0 hcl hpr
      generalize s.xs.length = m at *
      generalize s.xs.getD s.t 0 = y at *
      generalize s.t = t at *
      have HTK := Lib.hid (fun W (hW : SjAt Z w W rb n R (rjV (some ⟨b, off, none⟩) m cp t) (rjV none 0 0 0)) => (rtake_c rb n cap R who y W hW.rl hok).mono fun e W' ⟨h1, h2, h3⟩ => And.intro h1 (hW.on h3 h2))
      generalize Lk.take R n who y = R2 at *
      have gm : decide (2 * (m : Int) < (t : Int)) = false := decide_eq_false (by omega)
      have gm2 : ¬ 2 * (m : Int) < (t : Int) := by omega
      have gt : (t : Int) < m := by omega
      have gt2 : decide ((t : Int) < (m : Int)) = true := decide_eq_true gt
      have hwm : IntKind.i64.wrap (2 * (m : Int)) = 2 * (m : Int) := by rw [IntKind.wrap_i64]; omega
      have hwt : IntKind.i64.wrap ((t : Int) + 1) = ((t : Int) + 1) := by rw [IntKind.wrap_i64]; omega
      have cxa : ((w.alloc (.cells (rjV (some ⟨b, off, none⟩) m cp t) 53)).alloc (.cells (rjV none 0 0 0) 53)).cell? ⟨b, off + t, none⟩ = some (.int .i64 y) := (World.cell?_of_block (w := w) (a := ⟨b, off + t, none⟩) (HS.out.one.blk b hbl hbr)).trans cx
      clear cx
      cases hT : Lk.takeT R n who y
      · rw [if_neg (by simp), if_neg (by simp)]
        rw [hT] at HTK
        clear hT
        go_enter Try.func30, Try.ntmps30
        go_upto_region 1 with (fail)
        generalize (w.alloc (.cells (rjV (some ⟨b, off, none⟩) m cp t) 53)).alloc (.cells (rjV none 0 0 0) 53) = w2 at *
        go_wp2_with fail
        refine (HTK.out w2 HS.out).mono ?_
        rintro e w3 ⟨rfl, hq⟩
        have HQ := Lib.hid hq
        clear hq c0 c1 cxa
        go_wp2_with (first | (refine wpList_load_row rfl 53 _ rfl w.heap.size rfl 53 _ (0, 0) _ HQ.out.cj Try.underlying53 rfl (by kernel_rfl) ?_) | (refine wpList_store_row rfl 53 _ _ rfl (w.heap.size + 1) _ rfl rfl 53 _ HQ.out.cr info_rj rfl (by simp [Value.oneCell']) ?_))
        have HE := HQ.out.setR (rjV (some ⟨b, off, none⟩) m cp t)
        refine bodyPost_ret (results3 Try.results30 _ _ (w.heap.size + 1) _ _ _ _ rfl HE.cr Try.underlying53 rfl info_rj) rfl ⟨rfl, HE.done, HE.one⟩
      · rw [if_pos rfl, if_pos rfl, show ((t + 1 : Nat) : Int) = (t : Int) + 1 from by omega]
        rw [hT] at HTK
        clear hT
        go_enter Try.func30, Try.ntmps30
        go_upto_region 1 with (fail)
        generalize (w.alloc (.cells (rjV (some ⟨b, off, none⟩) m cp t) 53)).alloc (.cells (rjV none 0 0 0) 53) = w2 at *
        go_wp2_with fail
        refine (HTK.out w2 HS.out).mono ?_
        rintro e w3 ⟨rfl, hq⟩
        have HQ := Lib.hid hq
        clear hq c0 c1 cxa
        have d1 : w3.cell? ⟨w.heap.size, 1, none⟩ = some (.int .i64 (t : Int)) := HQ.out.cj.cell 1
        have f1 := HQ.out.cj.frozen 1
        have HQ2 := Lib.hid (HQ.out.setJ ((t : Int) + 1))
        go_upto_region 8 with (fail)
        clear d1 f1
        generalize w3.setCell ⟨w.heap.size, 1, none⟩ (.int .i64 ((t : Int) + 1)) = w4 at *
        go_wp2_with (first | (refine wpList_load_row rfl 53 _ rfl w.heap.size rfl 53 _ (0, 0) _ HQ2.out.cj Try.underlying53 rfl (by kernel_rfl) ?_) | (refine wpList_store_row rfl 53 _ _ rfl (w.heap.size + 1) _ rfl rfl 53 _ HQ2.out.cr info_rj rfl (by simp [Value.oneCell']) ?_))
        have HE := HQ2.out.setR (rjV (some ⟨b, off, none⟩) m cp ((t : Int) + 1))
        refine bodyPost_ret (results3 Try.results30 _ _ (w.heap.size + 1) _ _ _ _ rfl HE.cr Try.underlying53 rfl info_rj) rfl ⟨rfl, HE.done, HE.one⟩
    · have htl : s.t = s.xs.length := by omega
      have htn : ¬ s.t < s.xs.length := ht
      cases hd : s.d
      · -- what it is for is done
        have hg := hdg hd
        have hvt : Lk.sv s = s.xs.length := by rw [hsv, hd, hg, htl]; rfl
        have e1 : Lk.stR R n who s = R := by unfold Lk.stR; simp [ho, ht, hd]
        have e2 : Lk.stT R n who s = if s.xs.length = 0 then 4 else 2 := by unfold Lk.stT; simp [ho, ht, hd]
        have e3 : Lk.sv (Lk.stJ R n who s) = s.xs.length + 1 := by
          unfold Lk.stJ
          simp only [ho, ht, hd, if_false, Bool.false_eq_true]
          show s.t + (true : Bool).toNat + s.g = _
          rw [hg, htl]; rfl
        have e4 : Lk.stD s = true := by unfold Lk.stD; simp [ho, ht, hd]
        rw [e1, e2, e3, e4, hvt]
        rw [hvt] at HS c0 c1
        clear e1 e2 e3 e4 hov hov2 hlt hdt hdg hrng hsv hdn hd hvt hg0 ht0 hpr hg htl htn ht
        generalize s.xs.length = m at *
        rw [show ((m + 1 : Nat) : Int) = (m : Int) + 1 from by omega]
        have gm : decide (2 * (m : Int) < (m : Int)) = false := decide_eq_false (by omega)
        have gm2 : ¬ 2 * (m : Int) < (m : Int) := by omega
        have gt : ¬ (m : Int) < m := by omega
        have gt2 : decide ((m : Int) < (m : Int)) = false := decide_eq_false gt
        have ge : ((m : Int) == (m : Int)) = true := by simp
        have hwm : IntKind.i64.wrap (2 * (m : Int)) = 2 * (m : Int) := by rw [IntKind.wrap_i64]; omega
        have hwt : IntKind.i64.wrap ((m : Int) + 1) = ((m : Int) + 1) := by rw [IntKind.wrap_i64]; omega
        have f1 := HS.out.cj.frozen 1
        by_cases h0 : m = 0
        · rw [if_pos h0]
          have gz : ((m : Int) == 0) = true := by rw [h0]; rfl
          clear h0
          go_enter Try.func30, Try.ntmps30
          go_upto_region 1 with (fail)
          generalize (w.alloc (.cells (rjV p m cp m) 53)).alloc (.cells (rjV none 0 0 0) 53) = w2 at *
          have HQ2 := Lib.hid (HS.out.setJ ((m : Int) + 1))
          go_upto_region 11 with (fail)
          clear c0 c1 f1
          generalize w2.setCell ⟨w.heap.size, 1, none⟩ (.int .i64 ((m : Int) + 1)) = w4 at *
          go_wp2_with (first | (refine wpList_load_row rfl 53 _ rfl w.heap.size rfl 53 _ (0, 0) _ HQ2.out.cj Try.underlying53 rfl (by kernel_rfl) ?_) | (refine wpList_store_row rfl 53 _ _ rfl (w.heap.size + 1) _ rfl rfl 53 _ HQ2.out.cr info_rj rfl (by simp [Value.oneCell']) ?_))
          have HE := HQ2.out.setR (rjV p m cp ((m : Int) + 1))
          refine bodyPost_ret (results3 Try.results30 _ _ (w.heap.size + 1) _ _ _ _ rfl HE.cr Try.underlying53 rfl info_rj) rfl ⟨rfl, HE.done, HE.one⟩
        · rw [if_neg h0]
          have gz : ((m : Int) == 0) = false := beq_eq_false_iff_ne.2 (by omega)
          go_enter Try.func30, Try.ntmps30
          go_upto_region 1 with (fail)
          generalize (w.alloc (.cells (rjV p m cp m) 53)).alloc (.cells (rjV none 0 0 0) 53) = w2 at *
          have HQ2 := Lib.hid (HS.out.setJ ((m : Int) + 1))
          go_upto_region 11 with (fail)
          clear c0 c1 f1
          generalize w2.setCell ⟨w.heap.size, 1, none⟩ (.int .i64 ((m : Int) + 1)) = w4 at *
          go_wp2_with (first | (refine wpList_load_row rfl 53 _ rfl w.heap.size rfl 53 _ (0, 0) _ HQ2.out.cj Try.underlying53 rfl (by kernel_rfl) ?_) | (refine wpList_store_row rfl 53 _ _ rfl (w.heap.size + 1) _ rfl rfl 53 _ HQ2.out.cr info_rj rfl (by simp [Value.oneCell']) ?_))
          have HE := HQ2.out.setR (rjV p m cp ((m : Int) + 1))
          refine bodyPost_ret (results3 Try.results30 _ _ (w.heap.size + 1) _ _ _ _ rfl HE.cr Try.underlying53 rfl info_rj) rfl ⟨rfl, HE.done, HE.one⟩
      · -- a lock is given back
        have hgl : s.g < s.xs.length := by
          have h2 : s.g ≠ s.xs.length := fun e => by unfold Lk.JS.over at ho; rw [hd, decide_eq_true e] at ho; cases ho
          omega
        have hvt : Lk.sv s = s.xs.length + 1 + s.g := by rw [hsv, hd, htl]; rfl
        have e1 : Lk.stR R n who s = Lk.drop R who (s.xs.getD (s.xs.length - (s.g + 1)) 0) := by unfold Lk.stR; simp [ho, ht, hd]
        have e2 : Lk.stT R n who s = if s.g + 1 = s.xs.length then 4 else 3 := by unfold Lk.stT; simp [ho, ht, hd]
        have e3 : Lk.sv (Lk.stJ R n who s) = s.xs.length + 1 + s.g + 1 := by
          unfold Lk.stJ
          simp only [ho, ht, hd, if_false, Bool.false_eq_true, if_true]
          show s.t + (true : Bool).toNat + (s.g + 1) = _
          rw [htl]; rfl
        have e4 : Lk.stD s = false := by unfold Lk.stD; simp [hd]
        rw [e1, e2, e3, e4, hvt]
        rw [hvt] at HS c0 c1
        obtain ⟨b, off, rfl, hbl, hcl⟩ := HV.out.cells (show 0 < s.xs.length by omega)
        have hbr := hpr b off rfl
        have cx := hcl (s.xs.length - (s.g + 1)) (by omega)
        clear e1 e2 e3 e4 hov hov2 hlt hdt hdg hrng hsv hdn hd hvt ht0 hcl hpr htl htn ht hg0
        generalize s.xs.length = m at *
        generalize s.g = g at *
        generalize s.xs.getD (m - (g + 1)) 0 = y at *
        obtain ⟨t, ht⟩ : ∃ t, m + 1 + g = t := ⟨_, rfl⟩
        rw [ht] at HS c0 c1 ⊢
        rw [show ((t + 1 : Nat) : Int) = (t : Int) + 1 from by omega]
        have HTK := Lib.hid (fun W (hW : SjAt Z w W rb n R (rjV (some ⟨b, off, none⟩) m cp t) (rjV none 0 0 0)) => (rdrop_c rb n cap R who y W hW.rl hok).mono fun e W' ⟨h1, h2, h3⟩ => And.intro h1 (hW.on h3 h2))
        generalize Lk.drop R who y = R2 at *
        have gm : decide (2 * (m : Int) < (t : Int)) = false := decide_eq_false (by omega)
        have gm2 : ¬ 2 * (m : Int) < (t : Int) := by omega
        have gt : ¬ (t : Int) < m := by omega
        have gt2 : decide ((t : Int) < (m : Int)) = false := decide_eq_false gt
        have ge : ((t : Int) == (m : Int)) = false := beq_eq_false_iff_ne.2 (by omega)
        have hwm : IntKind.i64.wrap (2 * (m : Int)) = 2 * (m : Int) := by rw [IntKind.wrap_i64]; omega
        have hwt : IntKind.i64.wrap ((t : Int) + 1) = ((t : Int) + 1) := by rw [IntKind.wrap_i64]; omega
        have hws : IntKind.i64.wrap (2 * (m : Int) - (t : Int)) = ((m - (g + 1) : Nat) : Int) := by rw [IntKind.wrap_i64]; omega
        have hwn : (0 : Int) ≤ ((m - (g + 1) : Nat) : Int) := by omega
        have hwn2 : ((m - (g + 1) : Nat) : Int) < m := by omega
        have cxa : ((w.alloc (.cells (rjV (some ⟨b, off, none⟩) m cp t) 53)).alloc (.cells (rjV none 0 0 0) 53)).cell? ⟨b, off + (m - (g + 1)), none⟩ = some (.int .i64 y) := (World.cell?_of_block (w := w) (a := ⟨b, off + (m - (g + 1)), none⟩) (HS.out.one.blk b hbl hbr)).trans cx
        clear cx
        by_cases h0 : g + 1 = m
        · rw [if_pos h0]
          have gz : decide (2 * (m : Int) < ((t : Int) + 1)) = true := decide_eq_true (by omega)
          have gz2 : 2 * (m : Int) < ((t : Int) + 1) := by omega
          clear h0 ht
          go_enter Try.func30, Try.ntmps30
          go_upto_region 1 with (fail)
          generalize (w.alloc (.cells (rjV (some ⟨b, off, none⟩) m cp t) 53)).alloc (.cells (rjV none 0 0 0) 53) = w2 at *
          go_wp2_with fail
          refine (HTK.out w2 HS.out).mono ?_
          rintro e w3 ⟨rfl, hq⟩
          have HQ := Lib.hid hq
          have d0 : w3.cell? ⟨w.heap.size, 0, none⟩ = some (.slice (some ⟨b, off, none⟩) m cp) := hq.cj.cell 0
          have d1 : w3.cell? ⟨w.heap.size, 1, none⟩ = some (.int .i64 (t : Int)) := hq.cj.cell 1
          have f1 := hq.cj.frozen 1
          clear hq c0 c1 cxa
          have HQ2 := Lib.hid (HQ.out.setJ ((t : Int) + 1))
          go_upto_region 16 with (fail)
          clear d0 d1 f1
          generalize w3.setCell ⟨w.heap.size, 1, none⟩ (.int .i64 ((t : Int) + 1)) = w4 at *
          have d1 : w4.cell? ⟨w.heap.size, 1, none⟩ = some (.int .i64 ((t : Int) + 1)) := HQ2.out.cj.cell 1
          go_wp2_with (first | (refine wpList_load_row rfl 53 _ rfl w.heap.size rfl 53 _ (0, 0) _ HQ2.out.cj Try.underlying53 rfl (by kernel_rfl) ?_) | (refine wpList_store_row rfl 53 _ _ rfl (w.heap.size + 1) _ rfl rfl 53 _ HQ2.out.cr info_rj rfl (by simp [Value.oneCell']) ?_))
          have HE := HQ2.out.setR (rjV (some ⟨b, off, none⟩) m cp ((t : Int) + 1))
          refine bodyPost_ret (results3 Try.results30 _ _ (w.heap.size + 1) _ _ _ _ rfl HE.cr Try.underlying53 rfl info_rj) rfl ⟨rfl, HE.done, HE.one⟩
        · rw [if_neg h0]
          have gz : decide (2 * (m : Int) < ((t : Int) + 1)) = false := decide_eq_false (by omega)
          have gz2 : ¬ 2 * (m : Int) < ((t : Int) + 1) := by omega
          clear h0 ht
          go_enter Try.func30, Try.ntmps30
          go_upto_region 1 with (fail)
          generalize (w.alloc (.cells (rjV (some ⟨b, off, none⟩) m cp t) 53)).alloc (.cells (rjV none 0 0 0) 53) = w2 at *
          go_wp2_with fail
          refine (HTK.out w2 HS.out).mono ?_
          rintro e w3 ⟨rfl, hq⟩
          have HQ := Lib.hid hq
          have d0 : w3.cell? ⟨w.heap.size, 0, none⟩ = some (.slice (some ⟨b, off, none⟩) m cp) := hq.cj.cell 0
          have d1 : w3.cell? ⟨w.heap.size, 1, none⟩ = some (.int .i64 (t : Int)) := hq.cj.cell 1
          have f1 := hq.cj.frozen 1
          clear hq c0 c1 cxa
          have HQ2 := Lib.hid (HQ.out.setJ ((t : Int) + 1))
          go_upto_region 16 with (fail)
          clear d0 d1 f1
          generalize w3.setCell ⟨w.heap.size, 1, none⟩ (.int .i64 ((t : Int) + 1)) = w4 at *
          have d1 : w4.cell? ⟨w.heap.size, 1, none⟩ = some (.int .i64 ((t : Int) + 1)) := HQ2.out.cj.cell 1
          go_wp2_with (first | (refine wpList_load_row rfl 53 _ rfl w.heap.size rfl 53 _ (0, 0) _ HQ2.out.cj Try.underlying53 rfl (by kernel_rfl) ?_) | (refine wpList_store_row rfl 53 _ _ rfl (w.heap.size + 1) _ rfl rfl 53 _ HQ2.out.cr info_rj rfl (by simp [Value.oneCell']) ?_))
          have HE := HQ2.out.setR (rjV (some ⟨b, off, none⟩) m cp ((t : Int) + 1))
          refine bodyPost_ret (results3 Try.results30 _ _ (w.heap.size + 1) _ _ _ _ rfl HE.cr Try.underlying53 rfl info_rj) rfl ⟨rfl, HE.done, HE.one⟩
  · -- it is over
    rw [ho] at hov
    have hov2 : 2 * s.xs.length < Lk.sv s := by simpa using hov.symm
    have e1 : Lk.stR R n who s = R := by unfold Lk.stR; simp [ho]
    have e2 : Lk.stT R n who s = 4 := by unfold Lk.stT; simp [ho]
    have e3 : Lk.stJ R n who s = s := by unfold Lk.stJ; simp [ho]
    have e4 : Lk.stD s = false := by unfold Lk.stD; simp [ho]
    rw [e1, e2, e3, e4]
    clear e1 e2 e3 e4 hov hlt hdt hdg hrng hpr
    have hsm : Lk.sv s ≤ 2001 := by omega
    clear hsv hdn hg0 ht0
    generalize Lk.sv s = t at *
    generalize s.xs.length = m at *
    have gm : decide (2 * (m : Int) < (t : Int)) = true := decide_eq_true (by omega)
    have gm2 : 2 * (m : Int) < (t : Int) := by omega
    have hwm : IntKind.i64.wrap (2 * (m : Int)) = 2 * (m : Int) := by rw [IntKind.wrap_i64]; omega
    go_enter Try.func30, Try.ntmps30
    go_upto_region 1 with (fail)
    generalize (w.alloc (.cells (rjV p m cp t) 53)).alloc (.cells (rjV none 0 0 0) 53) = w2 at *
    clear hov2
    go_wp2_with (first | (refine wpList_load_row rfl 53 _ rfl w.heap.size rfl 53 _ (0, 0) _ HS.out.cj Try.underlying53 rfl (by kernel_rfl) ?_) | (refine wpList_store_row rfl 53 _ _ rfl (w.heap.size + 1) _ rfl rfl 53 _ HS.out.cr info_rj rfl (by simp [Value.oneCell']) ?_))
    have HE := HS.out.setR (rjV p m cp t)
    refine bodyPost_ret (results3 Try.results30 _ _ (w.heap.size + 1) _ _ _ _ rfl HE.cr Try.underlying53 rfl info_rj) rfl ⟨rfl, HE.done, HE.one⟩
end Go.Proofs.Ytgegahnjhaldeaa
