/-
  What was asked and answered, as lists; contracts of the reference's Writes and Access, of touches and counts (layer 14). A number that was laid is what is read (layer 14, plain). What ShardPairs of layer 14 needs, plainly: an AMO between two loads; memory's answer to any ask; a row more, with its place.
-/
import Derived.Test.YtabackklpemhpaaKbc
import Derived.Test.YtabackklpemhpaaKae
import Derived.Test.YtabackklpemhpaaKax
import Derived.Maps.AppendAt
set_option maxRecDepth 20000
namespace Go.Proofs.Ytabackklpemhpaa
open Go.ChangeShapes Go.WideShapes Go.ChangeAt Go.RowKit Wd

abbrev RATp : TypeId := 143
set_option maxHeartbeats 1000000 in
theorem raccess_c (a : Ak) (w : World) : Calls Try.prog 78 #[.agg (akC a)] w fun e w' => e = .returned (.agg (axV a.addr a.next a.cut a.size)) ∧ Below w.heap.size w w' := by
  have HA := akAt_new w a
  have hb := box_below w (akC a) AKT
  have hz := box_below (w.alloc (.cells (akC a) AKT)) (axV 0 0 0 0) RATp
  have HB := Lib.hid (hb.trans (hz.mono hb.size))
  have HZ := Lib.hid (show CsAt ((w.alloc (.cells (akC a) AKT)).alloc (.cells (axV 0 0 0 0) RATp)) (w.heap.size + 1) RATp (axV 0 0 0 0) by simpa using CsAt.new (w.alloc (.cells (akC a) AKT)) RATp (axV 0 0 0 0))
  have hA := HA.low hz
  have d1 := hA.addr
  have d2 := hA.next
  have d3 := hA.cut
  have d4 := hA.size
  clear hb hz HA hA
  go_enter Try.func78, Try.ntmps78
  go_upto_region 1 with fail
  rw [show (#[Value.int .u64 0, .int .u64 0, .int .i64 0, .int .i64 0] : Array Value) = axV 0 0 0 0 from rfl]
  generalize (w.alloc (.cells (akC a) AKT)).alloc (.cells (axV 0 0 0 0) RATp) = w1 at *
  go_wp2_with (refine wpList_store_row rfl RATp _ _ rfl (w.heap.size + 1) (axV a.addr a.next a.cut a.size) rfl rfl RATp (axV 0 0 0 0) HZ.out (by kernel_rfl) rfl (ax_one _ _ _ _) ?_)
  exact bodyPost_ret (results_cell_row Try.results78 _ _ (w.heap.size + 1) RATp (axV a.addr a.next a.cut a.size) (0, 0) _ rfl (HZ.out.row _) Try.underlying143 rfl (by kernel_rfl)) rfl ⟨rfl, HB.out.trans ⟨rfl, rfl, rfl, by simp, fun k hk => setRow_other w1 _ k _ (by omega)⟩⟩
set_option maxHeartbeats 2000000 in
theorem rwrites14_c (a : Ak) (cs : Array Value) (g : Bool) (hg : cs[1]? = some (.bool g)) (w : World) : Calls Try.prog 48 #[.agg (akC a), .agg cs] w fun e w' => e = .returned (.bool (Sh.wrB a.kind g)) ∧ Below w.heap.size w w' := by
  have hb1 := box_below w (akC a) AKT
  have HB := Lib.hid (hb1.trans ((box_below (w.alloc (.cells (akC a) AKT)) cs ANT).mono hb1.size))
  have HA := ((akAt_new w a).low (box_below (w.alloc (.cells (akC a) AKT)) cs ANT)).kind
  have hz : (w.alloc (.cells (akC a) AKT)).heap.size = w.heap.size + 1 := by simp
  have HG : ((w.alloc (.cells (akC a) AKT)).alloc (.cells cs ANT)).cell? ⟨w.heap.size + 1, 1, none⟩ = some (.bool g) := by rw [← hz]; exact ((CsAt.new _ ANT cs).cell 1).trans hg
  have HE := Lib.hid (show Sh.wrB a.kind g = (decide (a.kind = 3 ∨ a.kind = 4) || (decide (a.kind = 6 ∨ a.kind = 8) && g)) from rfl)
  generalize Sh.wrB a.kind g = r at *
  generalize a.kind = kd at *
  clear hb1 hg hz
  go_enter Try.func48, Try.ntmps48
  go_upto_region 1 with fail
  generalize (w.alloc (.cells (akC a) AKT)).alloc (.cells cs ANT) = w1 at *
  by_cases k3 : kd = 3
  · subst k3
    go_wp2_with fail
    go_ret
    exact ⟨by rw [HE.out]; rfl, HB.out⟩
  · by_cases k4 : kd = 4
    · subst k4
      go_wp2_with fail
      go_ret
      exact ⟨by rw [HE.out]; rfl, HB.out⟩
    · have g3 : (kd == 3) = false := by simpa using k3
      have g4 : (kd == 4) = false := by simpa using k4
      have h34 : decide (kd = 3 ∨ kd = 4) = false := decide_eq_false (by omega)
      rw [h34] at HE
      clear h34
      by_cases hg0 : g = false
      · subst hg0
        have HE2 := Lib.hid (show r = false by rw [HE.out, Bool.false_or, Bool.and_false])
        clear k3 k4
        go_wp2_with fail
        go_ret
        exact ⟨by rw [HE2.out]; rfl, HB.out⟩
      obtain rfl : g = true := by simpa using hg0
      by_cases k6 : kd = 6
      · subst k6
        clear k3 k4
        go_wp2_with fail
        go_ret
        exact ⟨by rw [HE.out]; rfl, HB.out⟩
      · by_cases k8 : kd = 8
        · subst k8
          clear k3 k4 k6
          go_wp2_with fail
          go_ret
          exact ⟨by rw [HE.out]; rfl, HB.out⟩
        · have g6 : (kd == 6) = false := by simpa using k6
          have g8 : (kd == 8) = false := by simpa using k8
          have h68 : decide (kd = 6 ∨ kd = 8) = false := decide_eq_false (by omega)
          rw [h68] at HE
          clear h68 k3 k4 k6 k8
          go_wp2_with fail
          go_ret
          exact ⟨by rw [HE.out]; rfl, HB.out⟩
/-- What a hart asked, and what it was answered. -/
structure Pe where
  hart : Int
  a : Ak
  d : Int
  g : Bool
def Pe.zero : Pe := ⟨0, Ak.zero, 0, false⟩
def Pe.ev (e : Pe) : Sh.Ev := ⟨e.hart, e.a, e.g⟩
def Pe.dc (e : Pe) : List Value := .int .i64 e.hart :: (akC e.a).toList
def Pe.tc (e : Pe) : List Value := (anC e.d e.g).toList
theorem flat_at {α : Type} (f : α → List Value) (n : Nat) (hf : ∀ x, (f x).length = n) : ∀ (l : List α) (i : Nat) (hi : i < l.length) (j : Nat), j < n → (l.flatMap f)[i * n + j]? = (f l[i])[j]?
  | x :: l, 0, _, j, hj => by
    simp only [List.flatMap_cons, Nat.zero_mul, Nat.zero_add, List.getElem_cons_zero]
    rw [List.getElem?_append_left (by rw [hf]; exact hj)]
  | x :: l, i + 1, hi, j, hj => by
    simp only [List.flatMap_cons, List.getElem_cons_succ]
    rw [List.getElem?_append_right (by rw [hf, Nat.succ_mul]; omega), hf, show (i + 1) * n + j - n = i * n + j by rw [Nat.succ_mul]; omega]
    exact flat_at f n hf l i (by simpa using hi) j hj
theorem flat_len {α : Type} (f : α → List Value) (n : Nat) (hf : ∀ x, (f x).length = n) (l : List α) : (l.flatMap f).length = l.length * n := by
  induction l with
  | nil => simp
  | cons x l ih => rw [List.flatMap_cons, List.length_append, hf, ih, List.length_cons, Nat.succ_mul]; omega
abbrev dCells (es : List Pe) : List Value := es.flatMap Pe.dc
abbrev tCells (es : List Pe) : List Value := es.flatMap Pe.tc
theorem dc_len (e : Pe) : e.dc.length = 20 := rfl
theorem tc_len (e : Pe) : e.tc.length = 42 := rfl
theorem pr_low {w w' : World} {c i : Nat} {cs : List Value} (h : w.rangeAt c i cs) (hb : Below w.heap.size w w') : w'.rangeAt c i cs := fun j v hv => by
  have := h j v hv
  exact (hb.cell (p := ⟨c, i + j, none⟩) (World.block_lt_of_cell? w _ this)).trans this
/-- The newest first. -/
def evR (es : List Pe) : List Sh.Ev := (es.map Pe.ev).reverse
theorem evR_snoc (es : List Pe) (e : Pe) : evR (es ++ [e]) = e.ev :: evR es := by simp [evR]
theorem evR_take {es : List Pe} {m : Nat} (h : m < es.length) : evR (es.take (m + 1)) = es[m].ev :: evR (es.take m) := by rw [List.take_succ_eq_append_getElem h, evR_snoc]
/-- Where they lie. -/
theorem vw_deed {w : World} {p : Option Addr} {es : List Pe} (h : Vw w p (dCells es)) {m : Nat} (hm : m < es.length) : ∃ b off, p = some ⟨b, off, none⟩ ∧ w.cell? ⟨b, off + m * 20, none⟩ = some (.int .i64 es[m].hart) ∧ w.rangeAt b (off + m * 20 + 1) (akC es[m].a).toList := by
  rcases h with h | ⟨b, off, rfl, -, hc⟩
  · have := congrArg List.length h
    rw [flat_len Pe.dc 20 dc_len] at this
    simp at this
    omega
  · refine ⟨b, off, rfl, ?_, fun j v hj => ?_⟩
    · exact hc (m * 20) _ (by have := flat_at Pe.dc 20 dc_len es m hm 0 (by omega); rw [Nat.add_zero] at this; rw [this]; rfl)
    · have hj19 : j < 19 := (List.getElem?_eq_some_iff.1 hj).1
      rw [Nat.add_assoc, Nat.add_assoc]
      exact hc (m * 20 + (1 + j)) _ (by rw [flat_at Pe.dc 20 dc_len es m hm (1 + j) (by omega), Nat.add_comm 1 j]; exact hj)
theorem vw_told {w : World} {p : Option Addr} {es : List Pe} (h : Vw w p (tCells es)) {m : Nat} (hm : m < es.length) : ∃ b off, p = some ⟨b, off, none⟩ ∧ w.rangeAt b (off + m * 42) (anC es[m].d es[m].g).toList := by
  rcases h with h | ⟨b, off, rfl, -, hc⟩
  · have := congrArg List.length h
    rw [flat_len Pe.tc 42 tc_len] at this
    simp at this
    omega
  · refine ⟨b, off, rfl, fun j v hj => ?_⟩
    have hj42 : j < 42 := (List.getElem?_eq_some_iff.1 hj).1
    rw [Nat.add_assoc]
    exact hc (m * 42 + j) _ (by rw [flat_at Pe.tc 42 tc_len es m hm j hj42]; exact hj)
namespace Sh
theorem touch_mono (a : Ak) (line : Int) : ∀ (m k : Nat), k ≤ m → touchB a line k = true → touchB a line m = true
  | 0, k, hk, h => by
    have e : k = 0 := by omega
    rw [e] at h
    exact h
  | m + 1, k, hk, h => by
    by_cases e : k = m + 1
    · subst e; exact h
    · unfold touchB
      rw [touch_mono a line m k (by omega) h, Bool.true_or]
theorem touch_yes {a : Ak} {line : Int} {k : Nat} (h : (Sp.byte a.addr a.next a.cut (k : Int) / 64 == line) = true) {m : Nat} (hk : k < m) : touchB a line m = true :=
  touch_mono a line m (k + 1) hk (by unfold touchB; rw [h, Bool.or_true])
theorem touch_no {a : Ak} {line : Int} {k : Nat} (h0 : touchB a line k = false) (h : (Sp.byte a.addr a.next a.cut (k : Int) / 64 == line) = false) : touchB a line (k + 1) = false := by unfold touchB; rw [h0, h]; rfl
end Sh
set_option maxHeartbeats 2000000 in
theorem touches_c (a : Ak) (hF : Sh.Form a) (line : Int) (w : World) : Calls Try.prog 49 #[.agg (akC a), .int .u64 line] w fun e w' => e = .returned (.bool (Sh.touchB a line a.size.toNat)) ∧ Below w.heap.size w w' := by
  have HB := Lib.hid (box_below w (akC a) AKT)
  have HA := Lib.hid (akAt_new w a)
  have hs := hF.size
  have hc := Sp.okA_iff.1 hF.cut
  go_enter Try.func49, Try.ntmps49
  go_upto_region 1 with fail
  generalize w.alloc (.cells (akC a) AKT) = w1 at *
  go_wp2_with fail
  go_loopw [5] (fun iv wr => ∃ k : Nat, k ≤ a.size.toNat ∧ iv = .int .i64 k ∧ Sh.touchB a line k = false ∧ Below w.heap.size w wr ∧ Below w1.heap.size w1 wr) (fun iv _ => a.size.toNat - (intOf iv).toNat)
  case atStart => exact ⟨0, Nat.zero_le _, rfl, rfl, HB.out, Below.refl _ _⟩
  case round =>
    obtain ⟨k, hk, rfl, hn, hbr, hb1⟩ := hrel
    have HN := Lib.hid hn
    have HBR := Lib.hid hbr
    have HB1 := Lib.hid hb1
    have HAR := Lib.hid (HA.out.low hb1)
    have d4 := HAR.out.size
    clear hn hbr hb1
    by_cases hlt : k < a.size.toNat
    · have g1 : decide ((k : Int) < a.size) = true := by simp; omega
      have g2 : decide ((k : Int) < 8) = true := by simp; omega
      have HY := Lib.hid (fun h => Sh.touch_yes (a := a) (line := line) (k := k) h hlt)
      have HNO := Lib.hid (fun h => Sh.touch_no (a := a) (line := line) (k := k) HN.out h)
      have hbr := Sp.byte_range a.addr a.next a.cut (k : Int)
      have HBY := Lib.hid (fun W => rbyte_c a.addr a.next a.cut a.size (k : Int) W (by omega) (by omega) (by omega))
      have h88 : a.size ≤ 8 := by omega
      go_wp2_with (refine wpList_load_row rfl AKT _ rfl w.heap.size rfl AKT (akC a) (0, 0) _ HAR.out.cs Try.underlying66 rfl info_ak ?_)
      refine (raccess_c a wr).mono ?_
      rintro e w3 ⟨rfl, hb3⟩
      have HB3 := Lib.hid (HBR.out.trans (hb3.mono HBR.out.size))
      have HB13 := Lib.hid (HB1.out.trans (hb3.mono HB1.out.size))
      clear hb3
      go_wp2_with fail
      refine (HBY.out w3).mono ?_
      rintro e w4 ⟨rfl, hb4⟩
      have HB4 := Lib.hid (HB3.out.trans (hb4.mono HB3.out.size))
      have HB14 := Lib.hid (HB13.out.trans (hb4.mono HB13.out.size))
      clear hb4
      generalize Sp.byte a.addr a.next a.cut (k : Int) = x at *
      have hw : x.tdiv 64 = x / 64 := Int.tdiv_eq_ediv_of_nonneg hbr.1
      have hw2 : IntKind.u64.wrap (x / 64) = x / 64 := by rw [IntKind.wrap_u64]; omega
      cases hq : (x / 64 == line)
      · have HE := Lib.hid (HNO.out hq)
        clear hbr hs hc
        go_wp2_with fail
        go_roundw
        case rel => exact ⟨k + 1, by omega, by go_num, HE.out, HB4.out, HB14.out⟩
        case measure => simp [intOf]; omega
      · have HE := Lib.hid (HY.out hq)
        clear hbr hs hc
        go_wp2_with fail
        go_ret
        exact ⟨by rw [HE.out]; rfl, HB4.out⟩
    · have g1 : decide ((k : Int) < a.size) = false := by simp; omega
      have e : k = a.size.toNat := by omega
      have HE := Lib.hid (show Sh.touchB a line a.size.toNat = false by rw [← e]; exact HN.out)
      clear e
      clear hs hc
      go_wp2_with fail
      go_ret
      exact ⟨by rw [HE.out]; rfl, HBR.out⟩
theorem steady_skipB {P : Program} {ops : Array Oper} {S : World → Prop} {Q : Act → Prop} {a : Act} {o : Oper} {rest : List Oper} (b : Act) (hw : Region.wanted o (yielded ops a.tmps) = false) (hb : a.put o.dst undef = b)
    (h : wpSteady P ops S Q rest b) : wpSteady P ops S Q (o :: rest) a := steady_skip hw (hb ▸ h)
/-- What is known of what was asked. -/
def PeOk (es : List Pe) : Prop := ∀ e ∈ es, e.a.In ∧ Sh.Form e.a
theorem cnt_hart {hart line : Int} {e : Sh.Ev} {r : List Sh.Ev} (h : e.hart = hart) : Sh.cntR hart line (e :: r) = if e.a.kind = 6 then false else if e.a.kind = 5 then e.a.addr / 64 == line else Sh.cntR hart line r := by
  conv => lhs; unfold Sh.cntR
  rw [if_pos h]
theorem cnt_other {hart line : Int} {e : Sh.Ev} {r : List Sh.Ev} (h : ¬ e.hart = hart) : Sh.cntR hart line (e :: r) = if Sh.wrB e.a.kind e.good && Sh.touchB e.a line e.a.size.toNat then false else Sh.cntR hart line r := by
  conv => lhs; unfold Sh.cntR
  rw [if_neg h]
set_option maxHeartbeats 4000000 in
theorem counts_c (p q : Option Addr) (cp cq : Nat) (es : List Pe) (hart line : Int) (w : World) (hd : Vw w p (dCells es)) (ht : Vw w q (tCells es)) (hok : PeOk es) (hl : es.length ≤ 1000) :
    Calls Try.prog 20 #[.slice p es.length cp, .slice q es.length cq, .int .i64 hart, .int .u64 line] w fun e w' => e = .returned (.bool (Sh.cntR hart line (evR es))) ∧ Below w.heap.size w w' := by
  have HD := Lib.hid hd
  have HT := Lib.hid ht
  have HOK := Lib.hid hok
  have hw0 : IntKind.i64.wrap ((es.length : Int) - 1) = (es.length : Int) - 1 := by rw [IntKind.wrap_i64]; omega
  clear hd ht hok
  go_enter Try.func20, Try.ntmps20
  go_wp2_with fail
  clear hw0
  go_loopw [9] (fun iv wr => ∃ k : Nat, k ≤ es.length ∧ iv = .int .i64 ((k : Int) - 1) ∧ Sh.cntR hart line (evR es) = Sh.cntR hart line (evR (es.take k)) ∧ Below w.heap.size w wr) (fun iv _ => (intOf iv + 1).toNat)
  case atStart => exact ⟨es.length, Nat.le_refl _, rfl, by rw [List.take_length], Below.refl _ _⟩
  case round =>
    obtain ⟨k, hk, rfl, hc, hbr⟩ := hrel
    have HC := Lib.hid hc
    have HBR := Lib.hid hbr
    clear hc hbr
    rcases k with _ | m
    · have HE := Lib.hid (show Sh.cntR hart line (evR es) = false from HC.out)
      rw [show (((0 : Nat) : Int) - 1) = -1 from rfl]
      go_wp2_with fail
      go_ret
      exact ⟨by rw [HE.out]; rfl, HBR.out⟩
    · have hm : m < es.length := by omega
      have e : (((m + 1 : Nat) : Int) - 1) = (m : Int) := by omega
      rw [e]
      have gm : decide ((m : Int) ≥ 0) = true := by simp
      have gm2 : (m : Int) < es.length := by omega
      have hw1 : IntKind.i64.wrap ((m : Int) - 1) = (m : Int) - 1 := by rw [IntKind.wrap_i64]; omega
      obtain ⟨b, off, rfl, h0, hr⟩ := vw_deed (HD.out.low HBR.out) hm
      have HR := Lib.hid hr
      have hok := HOK.out es[m] (List.getElem_mem hm)
      have htl := vw_told (HT.out.low HBR.out) hm
      have HCC := Lib.hid (show Sh.cntR hart line (evR es) = Sh.cntR hart line (es[m].ev :: evR (es.take m)) by rw [HC.out, evR_take hm])
      clear hr e HC
      generalize es[m] = el at *
      obtain ⟨eh, ea, ed, eg⟩ := el
      have hbn := box_below wr (akC ea) AKT
      have HA := Lib.hid (akAt_new wr ea)
      have HB := Lib.hid (HBR.out.trans (hbn.mono HBR.out.size))
      have h0' : (wr.alloc (.cells (akC ea) AKT)).cell? ⟨b, off + m * 20, none⟩ = some (.int .i64 eh) := (hbn.cell (p := ⟨b, off + m * 20, none⟩) (World.block_lt_of_cell? _ _ h0)).trans h0
      obtain ⟨tb, toff, rfl, htr⟩ := htl
      have HTR := Lib.hid (pr_low htr hbn)
      have HOKE := Lib.hid (show ea.In ∧ Sh.Form ea from hok)
      clear hbn h0 htr hok
      go_upto_region 5 with (first
        | (refine wpList_load_mid rfl AKT _ rfl b (off + m * 20 + 1) rfl _ _ HR.out Try.underlying66 rfl info_ak ?_)
        | (refine wpList_storeNew rfl AKT _ _ rfl (akC Ak.zero) (akC ea) AKT rfl rfl info_ak rfl (akC_one _) ?_))
      generalize wr.alloc (.cells (akC ea) AKT) = w2 at *
      generalize wr.heap.size = ab at *
      have d0 := HA.out.kind
      have d1 := HA.out.addr
      have had := HOKE.out.1.addr
      by_cases hh : eh = hart
      · have gh : (eh == hart) = true := by simpa using hh
        have HE := Lib.hid (HCC.out.trans (cnt_hart (e := Pe.ev ⟨eh, ea, ed, eg⟩) hh))
        clear HCC hh
        by_cases k6 : ea.kind = 6
        · have HE2 := Lib.hid (HE.out.trans (if_pos k6))
          rw [k6] at d0
          clear k6 HE d1
          go_wp2_with fail
          go_ret
          exact ⟨by rw [HE2.out]; rfl, HB.out⟩
        · have g6 : (ea.kind == 6) = false := by simpa using k6
          have HE2 := Lib.hid (HE.out.trans (if_neg k6))
          clear k6 HE
          by_cases k5 : ea.kind = 5
          · have HE3 := Lib.hid (HE2.out.trans (if_pos k5))
            have hw : ea.addr.tdiv 64 = ea.addr / 64 := Int.tdiv_eq_ediv_of_nonneg had.1
            have hw2 : IntKind.u64.wrap (ea.addr / 64) = ea.addr / 64 := by rw [IntKind.wrap_u64]; omega
            have g5 : (ea.kind == 5) = true := by simpa using k5
            clear k5 HE2 had
            go_wp2_with fail
            go_ret
            exact ⟨by rw [HE3.out]; rfl, HB.out⟩
          · have g5 : (ea.kind == 5) = false := by simpa using k5
            have HE3 := Lib.hid (HE2.out.trans (if_neg k5))
            clear k5 HE2 had
            go_wp2_with fail
            go_roundw
            case rel => exact ⟨m, by omega, by go_num, HE3.out, HB.out⟩
            case measure => first | (simp [intOf]; done) | (simp [intOf]; omega)
      · have gh : (eh == hart) = false := by simpa using hh
        have HE := Lib.hid (HCC.out.trans (cnt_other (e := Pe.ev ⟨eh, ea, ed, eg⟩) hh))
        clear HCC hh had d0 d1
        obtain ⟨wv, hwv⟩ : ∃ wv, Sh.wrB ea.kind eg = wv := ⟨_, rfl⟩
        have HWV := Lib.hid hwv
        obtain ⟨tv, htv⟩ : ∃ tv, Sh.touchB ea line ea.size.toNat = tv := ⟨_, rfl⟩
        have HTV := Lib.hid htv
        have HE2 := Lib.hid (show Sh.cntR hart line (evR es) = if wv && tv then false else Sh.cntR hart line (evR (es.take m)) by rw [HE.out, ← hwv, ← htv]; rfl)
        clear HE hwv htv
        go_upto_region 10 with fail
        cases wv
        · skip
          refine wp_region_steady (fun W => Below w2.heap.size w2 W) (by kernel_rfl) (by kernel_rfl) (Below.refl _ _).drew ?_
          refine steady_val (.agg (akC ea)) ?_ (by kernel_rfl) (fun W hS => exec_load_row AKT _ rfl ab rfl AKT _ _ (HA.out.low hS).cs Try.underlying66 rfl info_ak) ?_ ?_
          rotate_left 1
          · go_simp
            exact rfl
          iterate 3
            refine steady_val ?_ ?_ (by kernel_rfl) (fun W hS => ?_) ?_ ?_
            rotate_left 2
            · go_simp
              exact rfl
            · go_simp
              exact rfl
          refine steady_val (.agg (anC ed eg)) ?_ (by kernel_rfl) (fun W hS => exec_load_mid (cs := (anC ed eg).toList) ANT _ rfl tb (toff + m * 42) rfl _ (pr_low HTR.out hS) Try.underlying71 rfl info_an) ?_ ?_
          rotate_left 1
          · go_simp
            exact rfl
          refine steady_enter (.bool false) 48 #[.agg (akC ea), .agg (anC ed eg)] ?_ (by kernel_rfl) (fun W hS => ?_) (fun W hS => (rwrites14_c ea (anC ed eg) eg rfl W).mono fun e w' hh => ⟨by rw [hh.1, HWV.out], hS.trans (hh.2.mono hS.size)⟩) ?_ ?_
          rotate_left 1
          · go_simp
          · go_simp
            exact rfl
          refine steady_val ?_ ?_ (by kernel_rfl) (fun W hS => ?_) ?_ ?_
          rotate_left 2
          · go_simp
            exact rfl
          · go_simp
            exact rfl
          iterate 3
            refine steady_skipB ?_ (by kernel_rfl) ?_ ?_
            rotate_left 1
            · go_simp
              exact rfl
          refine steady_val ?_ ?_ (by kernel_rfl) (fun W hS => ?_) ?_ ?_
          rotate_left 2
          · go_simp
            exact rfl
          · go_simp
            exact rfl
          refine steady_nil ?_
          intro W3 hW
          have HB3 := Lib.hid (HB.out.trans (hW.mono HB.out.size))
          clear hW
          go_wp2_with fail
          go_roundw
          case rel => exact ⟨m, by omega, by go_num, HE2.out, HB3.out⟩
          case measure => first | (simp [intOf]; done) | (simp [intOf]; omega)
        · cases tv
          · skip
            refine wp_region_steady (fun W => Below w2.heap.size w2 W) (by kernel_rfl) (by kernel_rfl) (Below.refl _ _).drew ?_
            refine steady_val (.agg (akC ea)) ?_ (by kernel_rfl) (fun W hS => exec_load_row AKT _ rfl ab rfl AKT _ _ (HA.out.low hS).cs Try.underlying66 rfl info_ak) ?_ ?_
            rotate_left 1
            · go_simp
              exact rfl
            iterate 3
              refine steady_val ?_ ?_ (by kernel_rfl) (fun W hS => ?_) ?_ ?_
              rotate_left 2
              · go_simp
                exact rfl
              · go_simp
                exact rfl
            refine steady_val (.agg (anC ed eg)) ?_ (by kernel_rfl) (fun W hS => exec_load_mid (cs := (anC ed eg).toList) ANT _ rfl tb (toff + m * 42) rfl _ (pr_low HTR.out hS) Try.underlying71 rfl info_an) ?_ ?_
            rotate_left 1
            · go_simp
              exact rfl
            refine steady_enter (.bool true) 48 #[.agg (akC ea), .agg (anC ed eg)] ?_ (by kernel_rfl) (fun W hS => ?_) (fun W hS => (rwrites14_c ea (anC ed eg) eg rfl W).mono fun e w' hh => ⟨by rw [hh.1, HWV.out], hS.trans (hh.2.mono hS.size)⟩) ?_ ?_
            rotate_left 1
            · go_simp
            · go_simp
              exact rfl
            refine steady_val ?_ ?_ (by kernel_rfl) (fun W hS => ?_) ?_ ?_
            rotate_left 2
            · go_simp
              exact rfl
            · go_simp
              exact rfl
            refine steady_val (.agg (akC ea)) ?_ (by kernel_rfl) (fun W hS => exec_load_row AKT _ rfl ab rfl AKT _ _ (HA.out.low hS).cs Try.underlying66 rfl info_ak) ?_ ?_
            rotate_left 1
            · go_simp
              exact rfl
            refine steady_val ?_ ?_ (by kernel_rfl) (fun W hS => ?_) ?_ ?_
            rotate_left 2
            · go_simp
              exact rfl
            · go_simp
              exact rfl
            refine steady_enter (.bool false) 49 #[.agg (akC ea), .int .u64 line] ?_ (by kernel_rfl) (fun W hS => ?_) (fun W hS => (touches_c ea HOKE.out.2 line W).mono fun e w' hh => ⟨by rw [hh.1, HTV.out], hS.trans (hh.2.mono hS.size)⟩) ?_ ?_
            rotate_left 1
            · go_simp
            · go_simp
              exact rfl
            refine steady_val ?_ ?_ (by kernel_rfl) (fun W hS => ?_) ?_ ?_
            rotate_left 2
            · go_simp
              exact rfl
            · go_simp
              exact rfl
            refine steady_nil ?_
            intro W3 hW
            have HB3 := Lib.hid (HB.out.trans (hW.mono HB.out.size))
            clear hW
            go_wp2_with fail
            go_roundw
            case rel => exact ⟨m, by omega, by go_num, HE2.out, HB3.out⟩
            case measure => first | (simp [intOf]; done) | (simp [intOf]; omega)
          · skip
            refine wp_region_steady (fun W => Below w2.heap.size w2 W) (by kernel_rfl) (by kernel_rfl) (Below.refl _ _).drew ?_
            refine steady_val (.agg (akC ea)) ?_ (by kernel_rfl) (fun W hS => exec_load_row AKT _ rfl ab rfl AKT _ _ (HA.out.low hS).cs Try.underlying66 rfl info_ak) ?_ ?_
            rotate_left 1
            · go_simp
              exact rfl
            iterate 3
              refine steady_val ?_ ?_ (by kernel_rfl) (fun W hS => ?_) ?_ ?_
              rotate_left 2
              · go_simp
                exact rfl
              · go_simp
                exact rfl
            refine steady_val (.agg (anC ed eg)) ?_ (by kernel_rfl) (fun W hS => exec_load_mid (cs := (anC ed eg).toList) ANT _ rfl tb (toff + m * 42) rfl _ (pr_low HTR.out hS) Try.underlying71 rfl info_an) ?_ ?_
            rotate_left 1
            · go_simp
              exact rfl
            refine steady_enter (.bool true) 48 #[.agg (akC ea), .agg (anC ed eg)] ?_ (by kernel_rfl) (fun W hS => ?_) (fun W hS => (rwrites14_c ea (anC ed eg) eg rfl W).mono fun e w' hh => ⟨by rw [hh.1, HWV.out], hS.trans (hh.2.mono hS.size)⟩) ?_ ?_
            rotate_left 1
            · go_simp
            · go_simp
              exact rfl
            refine steady_val ?_ ?_ (by kernel_rfl) (fun W hS => ?_) ?_ ?_
            rotate_left 2
            · go_simp
              exact rfl
            · go_simp
              exact rfl
            refine steady_val (.agg (akC ea)) ?_ (by kernel_rfl) (fun W hS => exec_load_row AKT _ rfl ab rfl AKT _ _ (HA.out.low hS).cs Try.underlying66 rfl info_ak) ?_ ?_
            rotate_left 1
            · go_simp
              exact rfl
            refine steady_val ?_ ?_ (by kernel_rfl) (fun W hS => ?_) ?_ ?_
            rotate_left 2
            · go_simp
              exact rfl
            · go_simp
              exact rfl
            refine steady_enter (.bool true) 49 #[.agg (akC ea), .int .u64 line] ?_ (by kernel_rfl) (fun W hS => ?_) (fun W hS => (touches_c ea HOKE.out.2 line W).mono fun e w' hh => ⟨by rw [hh.1, HTV.out], hS.trans (hh.2.mono hS.size)⟩) ?_ ?_
            rotate_left 1
            · go_simp
            · go_simp
              exact rfl
            refine steady_val ?_ ?_ (by kernel_rfl) (fun W hS => ?_) ?_ ?_
            rotate_left 2
            · go_simp
              exact rfl
            · go_simp
              exact rfl
            refine steady_nil ?_
            intro W3 hW
            have HB3 := Lib.hid (HB.out.trans (hW.mono HB.out.size))
            have HE3 := Lib.hid (show Sh.cntR hart line (evR es) = false from HE2.out)
            clear hW
            go_wp2_with fail
            go_ret
            exact ⟨by rw [HE3.out]; rfl, HB3.out⟩
end Go.Proofs.Ytabackklpemhpaa
set_option maxRecDepth 20000
namespace Go.Proofs.Ytabackklpemhpaa
open Go.RowKit Wd

namespace Sh
theorem ld1 {B : List Int} {N : Nat} {x : Int} (h : hasB N x 1 = true) : ldV B N x 1 = B.getD (x - 2147483648).toNat 0 := by
  unfold ldV
  rw [if_pos (by unfold hasN; rw [h]; rfl), show (1 : Int).toNat = 1 from rfl]
  simp [Ln.num]
theorem ld_st1 {B : List Int} {N : Nat} (hB : Rm.Ok B N) {x y u : Int} (hx : hasB N x 1 = true) (hy : hasB N y 1 = true) (h0 : 0 ≤ u) (h1 : u < 256) : ldV (stV B N x 1 u) N y 1 = if y = x then u else ldV B N y 1 := by
  rw [ld1 hy, ld1 hy]
  unfold stV
  rw [if_pos (by unfold hasN; rw [hx]; rfl), show (1 : Int).toNat = 1 from rfl]
  have ix := hasB_iff.1 hx
  have iy := hasB_iff.1 hy
  rw [Rm.st_get hB _ _ _ _ (by omega)]
  by_cases e : y = x
  · subst e
    rw [if_pos (by omega), if_pos rfl, Nat.sub_self]
    unfold Ln.byteOf
    rw [Int.pow_zero, Int.ediv_one]
    omega
  · rw [if_neg (by omega), if_neg e]
theorem digit_one {q v : Int} (hp : 0 < q) : v % q + q * (v / q % 256) = v % (q * 256) := by
  have hv := Int.mul_ediv_add_emod v q
  have r1 := Int.emod_nonneg v (Int.ne_of_gt hp)
  have r2 := Int.emod_lt_of_pos v hp
  generalize v / q = d at *
  generalize v % q = r at *
  subst hv
  have e2 := Int.mul_ediv_add_emod d 256
  have r3 : 0 ≤ d % 256 := Int.emod_nonneg _ (by decide)
  have r4 : d % 256 ≤ 255 := by omega
  generalize d % 256 = f at *
  generalize d / 256 = e at *
  have r5 : q * f ≤ q * 255 := Int.mul_le_mul_of_nonneg_left r4 (Int.le_of_lt hp)
  have r6 : 0 ≤ q * f := Int.mul_nonneg (Int.le_of_lt hp) r3
  have e4 : q * d + r = (q * f + r) + (q * 256) * e := by
    rw [← e2, Int.mul_add, Int.mul_assoc q 256 e]
    generalize q * (256 * e) = X
    generalize q * f = Y
    omega
  rw [e4, Int.add_mul_emod_self_left]
  generalize q * f = Y at *
  rw [Int.emod_eq_of_lt (by omega) (by omega)]
  omega
theorem digits (v : Int) : ∀ n : Nat, numB (fun j => v / 256 ^ j % 256) n = v % 256 ^ n
  | 0 => by simp [numB]
  | n + 1 => by
    rw [numB, digits v n, Int.pow_succ]
    exact digit_one (Int.pow_pos (by decide))
/-- The bytes of a number in one place, in memory. -/
theorem lay_ld {B : List Int} {N : Nat} (hB : Rm.Ok B N) {a b v : Int} {n : Nat} (ha : 0 ≤ a ∧ a < 18446744073709551616) (hN : N ≤ 4096) (hn8 : n ≤ 8) (hin : inAll N a b 0 n) (i : Nat) (hi : i < n) : ∀ k, k ≤ n → ldV (layB B N a b 0 v k) N (Sp.byte a b 0 (i : Int)) 1 = if i < k then v / 256 ^ i % 256 else ldV B N (Sp.byte a b 0 (i : Int)) 1
  | 0, _ => by rw [if_neg (by omega)]; rfl
  | k + 1, hk => by
    have ih := lay_ld (b := b) (v := v) hB ha hN hn8 hin i hi k (by omega)
    rw [layB, ld_st1 (layB_ok hB _ _ _ _ _) (hin k (by omega)) (hin i hi) (by omega) (by omega), ih]
    have hk1 := hasB_iff.1 (hin k (by omega))
    have hi1 := hasB_iff.1 (hin i hi)
    have h00 := hasB_iff.1 (hin 0 (by omega))
    have e0 : Sp.byte a b 0 ((0 : Nat) : Int) = (a + ((0 : Nat) : Int)) % 18446744073709551616 := by unfold Sp.byte; rw [if_neg (by omega)]
    rw [e0] at h00
    have ek : Sp.byte a b 0 (k : Int) = (a + k) % 18446744073709551616 := by unfold Sp.byte; rw [if_neg (by omega)]
    have ei : Sp.byte a b 0 (i : Int) = (a + i) % 18446744073709551616 := by unfold Sp.byte; rw [if_neg (by omega)]
    rw [ek] at hk1
    rw [ei] at hi1
    rw [ek, ei]
    by_cases e : i = k
    · subst e
      rw [if_pos rfl, if_pos (by omega)]
    · rw [if_neg (by omega)]
      by_cases h : i < k
      · rw [if_pos h, if_pos (by omega)]
      · rw [if_neg h, if_neg (by omega)]
theorem lay_num {B : List Int} {N : Nat} (hB : Rm.Ok B N) {a b v : Int} {n : Nat} (ha : 0 ≤ a ∧ a < 18446744073709551616) (hN : N ≤ 4096) (hn8 : n ≤ 8) (hin : inAll N a b 0 n) : num (layB B N a b 0 v n) N a b 0 n = v % 256 ^ n := by
  unfold num
  rw [← digits v n]
  refine numB_congr n fun j hj => ?_
  unfold fB
  rw [lay_ld hB ha hN hn8 hin j hj n (Nat.le_refl _), if_pos hj]
end Sh
end Go.Proofs.Ytabackklpemhpaa
set_option maxRecDepth 20000
namespace Go.Proofs.Ytabackklpemhpaa
open Go.ChangeShapes Go.WideShapes Go.ChangeAt Go.RowKit Wd

theorem wpList_pushG {P : Program} {ops : Array Oper} {rest : List Oper} {o : Oper} {a : Act} {Q : Exit → Act → World → Prop} {w1 : World} (hgd : o.guard = none) (s x : Operand) (t : TypeId)
    (ho : o.op = .call { callee := .builtin .append, args := #[s, x], argTypes := #[t, t] })
    (base : Nat) (e : TypeId) (z : Value) (size bytes : Nat) (ht : P.underlying t = some (.slice e)) (hi : (P.info? e).map (fun i => (i.zero, i.size, i.bytes)) = some (some z, size, bytes))
    (hzs : z.cells.size = size) (hsz : 0 < size) (hby : bytes ≤ 60000)
    (v : Value) (n : Nat) (xs : List Value) (hs : a.eval s = v) (hown : w1.ownsRow base e size v n xs) (cs : Array Value) (hcs : cs.size = size) (h1 : cs.all (·.oneCell') = true)
    (b : Nat) (hx : a.eval x = .slice (some ⟨b, 0, none⟩) 1 1) (hb : b = w1.heap.size) (hn : n < 1000) (hbase : base ≤ w1.heap.size)
    (h : ∀ v' w', w'.ownsRow base e size v' (n + 1) (xs ++ cs.toList) → (w1.alloc (.cells cs e)).grownBy w' v.ownBlock → Hid (v'.ownBlock = v.ownBlock ∨ v'.ownBlock = some (w1.alloc (.cells cs e)).heap.size) → wpList P ops Q rest (a.put o.dst v') w') : wpList P ops Q (o :: rest) a (w1.alloc (.cells cs e)) := by
  subst hb
  obtain ⟨i, hi, hz⟩ := Option.map_eq_some_iff.1 hi
  simp only [Prod.mk.injEq] at hz
  refine wpList_append_own_at _ hgd s x t ho base e i z size bytes ht hi hz.1 hz.2.1 hz.2.2 hzs hsz v n xs hs (hown.alloc _) ⟨w1.heap.size, 0, none⟩ 1 1 cs.toList hx (by simpa using hcs) ?_ ?_ (by unfold maxLen; omega) ?_ (by simp; omega) ?_
  · intro j u hj
    rw [add_plain, Nat.zero_add, (CsAt.new w1 e cs).cell]
    simpa using hj
  · intro u hu
    exact (Array.all_eq_true_iff_forall_mem.1 h1) u (by simpa using hu)
  · have : (n + 1) * bytes ≤ 1000 * 60000 := Nat.mul_le_mul (by omega) hby
    omega
  · intro v' w' hown' hg _ hv
    exact h v' w' hown' hg (Lib.hid hv)
/-- The load at an ask's address. -/
abbrev rdOf (a : Ak) : Ak := akOf 2 a.addr a.size 0 0 false
theorem rd_in {a : Ak} (ha : a.In) : (rdOf a).In := akOf_in (by omega) ha.addr ha.size (by omega) (by omega)
namespace Sh
theorem rd_T (B : List Int) (N : Nat) (T : Rv.Tb) (hart : Int) (a : Ak) : doT B N T hart (rdOf a) = T := rfl
theorem rd_B (B : List Int) (N : Nat) (T : Rv.Tb) (hart : Int) (a : Ak) : doB B N T hart (rdOf a) = B := rfl
theorem rd_D (B : List Int) (N : Nat) (a : Ak) : ansD B N (rdOf a) = nB B N (rdOf a) := rfl
theorem byte_0 (x b b' i : Int) : Sp.byte x b 0 i = Sp.byte x b' 0 i := by unfold Sp.byte; rw [if_neg (by omega), if_neg (by omega)]
theorem amo_form {N : Nat} {a : Ak} (ha : a.In) (hm : mayB N a = true) (hk : a.kind = 4) : a.cut = 0 ∧ (a.size = 4 ∨ a.size = 8) ∧ a.size = sizeS a.op ∧ isB a.op = true ∧ mayB N (rdOf a) = true ∧ inAll N a.addr a.next 0 a.size.toNat := by
  have hF := may_form hm
  obtain ⟨h1, h2, h3⟩ := hF.one (by omega)
  have hi := may_in ha hm
  have hs := hF.size
  have h48 := szS_48 a
  have hp : szS a ≠ 0 := by omega
  have e4 := szS_4 hk
  have hb : isB a.op = true := by
    by_cases hc : isB a.op = true
    · exact hc
    · rw [if_neg hc] at e4; omega
  rw [if_pos hb] at e4
  rw [h1] at hi
  refine ⟨h1, by omega, by omega, hb, ?_, hi⟩
  refine (may_iff (rd_in ha)).2 ⟨?_, fun i hh => ?_⟩
  · have : formB (rdOf a) = (powB a.size && Sp.okA 0 a.size) := formB_ls (.inl rfl)
    rw [this, pow_iff.2 hs, Sp.okA_iff.2 (by omega)]
    rfl
  · have := hi i hh
    rw [byte_0 a.addr a.next 0 (i : Int)] at this
    exact this
theorem rd_num {B : List Int} {N : Nat} {a : Ak} (hc : a.cut = 0) : nB B N (rdOf a) = nB B N a := by
  unfold nB num
  refine numB_congr _ fun j _ => ?_
  unfold fB
  rw [hc]
  show ldV B N (Sp.byte a.addr 0 0 (j : Int)) 1 = _
  rw [byte_0 a.addr 0 a.next (j : Int)]
theorem amo_mod {op m x : Int} (hm : WordB m) (hx : WordB x) (hb : isB op = true) : amoV op m x % 256 ^ (sizeS op).toNat = amoV op m x := by
  have hr : 67 ≤ op ∧ op ≤ 88 := by
    unfold isB at hb
    simp only [Bool.and_eq_true, beq_iff_eq] at hb
    exact class_seven.1 hb.1.1
  have hw := (amo_fit op m x hm.1 hm.2 hx.1 hx.2).2.2
  by_cases h : op < 78
  · have l2 : ∀ k : Fin 99, 67 ≤ k.val → k.val < 78 → sizeL.getD k.val 0 = 4 := by decide +kernel
    have hs : sizeS op = 4 := by
      have := l2 ⟨op.toNat, by omega⟩ (by simp only; omega) (by simp only; omega)
      unfold sizeS
      rw [if_pos (by omega)]
      simp only at this
      omega
    rw [hs]
    unfold amoV
    rw [if_pos hb, if_pos h]
    show _ % 4294967296 = _
    omega
  · have l2 : ∀ k : Fin 99, 78 ≤ k.val → k.val ≤ 88 → sizeL.getD k.val 0 = 8 := by decide +kernel
    have hs : sizeS op = 8 := by
      have := l2 ⟨op.toNat, by omega⟩ (by simp only; omega) (by simp only; omega)
      unfold sizeS
      rw [if_pos (by omega)]
      simp only at this
      omega
    rw [hs]
    show _ % 18446744073709551616 = _
    unfold WordB at hw
    omega
/-- What an AMO leaves is what is loaded then. -/
theorem amo_after {B : List Int} {N : Nat} (hB : Rm.Ok B N) (hN : N ≤ 4096) {T : Rv.Tb} {hart : Int} {a : Ak} (ha : a.In) (hm : mayB N a = true) (hk : a.kind = 4) :
    nB (doB B N T hart a) N (rdOf a) = amoV a.op (nB B N a) a.data := by
  obtain ⟨hc, hs, hsz, hb, hr, hi⟩ := amo_form ha hm hk
  have hF := may_form hm
  have e : doB B N T hart a = layA B N a (amoV a.op (nB B N a) a.data) := by
    unfold doB laidV wrB
    rw [if_pos (by simp [hk]), if_pos hk]
  have had := ha.addr
  have hda := ha.data
  have h1 : inAll N a.addr 0 0 a.size.toNat := fun i hh => by rw [byte_0 a.addr 0 a.next]; exact hi i hh
  have hm2 := amo_mod (nB_word hB hF) ⟨hda.1, by omega⟩ hb
  rw [e]
  generalize amoV a.op (nB B N a) a.data = V at *
  have hl := lay_num hB (a := a.addr) (b := 0) (v := V) (n := a.size.toNat) (by omega) hN (by omega) h1
  have hb2 : ∀ (x : Int) (k : Nat), layB B N a.addr a.next a.cut x k = layB B N a.addr 0 0 x k := by
    intro x k
    rw [hc]
    induction k with
    | zero => rfl
    | succ k ih => rw [layB, layB, ih, byte_0 a.addr a.next 0]
  show num (layB B N a.addr a.next a.cut V a.size.toNat) N a.addr 0 0 a.size.toNat = _
  rw [hb2, hl, hsz]
  exact hm2
end Sh
/-- Memory's answer to any ask. -/
theorem do_any (a : Ak) (ha : a.In) {sb rb mb : Nat} {c : Cf} {B : List Int} {T : Rv.Tb} (hart : Int) (w : World) (h : ShAt w sb rb mb c B T) :
    Calls Try.prog 18 #[.pointer (some ⟨sb, 0, none⟩), .int .i64 hart, .agg (akC a)] w fun e w' => ∃ d g ok B' T', e = .returned (.tuple #[.agg (anC d g), .bool ok]) ∧ ShAt w' sb rb mb c B' T' ∧ Two sb mb w w' ∧
      ok = Sh.okD c.lines.toNat c.harts hart a ∧ (ok = true → d = Sh.ansD B c.lines.toNat a ∧ g = Sh.ansG B c.lines.toNat T hart a ∧ B' = Sh.doB B c.lines.toNat T hart a ∧ T' = Sh.doT B c.lines.toNat T hart a) ∧ (ok = false → B' = B ∧ T' = T) := by
  cases hok : Sh.okD c.lines.toNat c.harts hart a
  · exact (do_no a ha hart w h hok).mono fun e w' ⟨h1, h2, h3⟩ => ⟨0, false, false, B, T, h1, h3, h2, rfl, (fun h => by cases h), fun _ => ⟨rfl, rfl⟩⟩
  · exact (do_yes a ha hart w h hok).mono fun e w' ⟨h1, h2, h3⟩ => ⟨_, _, true, _, _, h1, h2, h3, rfl, fun _ => ⟨rfl, rfl, rfl, rfl⟩, (fun h => by cases h)⟩
end Go.Proofs.Ytabackklpemhpaa
