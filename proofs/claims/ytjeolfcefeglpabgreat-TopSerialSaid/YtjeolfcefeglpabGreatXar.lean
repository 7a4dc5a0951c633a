/-
  Contracts of shard: between, Right, Access, isPower, size, formed. The statement BitsSigns (P1.2): for all words a, b and every int size, roebucklaw01.BitsSigns returns true and its arguments read afterwards as before. No condition. Plain numbers, and contracts of the reference's digits and word (layer 2).
-/
import Derived.Test.YtjeolfcefeglpabGreatXaj
import Derived.Test.YtjeolfcefeglpabGreatXak
import Derived.Test.YtjeolfcefeglpabGreatXac
import Derived.Test.YtjeolfcefeglpabGreatXag
import Derived.Test.YtjeolfcefeglpabGreatXaq
import Derived.Test.YtjeolfcefeglpabGreatXam
import Derived.Test.YtjeolfcefeglpabGreatXan
import Derived.Test.YtjeolfcefeglpabGreatXal
set_option maxRecDepth 20000
namespace Go.Proofs.YtjeolfcefeglpabGreat
open Go.ChangeShapes Go.WideShapes Go.ChangeAt Go.RowKit Wd

abbrev AKT : TypeId := 58
abbrev CFT : TypeId := 26
abbrev ACT : TypeId := 104
/-- An ask's cells, a configuration's. -/
def akC (a : Ak) : Array Value := a.cells
def cfC (c : Cf) : Array Value := c.cells
theorem info_ak : (Tryz.prog.info? AKT).map (·.size) = some 19 := by kernel_rfl
theorem info_cf : (Tryz.prog.info? CFT).map (·.size) = some 4 := by kernel_rfl
theorem info_ac : (Tryz.prog.info? ACT).map (·.size) = some 4 := by kernel_rfl
theorem akC_one (a : Ak) : (akC a).all (·.oneCell') = true := by simp [akC, Value.oneCell']
theorem cfC_one (c : Cf) : (cfC c).all (·.oneCell') = true := by simp [cfC, Value.oneCell']
/-- An ask in its box. -/
structure AkAt (W : World) (b : Nat) (a : Ak) : Prop where
  cs : CsAt W b AKT (akC a)
theorem AkAt.low {W W' : World} {b : Nat} {a : Ak} (h : AkAt W b a) (hb : Below W.heap.size W W') : AkAt W' b a := ⟨h.cs.low hb⟩
theorem AkAt.kind {W : World} {b : Nat} {a : Ak} (h : AkAt W b a) : W.cell? ⟨b, 0, none⟩ = some (.int .i64 a.kind) := h.cs.cell 0
theorem AkAt.addr {W : World} {b : Nat} {a : Ak} (h : AkAt W b a) : W.cell? ⟨b, 1, none⟩ = some (.int .u64 a.addr) := h.cs.cell 1
theorem AkAt.next {W : World} {b : Nat} {a : Ak} (h : AkAt W b a) : W.cell? ⟨b, 2, none⟩ = some (.int .u64 a.next) := h.cs.cell 2
theorem AkAt.cut {W : World} {b : Nat} {a : Ak} (h : AkAt W b a) : W.cell? ⟨b, 3, none⟩ = some (.int .i64 a.cut) := h.cs.cell 3
theorem AkAt.size {W : World} {b : Nat} {a : Ak} (h : AkAt W b a) : W.cell? ⟨b, 4, none⟩ = some (.int .i64 a.size) := h.cs.cell 4
theorem AkAt.op {W : World} {b : Nat} {a : Ak} (h : AkAt W b a) : W.cell? ⟨b, 5, none⟩ = some (.int .i64 a.op) := h.cs.cell 5
theorem AkAt.data {W : World} {b : Nat} {a : Ak} (h : AkAt W b a) : W.cell? ⟨b, 6, none⟩ = some (.int .u64 a.data) := h.cs.cell 6
theorem AkAt.old {W : World} {b : Nat} {a : Ak} (h : AkAt W b a) : W.cell? ⟨b, 7, none⟩ = some (.int .u64 a.old) := h.cs.cell 7
theorem AkAt.live {W : World} {b : Nat} {a : Ak} (h : AkAt W b a) : W.cell? ⟨b, 8, none⟩ = some (.bool a.live) := h.cs.cell 8
theorem akAt_new (W : World) (a : Ak) : AkAt (W.alloc (.cells (akC a) AKT)) W.heap.size a := ⟨CsAt.new W AKT (akC a)⟩
theorem box_below (W : World) (cs : Array Value) (t : TypeId) : Below W.heap.size W (W.alloc (.cells cs t)) := (Below.refl _ _).alloc (Nat.le_refl _) _

def btwB (n l m : Int) : Bool := decide (l ≤ n) && decide (n ≤ m)
theorem sbtw_c (n l m : Int) (w : World) : Calls Tryz.prog 35 #[.int .i64 n, .int .i64 l, .int .i64 m] w fun e w' => e = .returned (.bool (btwB n l m)) ∧ w' = w := by
  go_enter Tryz.func35, Tryz.ntmps35
  cases h : decide (l ≤ n)
  · have HE := Lib.hid (show btwB n l m = false by unfold btwB; rw [h]; rfl)
    go_wp2_with fail
    go_ret
    exact ⟨by rw [HE.out]; rfl, rfl⟩
  · have HE := Lib.hid (show btwB n l m = decide (n ≤ m) by unfold btwB; rw [h, Bool.true_and])
    go_wp2_with fail
    go_ret
    exact ⟨by rw [HE.out]; rfl, rfl⟩
/-- May a configuration be? -/
def rightS (c : Cf) : Bool := btwB c.harts 1 8 && btwB c.stripes 1 64 && btwB c.lines 1 4096 && btwB c.tlb 1 32
set_option maxHeartbeats 1000000 in
theorem sright_c (c : Cf) (w : World) : Calls Tryz.prog 22 #[.agg (cfC c)] w fun e w' => e = .returned (.bool (rightS c)) ∧ Below w.heap.size w w' := by
  have HB := Lib.hid (box_below w (cfC c) CFT)
  have HC := CsAt.new w CFT (cfC c)
  have c0 : (w.alloc (.cells (cfC c) CFT)).cell? ⟨w.heap.size, 0, none⟩ = some (.int .i64 c.harts) := HC.cell 0
  have c1 : (w.alloc (.cells (cfC c) CFT)).cell? ⟨w.heap.size, 1, none⟩ = some (.int .i64 c.stripes) := HC.cell 1
  have c2 : (w.alloc (.cells (cfC c) CFT)).cell? ⟨w.heap.size, 2, none⟩ = some (.int .i64 c.lines) := HC.cell 2
  have c3 : (w.alloc (.cells (cfC c) CFT)).cell? ⟨w.heap.size, 3, none⟩ = some (.int .i64 c.tlb) := HC.cell 3
  clear HC
  have HR := Lib.hid (show rightS c = (btwB c.harts 1 8 && btwB c.stripes 1 64 && btwB c.lines 1 4096 && btwB c.tlb 1 32) from rfl)
  have HBT := Lib.hid (fun n l m W => sbtw_c n l m W)
  generalize hh : c.harts = h0 at *
  generalize hs : c.stripes = h1 at *
  generalize hl : c.lines = h2 at *
  generalize ht : c.tlb = h3 at *
  clear hh hs hl ht
  go_enter Tryz.func22, Tryz.ntmps22
  go_upto_region 1 with fail
  generalize w.alloc (.cells (cfC c) CFT) = w1 at *
  go_wp2_with fail
  refine (HBT.out h0 1 8 w1).mono ?_
  rintro e w' ⟨rfl, rfl⟩
  cases e0 : btwB h0 1 8
  · go_wp2_with fail
    go_ret
    exact ⟨by rw [HR.out, e0]; rfl, HB.out⟩
  · go_wp2_with fail
    refine (HBT.out h1 1 64 w').mono ?_
    rintro e w' ⟨rfl, rfl⟩
    cases e1 : btwB h1 1 64
    · go_wp2_with fail
      go_ret
      exact ⟨by rw [HR.out, e0, e1]; rfl, HB.out⟩
    · go_wp2_with fail
      refine (HBT.out h2 1 4096 w').mono ?_
      rintro e w' ⟨rfl, rfl⟩
      cases e2 : btwB h2 1 4096
      · go_wp2_with fail
        go_ret
        exact ⟨by rw [HR.out, e0, e1, e2]; rfl, HB.out⟩
      · go_wp2_with fail
        refine (HBT.out h3 1 32 w').mono ?_
        rintro e w' ⟨rfl, rfl⟩
        go_wp2_with fail
        go_ret
        exact ⟨by rw [HR.out, e0, e1, e2]; rfl, HB.out⟩
theorem ax_one (a b c n : Int) : (axV a b c n).all (·.oneCell') = true := by simp [Value.oneCell']
set_option maxHeartbeats 1000000 in
theorem saccess_c (a : Ak) (w : World) : Calls Tryz.prog 30 #[.agg (akC a)] w fun e w' => e = .returned (.agg (axV a.addr a.next a.cut a.size)) ∧ Below w.heap.size w w' := by
  have HA := akAt_new w a
  have hb := box_below w (akC a) AKT
  have hz := box_below (w.alloc (.cells (akC a) AKT)) (axV 0 0 0 0) ACT
  have HB := Lib.hid (hb.trans (hz.mono hb.size))
  have HZ := Lib.hid (show CsAt ((w.alloc (.cells (akC a) AKT)).alloc (.cells (axV 0 0 0 0) ACT)) (w.heap.size + 1) ACT (axV 0 0 0 0) by simpa using CsAt.new (w.alloc (.cells (akC a) AKT)) ACT (axV 0 0 0 0))
  have hA := HA.low hz
  have d1 := hA.addr
  have d2 := hA.next
  have d3 := hA.cut
  have d4 := hA.size
  clear hb hz HA hA
  go_enter Tryz.func30, Tryz.ntmps30
  go_upto_region 1 with fail
  rw [show (#[Value.int .u64 0, .int .u64 0, .int .i64 0, .int .i64 0] : Array Value) = axV 0 0 0 0 from rfl]
  generalize (w.alloc (.cells (akC a) AKT)).alloc (.cells (axV 0 0 0 0) ACT) = w1 at *
  go_wp2_with (refine wpList_store_row rfl ACT _ _ rfl (w.heap.size + 1) (axV a.addr a.next a.cut a.size) rfl rfl ACT (axV 0 0 0 0) HZ.out info_ac rfl (ax_one _ _ _ _) ?_)
  exact bodyPost_ret (results_cell_row Tryz.results30 _ _ (w.heap.size + 1) ACT (axV a.addr a.next a.cut a.size) (0, 0) _ rfl (HZ.out.row _) Tryz.underlying104 rfl info_ac) rfl ⟨rfl, HB.out.trans ⟨rfl, rfl, rfl, by simp, fun k hk => setRow_other w1 _ k _ (by omega)⟩⟩
def powB (n : Int) : Bool := decide (n = 1 ∨ n = 2 ∨ n = 4 ∨ n = 8)
theorem power_c (n : Int) (w : World) : Calls Tryz.prog 110 #[.int .i64 n] w fun e w' => e = .returned (.bool (powB n)) ∧ w' = w := by
  go_enter Tryz.func110, Tryz.ntmps110
  by_cases h : n = 1 ∨ n = 2 ∨ n = 4 ∨ n = 8
  · have HE := Lib.hid (show powB n = true from decide_eq_true h)
    rcases h with rfl | rfl | rfl | rfl
    all_goals
      go_wp2_with fail
      go_ret
      exact ⟨by rw [HE.out]; rfl, rfl⟩
  · have HE := Lib.hid (show powB n = false from decide_eq_false h)
    have g1 : (n == 1) = false := by simp; omega
    have g2 : (n == 2) = false := by simp; omega
    have g4 : (n == 4) = false := by simp; omega
    have g8 : (n == 8) = false := by simp; omega
    clear h
    go_wp2_with fail
    go_ret
    exact ⟨by rw [HE.out]; rfl, rfl⟩
/-- The one size that an ask may have, but loads and stores; 0: it may not be. -/
def szS (a : Ak) : Int := if a.kind = 1 then 4 else if a.kind = 7 ∨ a.kind = 8 then 8 else if (a.kind = 4 ∧ isB a.op = true) ∨ (a.kind = 5 ∧ linkB a.op = true) ∨ (a.kind = 6 ∧ condB a.op = true) then sizeS a.op else 0
theorem szS_1 {a : Ak} (h : a.kind = 1) : szS a = 4 := by unfold szS; rw [if_pos h]
theorem szS_78 {a : Ak} (h : a.kind = 7 ∨ a.kind = 8) : szS a = 8 := by unfold szS; rw [if_neg (by omega), if_pos h]
theorem szS_4 {a : Ak} (h : a.kind = 4) : szS a = if isB a.op = true then sizeS a.op else 0 := by
  unfold szS; rw [if_neg (by omega), if_neg (by omega)]
  congr 1
  refine propext ⟨fun hc => ?_, fun hc => .inl ⟨h, hc⟩⟩
  rcases hc with ⟨-, hc⟩ | ⟨hc, -⟩ | ⟨hc, -⟩
  · exact hc
  · omega
  · omega
theorem szS_5 {a : Ak} (h : a.kind = 5) : szS a = if linkB a.op = true then sizeS a.op else 0 := by
  unfold szS; rw [if_neg (by omega), if_neg (by omega)]
  congr 1
  refine propext ⟨fun hc => ?_, fun hc => .inr (.inl ⟨h, hc⟩)⟩
  rcases hc with ⟨hc, -⟩ | ⟨-, hc⟩ | ⟨hc, -⟩
  · omega
  · exact hc
  · omega
theorem szS_6 {a : Ak} (h : a.kind = 6) : szS a = if condB a.op = true then sizeS a.op else 0 := by
  unfold szS; rw [if_neg (by omega), if_neg (by omega)]
  congr 1
  refine propext ⟨fun hc => ?_, fun hc => .inr (.inr ⟨h, hc⟩)⟩
  rcases hc with ⟨hc, -⟩ | ⟨hc, -⟩ | ⟨-, hc⟩
  · omega
  · omega
  · exact hc
theorem szS_no {a : Ak} (h : a.kind ≠ 1 ∧ a.kind ≠ 7 ∧ a.kind ≠ 8 ∧ a.kind ≠ 4 ∧ a.kind ≠ 5 ∧ a.kind ≠ 6) : szS a = 0 := by
  unfold szS; rw [if_neg (by omega), if_neg (by omega), if_neg (by omega)]
set_option maxHeartbeats 4000000 in
theorem ssize_c (a : Ak) (w : World) : Calls Tryz.prog 111 #[.agg (akC a)] w fun e w' => e = .returned (.int .i64 (szS a)) ∧ Below w.heap.size w w' := by
  have HB := Lib.hid (box_below w (akC a) AKT)
  have HA := akAt_new w a
  have d0 := HA.kind
  have d5 := HA.op
  clear HA
  have H1 := Lib.hid (szS_1 (a := a))
  have H7 := Lib.hid (szS_78 (a := a))
  have H4 := Lib.hid (szS_4 (a := a))
  have H5 := Lib.hid (szS_5 (a := a))
  have H6 := Lib.hid (szS_6 (a := a))
  have H0 := Lib.hid (szS_no (a := a))
  generalize a.kind = kd at *
  generalize a.op = op at *
  go_enter Tryz.func111, Tryz.ntmps111
  go_upto_region 1 with fail
  generalize w.alloc (.cells (akC a) AKT) = w1 at *
  by_cases k1 : kd = 1
  · have HE := Lib.hid (H1.out k1)
    subst k1
    clear H1 H7 H4 H5 H6 H0
    go_wp2_with fail
    go_ret
    exact ⟨by rw [HE.out]; rfl, HB.out⟩
  · have g1 : (kd == 1) = false := by simpa using k1
    by_cases k7 : kd = 7
    · have HE := Lib.hid (H7.out (.inl k7))
      subst k7
      clear H1 H7 H4 H5 H6 H0
      go_wp2_with fail
      go_ret
      exact ⟨by rw [HE.out]; rfl, HB.out⟩
    · have g7 : (kd == 7) = false := by simpa using k7
      by_cases k8 : kd = 8
      · have HE := Lib.hid (H7.out (.inr k8))
        subst k8
        clear H1 H7 H4 H5 H6 H0
        go_wp2_with fail
        go_ret
        exact ⟨by rw [HE.out]; rfl, HB.out⟩
      · have g8 : (kd == 8) = false := by simpa using k8
        by_cases k4 : kd = 4
        · have HE := Lib.hid (H4.out k4)
          subst k4
          clear H1 H7 H4 H5 H6 H0 k1 k7 k8
          go_wp2_with fail
          refine (is_c op w1).mono ?_
          rintro e w' ⟨rfl, hw⟩
          subst hw
          cases hb : isB op
          · rw [hb] at HE
            go_wp2_with fail
            go_ret
            exact ⟨by rw [HE.out]; rfl, HB.out⟩
          · rw [hb] at HE
            go_wp2_with fail
            refine (size_c op w1).mono ?_
            rintro e w' ⟨rfl, hw⟩
            subst hw
            go_wp2_with fail
            go_ret
            exact ⟨by rw [HE.out]; rfl, HB.out⟩
        · have g4 : (kd == 4) = false := by simpa using k4
          by_cases k5 : kd = 5
          · have HE := Lib.hid (H5.out k5)
            subst k5
            clear H1 H7 H4 H5 H6 H0 k1 k7 k8
            go_wp2_with fail
            refine (link_c op w1).mono ?_
            rintro e w' ⟨rfl, hw⟩
            subst hw
            cases hb : linkB op
            · rw [hb] at HE
              go_wp2_with fail
              go_ret
              exact ⟨by rw [HE.out]; rfl, HB.out⟩
            · rw [hb] at HE
              go_wp2_with fail
              refine (size_c op w1).mono ?_
              rintro e w' ⟨rfl, hw⟩
              subst hw
              go_wp2_with fail
              go_ret
              exact ⟨by rw [HE.out]; rfl, HB.out⟩
          · have g5 : (kd == 5) = false := by simpa using k5
            by_cases k6 : kd = 6
            · have HE := Lib.hid (H6.out k6)
              subst k6
              clear H1 H7 H4 H5 H6 H0 k1 k7 k8
              go_wp2_with fail
              refine (cond_c op w1).mono ?_
              rintro e w' ⟨rfl, hw⟩
              subst hw
              cases hb : condB op
              · rw [hb] at HE
                go_wp2_with fail
                go_ret
                exact ⟨by rw [HE.out]; rfl, HB.out⟩
              · rw [hb] at HE
                go_wp2_with fail
                refine (size_c op w1).mono ?_
                rintro e w' ⟨rfl, hw⟩
                subst hw
                go_wp2_with fail
                go_ret
                exact ⟨by rw [HE.out]; rfl, HB.out⟩
            · have g6 : (kd == 6) = false := by simpa using k6
              have HE := Lib.hid (H0.out ⟨k1, k7, k8, k4, k5, k6⟩)
              clear H1 H7 H4 H5 H6 H0 k1 k7 k8 k4 k5 k6
              go_wp2_with fail
              go_ret
              exact ⟨by rw [HE.out]; rfl, HB.out⟩
/-- Has an ask the size, the cut and the address that its kind asks for? -/
def formB (a : Ak) : Bool := if a.kind = 2 ∨ a.kind = 3 then powB a.size && Sp.okA a.cut a.size else decide (0 < szS a) && (a.size == szS a) && (a.cut == 0) && (a.addr % szS a == 0)
theorem sizeS_small (op : Int) : 0 ≤ sizeS op ∧ sizeS op ≤ 8 := by
  unfold sizeS
  split
  · rename_i h
    have l : ∀ k : Fin 99, sizeL.getD k.val 0 ≤ 8 := by decide +kernel
    have := l ⟨op.toNat, by omega⟩
    simp only at this
    omega
  · omega
theorem szS_small (a : Ak) : 0 ≤ szS a ∧ szS a ≤ 8 := by
  have := sizeS_small a.op
  unfold szS
  repeat' split
  all_goals omega
theorem formB_ls {a : Ak} (h : a.kind = 2 ∨ a.kind = 3) : formB a = (powB a.size && Sp.okA a.cut a.size) := by unfold formB; rw [if_pos h]
theorem formB_el {a : Ak} (h : ¬ (a.kind = 2 ∨ a.kind = 3)) : formB a = (decide (0 < szS a) && (a.size == szS a) && (a.cut == 0) && (a.addr % szS a == 0)) := by unfold formB; rw [if_neg h]
set_option maxHeartbeats 4000000 in
theorem formed_c (a : Ak) (ha : a.In) (w : World) : Calls Tryz.prog 59 #[.agg (akC a)] w fun e w' => e = .returned (.bool (formB a)) ∧ Below w.heap.size w w' := by
  have HB := Lib.hid (box_below w (akC a) AKT)
  have HA0 := akAt_new w a
  have HA := Lib.hid HA0
  have d0 := HA0.kind
  have d1 := HA0.addr
  have d3 := HA0.cut
  have d4 := HA0.size
  clear HA0
  have HL := Lib.hid (formB_ls (a := a))
  have HE := Lib.hid (formB_el (a := a))
  have HAC := Lib.hid (fun W => saccess_c a W)
  have HSZ := Lib.hid (fun W => ssize_c a W)
  have hsm := szS_small a
  have had := ha.addr
  clear ha
  generalize szS a = z at *
  generalize formB a = fb at *
  generalize a.kind = kd at *
  generalize a.addr = ad at *
  generalize a.next = nx at *
  generalize a.cut = ct at *
  generalize a.size = sz at *
  go_enter Tryz.func59, Tryz.ntmps59
  go_upto_region 1 with fail
  generalize w.alloc (.cells (akC a) AKT) = w1 at *
  by_cases k2 : kd = 2 ∨ kd = 3
  · have HF := Lib.hid (HL.out k2)
    clear HL HE HSZ hsm had
    have hk : (kd == 2) = true ∨ ((kd == 2) = false ∧ (kd == 3) = true) := by
      rcases k2 with rfl | rfl
      · exact .inl rfl
      · exact .inr ⟨rfl, rfl⟩
    clear k2
    rcases hk with g2 | ⟨g2, g3⟩
    all_goals
      go_wp2_with fail
      refine (power_c sz w1).mono ?_
      rintro e w' ⟨rfl, rfl⟩
      cases hp : powB sz
      · go_wp2_with fail
        go_ret
        exact ⟨by rw [HF.out, hp]; rfl, HB.out⟩
      · go_wp2_with (refine wpList_load_rowW rfl AKT _ rfl w.heap.size rfl AKT (akC a) (0, 0) _ HA.out.cs Tryz.underlying58 rfl info_ak ?_)
        refine (HAC.out w').mono ?_
        rintro e w2 ⟨rfl, hb2⟩
        have HB2 := Lib.hid (HB.out.trans (hb2.mono HB.out.size))
        clear hb2
        go_wp2_with fail
        refine (may_c ad nx ct sz w2).mono ?_
        rintro e w3 ⟨rfl, hb3⟩
        have HB3 := Lib.hid (HB2.out.trans (hb3.mono HB2.out.size))
        clear hb3
        go_wp2_with fail
        go_ret
        exact ⟨by rw [HF.out, hp]; rfl, HB3.out⟩
  · have HF := Lib.hid (HE.out k2)
    have g2 : (kd == 2) = false := by simp; omega
    have g3 : (kd == 3) = false := by simp; omega
    clear HL HE HAC k2
    go_wp2_with (refine wpList_load_row rfl AKT _ rfl w.heap.size rfl AKT (akC a) (0, 0) _ HA.out.cs Tryz.underlying58 rfl info_ak ?_)
    refine (HSZ.out w1).mono ?_
    rintro e w2 ⟨rfl, hb2⟩
    have HB2 := Lib.hid (HB.out.trans (hb2.mono HB.out.size))
    have e1 := (hb2.cell (p := ⟨w.heap.size, 1, none⟩) (World.block_lt_of_cell? _ _ d1)).trans d1
    have e3 := (hb2.cell (p := ⟨w.heap.size, 3, none⟩) (World.block_lt_of_cell? _ _ d3)).trans d3
    have e4 := (hb2.cell (p := ⟨w.heap.size, 4, none⟩) (World.block_lt_of_cell? _ _ d4)).trans d4
    clear hb2 d0 d1 d3 d4 HSZ
    by_cases z0 : 0 < z
    · have gz : decide (z > 0) = true := by simpa using z0
      have gw : IntKind.u64.wrap z = z := by rw [IntKind.wrap_u64]; omega
      have gn : (z == 0) = false := by simp; omega
      cases h4 : (sz == z)
      · go_wp2_with fail
        go_ret
        exact ⟨by rw [HF.out, h4]; simp, HB2.out⟩
      · cases h3 : (ct == 0)
        · go_wp2_with fail
          go_ret
          exact ⟨by rw [HF.out, h3]; simp, HB2.out⟩
        · have HT := Lib.hid (show IntKind.u64.wrap (ad.tmod z) = ad % z by
            rw [Int.tmod_eq_emod_of_nonneg had.1, IntKind.wrap_u64]
            have h1 := Int.emod_nonneg ad (show z ≠ 0 by omega)
            have h2 := Int.emod_lt_of_pos ad z0
            omega)
          have HZ := Lib.hid (decide_eq_true z0)
          go_wp2_with fail
          go_ret
          exact ⟨by rw [HF.out, HZ.out, h4, h3]; simp, HB2.out⟩
    · have gz : decide (z > 0) = false := by simpa using z0
      have hz0 : decide (0 < z) = false := gz
      rw [hz0] at HF
      clear hz0
      go_wp2_with fail
      go_ret
      exact ⟨by rw [HF.out]; rfl, HB2.out⟩
end Go.Proofs.YtjeolfcefeglpabGreat
set_option maxRecDepth 20000
namespace Go.Proofs.YtjeolfcefeglpabGreat
open Go.ChangeShapes Go.WideShapes Go.ChangeAt Go.RowKit Wd

theorem bit63 {a : Int} (h0 : 0 ≤ a) (h : a < 18446744073709551616) : bi (tbI a 63) = if 9223372036854775808 ≤ a then 1 else 0 := by
  have e : tbI a 63 = tb a 63 := tbI_nat a 63 (by omega)
  rw [e, tb_63 h0 h]
  unfold bi
  by_cases c : 9223372036854775808 ≤ a
  · simp [c]
  · simp [c]

set_option maxHeartbeats 400000 in
theorem refLess_c (a b : Int) (w : World) (ha0 : 0 ≤ a) (ha : a < 18446744073709551616) (hb0 : 0 ≤ b) (hb : b < 18446744073709551616) :
    Calls Tryz.prog 89 #[.int .u64 a, .int .u64 b] w fun e w' => e = .returned (.bool (lessS a b)) ∧ w = w' := by
  have ea := bit63 ha0 ha
  have eb := bit63 hb0 hb
  by_cases c1 : 9223372036854775808 ≤ a
  · rw [if_pos c1] at ea
    by_cases c2 : 9223372036854775808 ≤ b
    · rw [if_pos c2] at eb
      have H := Lib.hid (show decide (a < b) = lessS a b from by unfold lessS; apply decide_eq_decide.2; unfold wrap64; omega)
      go_enter Tryz.func89, Tryz.ntmps89
      go_wp2_with (go_at_call 135; refine (bit_c _ _ _ (by assumption) (by assumption)).mono ?_; rintro e w' ⟨rfl, rfl⟩)
      go_ret
      exact ⟨ret_b H.out, rfl⟩
    · rw [if_neg c2] at eb
      have H := Lib.hid (show true = lessS a b from by unfold lessS; symm; apply decide_eq_true; unfold wrap64; omega)
      go_enter Tryz.func89, Tryz.ntmps89
      go_wp2_with (go_at_call 135; refine (bit_c _ _ _ (by assumption) (by assumption)).mono ?_; rintro e w' ⟨rfl, rfl⟩)
      go_ret
      exact ⟨ret_b H.out, rfl⟩
  · rw [if_neg c1] at ea
    by_cases c2 : 9223372036854775808 ≤ b
    · rw [if_pos c2] at eb
      have H := Lib.hid (show false = lessS a b from by unfold lessS; symm; apply decide_eq_false; unfold wrap64; omega)
      go_enter Tryz.func89, Tryz.ntmps89
      go_wp2_with (go_at_call 135; refine (bit_c _ _ _ (by assumption) (by assumption)).mono ?_; rintro e w' ⟨rfl, rfl⟩)
      go_ret
      exact ⟨ret_b H.out, rfl⟩
    · rw [if_neg c2] at eb
      have H := Lib.hid (show decide (a < b) = lessS a b from by unfold lessS; apply decide_eq_decide.2; unfold wrap64; omega)
      go_enter Tryz.func89, Tryz.ntmps89
      go_wp2_with (go_at_call 135; refine (bit_c _ _ _ (by assumption) (by assumption)).mono ?_; rintro e w' ⟨rfl, rfl⟩)
      go_ret
      exact ⟨ret_b H.out, rfl⟩

end Go.Proofs.YtjeolfcefeglpabGreat
set_option maxRecDepth 20000
namespace Go.Proofs.YtjeolfcefeglpabGreat
open Go.ChangeShapes Go.WideShapes Go.ChangeAt Go.RowKit Wd

def val : List Nat → Nat
  | [] => 0
  | d :: ds => d + 65536 * val ds
theorem val_set (L : List Nat) (A d : Nat) (h : A < L.length) : val (L.set A d) + L[A] * 65536 ^ A = val L + d * 65536 ^ A := by
  induction L generalizing A with
  | nil => simp at h
  | cons x xs ih =>
    cases A with
    | zero => simp [val]; omega
    | succ A =>
      have hA : A < xs.length := by simpa using h
      have := ih A hA
      simp only [List.set_cons_succ, val, List.getElem_cons_succ, Nat.pow_succ]
      have e1 : xs[A] * (65536 ^ A * 65536) = 65536 * (xs[A] * 65536 ^ A) := by rw [← Nat.mul_assoc, Nat.mul_comm]
      have e2 : d * (65536 ^ A * 65536) = 65536 * (d * 65536 ^ A) := by rw [← Nat.mul_assoc, Nat.mul_comm]
      rw [e1, e2]
      omega
def dg (a i : Nat) : Nat := a / 65536 ^ i % 65536
theorem dg_lt (a i : Nat) : dg a i < 65536 := Nat.mod_lt _ (by decide)
theorem mod_succ (a i : Nat) : a % 65536 ^ (i + 1) = a % 65536 ^ i + 65536 ^ i * dg a i := Nat.mod_pow_succ
def prodPart (a b i k : Nat) : Nat := (a % 65536 ^ i) * b + dg a i * 65536 ^ i * (b % 65536 ^ k)
theorem part_step (a b i k : Nat) : prodPart a b i k + dg a i * dg b k * 65536 ^ (i + k) = prodPart a b i (k + 1) := by
  unfold prodPart
  rw [mod_succ b k, Nat.mul_add, Nat.pow_add]
  have : dg a i * dg b k * (65536 ^ i * 65536 ^ k) = dg a i * 65536 ^ i * (65536 ^ k * dg b k) := by
    rw [Nat.mul_mul_mul_comm, Nat.mul_comm (dg b k)]
  omega
theorem part_row {a b : Nat} (hb : b < 65536 ^ 4) (i : Nat) : prodPart a b i 4 = prodPart a b (i + 1) 0 := by
  unfold prodPart
  rw [Nat.mod_eq_of_lt hb, Nat.pow_zero, Nat.mod_one, Nat.mul_zero, Nat.add_zero, mod_succ, Nat.add_mul, Nat.mul_comm (65536 ^ i)]
theorem part_le (a b i k : Nat) : prodPart a b i k ≤ a * b := by
  unfold prodPart
  have h1 : b % 65536 ^ k ≤ b := Nat.mod_le _ _
  have h2 : dg a i * 65536 ^ i * (b % 65536 ^ k) ≤ dg a i * 65536 ^ i * b := Nat.mul_le_mul_left _ h1
  have h3 : (a % 65536 ^ i) * b + dg a i * 65536 ^ i * b = (a % 65536 ^ (i + 1)) * b := by rw [mod_succ, Nat.add_mul, Nat.mul_comm (65536 ^ i)]
  have h4 : (a % 65536 ^ (i + 1)) * b ≤ a * b := Nat.mul_le_mul_right _ (Nat.mod_le _ _)
  omega
theorem part_zero (a b : Nat) : prodPart a b 0 0 = 0 := by
  unfold prodPart
  simp [Nat.mod_one]
theorem part_all {a b : Nat} (ha : a < 65536 ^ 4) : prodPart a b 4 0 = a * b := by
  unfold prodPart
  rw [Nat.mod_eq_of_lt ha, Nat.pow_zero, Nat.mod_one, Nat.mul_zero, Nat.add_zero]
theorem prod_lt {a b : Nat} (ha : a < 65536 ^ 4) (hb : b < 65536 ^ 4) : a * b < 65536 ^ 8 := by
  have : a * b < 65536 ^ 4 * 65536 ^ 4 := Nat.mul_lt_mul'' ha hb
  rwa [← Nat.pow_add] at this
/-- One round of the carry. -/
theorem carry_step {L : List Nat} {A n : Nat} (h : A < L.length) : val (L.set A ((n + L[A]) % 65536)) + (n + L[A]) / 65536 * 65536 ^ (A + 1) = val L + n * 65536 ^ A := by
  have e := val_set L A ((n + L[A]) % 65536) h
  have h1 := Nat.mod_add_div (n + L[A]) 65536
  have e2 : (n + L[A]) / 65536 * 65536 ^ (A + 1) = 65536 * ((n + L[A]) / 65536) * 65536 ^ A := by
    rw [Nat.pow_succ, Nat.mul_comm 65536, Nat.mul_assoc, Nat.mul_comm 65536]
  rw [e2]
  generalize (n + L[A]) % 65536 = r at *
  generalize 65536 * ((n + L[A]) / 65536) = q at *
  have e3 : r * 65536 ^ A + q * 65536 ^ A = n * 65536 ^ A + L[A] * 65536 ^ A := by rw [← Nat.add_mul, h1, Nat.add_mul]
  omega

set_option maxHeartbeats 400000 in
theorem digits_c (a : Nat) (w : World) (h : a < 18446744073709551616) :
    Calls Tryz.prog 160 #[.int .u64 a] w fun e w' => e = .returned (.slice (some ⟨w.heap.size, 0, none⟩) 4 4) ∧ w.alloc (.cells #[.int .u64 (dg a 0), .int .u64 (dg a 1), .int .u64 (dg a 2), .int .u64 (dg a 3)] 38) = w' := by
  have e0 : ((dg a 0 : Nat) : Int) = (a : Int) % 65536 := by unfold dg; omega
  have e1 : ((dg a 1 : Nat) : Int) = (a : Int) / 65536 % 65536 := by unfold dg; omega
  have e2 : ((dg a 2 : Nat) : Int) = (a : Int) / 4294967296 % 65536 := by unfold dg; omega
  have e3 : ((dg a 3 : Nat) : Int) = (a : Int) / 281474976710656 := by unfold dg; omega
  rw [e0, e1, e2, e3]
  clear e0 e1 e2 e3
  go_enter Tryz.func160, Tryz.ntmps160
  go_wp2
  go_ret
  exact ⟨rfl, rfl⟩

def wordOf4 (d0 d1 d2 d3 : Int) : Int := ((d3 * 65536 + d2) * 65536 + d1) * 65536 + d0
set_option maxHeartbeats 1000000 in
theorem wordAt_c (d0 d1 d2 d3 : Int) (g A n cap : Nat) (w : World) (a0 : 0 ≤ d0) (b0 : d0 < 65536) (a1 : 0 ≤ d1) (b1 : d1 < 65536) (a2 : 0 ≤ d2) (b2 : d2 < 65536) (a3 : 0 ≤ d3) (b3 : d3 < 65536) (hA : A + 4 ≤ n) (hn : n ≤ 8)
    (c0 : w.cell? ⟨g, A, none⟩ = some (.int .u64 d0)) (c1 : w.cell? ⟨g, A + 1, none⟩ = some (.int .u64 d1)) (c2 : w.cell? ⟨g, A + 2, none⟩ = some (.int .u64 d2)) (c3 : w.cell? ⟨g, A + 3, none⟩ = some (.int .u64 d3)) :
    Calls Tryz.prog 161 #[.slice (some ⟨g, 0, none⟩) n cap, .int .i64 A] w fun e w' => e = .returned (.int .u64 (wordOf4 d0 d1 d2 d3)) ∧ w = w' := by
  unfold wordOf4
  obtain ⟨y2, h2⟩ : ∃ y : Int, y = d3 * 65536 + d2 := ⟨_, rfl⟩
  have y20 : 0 ≤ y2 := by omega
  have y21 : y2 < 4294967296 := by omega
  obtain ⟨y1, h1⟩ : ∃ y : Int, y = y2 * 65536 + d1 := ⟨_, rfl⟩
  have y10 : 0 ≤ y1 := by omega
  have y11 : y1 < 281474976710656 := by omega
  rw [← h2, ← h1]
  have H2 := Lib.hid h2
  have H1 := Lib.hid h1
  clear h1 h2
  go_enter Tryz.func161, Tryz.ntmps161
  go_wp2
  go_loop [5, 6] (fun t i => (i = .int .i64 (-1) ∧ t = .int .u64 (y1 * 65536 + d0)) ∨ (i = .int .i64 0 ∧ t = .int .u64 y1) ∨ (i = .int .i64 1 ∧ t = .int .u64 y2) ∨ (i = .int .i64 2 ∧ t = .int .u64 d3) ∨ (i = .int .i64 3 ∧ t = .int .u64 0)) (fun _ i => (intOf i + 1).toNat)
  case atStart => exact .inr (.inr (.inr (.inr ⟨rfl, rfl⟩)))
  case round =>
    rcases hrel with ⟨rfl, rfl⟩ | ⟨rfl, rfl⟩ | ⟨rfl, rfl⟩ | ⟨rfl, rfl⟩ | ⟨rfl, rfl⟩
    · go_wp2
      go_ret
      exact ⟨rfl, rfl⟩
    · go_wp2
      go_round
      case rel => exact .inl ⟨rfl, rfl⟩
      case measure => simp [intOf]
    · go_wp2
      go_round
      case rel => exact .inr (.inl ⟨rfl, by rw [H1.out]⟩)
      case measure => simp [intOf]
    · go_wp2
      go_round
      case rel => exact .inr (.inr (.inl ⟨rfl, by rw [H2.out]⟩))
      case measure => simp [intOf]
    · go_wp2
      go_round
      case rel => exact .inr (.inr (.inr (.inl ⟨rfl, rfl⟩)))
      case measure => simp [intOf]
end Go.Proofs.YtjeolfcefeglpabGreat
