/-
  Contract of split.Join (layer 11).
-/
import Derived.Test.YtldpignnahokdaaSpH
import Derived.Deep.RegionHeld3
namespace Go.Proofs.Ytldpignnahokdaa
open Go.ChangeShapes Go.WideShapes Go.ChangeAt Go.RowKit Wd

abbrev uV (xs : List Int) : List Value := xs.map (Value.int .u64)
theorem uV_at (xs : List Int) (j : Nat) (hj : j < xs.length) : (uV xs)[j]? = some (.int .u64 (xs.getD j 0)) := by
  rw [List.getElem?_map, List.getD, List.getElem?_eq_getElem hj]
  rfl
def joinS (l : List Sp.P) (us : List Int) : Nat → Int
  | 0 => 0
  | k + 1 => if rightB (l.getD k Sp.p0).n (l.getD k Sp.p0).s then putS (joinS l us k) (l.getD k Sp.p0).s (8 * (l.getD k Sp.p0).n) (us.getD k 0) else joinS l us k
theorem joinS_range (l : List Sp.P) (us : List Int) : ∀ k, 0 ≤ joinS l us k ∧ joinS l us k < 18446744073709551616
  | 0 => ⟨Int.le_refl 0, (by decide : (0 : Int) < 18446744073709551616)⟩
  | k + 1 => by
    unfold joinS
    split
    · exact putS_range _ _ _ _
    · exact joinS_range l us k
theorem raise_and {x m s : Int} (hx : 0 ≤ x ∧ x < 18446744073709551616) (hm : 0 ≤ m ∧ m < 18446744073709551616) : raiseS (bits .and .u64 x m) s = bits .and .u64 (raiseS x s) (raiseS m s) := by
  have r1 := raiseS_range x s
  have r2 := raiseS_range m s
  have r3 := and_range r1.1 r1.2 r2.1 r2.2
  refine Wd.ext (raiseS_range _ _).1 (raiseS_range _ _).2 r3.1 r3.2 fun i hi => ?_
  rw [tb_and r1.1 r1.2 r2.1 r2.2]
  unfold raiseS
  rw [tb_word, tb_word, tb_word, tb_and hx.1 hx.2 hm.1 hm.2]
  cases decide (0 ≤ (i : Int) - s) <;> cases decide (i < 64) <;> simp
theorem join_or {v x n s : Int} (hv : 0 ≤ v ∧ v < 18446744073709551616) (hx : 0 ≤ x ∧ x < 18446744073709551616) (h : 1 ≤ n ∧ n ≤ 8 ∧ 0 ≤ s ∧ s ≤ 63) :
    IntKind.u64.wrap (maskS (8 * n) * 2 ^ s.toNat) = onesS s (8 * n) ∧ IntKind.u64.wrap (bits .and .u64 x (maskS (8 * n)) * 2 ^ s.toNat) = bits .and .u64 (raiseS x s) (onesS s (8 * n)) ∧
    bits .or .u64 (bits .andNot .u64 v (onesS s (8 * n))) (bits .and .u64 (raiseS x s) (onesS s (8 * n))) = putS v s (8 * n) x := by
  have hm := maskS_range (8 * n)
  have ha := and_range hx.1 hx.2 hm.1 hm.2
  have e0 : (IntKind.u64.wrap s).toNat = s.toNat := by rw [IntKind.wrap_u64]; omega
  have e1 : min s.toNat 64 = s.toNat := by omega
  have o : raiseS (maskS (8 * n)) s = onesS s (8 * n) := ones_pos (by omega) h.2.2.1
  have p1 := raise_pos (x := maskS (8 * n)) (p := s) hm.1 h.2.2.1 (by omega)
  have p2 := raise_pos (x := bits .and .u64 x (maskS (8 * n))) (p := s) ha.1 h.2.2.1 (by omega)
  rw [e0, e1] at p1 p2
  exact ⟨p1.trans o, by rw [p2, raise_and hx hm, o], put_or hv.1 hv.2⟩
/-- A piece, in its cells. -/
theorem vw_range {w : World} {b off : Nat} {l : List Sp.P} (h : ∀ j u, (Sp.cellsOf l)[j]? = some u → w.cell? ⟨b, off + j, none⟩ = some u) (i : Nat) (hi : i < l.length) : w.rangeAt b (off + i * 3) (l.getD i Sp.p0).cells := by
  intro j v hj
  have hj3 : j < 3 := (List.getElem?_eq_some_iff.1 hj).1
  rw [Nat.add_assoc]
  exact h _ _ (by rw [Sp.cellsOf_at l i j hi hj3, hj])
theorem below_dnS {B : Nat} {a w : World} (h : Below B a w) (n : Nat) : Below B a (w.drewN n) := h.trans ⟨rfl, rfl, rfl, Nat.le_refl _, fun _ _ => rfl⟩
theorem rangeB {B b o : Nat} {w w' : World} {cs : List Value} (hb : Below B w w') (hlt : b < B) (h : w.rangeAt b o cs) : w'.rangeAt b o cs := fun j v hj => (hb.cell (p := ⟨b, o + j, none⟩) hlt).trans (h j v hj)
theorem rangeR {b c o : Nat} {w : World} {xs : List Value} {cs : Array Value} (hne : b ≠ c) (h : w.rangeAt b o xs) : (w.setRow c cs).rangeAt b o xs := fun j v hj => (cell_setRow_other w c cs ⟨b, o + j, none⟩ hne).trans (h j v hj)
theorem exec_load_mid {P : Program} {o : Oper} {a : Act} {w : World} {cs : List Value} (ty : TypeId) (x : Operand) (ho : o.op = .load ty x) (b off : Nat) (hx : a.eval x = .pointer (some ⟨b, off, none⟩)) (d : TypeDesc) (hc : w.rangeAt b off cs)
    (hu : P.underlying ty = some d) (hd : d.isRow = true) (hi : (P.info? ty).map (·.size) = some cs.length) : (execOp a.eval o).run P w = .ok (.value (.agg cs.toArray)) w := by
  unfold execOp
  simp only [ho, hx, Instr.loadAt, Instr.sureAddr, Sem.run_bind, Sem.run_pure, Result.andThen_ok, run_loadVar_mid w b off ty cs d hc hu hd hi]
theorem zv_pc (w : World) : (zeroValue 39).run Try.prog w = .ok (.agg #[.int .u64 0, .int .i64 0, .int .i64 0]) w := by
  have h : (Try.prog.info? 39).map (·.zero) = some (some (.agg #[.int .u64 0, .int .i64 0, .int .i64 0])) := by kernel_rfl
  obtain ⟨i, hi, hz⟩ := Option.map_eq_some_iff.1 h
  simp [zeroValue, typeInfo, hi, hz]
set_option maxRecDepth 4000 in
set_option maxHeartbeats 4000000 in
theorem join_c (l : List Sp.P) (us : List Int) (po pu : Option Addr) (cap capu : Nat) (w : World) (hl : Vw w po (Sp.cellsOf l)) (hu : Vw w pu (uV us)) (hr : ∀ u ∈ us, 0 ≤ u ∧ u < 18446744073709551616) (hll : l.length ≤ 1000000) (hul : us.length ≤ 1000000) :
    Calls Try.prog 21 #[.slice po l.length cap, .slice pu us.length capu] w fun e w' => e = .returned (.int .u64 (joinS l us (min l.length us.length))) ∧ Below w.heap.size w w' := by
  have HL := Lib.hid hl
  have HU := Lib.hid hu
  have HR := Lib.hid hr
  have HLL := Lib.hid (And.intro hll hul)
  clear hl hu hr
  obtain ⟨t, ht⟩ : ∃ t, t = min l.length us.length := ⟨_, rfl⟩
  have ht1 : t ≤ l.length := by omega
  have ht2 : t ≤ us.length := by omega
  have hmin : min ((l.length : Nat) : Int) ((us.length : Nat) : Int) = (t : Int) := by omega
  have HT := Lib.hid ht
  clear ht
  go_enter Try.func21, Try.ntmps21
  go_upto_region 2 with fail
  go_cut [13, 14] (fun s13 s14 wx => s13 = .int .i64 t ∧ s14 = .int .i64 0 ∧ wx = w)
  case first =>
    go_wp2_with fail
    all_goals go_meet
    all_goals exact ⟨by congr 1; omega, rfl, rfl⟩
  case rest =>
    obtain ⟨rfl, rfl, rfl⟩ := hcut
    go_wp2_with fail
    go_loopw [5, 14] (fun v iv wr => ∃ k : Nat, k ≤ t ∧ iv = .int .i64 k ∧ v = .int .u64 (joinS l us k) ∧ Below wc.heap.size wc wr) (fun _ iv _ => t - (intOf iv).toNat)
    case atStart => exact ⟨0, Nat.zero_le _, rfl, rfl, Below.refl _ _⟩
    case round =>
      obtain ⟨k, hk, rfl, rfl, hbr⟩ := hrel
      have HBR := Lib.hid hbr
      clear hbr
      have hk6 : k ≤ 1000000 := by have := HLL.out.1; omega
      by_cases hlt0 : k < t
      · have hkl : k < l.length := by omega
        have hku : k < us.length := by omega
        obtain ⟨b, off, rfl, hlt, hc⟩ := HL.out.resolve_left (fun h => by
          have := congrArg List.length h
          rw [Sp.cellsOf_len, List.length_nil] at this
          omega)
        obtain ⟨bu, offu, rfl, hltu, hcu⟩ := HU.out.resolve_left (fun h => by
          have := congrArg List.length h
          rw [List.length_map, List.length_nil] at this
          omega)
        have hq0 := vw_range hc k hkl
        have hu0 := hcu k _ (uV_at us k hku)
        have HJ := Lib.hid (show joinS l us (k + 1) = if rightB (l.getD k Sp.p0).n (l.getD k Sp.p0).s then putS (joinS l us k) (l.getD k Sp.p0).s (8 * (l.getD k Sp.p0).n) (us.getD k 0) else joinS l us k from rfl)
        have hur := HR.out (us.getD k 0) (by rw [List.getD, List.getElem?_eq_getElem hku]; exact List.getElem_mem _)
        have hjr := joinS_range l us k
        generalize us.getD k 0 = x at *
        generalize l.getD k Sp.p0 = q at *
        obtain ⟨qa, qn, qs⟩ := q
        have HX := Lib.hid hur
        have HJR := Lib.hid hjr
        have HQ0 := Lib.hid (show wc.rangeAt b (off + k * 3) [.int .u64 qa, .int .i64 qn, .int .i64 qs] from hq0)
        have HU0 := Lib.hid hu0
        have HHL := Lib.hid hlt
        have HHU := Lib.hid hltu
        have HKU := Lib.hid hku
        clear hc hcu hq0 hu0 hur hjr
        generalize joinS l us k = jv at *
        have hli : (k : Int) < l.length := by omega
        go_upto_region 5 with fail
        go_cut [7, 8] (fun s7 s8 wy => ∃ c : Nat, s7 = .pointer (some ⟨c, 0, none⟩) ∧ s8 = .int .u64 (maskV qn qs) ∧ CsAt wy c 39 (pcV qa qn qs) ∧ wc.heap.size ≤ c ∧ Below wc.heap.size wc wy)
        case first =>
          refine wp_region_noPanic ?_
          refine wp_region_held (S := fun W => Below wc.heap.size wc W ∧ W.rangeAt b (off + k * 3) [.int .u64 qa, .int .i64 qn, .int .i64 qs]) (by kernel_rfl) ?_
          have hS0 : Below wc.heap.size wc wr.drew ∧ wr.drew.rangeAt b (off + k * 3) [.int .u64 qa, .int .i64 qn, .int .i64 qs] := ⟨HBR.out.drew, rangeB HBR.out.drew hlt HQ0.out⟩
          have hxs : wc.heap.size ≤ wr.drew.heap.size := HBR.out.size
          refine takeH (fuel := 11) (i := 0) (.slice (some ⟨b, off, none⟩) l.length cap) ?_ rfl (by kernel_rfl) (by kernel_rfl) (by kernel_rfl) (fun _ _ _ h => h) (by kernel_rfl) (fun W hS => by go_simp) hS0 ?_ ?_
          rotate_left 1
          · go_simp
            exact rfl
          refine takeH (fuel := 10) (i := 1) (.int .i64 (k : Int)) ?_ rfl (by kernel_rfl) (by kernel_rfl) (by kernel_rfl) (fun _ _ _ h => h) (by kernel_rfl) (fun W hS => by go_simp) hS0 ?_ ?_
          rotate_left 1
          · go_simp
            exact rfl
          refine takeH (fuel := 9) (i := 2) (.pointer (some ⟨b, off + k * 3, none⟩)) ?_ rfl (by kernel_rfl) (by kernel_rfl) (by kernel_rfl) (fun _ _ _ h => h) (by kernel_rfl) (fun W hS => by go_simp) hS0 ?_ ?_
          rotate_left 1
          · go_simp
            exact rfl
          refine takeH (fuel := 8) (i := 3) (.agg (pcV qa qn qs)) ?_ rfl (by kernel_rfl) (by kernel_rfl) (by kernel_rfl) (fun _ _ _ h => h) (by kernel_rfl) (fun W hS => exec_load_mid (cs := [.int .u64 qa, .int .i64 qn, .int .i64 qs]) _ _ rfl b (off + k * 3) rfl _ hS.2 Try.underlying39 rfl (by kernel_rfl)) hS0 ?_ ?_
          rotate_left 1
          · go_simp
            exact rfl
          refine takeH (fuel := 7) (i := 4) (.slice (some ⟨b, off, none⟩) l.length cap) ?_ rfl (by kernel_rfl) (by kernel_rfl) (by kernel_rfl) (fun _ _ _ h => h) (by kernel_rfl) (fun W hS => by go_simp) hS0 ?_ ?_
          rotate_left 1
          · go_simp
            exact rfl
          refine takeH (fuel := 6) (i := 5) (.int .i64 (k : Int)) ?_ rfl (by kernel_rfl) (by kernel_rfl) (by kernel_rfl) (fun _ _ _ h => h) (by kernel_rfl) (fun W hS => by go_simp) hS0 ?_ ?_
          rotate_left 1
          · go_simp
            exact rfl
          refine takeH (fuel := 5) (i := 6) (.pointer (some ⟨b, off + k * 3, none⟩)) ?_ rfl (by kernel_rfl) (by kernel_rfl) (by kernel_rfl) (fun _ _ _ h => h) (by kernel_rfl) (fun W hS => by go_simp) hS0 ?_ ?_
          rotate_left 1
          · go_simp
            exact rfl
          refine takeH (fuel := 4) (i := 7) (.agg (pcV qa qn qs)) ?_ rfl (by kernel_rfl) (by kernel_rfl) (by kernel_rfl) (fun _ _ _ h => h) (by kernel_rfl) (fun W hS => exec_load_mid (cs := [.int .u64 qa, .int .i64 qn, .int .i64 qs]) _ _ rfl b (off + k * 3) rfl _ hS.2 Try.underlying39 rfl (by kernel_rfl)) hS0 ?_ ?_
          rotate_left 1
          · go_simp
            exact rfl
          refine wpAnyH_all (fuel := 3) (rs := [8, 9]) (by kernel_rfl) (by decide) ?_
          intro i hi
          simp only [List.mem_cons, List.not_mem_nil, or_false] at hi
          change Go.wpOp _ _ _ _ _ _ wr.drew
          generalize wr.drew = W0 at *
          rcases hi with rfl | rfl
          ·
            refine wpOp_callB 29 #[.agg (pcV qa qn qs)] (.int .u64 (maskV qn qs)) ?_ rfl (by kernel_rfl) ?_ ?_ ?_
            rotate_left 1
            · go_simp
            · go_simp
              exact rfl
            refine (mask_c _ _ _ _).mono ?_
            rintro e W1 ⟨rfl, hb1⟩
            have hS1 : Below wc.heap.size wc W1 ∧ W1.rangeAt b (off + k * 3) [.int .u64 qa, .int .i64 qn, .int .i64 qs] := ⟨hS0.1.trans (hb1.mono hxs), rangeB hb1 (by omega) hS0.2⟩
            have hs1 := hb1.size
            refine ⟨rfl, hS1, ?_⟩
            refine wpAnyH_all (fuel := 2) (rs := [9]) (by kernel_rfl) (by decide) ?_
            intro i hi
            obtain rfl : i = 9 := by simpa using hi
            refine wpOp_valB _ _ ?_ rfl (by kernel_rfl) (exec_alloc _ rfl _ (zv_pc _)) ?_ ?_
            rotate_left 1
            · go_simp
              exact rfl
            have hS2 : Below wc.heap.size wc (W1.alloc (.cells #[.int .u64 0, .int .i64 0, .int .i64 0] 39)) ∧ (W1.alloc (.cells #[.int .u64 0, .int .i64 0, .int .i64 0] 39)).rangeAt b (off + k * 3) [.int .u64 qa, .int .i64 qn, .int .i64 qs] := ⟨hS1.1.alloc hS1.1.size _, rangeB ((Below.refl W1.heap.size W1).alloc (Nat.le_refl _) _) (by omega) hS1.2⟩
            have tN : CsAt (W1.alloc (.cells #[.int .u64 0, .int .i64 0, .int .i64 0] 39)) W1.heap.size 39 #[.int .u64 0, .int .i64 0, .int .i64 0] := CsAt.new _ _ _
            refine ⟨hS2, ?_⟩
            refine wpAnyH_all (fuel := 1) (rs := [10]) (by kernel_rfl) (by decide) ?_
            intro i hi
            obtain rfl : i = 10 := by simpa using hi
            refine wpOp_unitB _ ?_ rfl (by kernel_rfl) (exec_store_row 39 (.tmp 7) (.tmp 20) rfl W1.heap.size (pcV qa qn qs) (by kernel_rfl) (by kernel_rfl) 39 #[.int .u64 0, .int .i64 0, .int .i64 0] tN (by kernel_rfl) rfl (pc_one _ _ _)) ?_ ?_
            rotate_left 1
            · go_simp
              exact rfl
            have tb := below_setRow hS2.1 (show wc.heap.size ≤ W1.heap.size by omega) (pcV qa qn qs)
            have tr := rangeR (cs := pcV qa qn qs) (show b ≠ W1.heap.size by omega) hS2.2
            refine ⟨⟨tb, tr⟩, ?_⟩
            refine wpAnyH_all (fuel := 0) (rs := [11]) (by kernel_rfl) (by decide) ?_
            intro i hi
            obtain rfl : i = 11 := by simpa using hi
            refine wpOp_valB (.int .u64 (maskV qn qs)) _ ?_ rfl (by kernel_rfl) (by go_simp; exact rfl) ?_ ?_
            rotate_left 1
            · go_simp
              exact rfl
            refine ⟨⟨tb, tr⟩, ?_⟩
            refine wpAnyH_done (by kernel_rfl) ?_ _
            refine NoPanic.normal ?_
            go_wp2_with fail
            go_meet
            exact ⟨W1.heap.size, by kernel_rfl, by kernel_rfl, tN.row _, by omega, tb⟩
          ·
            refine wpOp_valB _ _ ?_ rfl (by kernel_rfl) (exec_alloc _ rfl _ (zv_pc _)) ?_ ?_
            rotate_left 1
            · go_simp
              exact rfl
            have hS1 : Below wc.heap.size wc (W0.alloc (.cells #[.int .u64 0, .int .i64 0, .int .i64 0] 39)) ∧ (W0.alloc (.cells #[.int .u64 0, .int .i64 0, .int .i64 0] 39)).rangeAt b (off + k * 3) [.int .u64 qa, .int .i64 qn, .int .i64 qs] := ⟨hS0.1.alloc hS0.1.size _, rangeB ((Below.refl W0.heap.size W0).alloc (Nat.le_refl _) _) (by omega) hS0.2⟩
            have tN0 : CsAt (W0.alloc (.cells #[.int .u64 0, .int .i64 0, .int .i64 0] 39)) W0.heap.size 39 #[.int .u64 0, .int .i64 0, .int .i64 0] := CsAt.new _ _ _
            have hs0 : W0.heap.size ≤ (W0.alloc (.cells #[.int .u64 0, .int .i64 0, .int .i64 0] 39)).heap.size := by simp
            refine ⟨hS1, ?_⟩
            refine wpAnyH_all (fuel := 2) (rs := [8]) (by kernel_rfl) (by decide) ?_
            intro i hi
            obtain rfl : i = 8 := by simpa using hi
            refine wpOp_callB 29 #[.agg (pcV qa qn qs)] (.int .u64 (maskV qn qs)) ?_ rfl (by kernel_rfl) ?_ ?_ ?_
            rotate_left 1
            · go_simp
            · go_simp
              exact rfl
            refine (mask_c _ _ _ _).mono ?_
            rintro e W1 ⟨rfl, hb1⟩
            have hS2 : Below wc.heap.size wc W1 ∧ W1.rangeAt b (off + k * 3) [.int .u64 qa, .int .i64 qn, .int .i64 qs] := ⟨hS1.1.trans (hb1.mono (Nat.le_trans hxs hs0)), rangeB hb1 (Nat.lt_of_lt_of_le (Nat.lt_of_lt_of_le hlt hxs) hs0) hS1.2⟩
            have tN := tN0.low hb1
            refine ⟨rfl, hS2, ?_⟩
            refine wpAnyH_all (fuel := 1) (rs := [10]) (by kernel_rfl) (by decide) ?_
            intro i hi
            obtain rfl : i = 10 := by simpa using hi
            refine wpOp_unitB _ ?_ rfl (by kernel_rfl) (exec_store_row 39 (.tmp 7) (.tmp 20) rfl W0.heap.size (pcV qa qn qs) (by kernel_rfl) (by kernel_rfl) 39 #[.int .u64 0, .int .i64 0, .int .i64 0] tN (by kernel_rfl) rfl (pc_one _ _ _)) ?_ ?_
            rotate_left 1
            · go_simp
              exact rfl
            have tb := below_setRow hS2.1 hxs (pcV qa qn qs)
            have tr := rangeR (cs := pcV qa qn qs) (show b ≠ W0.heap.size by omega) hS2.2
            refine ⟨⟨tb, tr⟩, ?_⟩
            refine wpAnyH_all (fuel := 0) (rs := [11]) (by kernel_rfl) (by decide) ?_
            intro i hi
            obtain rfl : i = 11 := by simpa using hi
            refine wpOp_valB (.int .u64 (maskV qn qs)) _ ?_ rfl (by kernel_rfl) (by go_simp; exact rfl) ?_ ?_
            rotate_left 1
            · go_simp
              exact rfl
            refine ⟨⟨tb, tr⟩, ?_⟩
            refine wpAnyH_done (by kernel_rfl) ?_ _
            refine NoPanic.normal ?_
            go_wp2_with fail
            go_meet
            exact ⟨W0.heap.size, by kernel_rfl, by kernel_rfl, tN.row _, by omega, tb⟩
        case rest =>
          obtain ⟨c, rfl, rfl, hcs, hcl, hby⟩ := hcut
          have HCS := Lib.hid hcs
          have HBY := Lib.hid hby
          have c2 := hcs.cell 2
          clear hcs hby
          by_cases h : 1 ≤ qn ∧ qn ≤ 8 ∧ 0 ≤ qs ∧ qs ≤ 63
          · have HJ2 := Lib.hid (show joinS l us (k + 1) = putS jv qs (8 * qn) x from HJ.out.trans (if_pos (rightB_iff.2 h)))
            rw [← maskV_yes h]
            have hp := maskS_pos h.1 h.2.1
            have hmr := maskS_range (8 * qn)
            have g : (maskS (8 * qn) == 0) = false := by simp; omega
            have hu7 := (HBY.out.cell (p := ⟨bu, offu + k, none⟩) HHU.out).trans HU0.out
            have hiu : (k : Int) < us.length := by have := HKU.out; omega
            obtain ⟨j1, j2, j3⟩ := join_or (v := jv) (x := x) HJR.out HX.out h
            have hs0 := h.2.2.1
            have hmin : min qs.toNat 64 = qs.toNat := by omega
            have o1 := onesS_range qs (8 * qn)
            have o2 := and_range HX.out.1 HX.out.2 hmr.1 hmr.2
            have x0 := HX.out.1
            have v0 := HJR.out.1
            clear h hp
            go_wp2_with fail
            go_quiet (fail)
            have HBY2 := Lib.hid (below_dnS HBY.out nq)
            go_wp2_with fail
            go_roundw
            case rel => exact ⟨k + 1, by omega, by go_num, by rw [HJ2.out], HBY2.out⟩
            case measure => simp [intOf]; omega
          · have HJ2 := Lib.hid (show joinS l us (k + 1) = jv from HJ.out.trans (if_neg (by rw [rightB_no h]; simp)))
            rw [← maskV_no h]
            clear h c2
            go_wp2_with fail
            go_roundw
            case rel => exact ⟨k + 1, by omega, by go_num, by rw [HJ2.out], HBY.out⟩
            case measure => simp [intOf]; omega
      · obtain rfl : k = t := by omega
        go_wp2_with fail
        go_ret
        exact ⟨sret_u (by rw [HT.out]), HBR.out⟩
end Go.Proofs.Ytldpignnahokdaa
