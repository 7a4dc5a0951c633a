/-
  Contracts of split's mask and Part, and of the reference's right and Part (layer 11). Contract of split.Join (layer 11). Plain numbers, no program: pieces have each byte once, each in one line; what was parted is joined (layer 11).
-/
import Derived.Test.YtjeolfcefeglpabGreatXae
import Derived.Deep.RegionHeld3
set_option maxRecDepth 20000
namespace Go.Proofs.YtjeolfcefeglpabGreat
open Go.ChangeShapes Go.WideShapes Go.ChangeAt Go.RowKit Wd

/-- Has a piece bits? -/
def rightB (n s : Int) : Bool := decide (1 ≤ n ∧ n ≤ 8 ∧ 0 ≤ s ∧ s ≤ 63)
theorem rightB_iff {n s : Int} : rightB n s = true ↔ 1 ≤ n ∧ n ≤ 8 ∧ 0 ≤ s ∧ s ≤ 63 := by simp [rightB]
def maskV (n s : Int) : Int := if rightB n s then maskS (8 * n) else 0
def partV (v n s : Int) : Int := if rightB n s then cutS v s (8 * n) else 0
theorem rightB_no {n s : Int} (h : ¬ (1 ≤ n ∧ n ≤ 8 ∧ 0 ≤ s ∧ s ≤ 63)) : rightB n s = false := by
  cases e : rightB n s
  · rfl
  · exact absurd (rightB_iff.1 e) h
theorem maskV_no {n s : Int} (h : ¬ (1 ≤ n ∧ n ≤ 8 ∧ 0 ≤ s ∧ s ≤ 63)) : (0 : Int) = maskV n s := by unfold maskV; rw [rightB_no h]; rfl
theorem maskV_yes {n s : Int} (h : 1 ≤ n ∧ n ≤ 8 ∧ 0 ≤ s ∧ s ≤ 63) : maskS (8 * n) = maskV n s := by unfold maskV; rw [rightB_iff.2 h]; rfl
theorem partV_no {v n s : Int} (h : ¬ (1 ≤ n ∧ n ≤ 8 ∧ 0 ≤ s ∧ s ≤ 63)) : (0 : Int) = partV v n s := by unfold partV; rw [rightB_no h]; rfl
theorem partV_yes {v n s : Int} (h : 1 ≤ n ∧ n ≤ 8 ∧ 0 ≤ s ∧ s ≤ 63) : cutS v s (8 * n) = partV v n s := by unfold partV; rw [rightB_iff.2 h]; rfl
theorem maskV_range (n s : Int) : 0 ≤ maskV n s ∧ maskV n s < 18446744073709551616 := by
  unfold maskV
  split
  · exact maskS_range _
  · omega
theorem partV_range (v n s : Int) : 0 ≤ partV v n s ∧ partV v n s < 18446744073709551616 := by
  unfold partV
  split
  · exact cutS_range _ _ _
  · omega
theorem mask_num : maskS 8 = 255 ∧ maskS 16 = 65535 ∧ maskS 24 = 16777215 ∧ maskS 32 = 4294967295 ∧ maskS 40 = 1099511627775 ∧ maskS 48 = 281474976710655 ∧ maskS 56 = 72057594037927935 ∧ maskS 64 = 18446744073709551615 := by decide +kernel
theorem maskS_pos {n : Int} (h1 : 1 ≤ n) (h8 : n ≤ 8) : 0 < maskS (8 * n) := by
  obtain ⟨m1, m2, m3, m4, m5, m6, m7, m8⟩ := mask_num
  have : n = 1 ∨ n = 2 ∨ n = 3 ∨ n = 4 ∨ n = 5 ∨ n = 6 ∨ n = 7 ∨ n = 8 := by omega
  rcases this with rfl | rfl | rfl | rfl | rfl | rfl | rfl | rfl
  · show 0 < maskS 8; omega
  · show 0 < maskS 16; omega
  · show 0 < maskS 24; omega
  · show 0 < maskS 32; omega
  · show 0 < maskS 40; omega
  · show 0 < maskS 48; omega
  · show 0 < maskS 56; omega
  · show 0 < maskS 64; omega
abbrev pcV (a n s : Int) : Array Value := #[.int .u64 a, .int .i64 n, .int .i64 s]
theorem shr_mask {n : Int} (h1 : 1 ≤ n) (h8 : n ≤ 8) : (18446744073709551615 : Int) / 2 ^ (8 * (8 - n)).toNat = maskS (8 * n) := by
  obtain ⟨m1, m2, m3, m4, m5, m6, m7, m8⟩ := mask_num
  have : n = 1 ∨ n = 2 ∨ n = 3 ∨ n = 4 ∨ n = 5 ∨ n = 6 ∨ n = 7 ∨ n = 8 := by omega
  rcases this with rfl | rfl | rfl | rfl | rfl | rfl | rfl | rfl
  · show _ = maskS 8; rw [m1]; decide
  · show _ = maskS 16; rw [m2]; decide
  · show _ = maskS 24; rw [m3]; decide
  · show _ = maskS 32; rw [m4]; decide
  · show _ = maskS 40; rw [m5]; decide
  · show _ = maskS 48; rw [m6]; decide
  · show _ = maskS 56; rw [m7]; decide
  · show _ = maskS 64; rw [m8]; decide
set_option maxHeartbeats 1000000 in
theorem pmask_c (a n s : Int) (w : World) : Calls Tryz.prog 119 #[.agg (pcV a n s)] w fun e w' => e = .returned (.int .u64 (maskV n s)) ∧ Below w.heap.size w w' := by
  have HB := Lib.hid ((Below.refl w.heap.size w).alloc (Nat.le_refl _) (.cells (pcV a n s) 142))
  have HC := CsAt.new w 142 (pcV a n s)
  have c1 := HC.cell 1
  have c2 := HC.cell 2
  clear HC
  go_enter Tryz.func119, Tryz.ntmps119
  go_upto_region 1 with (fail)
  generalize w.alloc (.cells (pcV a n s) 142) = w1 at *
  go_wp2_with fail
  refine (isSize_c _ _).mono ?_
  rintro e w2 ⟨rfl, rfl⟩
  cases hs : Sp.szB n
  · have H := Lib.hid (show (0 : Int) = maskV n s by
      unfold Sp.szB at hs; simp at hs; exact maskV_no (by omega))
    go_wp2_with fail
    go_ret
    exact ⟨sret_u H.out, HB.out⟩
  · unfold Sp.szB at hs
    have hn1 : 1 ≤ n := by simp at hs; omega
    have hn8 : n ≤ 8 := by simp at hs; omega
    clear hs
    by_cases h0 : s < 0
    · have g0 : decide (s < 0) = true := by simpa using h0
      have H := Lib.hid (show (0 : Int) = maskV n s from maskV_no (by omega))
      clear h0
      go_wp2_with fail
      go_ret
      exact ⟨sret_u H.out, HB.out⟩
    · have g0 : decide (s < 0) = false := by simpa using h0
      by_cases h1 : 64 ≤ s
      · have g1 : decide (64 ≤ s) = true := by simpa using h1
        have H := Lib.hid (show (0 : Int) = maskV n s from maskV_no (by omega))
        clear h0 h1
        go_wp2_with fail
        go_ret
        exact ⟨sret_u H.out, HB.out⟩
      · have g1 : decide (64 ≤ s) = false := by simpa using h1
        have H := Lib.hid (show maskS (8 * n) = maskV n s from maskV_yes ⟨hn1, hn8, by omega, by omega⟩)
        have hsm := shr_mask hn1 hn8
        have h8n : 0 ≤ 8 * (8 - n) := by omega
        have hmin : min (8 * (8 - n)).toNat 64 = (8 * (8 - n)).toNat := by omega
        have hr := maskS_range (8 * n)
        go_wp2_with fail
        go_ret
        exact ⟨sret_u H.out, HB.out⟩
theorem low_cut {v s : Int} (size : Int) (hv : 0 ≤ v ∧ v < 18446744073709551616) (h0 : 0 ≤ s) (h1 : s ≤ 63) : bits .and .u64 (v / 2 ^ s.toNat) (maskS size) = cutS v s size := by
  have e := lower_pos (x := v) (p := s) hv.1 hv.2 h0 (by omega)
  rw [show (IntKind.u64.wrap s).toNat = s.toNat by rw [IntKind.wrap_u64]; omega, show min s.toNat 64 = s.toNat by omega] at e
  rw [e]
  exact cut_and _ _ _
set_option maxHeartbeats 1000000 in
theorem part_c (v a n s : Int) (w : World) (hv : 0 ≤ v ∧ v < 18446744073709551616) : Calls Tryz.prog 77 #[.int .u64 v, .agg (pcV a n s)] w fun e w' => e = .returned (.int .u64 (partV v n s)) ∧ Below w.heap.size w w' := by
  have HB := Lib.hid ((Below.refl w.heap.size w).alloc (Nat.le_refl _) (.cells (pcV a n s) 142))
  have HC := Lib.hid (CsAt.new w 142 (pcV a n s))
  have HV := Lib.hid hv
  go_enter Tryz.func77, Tryz.ntmps77
  go_upto_region 1 with (fail)
  generalize w.alloc (.cells (pcV a n s) 142) = w1 at *
  go_wp2_with (refine wpList_load_row rfl 142 _ rfl w.heap.size rfl 142 _ (0, 0) _ HC.out Tryz.underlying142 rfl (by kernel_rfl) ?_)
  refine (pmask_c _ _ _ _).mono ?_
  rintro e w2 ⟨rfl, hb2⟩
  have HC2 := Lib.hid (HC.out.low hb2)
  have HB2 := Lib.hid (HB.out.trans (hb2.mono HB.out.size))
  have c2 := HC2.out.cell 2
  clear hb2 HC HB
  by_cases h : 1 ≤ n ∧ n ≤ 8 ∧ 0 ≤ s ∧ s ≤ 63
  · have hp := maskS_pos h.1 h.2.1
    have hr := maskS_range (8 * n)
    have g : (maskS (8 * n) == 0) = false := by simp; omega
    rw [← maskV_yes h]
    have hl := low_cut (8 * n) hv h.2.2.1 h.2.2.2
    have hx := lower_pos (x := v) (p := s) hv.1 hv.2 h.2.2.1 (by omega)
    rw [show (IntKind.u64.wrap s).toNat = s.toNat by rw [IntKind.wrap_u64]; omega, show min s.toNat 64 = s.toNat by omega] at hx
    have hlr := lowerS_range v s
    rw [← hx] at hlr
    have H := Lib.hid (show cutS v s (8 * n) = partV v n s from partV_yes h)
    have hs0 := h.2.2.1
    have hmin : min s.toNat 64 = s.toNat := by omega
    have hcr := cutS_range v s (8 * n)
    obtain ⟨hq0, hq1⟩ := hlr
    have hq2 : IntKind.u64.wrap (v / 2 ^ s.toNat) = v / 2 ^ s.toNat := by rw [IntKind.wrap_u64]; omega
    clear hx h hv
    go_wp2_with fail
    go_ret
    exact ⟨sret_u H.out, HB2.out⟩
  · rw [← maskV_no h]
    have H := Lib.hid (show (0 : Int) = partV v n s from partV_no h)
    clear h
    go_wp2_with fail
    go_ret
    exact ⟨sret_u H.out, HB2.out⟩
end Go.Proofs.YtjeolfcefeglpabGreat
set_option maxRecDepth 20000
namespace Go.Proofs.YtjeolfcefeglpabGreat
open Go.ChangeShapes Go.WideShapes Go.ChangeAt Go.RowKit Wd

abbrev uV (xs : List Int) : List Value := xs.map (Value.int .u64)
theorem uV_at (xs : List Int) (j : Nat) (hj : j < xs.length) : (uV xs)[j]? = some (.int .u64 (xs.getD j 0)) := by
  rw [List.getElem?_map, List.getD, List.getElem?_eq_getElem hj]
  rfl
def joinS (l : List Sp.P) (us : List Int) : Nat → Int
  | 0 => 0
  | k + 1 => if rightB (l.getD k Sp.p0).n (l.getD k Sp.p0).s then putS (joinS l us k) (l.getD k Sp.p0).s (8 * (l.getD k Sp.p0).n) (us.getD k 0) else joinS l us k
theorem joinS_range (l : List Sp.P) (us : List Int) : ∀ k, 0 ≤ joinS l us k ∧ joinS l us k < 18446744073709551616
  | 0 => ⟨Int.le_refl 0, (by decide : (0 : Int) < 18446744073709551616)⟩
  | k + 1 => by
    unfold joinS
    split
    · exact putS_range _ _ _ _
    · exact joinS_range l us k
theorem raise_and {x m s : Int} (hx : 0 ≤ x ∧ x < 18446744073709551616) (hm : 0 ≤ m ∧ m < 18446744073709551616) : raiseS (bits .and .u64 x m) s = bits .and .u64 (raiseS x s) (raiseS m s) := by
  have r1 := raiseS_range x s
  have r2 := raiseS_range m s
  have r3 := and_range r1.1 r1.2 r2.1 r2.2
  refine Wd.ext (raiseS_range _ _).1 (raiseS_range _ _).2 r3.1 r3.2 fun i hi => ?_
  rw [tb_and r1.1 r1.2 r2.1 r2.2]
  unfold raiseS
  rw [tb_word, tb_word, tb_word, tb_and hx.1 hx.2 hm.1 hm.2]
  cases decide (0 ≤ (i : Int) - s) <;> cases decide (i < 64) <;> simp
theorem join_or {v x n s : Int} (hv : 0 ≤ v ∧ v < 18446744073709551616) (hx : 0 ≤ x ∧ x < 18446744073709551616) (h : 1 ≤ n ∧ n ≤ 8 ∧ 0 ≤ s ∧ s ≤ 63) :
    IntKind.u64.wrap (maskS (8 * n) * 2 ^ s.toNat) = onesS s (8 * n) ∧ IntKind.u64.wrap (bits .and .u64 x (maskS (8 * n)) * 2 ^ s.toNat) = bits .and .u64 (raiseS x s) (onesS s (8 * n)) ∧
    bits .or .u64 (bits .andNot .u64 v (onesS s (8 * n))) (bits .and .u64 (raiseS x s) (onesS s (8 * n))) = putS v s (8 * n) x := by
  have hm := maskS_range (8 * n)
  have ha := and_range hx.1 hx.2 hm.1 hm.2
  have e0 : (IntKind.u64.wrap s).toNat = s.toNat := by rw [IntKind.wrap_u64]; omega
  have e1 : min s.toNat 64 = s.toNat := by omega
  have o : raiseS (maskS (8 * n)) s = onesS s (8 * n) := ones_pos (by omega) h.2.2.1
  have p1 := raise_pos (x := maskS (8 * n)) (p := s) hm.1 h.2.2.1 (by omega)
  have p2 := raise_pos (x := bits .and .u64 x (maskS (8 * n))) (p := s) ha.1 h.2.2.1 (by omega)
  rw [e0, e1] at p1 p2
  exact ⟨p1.trans o, by rw [p2, raise_and hx hm, o], put_or hv.1 hv.2⟩
/-- A piece, in its cells. -/
theorem vw_range {w : World} {b off : Nat} {l : List Sp.P} (h : ∀ j u, (Sp.cellsOf l)[j]? = some u → w.cell? ⟨b, off + j, none⟩ = some u) (i : Nat) (hi : i < l.length) : w.rangeAt b (off + i * 3) (l.getD i Sp.p0).cells := by
  intro j v hj
  have hj3 : j < 3 := (List.getElem?_eq_some_iff.1 hj).1
  rw [Nat.add_assoc]
  exact h _ _ (by rw [Sp.cellsOf_at l i j hi hj3, hj])
theorem below_dnI {B : Nat} {a w : World} (h : Below B a w) (n : Nat) : Below B a (w.drewN n) := h.trans ⟨rfl, rfl, rfl, Nat.le_refl _, fun _ _ => rfl⟩
theorem rangeB {B b o : Nat} {w w' : World} {cs : List Value} (hb : Below B w w') (hlt : b < B) (h : w.rangeAt b o cs) : w'.rangeAt b o cs := fun j v hj => (hb.cell (p := ⟨b, o + j, none⟩) hlt).trans (h j v hj)
theorem rangeR {b c o : Nat} {w : World} {xs : List Value} {cs : Array Value} (hne : b ≠ c) (h : w.rangeAt b o xs) : (w.setRow c cs).rangeAt b o xs := fun j v hj => (cell_setRow_other w c cs ⟨b, o + j, none⟩ hne).trans (h j v hj)
theorem exec_load_mid {P : Program} {o : Oper} {a : Act} {w : World} {cs : List Value} (ty : TypeId) (x : Operand) (ho : o.op = .load ty x) (b off : Nat) (hx : a.eval x = .pointer (some ⟨b, off, none⟩)) (d : TypeDesc) (hc : w.rangeAt b off cs)
    (hu : P.underlying ty = some d) (hd : d.isRow = true) (hi : (P.info? ty).map (·.size) = some cs.length) : (execOp a.eval o).run P w = .ok (.value (.agg cs.toArray)) w := by
  unfold execOp
  simp only [ho, hx, Instr.loadAt, Instr.sureAddr, Sem.run_bind, Sem.run_pure, Result.andThen_ok, run_loadVar_mid w b off ty cs d hc hu hd hi]
theorem zv_pc (w : World) : (zeroValue 142).run Tryz.prog w = .ok (.agg #[.int .u64 0, .int .i64 0, .int .i64 0]) w := by
  have h : (Tryz.prog.info? 142).map (·.zero) = some (some (.agg #[.int .u64 0, .int .i64 0, .int .i64 0])) := by kernel_rfl
  obtain ⟨i, hi, hz⟩ := Option.map_eq_some_iff.1 h
  simp [zeroValue, typeInfo, hi, hz]
set_option maxRecDepth 4000 in
set_option maxHeartbeats 4000000 in
theorem join_c (l : List Sp.P) (us : List Int) (po pu : Option Addr) (cap capu : Nat) (w : World) (hl : Vw w po (Sp.cellsOf l)) (hu : Vw w pu (uV us)) (hr : ∀ u ∈ us, 0 ≤ u ∧ u < 18446744073709551616) (hll : l.length ≤ 1000000) (hul : us.length ≤ 1000000) :
    Calls Tryz.prog 68 #[.slice po l.length cap, .slice pu us.length capu] w fun e w' => e = .returned (.int .u64 (joinS l us (min l.length us.length))) ∧ Below w.heap.size w w' := by
  have HL := Lib.hid hl
  have HU := Lib.hid hu
  have HR := Lib.hid hr
  have HLL := Lib.hid (And.intro hll hul)
  clear hl hu hr
  obtain ⟨t, ht⟩ : ∃ t, t = min l.length us.length := ⟨_, rfl⟩
  have ht1 : t ≤ l.length := by omega
  have ht2 : t ≤ us.length := by omega
  have hmin : min ((l.length : Nat) : Int) ((us.length : Nat) : Int) = (t : Int) := by omega
  have HT := Lib.hid ht
  clear ht
  go_enter Tryz.func68, Tryz.ntmps68
  go_upto_region 2 with fail
  go_cut [13, 14] (fun s13 s14 wx => s13 = .int .i64 t ∧ s14 = .int .i64 0 ∧ wx = w)
  case first =>
    go_wp2_with fail
    all_goals go_meet
    all_goals exact ⟨by congr 1; omega, rfl, rfl⟩
  case rest =>
    obtain ⟨rfl, rfl, rfl⟩ := hcut
    go_wp2_with fail
    go_loopw [5, 14] (fun v iv wr => ∃ k : Nat, k ≤ t ∧ iv = .int .i64 k ∧ v = .int .u64 (joinS l us k) ∧ Below wc.heap.size wc wr) (fun _ iv _ => t - (intOf iv).toNat)
    case atStart => exact ⟨0, Nat.zero_le _, rfl, rfl, Below.refl _ _⟩
    case round =>
      obtain ⟨k, hk, rfl, rfl, hbr⟩ := hrel
      have HBR := Lib.hid hbr
      clear hbr
      have hk6 : k ≤ 1000000 := by have := HLL.out.1; omega
      by_cases hlt0 : k < t
      · have hkl : k < l.length := by omega
        have hku : k < us.length := by omega
        obtain ⟨b, off, rfl, hlt, hc⟩ := HL.out.resolve_left (fun h => by
          have := congrArg List.length h
          rw [Sp.cellsOf_len, List.length_nil] at this
          omega)
        obtain ⟨bu, offu, rfl, hltu, hcu⟩ := HU.out.resolve_left (fun h => by
          have := congrArg List.length h
          rw [List.length_map, List.length_nil] at this
          omega)
        have hq0 := vw_range hc k hkl
        have hu0 := hcu k _ (uV_at us k hku)
        have HJ := Lib.hid (show joinS l us (k + 1) = if rightB (l.getD k Sp.p0).n (l.getD k Sp.p0).s then putS (joinS l us k) (l.getD k Sp.p0).s (8 * (l.getD k Sp.p0).n) (us.getD k 0) else joinS l us k from rfl)
        have hur := HR.out (us.getD k 0) (by rw [List.getD, List.getElem?_eq_getElem hku]; exact List.getElem_mem _)
        have hjr := joinS_range l us k
        generalize us.getD k 0 = x at *
        generalize l.getD k Sp.p0 = q at *
        obtain ⟨qa, qn, qs⟩ := q
        have HX := Lib.hid hur
        have HJR := Lib.hid hjr
        have HQ0 := Lib.hid (show wc.rangeAt b (off + k * 3) [.int .u64 qa, .int .i64 qn, .int .i64 qs] from hq0)
        have HU0 := Lib.hid hu0
        have HHL := Lib.hid hlt
        have HHU := Lib.hid hltu
        have HKU := Lib.hid hku
        clear hc hcu hq0 hu0 hur hjr
        generalize joinS l us k = jv at *
        have hli : (k : Int) < l.length := by omega
        go_upto_region 5 with fail
        go_cut [7, 8] (fun s7 s8 wy => ∃ c : Nat, s7 = .pointer (some ⟨c, 0, none⟩) ∧ s8 = .int .u64 (maskV qn qs) ∧ CsAt wy c 142 (pcV qa qn qs) ∧ wc.heap.size ≤ c ∧ Below wc.heap.size wc wy)
        case first =>
          refine wp_region_noPanic ?_
          refine wp_region_held (S := fun W => Below wc.heap.size wc W ∧ W.rangeAt b (off + k * 3) [.int .u64 qa, .int .i64 qn, .int .i64 qs]) (by kernel_rfl) ?_
          have hS0 : Below wc.heap.size wc wr.drew ∧ wr.drew.rangeAt b (off + k * 3) [.int .u64 qa, .int .i64 qn, .int .i64 qs] := ⟨HBR.out.drew, rangeB HBR.out.drew hlt HQ0.out⟩
          have hxs : wc.heap.size ≤ wr.drew.heap.size := HBR.out.size
          refine takeH (fuel := 11) (i := 0) (.slice (some ⟨b, off, none⟩) l.length cap) ?_ rfl (by kernel_rfl) (by kernel_rfl) (by kernel_rfl) (fun _ _ _ h => h) (by kernel_rfl) (fun W hS => by go_simp) hS0 ?_ ?_
          rotate_left 1
          · go_simp
            exact rfl
          refine takeH (fuel := 10) (i := 1) (.int .i64 (k : Int)) ?_ rfl (by kernel_rfl) (by kernel_rfl) (by kernel_rfl) (fun _ _ _ h => h) (by kernel_rfl) (fun W hS => by go_simp) hS0 ?_ ?_
          rotate_left 1
          · go_simp
            exact rfl
          refine takeH (fuel := 9) (i := 2) (.pointer (some ⟨b, off + k * 3, none⟩)) ?_ rfl (by kernel_rfl) (by kernel_rfl) (by kernel_rfl) (fun _ _ _ h => h) (by kernel_rfl) (fun W hS => by go_simp) hS0 ?_ ?_
          rotate_left 1
          · go_simp
            exact rfl
          refine takeH (fuel := 8) (i := 3) (.agg (pcV qa qn qs)) ?_ rfl (by kernel_rfl) (by kernel_rfl) (by kernel_rfl) (fun _ _ _ h => h) (by kernel_rfl) (fun W hS => exec_load_mid (cs := [.int .u64 qa, .int .i64 qn, .int .i64 qs]) _ _ rfl b (off + k * 3) rfl _ hS.2 Tryz.underlying142 rfl (by kernel_rfl)) hS0 ?_ ?_
          rotate_left 1
          · go_simp
            exact rfl
          refine takeH (fuel := 7) (i := 4) (.slice (some ⟨b, off, none⟩) l.length cap) ?_ rfl (by kernel_rfl) (by kernel_rfl) (by kernel_rfl) (fun _ _ _ h => h) (by kernel_rfl) (fun W hS => by go_simp) hS0 ?_ ?_
          rotate_left 1
          · go_simp
            exact rfl
          refine takeH (fuel := 6) (i := 5) (.int .i64 (k : Int)) ?_ rfl (by kernel_rfl) (by kernel_rfl) (by kernel_rfl) (fun _ _ _ h => h) (by kernel_rfl) (fun W hS => by go_simp) hS0 ?_ ?_
          rotate_left 1
          · go_simp
            exact rfl
          refine takeH (fuel := 5) (i := 6) (.pointer (some ⟨b, off + k * 3, none⟩)) ?_ rfl (by kernel_rfl) (by kernel_rfl) (by kernel_rfl) (fun _ _ _ h => h) (by kernel_rfl) (fun W hS => by go_simp) hS0 ?_ ?_
          rotate_left 1
          · go_simp
            exact rfl
          refine takeH (fuel := 4) (i := 7) (.agg (pcV qa qn qs)) ?_ rfl (by kernel_rfl) (by kernel_rfl) (by kernel_rfl) (fun _ _ _ h => h) (by kernel_rfl) (fun W hS => exec_load_mid (cs := [.int .u64 qa, .int .i64 qn, .int .i64 qs]) _ _ rfl b (off + k * 3) rfl _ hS.2 Tryz.underlying142 rfl (by kernel_rfl)) hS0 ?_ ?_
          rotate_left 1
          · go_simp
            exact rfl
          refine wpAnyH_all (fuel := 3) (rs := [8, 9]) (by kernel_rfl) (by decide) ?_
          intro i hi
          simp only [List.mem_cons, List.not_mem_nil, or_false] at hi
          change Go.wpOp _ _ _ _ _ _ wr.drew
          generalize wr.drew = W0 at *
          rcases hi with rfl | rfl
          ·
            refine wpOp_callB 119 #[.agg (pcV qa qn qs)] (.int .u64 (maskV qn qs)) ?_ rfl (by kernel_rfl) ?_ ?_ ?_
            rotate_left 1
            · go_simp
            · go_simp
              exact rfl
            refine (pmask_c _ _ _ _).mono ?_
            rintro e W1 ⟨rfl, hb1⟩
            have hS1 : Below wc.heap.size wc W1 ∧ W1.rangeAt b (off + k * 3) [.int .u64 qa, .int .i64 qn, .int .i64 qs] := ⟨hS0.1.trans (hb1.mono hxs), rangeB hb1 (by omega) hS0.2⟩
            have hs1 := hb1.size
            refine ⟨rfl, hS1, ?_⟩
            refine wpAnyH_all (fuel := 2) (rs := [9]) (by kernel_rfl) (by decide) ?_
            intro i hi
            obtain rfl : i = 9 := by simpa using hi
            refine wpOp_valB _ _ ?_ rfl (by kernel_rfl) (exec_alloc _ rfl _ (zv_pc _)) ?_ ?_
            rotate_left 1
            · go_simp
              exact rfl
            have hS2 : Below wc.heap.size wc (W1.alloc (.cells #[.int .u64 0, .int .i64 0, .int .i64 0] 142)) ∧ (W1.alloc (.cells #[.int .u64 0, .int .i64 0, .int .i64 0] 142)).rangeAt b (off + k * 3) [.int .u64 qa, .int .i64 qn, .int .i64 qs] := ⟨hS1.1.alloc hS1.1.size _, rangeB ((Below.refl W1.heap.size W1).alloc (Nat.le_refl _) _) (by omega) hS1.2⟩
            have tN : CsAt (W1.alloc (.cells #[.int .u64 0, .int .i64 0, .int .i64 0] 142)) W1.heap.size 142 #[.int .u64 0, .int .i64 0, .int .i64 0] := CsAt.new _ _ _
            refine ⟨hS2, ?_⟩
            refine wpAnyH_all (fuel := 1) (rs := [10]) (by kernel_rfl) (by decide) ?_
            intro i hi
            obtain rfl : i = 10 := by simpa using hi
            refine wpOp_unitB _ ?_ rfl (by kernel_rfl) (exec_store_row 142 (.tmp 7) (.tmp 20) rfl W1.heap.size (pcV qa qn qs) (by kernel_rfl) (by kernel_rfl) 142 #[.int .u64 0, .int .i64 0, .int .i64 0] tN (by kernel_rfl) rfl (pc_one _ _ _)) ?_ ?_
            rotate_left 1
            · go_simp
              exact rfl
            have tb := below_setRow hS2.1 (show wc.heap.size ≤ W1.heap.size by omega) (pcV qa qn qs)
            have tr := rangeR (cs := pcV qa qn qs) (show b ≠ W1.heap.size by omega) hS2.2
            refine ⟨⟨tb, tr⟩, ?_⟩
            refine wpAnyH_all (fuel := 0) (rs := [11]) (by kernel_rfl) (by decide) ?_
            intro i hi
            obtain rfl : i = 11 := by simpa using hi
            refine wpOp_valB (.int .u64 (maskV qn qs)) _ ?_ rfl (by kernel_rfl) (by go_simp; exact rfl) ?_ ?_
            rotate_left 1
            · go_simp
              exact rfl
            refine ⟨⟨tb, tr⟩, ?_⟩
            refine wpAnyH_done (by kernel_rfl) ?_ _
            refine NoPanic.normal ?_
            go_wp2_with fail
            go_meet
            exact ⟨W1.heap.size, by kernel_rfl, by kernel_rfl, tN.row _, by omega, tb⟩
          ·
            refine wpOp_valB _ _ ?_ rfl (by kernel_rfl) (exec_alloc _ rfl _ (zv_pc _)) ?_ ?_
            rotate_left 1
            · go_simp
              exact rfl
            have hS1 : Below wc.heap.size wc (W0.alloc (.cells #[.int .u64 0, .int .i64 0, .int .i64 0] 142)) ∧ (W0.alloc (.cells #[.int .u64 0, .int .i64 0, .int .i64 0] 142)).rangeAt b (off + k * 3) [.int .u64 qa, .int .i64 qn, .int .i64 qs] := ⟨hS0.1.alloc hS0.1.size _, rangeB ((Below.refl W0.heap.size W0).alloc (Nat.le_refl _) _) (by omega) hS0.2⟩
            have tN0 : CsAt (W0.alloc (.cells #[.int .u64 0, .int .i64 0, .int .i64 0] 142)) W0.heap.size 142 #[.int .u64 0, .int .i64 0, .int .i64 0] := CsAt.new _ _ _
            have hs0 : W0.heap.size ≤ (W0.alloc (.cells #[.int .u64 0, .int .i64 0, .int .i64 0] 142)).heap.size := by simp
            refine ⟨hS1, ?_⟩
            refine wpAnyH_all (fuel := 2) (rs := [8]) (by kernel_rfl) (by decide) ?_
            intro i hi
            obtain rfl : i = 8 := by simpa using hi
            refine wpOp_callB 119 #[.agg (pcV qa qn qs)] (.int .u64 (maskV qn qs)) ?_ rfl (by kernel_rfl) ?_ ?_ ?_
            rotate_left 1
            · go_simp
            · go_simp
              exact rfl
            refine (pmask_c _ _ _ _).mono ?_
            rintro e W1 ⟨rfl, hb1⟩
            have hS2 : Below wc.heap.size wc W1 ∧ W1.rangeAt b (off + k * 3) [.int .u64 qa, .int .i64 qn, .int .i64 qs] := ⟨hS1.1.trans (hb1.mono (Nat.le_trans hxs hs0)), rangeB hb1 (Nat.lt_of_lt_of_le (Nat.lt_of_lt_of_le hlt hxs) hs0) hS1.2⟩
            have tN := tN0.low hb1
            refine ⟨rfl, hS2, ?_⟩
            refine wpAnyH_all (fuel := 1) (rs := [10]) (by kernel_rfl) (by decide) ?_
            intro i hi
            obtain rfl : i = 10 := by simpa using hi
            refine wpOp_unitB _ ?_ rfl (by kernel_rfl) (exec_store_row 142 (.tmp 7) (.tmp 20) rfl W0.heap.size (pcV qa qn qs) (by kernel_rfl) (by kernel_rfl) 142 #[.int .u64 0, .int .i64 0, .int .i64 0] tN (by kernel_rfl) rfl (pc_one _ _ _)) ?_ ?_
            rotate_left 1
            · go_simp
              exact rfl
            have tb := below_setRow hS2.1 hxs (pcV qa qn qs)
            have tr := rangeR (cs := pcV qa qn qs) (show b ≠ W0.heap.size by omega) hS2.2
            refine ⟨⟨tb, tr⟩, ?_⟩
            refine wpAnyH_all (fuel := 0) (rs := [11]) (by kernel_rfl) (by decide) ?_
            intro i hi
            obtain rfl : i = 11 := by simpa using hi
            refine wpOp_valB (.int .u64 (maskV qn qs)) _ ?_ rfl (by kernel_rfl) (by go_simp; exact rfl) ?_ ?_
            rotate_left 1
            · go_simp
              exact rfl
            refine ⟨⟨tb, tr⟩, ?_⟩
            refine wpAnyH_done (by kernel_rfl) ?_ _
            refine NoPanic.normal ?_
            go_wp2_with fail
            go_meet
            exact ⟨W0.heap.size, by kernel_rfl, by kernel_rfl, tN.row _, by omega, tb⟩
        case rest =>
          obtain ⟨c, rfl, rfl, hcs, hcl, hby⟩ := hcut
          have HCS := Lib.hid hcs
          have HBY := Lib.hid hby
          have c2 := hcs.cell 2
          clear hcs hby
          by_cases h : 1 ≤ qn ∧ qn ≤ 8 ∧ 0 ≤ qs ∧ qs ≤ 63
          · have HJ2 := Lib.hid (show joinS l us (k + 1) = putS jv qs (8 * qn) x from HJ.out.trans (if_pos (rightB_iff.2 h)))
            rw [← maskV_yes h]
            have hp := maskS_pos h.1 h.2.1
            have hmr := maskS_range (8 * qn)
            have g : (maskS (8 * qn) == 0) = false := by simp; omega
            have hu7 := (HBY.out.cell (p := ⟨bu, offu + k, none⟩) HHU.out).trans HU0.out
            have hiu : (k : Int) < us.length := by have := HKU.out; omega
            obtain ⟨j1, j2, j3⟩ := join_or (v := jv) (x := x) HJR.out HX.out h
            have hs0 := h.2.2.1
            have hmin : min qs.toNat 64 = qs.toNat := by omega
            have o1 := onesS_range qs (8 * qn)
            have o2 := and_range HX.out.1 HX.out.2 hmr.1 hmr.2
            have x0 := HX.out.1
            have v0 := HJR.out.1
            clear h hp
            go_wp2_with fail
            go_quiet (fail)
            have HBY2 := Lib.hid (below_dnI HBY.out nq)
            go_wp2_with fail
            go_roundw
            case rel => exact ⟨k + 1, by omega, by go_num, by rw [HJ2.out], HBY2.out⟩
            case measure => simp [intOf]; omega
          · have HJ2 := Lib.hid (show joinS l us (k + 1) = jv from HJ.out.trans (if_neg (by rw [rightB_no h]; simp)))
            rw [← maskV_no h]
            clear h c2
            go_wp2_with fail
            go_roundw
            case rel => exact ⟨k + 1, by omega, by go_num, by rw [HJ2.out], HBY.out⟩
            case measure => simp [intOf]; omega
      · obtain rfl : k = t := by omega
        go_wp2_with fail
        go_ret
        exact ⟨sret_u (by rw [HT.out]), HBR.out⟩
end Go.Proofs.YtjeolfcefeglpabGreat
set_option maxRecDepth 20000
namespace Go.Proofs.YtjeolfcefeglpabGreat
open Go.RowKit Wd

/-- How many bytes the first k pieces have. -/
def sumN (l : List Sp.P) : Nat → Int
  | 0 => 0
  | k + 1 => sumN l k + (l.getD k Sp.p0).n
/-- Pieces that follow one another from byte m on. -/
def Good (a b c : Int) : List Sp.P → Int → Prop
  | [], _ => True
  | p :: l, m => (p.s = 8 * m ∧ 1 ≤ p.n ∧ p.n ≤ 8 ∧ 0 ≤ p.a ∧ p.a + (p.n - 1) < 18446744073709551616 ∧ (p.a + (p.n - 1)) / 64 = p.a / 64 ∧ p.a = Sp.byte a b c m) ∧ Good a b c l (m + p.n)
def tot : List Sp.P → Int
  | [] => 0
  | p :: l => p.n + tot l
theorem good_app {a b c : Int} : ∀ {l l' : List Sp.P} {m : Int}, Good a b c l m → Good a b c l' (m + tot l) → Good a b c (l ++ l') m
  | [], l', m, _, h' => by simpa [tot] using h'
  | p :: l, l', m, h, h' => ⟨h.1, good_app h.2 (by rw [show m + p.n + tot l = m + tot (p :: l) by simp [tot]; omega]; exact h')⟩
theorem tot_app : ∀ (l l' : List Sp.P), tot (l ++ l') = tot l + tot l'
  | [], l' => by simp [tot]
  | p :: l, l' => by simp [tot, tot_app l l']; omega
theorem good_at {a b c : Int} : ∀ {l : List Sp.P} {m : Int}, Good a b c l m → ∀ k, k < l.length → ((l.getD k Sp.p0).s = 8 * (m + sumN l k) ∧ 1 ≤ (l.getD k Sp.p0).n ∧ (l.getD k Sp.p0).n ≤ 8 ∧ 0 ≤ (l.getD k Sp.p0).a ∧
    (l.getD k Sp.p0).a + ((l.getD k Sp.p0).n - 1) < 18446744073709551616 ∧ ((l.getD k Sp.p0).a + ((l.getD k Sp.p0).n - 1)) / 64 = (l.getD k Sp.p0).a / 64 ∧ (l.getD k Sp.p0).a = Sp.byte a b c (m + sumN l k))
  | p :: l, m, h, 0, _ => by simpa [sumN] using h.1
  | p :: l, m, h, k + 1, hk => by
    have e : ∀ k, sumN (p :: l) (k + 1) = p.n + sumN l k := by
      intro k
      induction k with
      | zero => simp [sumN]
      | succ k ih => rw [sumN, ih, sumN]; simp; omega
    have := good_at h.2 k (by simpa using hk)
    rw [e, show m + (p.n + sumN l k) = m + p.n + sumN l k by omega]
    simpa using this
theorem sumN_all : ∀ l : List Sp.P, sumN l l.length = tot l
  | [] => rfl
  | p :: l => by
    have e : ∀ k, sumN (p :: l) (k + 1) = p.n + sumN l k := by
      intro k
      induction k with
      | zero => simp [sumN]
      | succ k ih => rw [sumN, ih, sumN]; simp; omega
    rw [List.length_cons, e, sumN_all l]
    rfl
theorem run_tot (a n f : Int) : tot (Sp.run a n f) = n := by unfold Sp.run; split <;> simp [tot] <;> omega
theorem run_first {a b c n : Int} (ha : 0 ≤ a ∧ a < 18446744073709551616) (h1 : 1 ≤ n) (h8 : n ≤ 8) (hc : c = 0 ∨ n ≤ c) : Good a b c (Sp.run a n 0) 0 := by
  unfold Sp.run
  split
  · refine ⟨⟨rfl, ?_, ?_, ?_, ?_, ?_, ?_⟩, ⟨?_, ?_, ?_, ?_, ?_, ?_, ?_⟩, trivial⟩ <;> simp only [] <;> first | omega | (unfold Sp.byte; rw [if_neg (by omega)]; omega)
  · refine ⟨⟨rfl, ?_, ?_, ?_, ?_, ?_, ?_⟩, trivial⟩ <;> simp only [] <;> first | omega | (unfold Sp.byte; rw [if_neg (by omega)]; omega)
theorem run_second {a b c n : Int} (hb : 0 ≤ b ∧ b < 18446744073709551616) (h1 : 1 ≤ n) (h8 : n ≤ 8) (hc : 0 < c) : Good a b c (Sp.run b n c) c := by
  unfold Sp.run
  split
  · refine ⟨⟨rfl, ?_, ?_, ?_, ?_, ?_, ?_⟩, ⟨?_, ?_, ?_, ?_, ?_, ?_, ?_⟩, trivial⟩ <;> simp only [] <;> first | omega | (unfold Sp.byte; rw [if_pos (by omega)]; omega)
  · refine ⟨⟨rfl, ?_, ?_, ?_, ?_, ?_, ?_⟩, trivial⟩ <;> simp only [] <;> first | omega | (unfold Sp.byte; rw [if_pos (by omega)]; omega)
theorem pieces_good {a b c n : Int} (ha : 0 ≤ a ∧ a < 18446744073709551616) (hb : 0 ≤ b ∧ b < 18446744073709551616) (h : Sp.okA c n = true) : Good a b c (Sp.pieces a b c n) 0 ∧ tot (Sp.pieces a b c n) = n := by
  obtain ⟨h1, h2, h3, h4⟩ := Sp.okA_iff.1 h
  unfold Sp.pieces
  rw [if_pos h]
  by_cases e : c = 0
  · rw [if_pos e]
    exact ⟨run_first ha h1 h2 (.inl e), run_tot _ _ _⟩
  · rw [if_neg e]
    refine ⟨good_app (run_first ha (by omega) (by omega) (.inr (Int.le_refl _))) ?_, by rw [tot_app, run_tot, run_tot]; omega⟩
    rw [run_tot, show 0 + c = c by omega]
    exact run_second hb (by omega) (by omega) (by omega)
theorem sumN_range {a b c : Int} {l : List Sp.P} (h : Good a b c l 0) (ht : tot l ≤ 8) : ∀ k, k ≤ l.length → 0 ≤ sumN l k ∧ sumN l k ≤ 8 := by
  have hpos : ∀ k, k < l.length → 1 ≤ (l.getD k Sp.p0).n := fun k hk => (good_at h k hk).2.1
  have hup : ∀ j k, k + j = l.length → sumN l k ≤ tot l := by
    intro j
    induction j with
    | zero => intro k hk; rw [← sumN_all, show k = l.length by omega]; exact Int.le_refl _
    | succ j ih =>
      intro k hk
      have h1 := ih (k + 1) (by omega)
      have h2 := hpos k (by omega)
      rw [sumN] at h1
      omega
  intro k hk
  refine ⟨?_, by have := hup (l.length - k) k (by omega); omega⟩
  induction k with
  | zero => exact Int.le_refl _
  | succ k ih =>
    have := ih (by omega)
    have := hpos k (by omega)
    rw [sumN]; omega
/-- The parts of a number. -/
def partsS (l : List Sp.P) (v : Int) : List Int := l.map fun p => partV v p.n p.s
theorem partsS_len (l : List Sp.P) (v : Int) : (partsS l v).length = l.length := by simp [partsS]
theorem partsS_at (l : List Sp.P) (v : Int) (k : Nat) (hk : k < l.length) : (partsS l v).getD k 0 = partV v (l.getD k Sp.p0).n (l.getD k Sp.p0).s := by
  simp [partsS, List.getD, List.getElem?_eq_getElem hk]
theorem partsS_take (l : List Sp.P) (v : Int) (k : Nat) (hk : k < l.length) : (partsS l v).take (k + 1) = (partsS l v).take k ++ [partV v (l.getD k Sp.p0).n (l.getD k Sp.p0).s] := by
  rw [List.take_succ_eq_append_getElem (by rw [partsS_len]; exact hk), ← partsS_at l v k hk, List.getD, List.getElem?_eq_getElem (by rw [partsS_len]; exact hk)]
  rfl
theorem low_put {v m n : Int} (h0 : 0 ≤ m) (h1 : 1 ≤ n) (_h8 : m + n ≤ 8) : putS (cutS v 0 (8 * m)) (8 * m) (8 * n) (cutS v (8 * m) (8 * n)) = cutS v 0 (8 * (m + n)) := by
  have r1 := putS_range (cutS v 0 (8 * m)) (8 * m) (8 * n) (cutS v (8 * m) (8 * n))
  have r2 := cutS_range v 0 (8 * (m + n))
  refine Wd.ext r1.1 r1.2 r2.1 r2.2 fun i hi => ?_
  unfold putS
  rw [tb_word]
  by_cases hp : inP (8 * m) (8 * n) i = true
  · rw [if_pos hp]
    obtain ⟨p1, p2, p3⟩ := of_decide_eq_true hp
    unfold cutS
    rw [tb_word, tb_word]
    have e1 : (((((i : Int) - 8 * m).toNat : Nat) : Int) < 8 * n ∧ 0 ≤ 8 * m + ((((i : Int) - 8 * m).toNat : Nat) : Int)) := by omega
    have e2 : ((i : Int) < 8 * (m + n) ∧ 0 ≤ 0 + (i : Int)) := by omega
    rw [decide_eq_true e1, decide_eq_true e2, decide_eq_true (show (((i : Int) - 8 * m).toNat) < 64 by omega), show (8 * m + ((((i : Int) - 8 * m).toNat : Nat) : Int)).toNat = i by omega, show ((0 : Int) + (i : Int)).toNat = i by omega]
    simp
  · rw [if_neg hp]
    have hp' : ¬ (1 ≤ 8 * n ∧ 8 * m ≤ i ∧ (i : Int) < 8 * m + 8 * n) := fun h => hp (decide_eq_true h)
    unfold cutS
    rw [tb_word, tb_word]
    have e1 : decide ((i : Int) < 8 * m ∧ 0 ≤ 0 + (i : Int)) = decide ((i : Int) < 8 * (m + n) ∧ 0 ≤ 0 + (i : Int)) := decide_eq_decide.2 (by omega)
    rw [e1, decide_eq_true hi, Bool.true_and]
theorem cut_none (v : Int) : cutS v 0 (8 * 0) = 0 := by
  refine Wd.ext (cutS_range _ _ _).1 (cutS_range _ _ _).2 (by decide) (by decide) fun i hi => ?_
  unfold cutS
  rw [tb_word, tb_zero, decide_eq_false (show ¬ ((i : Int) < 8 * 0 ∧ 0 ≤ 0 + (i : Int)) by omega)]
  simp
/-- What was parted is joined. -/
theorem join_back {a b c v : Int} {l : List Sp.P} (h : Good a b c l 0) (ht : tot l ≤ 8) : ∀ k, k ≤ l.length → joinS l (partsS l v) k = cutS v 0 (8 * sumN l k)
  | 0, _ => (cut_none v).symm
  | k + 1, hk => by
    obtain ⟨g1, g2, g3, -⟩ := good_at h k (by omega)
    have r := sumN_range h ht k (by omega)
    have r2 := sumN_range h ht (k + 1) hk
    rw [Int.zero_add] at g1
    unfold joinS
    rw [if_pos (rightB_iff.2 ⟨g2, g3, by omega, by rw [sumN] at r2; omega⟩), join_back h ht k (by omega), partsS_at l v k (by omega), ← partV_yes ⟨g2, g3, by omega, by rw [sumN] at r2; omega⟩, g1, low_put r.1 g2 (by rw [sumN] at r2; omega), sumN]
theorem cut_all {v : Int} (h0 : 0 ≤ v) (h1 : v < 18446744073709551616) : cutS v 0 (8 * 8) = v := by
  refine Wd.ext (cutS_range _ _ _).1 (cutS_range _ _ _).2 h0 h1 fun i hi => ?_
  unfold cutS
  rw [tb_word, decide_eq_true hi, decide_eq_true (show (i : Int) < 8 * 8 ∧ 0 ≤ 0 + (i : Int) by omega), show ((0 : Int) + (i : Int)).toNat = i by omega]
  simp
theorem and_cut {v : Int} (h0 : 0 ≤ v) (h1 : v < 18446744073709551616) (n : Nat) (h8 : n < 8) : bits .and .u64 v (2 ^ (8 * n) - 1) = cutS v 0 (8 * (n : Int)) := by
  have hp := pow_le (k := 8 * n) (by omega)
  have r := and_range h0 h1 (y := 2 ^ (8 * n) - 1) (by omega) (by omega)
  refine Wd.ext r.1 r.2 (cutS_range _ _ _).1 (cutS_range _ _ _).2 fun i hi => ?_
  rw [tb_and h0 h1 (by omega) (by omega), tb_pow_sub_one]
  unfold cutS
  rw [tb_word, show ((0 : Int) + (i : Int)).toNat = i by omega, decide_eq_true hi, Bool.true_and, Bool.and_comm]
  congr 1
  exact decide_eq_decide.2 (by omega)
end Go.Proofs.YtjeolfcefeglpabGreat
