/-
  Contracts of csr.numbered, Known, Name, Find, Mask, Least, ReadOnly, privilege, May. Contracts of csr.Least, ReadOnly, privilege, May, Legal. The reference of layer 19: Rows, Of, Number, Least, ReadOnly, May.
-/
import Derived.Test.YtkbgmppbkllnmaaDoorUaf
import Derived.Great.BuildSlice
set_option maxRecDepth 20000
namespace Go.Proofs.YtkbgmppbkllnmaaDoor
open Go.ChangeShapes Go.WideShapes Go.ChangeAt Go.RowKit Wd Csr

set_option maxHeartbeats 2000000 in
theorem numbered_c (n : Int) (w : World) (hN : RowsIn w) : Calls Tryd.prog 102 #[.int .i64 n] w fun e w' => e = .returned (rVal (fstC (isNum n))) ∧ Below w.heap.size w w' := by
  have HN := Lib.hid hN
  clear hN
  go_enter Tryd.func102, Tryd.ntmps102
  go_upto_region 1 with (fail)
  have h1 : CsAt ((w.alloc (.cells #[.int .i64 n] 3)).alloc (.cells zRow CrT)) (w.heap.size + 1) CrT zRow := by
    have := CsAt.new (w.alloc (.cells #[.int .i64 n] 3)) CrT zRow
    simpa using this
  have h2 : ((w.alloc (.cells #[.int .i64 n] 3)).alloc (.cells zRow CrT)).cell? ⟨w.heap.size, 0, none⟩ = some (.int .i64 n) := by simp [go_sem, World.cell?_alloc_past]
  have h3 : Below w.heap.size w ((w.alloc (.cells #[.int .i64 n] 3)).alloc (.cells zRow CrT)) := ((Below.refl _ _).alloc (Nat.le_refl _) _).alloc (by simp) _
  have h4 : w.heap.size < ((w.alloc (.cells #[.int .i64 n] 3)).alloc (.cells zRow CrT)).heap.size := by simp; omega
  generalize ((w.alloc (.cells #[.int .i64 n] 3)).alloc (.cells zRow CrT)) = w1 at *
  have H1 := Lib.hid h1
  have H2 := Lib.hid h2
  have H3 := Lib.hid h3
  have HC := Lib.hid (cfind_c 107 #[.pointer (some ⟨w.heap.size, 0, none⟩)] (isNum n) w1 (HN.out.low h3) (fun k W _ hb => num1_c _ n _ W ((hb.cell (p := ⟨w.heap.size, 0, none⟩) h4).trans h2)) (Go.Proofs.enters_of Tryd.func107 (by kernel_rfl) rfl))
  clear h1 h2 h3 h4
  go_wp2_with fail
  refine HC.out.mono ?_
  rintro e w2 ⟨rfl, hb⟩
  have HV := Lib.hid (show ∃ (a : Int) (s : ByteArray) (m : Int) (o : Bool), rVal (fstC (isNum n)) = .tuple #[.agg #[.int .i64 a, .string s, .int .u64 m], .bool o] from ⟨_, _, _, _, rfl⟩)
  obtain ⟨a, s, m, o, hv⟩ := HV.out
  rw [hv]
  have hR2 := H1.out.low hb
  have HB := Lib.hid (H3.out.trans (hb.mono H3.out.size))
  have z0 := hR2.cell 0
  have z1 := hR2.cell 1
  have z2 := hR2.cell 2
  have y0 := hR2.frozen 0
  have y1 := hR2.frozen 1
  have y2 := hR2.frozen 2
  clear hb hR2
  have HVV := Lib.hid hv
  clear hv
  simp only [List.getElem?_toArray, List.getElem?_cons_zero, List.getElem?_cons_succ] at z0 z1 z2
  go_wp2_with fail
  refine bodyPost_ret (v := .tuple #[.agg #[.int .i64 a, .string s, .int .u64 m], .bool o]) (by simp [results, Tryd.results102, go_sem, z0, z1, z2]) rfl ⟨by rw [HVV.out], ?_⟩
  exact ((HB.out.setCell (by exact Nat.le_succ _) _).setCell (by exact Nat.le_succ _) _).setCell (by exact Nat.le_succ _) _
theorem rVal_num (n : Int) : rVal (fstC (isNum n)) = .tuple #[.agg #[.int .i64 ((ofN n).1 : Nat), .string (cB (ofN n).2.1), .int .u64 ((ofN n).2.2 : Nat)], .bool (known n)] := rfl
set_option maxHeartbeats 1000000 in
theorem cmask_c (n : Int) (w : World) (hN : RowsIn w) : Calls Tryd.prog 89 #[.int .i64 n] w fun e w' => e = .returned (.int .u64 (maskC n)) ∧ Below w.heap.size w w' := by
  have HC := Lib.hid (numbered_c n w hN)
  clear hN
  go_enter Tryd.func89, Tryd.ntmps89
  go_wp2_with fail
  refine HC.out.mono ?_
  rintro e w1 ⟨rfl, hb⟩
  rw [rVal_num]
  have HB := Lib.hid hb
  clear hb
  generalize (((ofN n).1 : Nat) : Int) = a
  generalize hx : (((ofN n).2.2 : Nat) : Int) = m
  have HX := Lib.hid hx
  clear hx
  generalize cB (ofN n).2.1 = s
  generalize known n = o
  go_wp2_with fail
  go_ret
  exact ⟨by rw [show maskC n = m from HX.out]; rfl, HB.out.alloc HB.out.size _⟩
def numC (s : ByteArray) : Int := ((((fstC (isNam s)).getD noRow).1 : Nat) : Int)
theorem numC_is (s : ByteArray) : (fstC (isNam s)).isSome = (numC s != 0) := by
  unfold numC
  rcases fst_cases (isNam s) with e | ⟨k, hk, e, -⟩
  · rw [e]; rfl
  · rw [e]
    have := row_pos ⟨k, hk⟩
    simp only at this
    exact (by simpa using this : _ = _).symm
/-! ### privileges -/
def leastC (n : Int) : Int := if known n then n / 256 % 4 else 3
def roC (n : Int) : Bool := known n && (n / 1024 % 4 == 3)
def isPrv (p : Int) : Bool := p == 0 || p == 1 || p == 3
def mayC (n p : Int) (wr : Bool) : Bool := known n && isPrv p && !decide (p < leastC n) && (!wr || !roC n)
theorem known_low {n : Int} (h : known n = true) : 256 ≤ n ∧ n ≤ 3860 := by
  obtain ⟨k, hk, rfl, -⟩ := of_known h
  have : ∀ k : Fin 34, 256 ≤ (rowC k.val).1 ∧ (rowC k.val).1 ≤ 3860 := by decide +kernel
  have := this ⟨k, hk⟩
  simp only at this
  omega
theorem and3 (n : Int) : bits .and .i64 n 3 = n % 4 := by
  have h3 : (BitVec.ofInt 64 3).toNat = 2 ^ 2 - 1 := by decide
  have key : (BitVec.ofInt 64 n &&& BitVec.ofInt 64 3).toNat = (n % ((2 ^ 64 : Nat) : Int)).toNat % 2 ^ 2 := by
    rw [BitVec.toNat_and, BitVec.toNat_ofInt, h3, Nat.and_two_pow_sub_one_eq_mod]
  show IntKind.i64.wrap ((BitVec.ofInt 64 n &&& BitVec.ofInt 64 3).toNat : Nat) = n % 4
  rw [key, IntKind.wrap_i64]
  omega
end Go.Proofs.YtkbgmppbkllnmaaDoor
set_option maxRecDepth 20000
namespace Go.Proofs.YtkbgmppbkllnmaaDoor
open Go.ChangeShapes Go.WideShapes Go.ChangeAt Go.RowKit Wd Csr

theorem mayC_is (n p : Int) (wr : Bool) : mayC n p wr = if known n && isPrv p && !decide (p < leastC n) then (!wr || !roC n) else false := by
  unfold mayC
  cases known n <;> cases isPrv p <;> cases decide (p < leastC n) <;> simp
/-- The code's own formula of what a register becomes. -/
theorem legS_768 {old v : Int} (_hv : 0 ≤ v ∧ v < 18446744073709551616) : legS 768 old v = if bits .and .u64 (nextS (maskC 768) old v) 6144 = 4096 then putS (nextS (maskC 768) old v) 11 2 (cutS old 11 2) else nextS (maskC 768) old v := by
  have a := nextS_range (maskC 768) old v
  unfold legS
  by_cases h : cutS (nextS (maskC 768) old v) 11 2 = 2
  · rw [if_pos ⟨rfl, h⟩, if_pos ((prev_iff a).2 h)]
  · rw [if_neg (fun hh => h hh.2), if_neg (fun hh => h ((prev_iff a).1 hh)), if_neg (by omega)]
theorem legS_384 {old v : Int} : legS 384 old v = if nextS (maskC 384) old v / 2 ^ 60 ≠ 0 ∧ nextS (maskC 384) old v / 2 ^ 60 ≠ 8 then old else nextS (maskC 384) old v := by
  have a := nextS_range (maskC 384) old v
  unfold legS
  rw [if_neg (by omega), mode_cut a]
  by_cases h : badMode (nextS (maskC 384) old v)
  · rw [if_pos ⟨rfl, h⟩]; exact (if_pos h).symm
  · rw [if_neg (fun hh => h hh.2)]; exact (if_neg h).symm
theorem legS_rest {n old v : Int} (h : n ≠ 768) (h2 : n ≠ 384) : legS n old v = nextS (maskC n) old v := by
  unfold legS
  rw [if_neg (fun hh => h hh.1), if_neg (fun hh => h2 hh.1)]
set_option maxHeartbeats 2000000 in
theorem clegal_c (n old v : Int) (ho : 0 ≤ old ∧ old < 18446744073709551616) (hv : 0 ≤ v ∧ v < 18446744073709551616) (w : World) (hN : RowsIn w) : Calls Tryd.prog 59 #[.int .i64 n, .int .u64 old, .int .u64 v] w fun e w' => e = .returned (.int .u64 (legS n old v)) ∧ Below w.heap.size w w' := by
  have HC := Lib.hid (cmask_c n w hN)
  have HO := Lib.hid (next_or (mask_range n) ho hv)
  have HX := Lib.hid (nextS_range (maskC n) old v)
  have HP := Lib.hid (prev_put (nextS_range (maskC n) old v) ho)
  clear hN
  by_cases h1 : n = 768
  · subst h1
    have HL := Lib.hid (legS_768 (old := old) hv)
    clear ho hv
    generalize legS 768 old v = z at *
    generalize nextS (maskC 768) old v = x at *
    generalize maskC 768 = m at *
    generalize cutS old 11 2 = c at *
    generalize putS x 11 2 c = y at *
    by_cases hq : bits .and .u64 x 6144 = 4096
    · have hq1 : (bits .and .u64 x 6144 == 4096) = true := by simpa using hq
      rw [if_pos hq] at HL
      clear hq
      go_enter Tryd.func59, Tryd.ntmps59
      go_wp2_with fail
      refine HC.out.mono ?_
      rintro e w1 ⟨rfl, hb⟩
      have HB := Lib.hid hb
      clear hb
      have hor := HO.out
      go_wp2_with fail
      go_ret
      exact ⟨by rw [HL.out]; exact congrArg (fun t => Ending.returned (Value.int .u64 t)) HP.out, HB.out⟩
    · have hq1 : (bits .and .u64 x 6144 == 4096) = false := by simpa using hq
      rw [if_neg hq] at HL
      clear hq
      go_enter Tryd.func59, Tryd.ntmps59
      go_wp2_with fail
      refine HC.out.mono ?_
      rintro e w1 ⟨rfl, hb⟩
      have HB := Lib.hid hb
      clear hb
      have hor := HO.out
      go_wp2_with fail
      go_ret
      exact ⟨by rw [HL.out]; rfl, HB.out⟩
  · by_cases h2 : n = 384
    · subst h2
      have HL := Lib.hid (legS_384 (old := old) (v := v))
      have e1 : ((384 : Int) == 768) = false := by decide
      clear ho hv h1
      generalize legS 384 old v = z at *
      generalize nextS (maskC 384) old v = x at *
      generalize maskC 384 = m at *
      have hx60 : x / 2 ^ 60 = x / 1152921504606846976 := rfl
      rw [hx60] at HL
      clear hx60
      generalize hq : x / 1152921504606846976 = q at *
      by_cases h0 : q = 0
      · have hq0 : (q != 0) = false := by simpa using h0
        rw [if_neg (fun hh => hh.1 h0)] at HL
        clear h0
        go_enter Tryd.func59, Tryd.ntmps59
        go_wp2_with fail
        refine HC.out.mono ?_
        rintro e w1 ⟨rfl, hb⟩
        have HB := Lib.hid hb
        clear hb
        have hor := HO.out
        go_wp2_with fail
        go_ret
        exact ⟨by rw [HL.out]; rfl, HB.out⟩
      · have hq0 : (q != 0) = true := by simpa using h0
        by_cases h8 : q = 8
        · have hq8 : (q != 8) = false := by simpa using h8
          rw [if_neg (fun hh => hh.2 h8)] at HL
          clear h0 h8
          go_enter Tryd.func59, Tryd.ntmps59
          go_wp2_with fail
          refine HC.out.mono ?_
          rintro e w1 ⟨rfl, hb⟩
          have HB := Lib.hid hb
          clear hb
          have hor := HO.out
          go_wp2_with fail
          go_ret
          exact ⟨by rw [HL.out]; rfl, HB.out⟩
        · have hq8 : (q != 8) = true := by simpa using h8
          rw [if_pos ⟨h0, h8⟩] at HL
          clear h0 h8
          go_enter Tryd.func59, Tryd.ntmps59
          go_wp2_with fail
          refine HC.out.mono ?_
          rintro e w1 ⟨rfl, hb⟩
          have HB := Lib.hid hb
          clear hb
          have hor := HO.out
          go_wp2_with fail
          go_ret
          exact ⟨by rw [HL.out]; rfl, HB.out⟩
    · have HL := Lib.hid (legS_rest (old := old) (v := v) h1 h2)
      have e1 : (n == 768) = false := by simpa using h1
      have e2 : (n == 384) = false := by simpa using h2
      clear ho hv h1 h2
      generalize legS n old v = z at *
      generalize nextS (maskC n) old v = x at *
      generalize maskC n = m at *
      go_enter Tryd.func59, Tryd.ntmps59
      go_wp2_with fail
      refine HC.out.mono ?_
      rintro e w1 ⟨rfl, hb⟩
      have HB := Lib.hid hb
      clear hb
      have hor := HO.out
      go_wp2_with fail
      go_ret
      exact ⟨by rw [HL.out]; rfl, HB.out⟩
end Go.Proofs.YtkbgmppbkllnmaaDoor
set_option maxRecDepth 20000
namespace Go.Proofs.YtkbgmppbkllnmaaDoor
open Go.ChangeShapes Go.WideShapes Go.ChangeAt Go.RowKit Wd Csr

abbrev RrT : TypeId := 92
theorem info_rr : (Tryd.prog.info? RrT).map (fun i => (i.zero, i.size, i.bytes)) = some (some (.agg zRow), 3, 32) := by kernel_rfl
def rowV (r : RowC) : List Value := [.int .i64 (r.1 : Nat), .string (cB r.2.1), .int .u64 (r.2.2 : Nat)]
abbrev rrCells : Array Value := (rowsC.flatMap rowV).toArray
set_option maxHeartbeats 4000000 in
set_option maxRecDepth 1000000 in
theorem rrows_c (w : World) : Calls Tryd.prog 40 #[] w fun e w' => e = .returned (.slice (some ⟨w.heap.size, 0, none⟩) 34 34) ∧ w.alloc (.cells rrCells RrT) = w' := by
  go_enter Tryd.func40, Tryd.ntmps40
  obtain ⟨i0, hi, hz0, hz1, hz2⟩ := info_parts info_rr
  go_upto_region 1 with fail
  apply wp_region_lit
  go_wp2_with (with_reducible refine Go.wpList_buildSlice rfl 89 RrT 34 _ rfl ((rowsC.flatMap rowV).toArray) i0 (.agg zRow) Tryd.underlying89 hi hz0 (by rw [hz1]; decide) (by rw [hz1]; decide) (by rw [hz1]; kernel_rfl) ?_)
  go_ret
  exact ⟨rfl, rfl⟩
theorem flat3 {α β : Type} (f : α → List β) (hf : ∀ x, (f x).length = 3) (l : List α) (k j : Nat) (hj : j < 3) (a : α) (ha : l[k]? = some a) : (l.flatMap f)[k * 3 + j]? = (f a)[j]? := by
  induction l generalizing k with
  | nil => simp at ha
  | cons x xs ih =>
    cases k with
    | zero =>
      simp at ha
      subst ha
      rw [List.flatMap_cons, List.getElem?_append_left (by rw [hf]; omega)]
      simp
    | succ k =>
      rw [List.flatMap_cons, List.getElem?_append_right (by rw [hf]; omega), hf]
      rw [show (k + 1) * 3 + j - 3 = k * 3 + j by omega]
      exact ih k (by simpa using ha)
/-- The reference's table in a block. -/
def RRAt (w : World) (g : Nat) : Prop := g < w.heap.size ∧ ∀ k, k < 34 → w.cell? ⟨g, k * 3, none⟩ = some (.int .i64 ((rowC k).1 : Nat)) ∧ w.cell? ⟨g, k * 3 + 1, none⟩ = some (.string (cB (rowC k).2.1)) ∧ w.cell? ⟨g, k * 3 + 2, none⟩ = some (.int .u64 ((rowC k).2.2 : Nat))
theorem RRAt.low {w w' : World} {g : Nat} (h : RRAt w g) (hb : Below w.heap.size w w') : RRAt w' g :=
  ⟨Nat.lt_of_lt_of_le h.1 hb.size, fun k hk => by
    obtain ⟨a, b, c⟩ := h.2 k hk
    exact ⟨(hb.cell (p := ⟨g, k * 3, none⟩) h.1).trans a, (hb.cell (p := ⟨g, k * 3 + 1, none⟩) h.1).trans b, (hb.cell (p := ⟨g, k * 3 + 2, none⟩) h.1).trans c⟩⟩
theorem rrAt_new (w : World) : RRAt (w.alloc (.cells rrCells RrT)) w.heap.size := by
  refine ⟨by simp, fun k hk => ?_⟩
  have h := rowC_get hk
  have c : ∀ j, j < 3 → (w.alloc (.cells rrCells RrT)).cell? ⟨w.heap.size, k * 3 + j, none⟩ = (rowV (rowC k))[j]? := by
    intro j hj
    rw [cell_of_row _ w.heap.size (k * 3 + j) rrCells RrT (0, 0) (heap_alloc_new w _)]
    rw [List.getElem?_toArray]
    exact flat3 rowV (fun x => rfl) rowsC k j hj (rowC k) h
  exact ⟨c 0 (by omega), c 1 (by omega), c 2 (by omega)⟩
set_option maxHeartbeats 2000000 in
theorem rof_c (n : Int) (w : World) : Calls Tryd.prog 82 #[.int .i64 n] w fun e w' => e = .returned (rAgg (ofN n)) ∧ Below w.heap.size w w' := by
  go_enter Tryd.func82, Tryd.ntmps82
  go_wp2_with fail
  refine (rrows_c _).mono ?_
  rintro e w1 ⟨rfl, rfl⟩
  have hr := rrAt_new (w.alloc (.cells zRow RrT))
  have hB : Below w.heap.size w ((w.alloc (.cells zRow RrT)).alloc (.cells rrCells RrT)) := ((Below.refl _ _).alloc (Nat.le_refl _) _).alloc (by simp) _
  have hz : CsAt ((w.alloc (.cells zRow RrT)).alloc (.cells rrCells RrT)) w.heap.size RrT zRow := (CsAt.new w RrT zRow).alloc _
  simp only [World.size_alloc] at hr
  generalize ((w.alloc (.cells zRow RrT)).alloc (.cells rrCells RrT)) = w2 at *
  have HR := Lib.hid hr
  have HB := Lib.hid hB
  have z0 := hz.cell 0
  have z1 := hz.cell 1
  have z2 := hz.cell 2
  have y0 := hz.frozen 0
  have y1 := hz.frozen 1
  have y2 := hz.frozen 2
  simp only [List.getElem?_toArray, List.getElem?_cons_zero, List.getElem?_cons_succ] at z0 z1 z2
  clear hr hB hz
  go_wp2_with fail
  go_loop [4] (fun i => ∃ k : Nat, k ≤ 34 ∧ i = .int .i64 k ∧ ∀ j, j < k → isNum n (rowC j) = false) (fun i => 34 - (intOf i).toNat)
  case atStart => exact ⟨0, by omega, rfl, fun j h => by omega⟩
  case round =>
    obtain ⟨k, hk, rfl, hn⟩ := hrel
    have HN := Lib.hid hn
    clear hn
    by_cases hlt : k < 34
    · obtain ⟨c0, c1, c2⟩ := HR.out.2 k hlt
      have hl2 : (k : Int) < 34 := by omega
      cases hp : isNum n (rowC k)
      · have HP := Lib.hid hp
        have t1 : ((((rowC k).1 : Nat) : Int) == n) = false := hp
        clear hp
        generalize (((rowC k).1 : Nat) : Int) = a at *
        go_wp2_with fail
        go_round
        case rel => exact ⟨k + 1, by omega, by go_num, fun i hi => if e : i = k then e ▸ HP.out else HN.out i (by omega)⟩
        case measure => simp [intOf]; omega
      · have HF := Lib.hid (fst_hit hlt HN.out hp)
        have t1 : ((((rowC k).1 : Nat) : Int) == n) = true := hp
        clear hp
        have HA := Lib.hid (show rAgg (rowC k) = .agg #[.int .i64 ((rowC k).1 : Nat), .string (cB (rowC k).2.1), .int .u64 ((rowC k).2.2 : Nat)] from rfl)
        have HO := Lib.hid (show rAgg (ofN n) = rAgg (rowC k) by unfold ofN; rw [HF.out]; rfl)
        rw [HA.out] at HO
        generalize (((rowC k).1 : Nat) : Int) = a at *
        generalize (((rowC k).2.2 : Nat) : Int) = m at *
        generalize cB (rowC k).2.1 = s at *
        go_wp2_with fail
        refine bodyPost_ret (v := .agg #[.int .i64 a, .string s, .int .u64 m]) (by simp [results, Tryd.results82, go_sem, z0, z1, z2]) rfl ⟨by rw [HO.out], ?_⟩
        exact ((HB.out.setCell (by exact Nat.le_refl _) _).setCell (by exact Nat.le_refl _) _).setCell (by exact Nat.le_refl _) _
    · obtain rfl : k = 34 := by omega
      have HO := Lib.hid (show rAgg (ofN n) = .agg zRow by unfold ofN; rw [fst_none HN.out]; rfl)
      go_wp2_with fail
      refine bodyPost_ret (v := .agg zRow) (by simp [results, Tryd.results82, go_sem, z0, z1, z2]) rfl ⟨by rw [HO.out], ?_⟩
      exact ((HB.out.setCell (by exact Nat.le_refl _) _).setCell (by exact Nat.le_refl _) _).setCell (by exact Nat.le_refl _) _
end Go.Proofs.YtkbgmppbkllnmaaDoor
