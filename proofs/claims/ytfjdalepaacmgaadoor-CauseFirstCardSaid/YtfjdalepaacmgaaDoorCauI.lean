/-
  The reference of layer 21: First; CauseFirst walked.
-/
import Derived.Test.YtfjdalepaacmgaaDoorCauF
set_option maxRecDepth 20000
namespace Go.Proofs.YtfjdalepaacmgaaDoor
open Go.ChangeShapes Go.WideShapes Go.ChangeAt Go.RowKit Wd Cau

def nmsI : List (List UInt8) := [[109, 97, 99, 104, 105, 110, 101, 45, 111, 117, 116, 101, 114], [109, 97, 99, 104, 105, 110, 101, 45, 115, 111, 102, 116], [109, 97, 99, 104, 105, 110, 101, 45, 116, 105, 109, 101], [115, 117, 112, 101, 114, 45, 111, 117, 116, 101, 114], [115, 117, 112, 101, 114, 45, 115, 111, 102, 116], [115, 117, 112, 101, 114, 45, 116, 105, 109, 101]]
abbrev nsCells : Array Value := (nmsI.map fun l => Value.string (kB l)).toArray
theorem info_str1 : (Tryd.prog.info? 9).map (fun i => (i.zero, i.size, i.bytes)) = some (some (.string ⟨#[]⟩), 1, 16) := by kernel_rfl
theorem nms_at : ∀ k : Fin 6, kCV (fstK (isNamK (kB (nmsI.getD k.val [])))) = .tuple #[.agg #[.bool true, .int .i64 (ordK.getD k.val 0 : Nat)], .bool true] := by
  intro k
  obtain ⟨k, hk⟩ := k
  obtain rfl | rfl | rfl | rfl | rfl | rfl : k = 0 ∨ k = 1 ∨ k = 2 ∨ k = 3 ∨ k = 4 ∨ k = 5 := by omega
  all_goals kernel_rfl
/-- What stands while the reference looks for the first one: its result, the list of names. -/
structure NsS (w W : World) : Prop where
  r : CsAt W w.heap.size RcT zCa
  n : CsAt W (w.heap.size + 1) 9 nsCells
  bel : Below w.heap.size w W
theorem NsS.low {w W W' : World} (h : NsS w W) (hb : Below W.heap.size W W') : NsS w W' := ⟨h.r.low hb, h.n.low hb, h.bel.trans (hb.mono h.bel.size)⟩
theorem NsS.new (w : World) : NsS w ((w.alloc (.cells zCa RcT)).alloc (.cells nsCells 9)) := by
  refine ⟨(CsAt.new w RcT zCa).alloc _, ?_, ((Below.refl _ _).alloc (Nat.le_refl _) _).alloc (by simp) _⟩
  have := CsAt.new (w.alloc (.cells zCa RcT)) 9 nsCells
  simpa using this
theorem NsS.name {w W : World} (h : NsS w W) {k : Nat} (hk : k < 6) : W.cell? ⟨w.heap.size + 1, k, none⟩ = some (.string (kB (nmsI.getD k []))) := by
  rw [h.n.cell k]
  obtain rfl | rfl | rfl | rfl | rfl | rfl : k = 0 ∨ k = 1 ∨ k = 2 ∨ k = 3 ∨ k = 4 ∨ k = 5 := by omega
  all_goals rfl
set_option maxHeartbeats 4000000 in
theorem krfirst_c (x : Int) (hx : 0 ≤ x ∧ x < 18446744073709551616) (w : World) : Calls Tryd.prog 28 #[.int .u64 x] w fun e w' => e = .returned (fI x) ∧ Below w.heap.size w w' := by
  have HX := Lib.hid hx
  have HF := Lib.hid (fun s W => krfind_c s W)
  clear hx
  go_enter Tryd.func28, Tryd.ntmps28
  obtain ⟨i0, hi, hz0, hz1, hz2⟩ := info_parts info_str1
  go_wp2_with (with_reducible refine Go.wpList_buildSlice rfl 102 9 6 _ rfl nsCells i0 (.string ⟨#[]⟩) Tryd.underlying102 hi hz0 (by rw [hz1]; decide) (by rw [hz1]; decide) (by rw [hz1]; kernel_rfl) ?_)
  have HS0 := Lib.hid (NsS.new w)
  generalize ((w.alloc (.cells zCa RcT)).alloc (.cells nsCells 9)) = w1 at *
  clear hi hz0 hz1 hz2
  go_loopw [5] (fun iv wr => ∃ k : Nat, k ≤ 6 ∧ iv = .int .i64 k ∧ (∀ j, j < k → tb x (ordK.getD j 0) = false) ∧ NsS w wr) (fun iv _ => 6 - (intOf iv).toNat)
  case atStart => exact ⟨0, Nat.zero_le _, rfl, fun i h => by omega, HS0.out⟩
  case round =>
    obtain ⟨k, hk, rfl, hn, hS⟩ := hrel
    have HN' := Lib.hid hn
    have HS := Lib.hid hS
    clear hn hS HS0
    by_cases hlt : k < 6
    · have c0 := HS.out.name hlt
      have hl2 : (k : Int) < 6 := by omega
      have hq : ordK.getD k 0 < 64 := (by decide : ∀ k : Fin 6, ordK.getD k.val 0 < 64) ⟨k, hlt⟩
      have HC := Lib.hid (HF.out (kB (nmsI.getD k [])))
      rw [nms_at ⟨k, hlt⟩] at HC
      have HBt := Lib.hid (fun W => bit_c x (ordK.getD k 0 : Nat) W HX.out.1 HX.out.2)
      rw [tbI_nat x _ hq] at HBt
      dsimp only at HC
      generalize kB (nmsI.getD k []) = s at *
      have HH := Lib.hid (fun h => ifst_hit (w := x) hlt HN'.out h)
      cases ht : tb x (ordK.getD k 0)
      · rw [ht] at HBt
        have HT := Lib.hid ht
        clear ht HH hq
        generalize hqk : ordK.getD k 0 = q at *
        have HQ := Lib.hid hqk
        clear hqk
        go_wp2_with fail
        refine (HC.out _).mono ?_
        rintro e w2 ⟨rfl, hb⟩
        have HS2 := Lib.hid (HS.out.low hb)
        clear hb c0 HS
        go_wp2_with fail
        have HS3 := Lib.hid (HS2.out.low ((Below.refl w2.heap.size w2).alloc (Nat.le_refl _) (.cells #[.bool true, .int .i64 (q : Nat)] RcT)))
        refine (HBt.out _).mono ?_
        rintro e w3 ⟨rfl, rfl⟩
        go_wp2_with fail
        go_roundw
        case rel => exact ⟨k + 1, by omega, by go_num, fun i hi => if e : i = k then by rw [e, HQ.out]; exact HT.out else HN'.out i (by omega), HS3.out⟩
        case measure => simp [intOf]; omega
      · rw [ht] at HBt
        have HF := Lib.hid (HH.out ht)
        clear ht HH hq
        generalize ordK.getD k 0 = q at *
        go_wp2_with fail
        refine (HC.out _).mono ?_
        rintro e w2 ⟨rfl, hb⟩
        have HS2 := Lib.hid (HS.out.low hb)
        clear hb c0 HS
        go_wp2_with fail
        have HS3 := Lib.hid (HS2.out.low ((Below.refl w2.heap.size w2).alloc (Nat.le_refl _) (.cells #[.bool true, .int .i64 (q : Nat)] RcT)))
        have h5 := CsAt.new w2 RcT #[.bool true, .int .i64 (q : Nat)]
        generalize (w2.alloc (.cells #[.bool true, .int .i64 (q : Nat)] RcT)) = w3 at *
        refine (HBt.out _).mono ?_
        rintro e w4 ⟨rfl, rfl⟩
        have x0 := h5.cell 0
        have x1 := h5.cell 1
        have z0 := HS3.out.r.cell 0
        have z1 := HS3.out.r.cell 1
        have y0 := HS3.out.r.frozen 0
        have y1 := HS3.out.r.frozen 1
        simp only [List.getElem?_toArray, List.getElem?_cons_zero, List.getElem?_cons_succ] at z0 z1 x0 x1
        clear h5
        go_wp2_with fail
        refine bodyPost_ret (v := .tuple #[.agg #[.bool true, .int .i64 q], .bool true]) (by simp [results, Tryd.results28, go_sem, z0, z1]) rfl ⟨by unfold fI; rw [HF.out]; rfl, ?_⟩
        exact ((HS3.out.bel.setCell (by exact Nat.le_refl _) _).setCell (by exact Nat.le_refl _) _)
    · obtain rfl : k = 6 := by omega
      have HF := Lib.hid (ifst_none HN'.out)
      have z0 := HS.out.r.cell 0
      have z1 := HS.out.r.cell 1
      have y0 := HS.out.r.frozen 0
      have y1 := HS.out.r.frozen 1
      simp only [List.getElem?_toArray, List.getElem?_cons_zero, List.getElem?_cons_succ] at z0 z1
      go_wp2_with fail
      refine bodyPost_ret (v := .tuple #[.agg zCa, .bool false]) (by simp [results, Tryd.results28, go_sem, z0, z1]) rfl ⟨by unfold fI; rw [HF.out]; rfl, ?_⟩
      exact ((HS.out.bel.setCell (by exact Nat.le_refl _) _).setCell (by exact Nat.le_refl _) _)
theorem bt2730 {i : Nat} (hi : i < 64) : tb 2730 i = (i == 11 || i == 3 || i == 7 || i == 9 || i == 1 || i == 5) := (by decide +kernel : ∀ i : Fin 64, tb 2730 i.val = (i.val == 11 || i.val == 3 || i.val == 7 || i.val == 9 || i.val == 1 || i.val == 5)) ⟨i, hi⟩
theorem fst_none_iff {x : Int} (hx : 0 ≤ x ∧ x < 18446744073709551616) : (bits .and .u64 x 2730 != 0) = (fstI x).isSome := by
  have hr := and_range hx.1 hx.2 (y := 2730) (by omega) (by omega)
  have hbit : ∀ i, i < 64 → tb (bits .and .u64 x 2730) i = (tb x i && tb 2730 i) := fun i _ => tb_and hx.1 hx.2 (by omega) (by omega) i
  cases h : fstI x with
  | none =>
    have hb : ∀ k ∈ ordK, tb x k = false := by
      unfold fstI at h
      rw [List.find?_eq_none] at h
      intro k hk
      simpa using h k hk
    have hz : bits .and .u64 x 2730 = 0 := by
      apply ext hr.1 hr.2 (by omega) (by omega)
      intro i hi
      rw [hbit i hi, bt2730 hi, tb_zero]
      rcases hd : (i == 11 || i == 3 || i == 7 || i == 9 || i == 1 || i == 5) with _ | _
      · simp
      · have hm : i ∈ ordK := by
          simp at hd
          simp [ordK]; omega
        simp [hb i hm]
    rw [hz]; rfl
  | some c =>
    have hm := List.mem_of_find?_eq_some h
    have ht : tb x c = true := List.find?_some h
    have hc : c < 64 := (by decide : ∀ k ∈ ordK, k < 64) c hm
    have h27 : tb 2730 c = true := (by decide +kernel : ∀ k ∈ ordK, tb 2730 k = true) c hm
    have := hbit c hc
    rw [ht, h27] at this
    simp only [Option.isSome_some, bne_iff_ne, ne_eq]
    intro h0
    rw [h0, tb_zero] at this
    cases this
/-- A bit alone. -/
theorem tb_one {c i : Nat} : tb ((2 : Int) ^ c) i = decide (i = c) := by
  unfold tb
  rw [toNat_pow, Nat.testBit_two_pow]
  exact decide_eq_decide.2 eq_comm
theorem one_range {c : Nat} (h : c < 64) : 0 ≤ (2 : Int) ^ c ∧ (2 : Int) ^ c < 18446744073709551616 := by
  have := pow_le (k := c) (by omega)
  omega
theorem find_mem {x : Int} {c : Nat} (h : fstI x = some c) : c ∈ ordK ∧ tb x c = true := ⟨List.mem_of_find?_eq_some h, List.find?_some h⟩
theorem ord_64 {c : Nat} (h : c ∈ ordK) : c < 64 := (by decide : ∀ k ∈ ordK, k < 64) c h
/-- The first one, taken away; what is then first; both alone. -/
theorem fst_again {x : Int} (hx : 0 ≤ x ∧ x < 18446744073709551616) {c d : Nat} (h : fstI x = some c) (h2 : fstI (bits .andNot .u64 x (2 ^ c)) = some d) : fstI (bits .or .u64 (2 ^ c) (2 ^ d)) = some c := by
  have hc := find_mem h
  have hd := find_mem h2
  have c6 := ord_64 hc.1
  have d6 := ord_64 hd.1
  have e1 := one_range c6
  have e2 := one_range d6
  have hx2 : ∀ i, i < 64 → tb (bits .andNot .u64 x (2 ^ c)) i = (tb x i && !decide (i = c)) := fun i _ => by rw [tb_andNot hx.1 hx.2 e1.1 e1.2, tb_one]
  have ho : ∀ i, i < 64 → tb (bits .or .u64 (2 ^ c) (2 ^ d)) i = (decide (i = c) || decide (i = d)) := fun i _ => by rw [tb_or e1.1 e1.2 e2.1 e2.2, tb_one, tb_one]
  have hdx := hd.2
  rw [hx2 d d6] at hdx
  rw [ifst_bits] at h ⊢
  rw [ho 11 (by omega), ho 3 (by omega), ho 7 (by omega), ho 9 (by omega), ho 1 (by omega), ho 5 (by omega)]
  have hm := hc.1
  have hm2 := hd.1
  simp only [ordK, List.mem_cons, List.not_mem_nil, or_false] at hm hm2
  clear hx2 ho hx h2 hc hd
  rcases hm with rfl | rfl | rfl | rfl | rfl | rfl <;> rcases hm2 with rfl | rfl | rfl | rfl | rfl | rfl <;> simp_all
  all_goals
    revert h
    cases tb x 11 <;> cases tb x 3 <;> cases tb x 7 <;> cases tb x 9 <;> cases tb x 1 <;> simp
theorem ne_self (b : Bool) {n : Int} (hn : I64 n) (W : World) : (binOp .neq RcT (.agg #[.bool b, .int .i64 n]) (.agg #[.bool b, .int .i64 n])).run Tryd.prog W = .ok (.bool false) W := by
  rw [neq_rc b b hn hn W]; simp
theorem eq_self (b : Bool) {n : Int} (hn : I64 n) (W : World) : (binOp .eql CaT (.agg #[.bool b, .int .i64 n]) (.agg #[.bool b, .int .i64 n])).run Tryd.prog W = .ok (.bool true) W := by
  rw [eql_ca b b hn hn W]; simp
set_option maxHeartbeats 8000000 in
theorem first_walk (x : Int) (hx : 0 ≤ x ∧ x < 18446744073709551616) (w : World) (hN : OrderIn w) :
    Calls Tryd.prog 5 #[.int .u64 x] w fun e w' => e = .returned (.bool true) ∧ Below w.heap.size w w' := by
  have HN := Lib.hid hN
  have HL := Lib.hid (fun W h => live21_c W h)
  have H1 := Lib.hid (fun W h => kfirst_c x hx W h)
  have H2 := Lib.hid (fun W => krfirst_c x hx W)
  have hbit := fst_none_iff hx
  have HG := Lib.hid (fun (c d : Nat) h h2 => fst_again (x := x) hx (c := c) (d := d) h h2)
  have HK := Lib.hid (fun (c : Nat) (h : fstI x = some c) => (find_mem h).2)
  have HM := Lib.hid (fun y (c : Nat) (h : fstI y = some c) => ord_64 (find_mem h).1)
  have HR := Lib.hid (fun y (hy : 0 ≤ y ∧ y < 18446744073709551616) W h => kfirst_c y hy W h)
  have HA := Lib.hid (fun (c : Nat) (hc : c < 64) => andNot_range hx.1 hx.2 (one_range hc).1 (one_range hc).2)
  have HBk := Lib.hid (fun k => bitK hx k)
  clear hN hx
  cases hf : fstI x with
  | none =>
    rw [hf] at hbit
    have hv : fI x = .tuple #[.agg zCa, .bool false] := by unfold fI; rw [hf]; rfl
    rw [hv] at H1 H2
    have HE := Lib.hid (fun W => ne_self false (n := 0) ⟨by omega, by omega⟩ W)
    clear hv hf
    go_enter Tryd.func5, Tryd.ntmps5
    go_wp2_with fail
    refine (H1.out _ HN.out).mono ?_
    rintro e w1 ⟨rfl, hb⟩
    have HB1 := Lib.hid hb
    clear hb
    go_wp2_with fail
    have a1 := CsAt.new w1 CaT zCa
    have HB2 := Lib.hid (HB1.out.alloc HB1.out.size (.cells zCa CaT))
    generalize (w1.alloc (.cells zCa CaT)) = w2 at *
    have A1 := Lib.hid a1
    clear a1
    refine (H2.out _).mono ?_
    rintro e w3 ⟨rfl, hb⟩
    have A2 := Lib.hid (A1.out.low hb)
    have HB3 := Lib.hid (HB2.out.trans (hb.mono HB2.out.size))
    clear hb
    go_upto_region 3 with fail
    have a3 := A2.out.alloc (.cells #[.bool false, .int .i64 0] RcT)
    have b3 := CsAt.new w3 RcT #[.bool false, .int .i64 0]
    have HB4 := Lib.hid (HB3.out.alloc HB3.out.size (.cells #[.bool false, .int .i64 0] RcT))
    generalize (w3.alloc (.cells #[.bool false, .int .i64 0] RcT)) = w4 at *
    have z0 := a3.cell 0
    have z1 := a3.cell 1
    have x0 := b3.cell 0
    have x1 := b3.cell 1
    simp only [List.getElem?_toArray, List.getElem?_cons_zero, List.getElem?_cons_succ] at z0 z1 x0 x1
    have A3 := Lib.hid a3
    clear a3 b3
    go_wp2_with (refine wpList_cmp rfl .neq RcT _ _ _ rfl #[.bool false, .int .i64 0] #[.bool false, .int .i64 0] rfl rfl guard_rc _ (HE.out _) ?_)
    refine (HL.out _ (HN.out.low HB4.out)).mono ?_
    rintro e w5 ⟨rfl, hb⟩
    have HB5 := Lib.hid (HB4.out.trans (hb.mono HB4.out.size))
    clear hb
    go_wp2_with fail
    go_ret
    exact ⟨rfl, HB5.out⟩
  | some c =>
    rw [hf] at hbit
    have hv : fI x = .tuple #[.agg #[.bool true, .int .i64 (c : Nat)], .bool true] := by unfold fI; rw [hf]; rfl
    rw [hv] at H1 H2
    have hc := HM.out x c hf
    have ht := HK.out c hf
    have hb1 := HBk.out c
    rw [ht] at hb1
    have hA := HA.out c hc
    have hI : I64 (c : Nat) := ⟨by omega, by omega⟩
    have HE := Lib.hid (fun W => ne_self true hI W)
    have HE2 := Lib.hid (fun W => eq_self true hI W)
    have hw1 : IntKind.u64.wrap (1 * 2 ^ c) = 2 ^ c := by have := one_range hc; rw [IntKind.wrap_u64]; omega
    have hw2 : IntKind.u64.wrap (2 ^ c) = 2 ^ c := by have := one_range hc; rw [IntKind.wrap_u64]; omega
    have HFc := Lib.hid hf
    clear hv hf ht
    go_enter Tryd.func5, Tryd.ntmps5
    go_wp2_with fail
    refine (H1.out _ HN.out).mono ?_
    rintro e w1 ⟨rfl, hb⟩
    have HB1 := Lib.hid hb
    clear hb
    go_wp2_with fail
    have a1 := CsAt.new w1 CaT #[.bool true, .int .i64 (c : Nat)]
    have HB2 := Lib.hid (HB1.out.alloc HB1.out.size (.cells #[.bool true, .int .i64 (c : Nat)] CaT))
    generalize (w1.alloc (.cells #[.bool true, .int .i64 (c : Nat)] CaT)) = w2 at *
    have A1 := Lib.hid a1
    clear a1
    refine (H2.out _).mono ?_
    rintro e w3 ⟨rfl, hb⟩
    have A2 := Lib.hid (A1.out.low hb)
    have HB3 := Lib.hid (HB2.out.trans (hb.mono HB2.out.size))
    clear hb
    go_upto_region 3 with fail
    have a3 := A2.out.alloc (.cells #[.bool true, .int .i64 (c : Nat)] RcT)
    have b3 := CsAt.new w3 RcT #[.bool true, .int .i64 (c : Nat)]
    have HB4 := Lib.hid (HB3.out.alloc HB3.out.size (.cells #[.bool true, .int .i64 (c : Nat)] RcT))
    generalize (w3.alloc (.cells #[.bool true, .int .i64 (c : Nat)] RcT)) = w4 at *
    have z0 := a3.cell 0
    have z1 := a3.cell 1
    have x0 := b3.cell 0
    have x1 := b3.cell 1
    simp only [List.getElem?_toArray, List.getElem?_cons_zero, List.getElem?_cons_succ] at z0 z1 x0 x1
    have A3 := Lib.hid a3
    clear a3 b3
    go_wp2_with (refine wpList_cmp rfl .neq RcT _ _ _ rfl #[.bool true, .int .i64 (c : Nat)] #[.bool true, .int .i64 (c : Nat)] rfl rfl guard_rc _ (HE.out _) ?_)
    refine (HR.out _ hA _ (HN.out.low HB4.out)).mono ?_
    rintro e w5 ⟨rfl, hb⟩
    have HB5 := Lib.hid (HB4.out.trans (hb.mono HB4.out.size))
    have A4 := Lib.hid (A3.out.low hb)
    clear hb z0 z1 x0 x1
    cases hg : fstI (bits .andNot .u64 x (2 ^ c)) with
    | none =>
      rw [show fI (bits .andNot .u64 x (2 ^ c)) = .tuple #[.agg zCa, .bool false] by unfold fI; rw [hg]; rfl]
      clear hg
      go_upto_region 8 with fail
      have a5 := A4.out.alloc (.cells zCa CaT)
      have HB6 := Lib.hid (HB5.out.alloc HB5.out.size (.cells zCa CaT))
      generalize (w5.alloc (.cells zCa CaT)) = w6 at *
      have z0 := a5.cell 0
      have z1 := a5.cell 1
      simp only [List.getElem?_toArray, List.getElem?_cons_zero, List.getElem?_cons_succ] at z0 z1
      clear a5
      go_wp2_with fail
      refine (HL.out _ (HN.out.low HB6.out)).mono ?_
      rintro e w7 ⟨rfl, hb⟩
      have HB7 := Lib.hid (HB6.out.trans (hb.mono HB6.out.size))
      clear hb
      go_wp2_with fail
      go_ret
      exact ⟨rfl, HB7.out⟩
    | some d =>
      rw [show fI (bits .andNot .u64 x (2 ^ c)) = .tuple #[.agg #[.bool true, .int .i64 (d : Nat)], .bool true] by unfold fI; rw [hg]; rfl]
      have hd := HM.out _ d hg
      have hz := HG.out c d HFc.out hg
      have hv1 : IntKind.u64.wrap (1 * 2 ^ d) = 2 ^ d := by have := one_range hd; rw [IntKind.wrap_u64]; omega
      have hv2 : IntKind.u64.wrap (2 ^ d) = 2 ^ d := by have := one_range hd; rw [IntKind.wrap_u64]; omega
      have HO := Lib.hid (or_range (one_range hc).1 (one_range hc).2 (one_range hd).1 (one_range hd).2)
      have HZ := Lib.hid (show fI (bits .or .u64 (2 ^ c) (2 ^ d)) = .tuple #[.agg #[.bool true, .int .i64 (c : Nat)], .bool true] by unfold fI; rw [hz]; rfl)
      clear hg hz
      go_upto_region 9 with fail
      have a5 := A4.out.alloc (.cells #[.bool true, .int .i64 (d : Nat)] CaT)
      have b5 := CsAt.new w5 CaT #[.bool true, .int .i64 (d : Nat)]
      have HB6 := Lib.hid (HB5.out.alloc HB5.out.size (.cells #[.bool true, .int .i64 (d : Nat)] CaT))
      generalize (w5.alloc (.cells #[.bool true, .int .i64 (d : Nat)] CaT)) = w6 at *
      have z1 := a5.cell 1
      have x1 := b5.cell 1
      simp only [List.getElem?_toArray, List.getElem?_cons_zero, List.getElem?_cons_succ] at z1 x1
      have A5 := Lib.hid a5
      clear a5 b5
      go_wp2_with fail
      refine (HR.out _ HO.out _ (HN.out.low HB6.out)).mono ?_
      rintro e w7 ⟨rfl, hb⟩
      have HB7 := Lib.hid (HB6.out.trans (hb.mono HB6.out.size))
      have A6 := Lib.hid (A5.out.low hb)
      clear hb z1 x1
      rw [HZ.out]
      go_upto_region 10 with fail
      have a7 := A6.out.alloc (.cells #[.bool true, .int .i64 (c : Nat)] CaT)
      have b7 := CsAt.new w7 CaT #[.bool true, .int .i64 (c : Nat)]
      have HB8 := Lib.hid (HB7.out.alloc HB7.out.size (.cells #[.bool true, .int .i64 (c : Nat)] CaT))
      generalize (w7.alloc (.cells #[.bool true, .int .i64 (c : Nat)] CaT)) = w8 at *
      have z0 := a7.cell 0
      have z1 := a7.cell 1
      have x0 := b7.cell 0
      have x1 := b7.cell 1
      simp only [List.getElem?_toArray, List.getElem?_cons_zero, List.getElem?_cons_succ] at z0 z1 x0 x1
      clear a7 b7
      go_wp2_with (refine wpList_cmp rfl .eql CaT _ _ _ rfl #[.bool true, .int .i64 (c : Nat)] #[.bool true, .int .i64 (c : Nat)] rfl rfl guard_ca _ (HE2.out _) ?_)
      refine (HL.out _ (HN.out.low HB8.out)).mono ?_
      rintro e w9 ⟨rfl, hb⟩
      have HB9 := Lib.hid (HB8.out.trans (hb.mono HB8.out.size))
      clear hb
      go_wp2_with fail
      go_ret
      exact ⟨rfl, HB9.out⟩
theorem cfirst_walk (x : Int) (hx : 0 ≤ x ∧ x ≤ 18446744073709551615) (w : World) (hN : OrderIn w) :
    Calls Tryd.prog 5 #[.int .u64 x] w fun e w' => e = .returned (.bool true) ∧ Below w.heap.size w w' :=
  first_walk x ⟨hx.1, by omega⟩ w hN
end Go.Proofs.YtfjdalepaacmgaaDoor
