/-
  What came in, opened: eight slices of ints; a slice of bytes. What came in, opened: ints, bools, a deed, deeds (layer 12). The law TopWhole, walked.
-/
import Derived.Test.YtjeolfcefeglpabGreatWbc
import Derived.Test.YtjeolfcefeglpabGreatWbl
import Derived.Deep.Slices
set_option maxRecDepth 20000
namespace Go.Proofs.YtjeolfcefeglpabGreat
open Go.ChangeShapes Go.WideShapes Go.ChangeAt Go.RowKit

section
variable {H : Type} {enc : TypeId × Value → H} {w : World} {base : Nat} {spare : Nat → Bool} {held : Bool}
/-- Ints that came in as a slice: where, with room for how many, which. -/
structure InInts (w : World) (p : Option Addr) (cap : Nat) (l : List Int) : Prop where
  vw : Vw w p (iV l)
  nil : p = none → cap = 0
  max : l.length ≤ 9223372036854775807
  rng : ∀ x ∈ l, InI x
theorem open_intsC {v : Value} {fuel : Nat} {x : DataW H × List MemPlace} (hf : DataW.trod enc Tryz.prog w base spare held fuel 45 [v] = some x) : ∃ p cap l, v = .slice p (List.length l) cap ∧ InInts w p cap l := by
  rcases open_ints Tryz.underlying45 Tryz.underlying3 (by kernel_rfl) hf with ⟨hcs, _⟩ | ⟨a, n, cap, zs, hcs, hb, hl, hm, hz, -, hc, hw⟩
  · obtain rfl : v = .slice none 0 0 := by simpa using hcs
    exact ⟨none, 0, [], rfl, .inl rfl, fun _ => rfl, by simp, fun X hX => absurd hX (by simp)⟩
  · obtain rfl : v = .slice (some a) n cap := by simpa using hcs
    have hzn : n ≤ zs.length := by rw [hz]; split <;> omega
    have htl : (zs.take n).length = n := by simp; omega
    refine ⟨some a, cap, zs.take n, by rw [htl], ?_, fun h => (by cases h), by rw [htl]; unfold maxLen at hm; omega, fun x hx => bounds_i64 (hw x (List.mem_of_mem_take hx))⟩
    by_cases hn0 : n = 0
    · exact .inl (by subst hn0; simp)
    · have hsp : a.spot = none := by
        have := World.cell?_spot (hc 0 (by omega))
        simpa [Addr.add] using this
      obtain ⟨b, off, sp⟩ := a
      simp only at hsp
      subst hsp
      refine .inr ⟨b, off, rfl, ?_, fun j u hj => ?_⟩
      · have h0 := hc 0 (by omega)
        rw [add_plain] at h0
        exact block_lt_of_cell h0
      · have hjl := (List.getElem?_eq_some_iff.1 hj).1
        rw [iV_len, htl] at hjl
        have h1 := hc j (by omega)
        rw [add_plain] at h1
        rw [h1, ← hj, List.getElem?_map, List.getElem?_take, if_pos (by omega), List.getD, List.getElem?_eq_getElem (by omega)]
        rfl
theorem open_u8s {r : Reach} {b0 : Nat} {v : Value} {d : DataW H} {ps : List MemPlace} (hval : Value.okWide Tryz.prog w r b0 24 v) (hd : DataW.Trod enc Tryz.prog w base spare held 24 v d ps) : ∃ p n cap l, v = .slice p n cap ∧ Nums .u8 w p n l :=
  open_nums Tryz.underlying24 Tryz.underlying5 (by kernel_rfl) hval hd
end
end Go.Proofs.YtjeolfcefeglpabGreat
set_option maxRecDepth 20000
namespace Go.Proofs.YtjeolfcefeglpabGreat
open Go.ChangeShapes Go.WideShapes Go.ChangeAt Go.RowKit

/-- A deed. -/
structure Dd where
  drop : Bool
  who : Int
  lock : Int
abbrev Dd.cells (d : Dd) : Array Value := #[.bool d.drop, .int .i64 d.who, .int .i64 d.lock]
def dd0 : Dd := ⟨false, 0, 0⟩
structure Dd.In (d : Dd) : Prop where
  who : InI d.who
  lock : InI d.lock
/-- Deeds that came in. -/
structure Dds (w : World) (ao : Option Addr) (n : Nat) (l : List Dd) : Prop where
  len : l.length = n
  max : n ≤ 9223372036854775807
  each : ∀ j, j < n → (l.getD j dd0).In
  at_ : 0 < n → ∃ b off, ao = some ⟨b, off, none⟩ ∧ b < w.heap.size ∧ ∀ j, j < n → ∀ f, f < 3 → w.cell? ⟨b, off + j * 3 + f, none⟩ = (l.getD j dd0).cells[f]?
theorem Dds.low {w W : World} {ao : Option Addr} {n : Nat} {l : List Dd} (h : Dds w ao n l) (hb : Below w.heap.size w W) : Dds W ao n l :=
  ⟨h.len, h.max, h.each, fun hn => by
    obtain ⟨b, off, ha, hlt, hc⟩ := h.at_ hn
    exact ⟨b, off, ha, Nat.lt_of_lt_of_le hlt hb.size, fun j hj f hf => (hb.cell (p := ⟨b, off + j * 3 + f, none⟩) hlt).trans (hc j hj f hf)⟩⟩
/-- Bools that came in. -/
structure Bools (w : World) (ao : Option Addr) (n : Nat) (l : List Bool) : Prop where
  len : l.length = n
  max : n ≤ 9223372036854775807
  at_ : 0 < n → ∃ b off, ao = some ⟨b, off, none⟩ ∧ b < w.heap.size ∧ ∀ j, j < n → w.cell? ⟨b, off + j, none⟩ = some (.bool (l.getD j false))
theorem InInts.low {w W : World} {p : Option Addr} {cap : Nat} {l : List Int} (h : InInts w p cap l) (hb : Below w.heap.size w W) : InInts W p cap l := ⟨h.vw.low hb, h.nil, h.max, h.rng⟩
section
variable {H : Type} {enc : TypeId × Value → H} {w : World} {base : Nat} {spare : Nat → Bool} {held : Bool}
theorem open_intsl {r : Reach} {b0 : Nat} {v : Value} {d : DataW H} {ps : List MemPlace} (hval : Value.okWide Tryz.prog w r b0 45 v) (hd : DataW.Trod enc Tryz.prog w base spare held 45 v d ps) :
    ∃ p cap l, v = .slice p (List.length l) cap ∧ InInts w p cap l := by
  obtain ⟨ao, n, cap, rfl⟩ := okWide_slice Tryz.underlying45 hval
  obtain ⟨fuel, hf⟩ := hd
  exact open_intsC hf
theorem kc_int : Tryz.prog.cellsOf 3 = 1 := by kernel_rfl
theorem kc_bool : Tryz.prog.cellsOf 4 = 1 := by kernel_rfl
theorem open_bools {r : Reach} {b0 : Nat} {v : Value} {d : DataW H} {ps : List MemPlace} (hval : Value.okWide Tryz.prog w r b0 79 v) (hd : DataW.Trod enc Tryz.prog w base spare held 79 v d ps) :
    ∃ ao n cap l, v = .slice ao n cap ∧ Bools w ao n l := by
  obtain ⟨ao, n, cap, rfl⟩ := okWide_slice Tryz.underlying79 hval
  obtain ⟨fuel, hf⟩ := hd
  rcases Go.Deep.open_slice Tryz.underlying79 hf with ⟨hcs, _⟩ | ⟨a, len, cap', m, nf, D, Pl, hcs, hb, hl, hm, hmm, _, hel⟩
  · simp [Value.cells] at hcs
    obtain ⟨rfl, rfl, rfl⟩ := hcs
    exact ⟨_, _, _, [], rfl, rfl, by omega, fun h => by omega⟩
  · simp [Value.cells] at hcs
    obtain ⟨rfl, rfl, rfl⟩ := hcs
    have hmn : n ≤ m := by rw [hmm]; split <;> omega
    have key : ∀ i, i < n → ∃ q : Bool, w.cell? (a.add i) = some (.bool q) := by
      intro i hi
      obtain ⟨cs', hc, htr⟩ := hel i (by omega)
      rw [kc_bool, Nat.mul_one] at hc
      obtain ⟨_, hlen, hat⟩ := World.cells?_some hc
      obtain ⟨q, rfl, -⟩ := DataW.trod_bool Tryz.underlying4 htr
      refine ⟨q, ?_⟩
      have := hat 0 (by omega)
      simpa [Addr.add] using this
    by_cases hn0 : n = 0
    · subst hn0
      exact ⟨_, _, _, [], rfl, rfl, by omega, fun h => by omega⟩
    · obtain ⟨f, hf⟩ := Go.Deep.choose_lt key
      have hz' := hf 0 (by omega)
      have hsp : a.spot = none := by
        have := World.cell?_spot hz'
        simpa [Addr.add] using this
      obtain ⟨b, off, sp⟩ := a
      simp only at hsp
      subst hsp
      have hlt : b < w.heap.size := by
        rw [add_plain] at hz'
        exact block_lt_of_cell hz'
      refine ⟨_, _, _, (List.range n).map f, rfl, by simp, by unfold maxLen at hm; omega, fun _ => ⟨b, off, rfl, hlt, fun j hj => ?_⟩⟩
      have := hf j hj
      rw [add_plain] at this
      rw [this]
      simp [List.getD, hj]
end
end Go.Proofs.YtjeolfcefeglpabGreat
set_option maxRecDepth 20000
namespace Go.Proofs.YtjeolfcefeglpabGreat
open Go.ChangeShapes Go.WideShapes Go.ChangeAt Go.RowKit Wd

theorem zero_b2 (W : World) : (zeroValue 81).run Tryz.prog W = .ok (.agg #[.bool false, .bool false]) W := by kernel_rfl
set_option maxRecDepth 100000 in
set_option maxHeartbeats 16000000 in
theorem whole_walk (w : World) (a b pl : Int) (ao : Option Addr) (n cap : Nat) (l : List Bool) (ha : 0 ≤ a ∧ a ≤ 18446744073709551615) (hb : 0 ≤ b ∧ b ≤ 18446744073709551615) (hp : 0 ≤ pl ∧ pl ≤ 255) (hl : Bools w ao n l) :
    Calls Tryz.prog 4 #[.int .u64 a, .int .u64 b, .int .u8 pl, .slice ao n cap] w fun e w' => e = .returned (.bool true) ∧ Below w.heap.size w w' := by
  have HPK := Lib.hid hl
  have hmx := hl.max
  have HLN := Lib.hid lone_c
  clear hl
  have HC1 := Lib.hid (CsAt.new w CFT (cfC two14))
  have HB1 := Lib.hid (box_below w (cfC two14) CFT)
  go_enter Tryz.func4, Tryz.ntmps4
  go_upto_region 2 with (refine wpList_storeNew (w0 := w) rfl CFT _ _ rfl (cfC ⟨0, 0, 0, 0⟩) (cfC two14) CFT rfl rfl info_cf rfl (cfC_one _) ?_)
  generalize w.alloc (.cells (cfC two14) CFT) = w1 at *
  go_wp2_with (refine wpList_load_row rfl CFT _ rfl w.heap.size rfl CFT (cfC two14) (0, 0) _ HC1.out Tryz.underlying26 rfl info_cf ?_)
  refine (snew_c two14 (by decide) w1).mono ?_
  rintro e w2 ⟨sb, rb, mb, rfl, hs, hb2, g1, g2, g3⟩
  have HS := Lib.hid hs
  have HB2 := Lib.hid (HB1.out.trans (hb2.mono HB1.out.size))
  have HG := Lib.hid (show w.heap.size ≤ sb ∧ w.heap.size ≤ mb ∧ w.heap.size ≤ rb from ⟨Nat.le_trans HB1.out.size g1, Nat.le_trans HB1.out.size g3, Nat.le_trans HB1.out.size g2⟩)
  clear hs hb2 g1 g2 g3 HC1 HB1
  have HS0 := Lib.hid (CsAt.new w2 27 #[.pointer (some ⟨sb, 0, none⟩)])
  have HB3 := Lib.hid (box_below w2 #[.pointer (some ⟨sb, 0, none⟩)] 27)
  have hs3 : w2.heap.size < (w2.alloc (.cells #[.pointer (some ⟨sb, 0, none⟩)] 27)).heap.size := by simp
  have HS3 := Lib.hid hs3
  clear hs3
  go_upto_region 3 with fail
  generalize w2.alloc (.cells #[.pointer (some ⟨sb, 0, none⟩)] 27) = w3 at *
  go_wp2_with fail
  refine (new_yes 2 w3 (by omega) (by omega)).mono ?_
  rintro e w4 ⟨rfl, hl4, hb4⟩
  have HL4 := Lib.hid hl4
  have HB4 := Lib.hid hb4
  clear hl4 hb4
  by_cases hlong : 300 < n
  · have g0 : decide ((n : Int) > 300) = true := by simp; omega
    go_wp2_with fail
    refine (HLN.out _).mono ?_
    rintro e w5 ⟨rfl, hb5⟩
    have HB5 := Lib.hid ((HB2.out.trans ((HB3.out.trans (HB4.out.mono HB3.out.size)).mono HB2.out.size)).trans (hb5.mono (by have := HB2.out.size; have := HB3.out.size; have := HB4.out.size; omega)))
    clear hb5
    go_wp2_with fail
    go_ret
    exact ⟨rfl, HB5.out⟩
  · have g0 : decide ((n : Int) > 300) = false := by simp; omega
    obtain ⟨at_, hat0⟩ : ∃ x, 2147483705 + pl % 7 = x := ⟨_, rfl⟩
    have HAT := Lib.hid (show WhIn at_ by unfold WhIn; omega)
    have gat : IntKind.u64.wrap (2147483705 + pl % 7) = at_ := by rw [IntKind.wrap_u64]; omega
    have gpl : IntKind.u64.wrap (pl % 7) = pl % 7 := by rw [IntKind.wrap_u64]; omega
    clear hat0
    have hz2 := zero_b2
    have HB7 := Lib.hid ((((Below.refl w4.heap.size w4).alloc (Nat.le_refl _) (.cells jobs0 80)).alloc (by simp) (.cells #[.bool false, .bool false] 81)).alloc (by simp; omega) (.cells #[.int .u64 0] 38))
    have HJ7 := Lib.hid (((CsAt.new w4 80 jobs0).alloc (.cells #[.bool false, .bool false] 81)).alloc (.cells #[.int .u64 0] 38))
    have HU7 := Lib.hid ((CsAt.new (w4.alloc (.cells jobs0 80)) 81 #[.bool false, .bool false]).alloc (.cells #[.int .u64 0] 38))
    have HX7 := Lib.hid (CsAt.new ((w4.alloc (.cells jobs0 80)).alloc (.cells #[.bool false, .bool false] 81)) 38 #[.int .u64 0])
    have e1 : (w4.alloc (.cells jobs0 80)).heap.size = w4.heap.size + 1 := by simp
    have e2 : ((w4.alloc (.cells jobs0 80)).alloc (.cells #[.bool false, .bool false] 81)).heap.size = w4.heap.size + 1 + 1 := by simp
    rw [e1] at HU7
    rw [e2] at HX7
    clear e1 e2
    go_wp2_with fail
    generalize ((w4.alloc (.cells jobs0 80)).alloc (.cells #[.bool false, .bool false] 81)).alloc (.cells #[.int .u64 0] 38) = w7 at *
    have HW := Lib.hid (whl_new (a := a) (b := b) (at_ := at_) HS.out HG.out.1 HG.out.2.1 HG.out.2.2 HB2.out (HS0.out.cell 0) HB3.out HL4.out HB4.out HB7.out HS3.out rfl rfl rfl HJ7.out HU7.out HX7.out)
    clear HS HG HB2 HS0 HB3 HL4 HB4 HB7 HS3 HJ7 HU7 HX7 hz2 gat gpl
    generalize w3.heap.size + 1 = lp at *
    generalize w3.heap.size = lmb at *
    generalize w2.heap.size = bs at *
    generalize w4.heap.size + 1 + 1 = xb at *
    generalize w4.heap.size + 1 = ub at *
    generalize w4.heap.size = jb at *
    go_loopw [17, 19] (fun nv iv wr => ∃ (k nn : Nat) (Z : Nat → Prop) (R : Int → List Int) (u : Nat → Bool) (P : Nat → Option Addr × Nat) (J : Nat → Lk.JS), k ≤ n ∧ nn ≤ k ∧ iv = .int .i64 k ∧ nv = .int .i64 nn ∧ WhL Z w wr sb rb mb bs jb ub xb lp w.heap.size lmb R at_ a b u P J) (fun _ iv _ => n - (intOf iv).toNat)
    case atStart => exact ⟨0, 0, _, _, _, _, _, Nat.zero_le _, Nat.le_refl _, rfl, rfl, HW.out⟩
    case round =>
      obtain ⟨k, nn, Z, R, u, P, J, hk, hnn, rfl, rfl, hw⟩ := hrel
      have HWR := Lib.hid hw
      clear hw HW
      by_cases hlt : k < n
      · have e0 : decide ((k : Int) < (n : Int)) = true := by simp; omega
        have gk : (k : Int) < (n : Int) := by omega
        obtain ⟨pb, po, rfl, hpl, hpc⟩ := HPK.out.at_ (by omega)
        have HCI := Lib.hid (fun (W : World) (hb : Below w.heap.size w W) => (hb.cell (p := ⟨pb, po + k, none⟩) hpl).trans (hpc k hlt))
        clear hpc
        generalize l.getD k false = pk at *
        have HBA := Lib.hid (box_below wr #[.int .i64 0] 3)
        have HHA := Lib.hid (CsAt.new wr 3 #[.int .i64 0])
        have HSA := Lib.hid (show (wr.alloc (.cells #[.int .i64 0] 3)).heap.size = wr.heap.size + 1 by simp)
        go_upto_region 15 with fail
        generalize wr.alloc (.cells #[.int .i64 0] 3) = wa at *
        have ci := HCI.out wa (HWR.out.bel.trans (HBA.out.mono HWR.out.bel.size))
        go_upto_if 62 with fail
        go_cut [] (fun wx => ∃ q : Nat, q < 2 ∧ CsAt wx wr.heap.size 3 #[.int .i64 (q : Int)] ∧ Below wr.heap.size wr wx ∧ wx.heap.size = wr.heap.size + 1)
        case first =>
          have fh := HHA.out.frozen 0
          have ch := HHA.out.cell 0
          simp only [List.getElem?_toArray, List.getElem?_cons_zero] at ch
          cases pk
          · go_wp2_with fail
            go_meet
            exact ⟨0, by omega, HHA.out, HBA.out, HSA.out⟩
          · have H1 := Lib.hid (one_set HHA.out (.int .i64 1))
            have H2 := Lib.hid (HBA.out.setCell (p := ⟨wr.heap.size, 0, none⟩) (Nat.le_refl _) (.int .i64 1))
            go_wp2_with fail
            go_meet
            exact ⟨1, by omega, H1.out, H2.out, by rw [World.size_setCell]; exact HSA.out⟩
        case rest =>
          obtain ⟨q, hq, hh1, hb1, hs1⟩ := hcut
          have HH1 := Lib.hid hh1
          have HB1 := Lib.hid hb1
          have HS1 := Lib.hid hs1
          clear hh1 hb1 hs1 HBA HHA HSA ci
          have gq : (q : Int) < 2 := by omega
          go_upto_region 18 with (refine wpList_storeNew (w0 := wc) rfl AKT _ _ rfl (akC Ak.zero) (akC (ldT at_)) AKT rfl rfl info_ak rfl (akC_one _) ?_)
          have HB2 := Lib.hid (HB1.out.trans ((box_below wc (akC (ldT at_)) AKT).mono HB1.out.size))
          have HH2 := Lib.hid (HH1.out.low (box_below wc (akC (ldT at_)) AKT))
          have HA2 := Lib.hid (akAt_new wc (ldT at_))
          have HS2 := Lib.hid (show (wc.alloc (.cells (akC (ldT at_)) AKT)).heap.size = wr.heap.size + 1 + 1 by rw [← HS1.out]; simp)
          clear HB1 HH1
          generalize wc.alloc (.cells (akC (ldT at_)) AKT) = wd at *
          rw [HS1.out] at HA2 ⊢
          have ch := HH2.out.cell 0
          simp only [List.getElem?_toArray, List.getElem?_cons_zero] at ch
          go_upto_if 66 with fail
          go_cut [] (fun wx => ∃ y : Int, (y = a ∨ y = b) ∧ wx.cell? ⟨wr.heap.size, 0, none⟩ = some (.int .i64 (q : Int)) ∧ AkAt wx (wr.heap.size + 1) (whAsk at_ y (q : Int)) ∧ Below wr.heap.size wr wx ∧ wx.heap.size = wr.heap.size + 1 + 1)
          case first =>
            obtain rfl | rfl : q = 0 ∨ q = 1 := by omega
            · go_upto_region 20 with (refine wpList_store_row rfl AKT _ _ rfl (wr.heap.size + 1) (akC (stT2 at_ a)) rfl rfl AKT (akC (ldT at_)) HA2.out.cs info_ak rfl (akC_one _) ?_)
              have HA3 := Lib.hid (show AkAt (wd.setRow (wr.heap.size + 1) (akC (stT2 at_ a))) (wr.heap.size + 1) (stT2 at_ a) from ⟨HA2.out.cs.row _⟩)
              have HB3 := Lib.hid (below_setRow HB2.out (show wr.heap.size ≤ wr.heap.size + 1 by omega) (akC (stT2 at_ a)))
              have HH3 := Lib.hid (show (wd.setRow (wr.heap.size + 1) (akC (stT2 at_ a))).cell? ⟨wr.heap.size, 0, none⟩ = some (.int .i64 ((0 : Nat) : Int)) from (HH2.out.rowFar (c := wr.heap.size + 1) (by omega) _).cell 0)
              have HS3 := Lib.hid (show (wd.setRow (wr.heap.size + 1) (akC (stT2 at_ a))).heap.size = wr.heap.size + 1 + 1 by rw [← HS2.out]; simp)
              clear HA2 HB2 HH2 HS2 ch
              generalize wd.setRow (wr.heap.size + 1) (akC (stT2 at_ a)) = we at *
              have hnr : (nn : Int) < 9223372036854775807 := by omega
              cases hpar : ((nn : Int) % 2 == 1) with
              | false =>
                go_wp2_with fail
                go_meet
                exact ⟨a, .inl rfl, HH3.out, by rw [show (((0 : Nat) : Int)) = 0 from rfl, whAsk_0]; exact HA3.out, HB3.out, HS3.out⟩
              | true =>
                have cd := HA3.out.data
                have fd := HA3.out.cs.frozen 6
                have HA4 := Lib.hid (ask_b (b := b) HA3.out)
                have HB4 := Lib.hid (HB3.out.setCell (p := ⟨wr.heap.size + 1, 6, none⟩) (show wr.heap.size ≤ wr.heap.size + 1 by omega) (.int .u64 b))
                have HH4 := Lib.hid (cell_far (i := 6) HH3.out (show wr.heap.size ≠ wr.heap.size + 1 by omega) (.int .u64 b))
                go_wp2_with fail
                go_meet
                exact ⟨b, .inr rfl, HH4.out, by rw [show (((0 : Nat) : Int)) = 0 from rfl, whAsk_0]; exact HA4.out, HB4.out, by rw [World.size_setCell]; exact HS3.out⟩
            · go_wp2_with fail
              go_meet
              exact ⟨a, .inl rfl, ch, by rw [show (((1 : Nat) : Int)) = 1 from rfl, whAsk_1]; exact HA2.out, HB2.out, HS2.out⟩
          case rest =>
            obtain ⟨y, hy, hh2, ha2, hb2, hs2⟩ := hcut
            have hlts := HWR.out.lts
            have HK := Lib.hid (show WhK (fun x => Z x ∨ (wr.heap.size ≤ x ∧ x < wc.heap.size)) w wc sb rb mb bs jb ub xb lp w.heap.size lmb R at_ a b u P J wr.heap.size (wr.heap.size + 1) q y from
              ⟨HWR.out.more hb2 (fun _ hx => hx) (fun _ hx => .inl hx), .inr ⟨by omega, by omega⟩, .inr ⟨by omega, by omega⟩, hh2, ha2, ⟨by omega, by omega, by omega, by omega, by omega, by omega, by omega, by omega, by omega⟩⟩)
            have HYR := Lib.hid (show 0 ≤ y ∧ y ≤ 18446744073709551615 by rcases hy with rfl | rfl <;> assumption)
            have HY := Lib.hid hy
            clear HWR HH2 HB2 HA2 HS2 HS1 hy hh2 ha2 hb2 hs2 ch hlts
            generalize wr.heap.size + 1 = ab at *
            generalize wr.heap.size = hbk at *
            have ch := HK.out.h
            obtain ⟨cb, fb⟩ := HK.out.busy hq
            have hhk : ∀ V : World, V.cell? ⟨hbk, 0, none⟩ = some (.int .i64 (q : Int)) → V.cell? ⟨hbk, 0, none⟩ = some (.int .i64 (q : Int)) := fun _ h => h
            clear hhk
            obtain ⟨uq, huq⟩ : ∃ x, u q = x := ⟨_, rfl⟩
            rw [huq] at cb
            clear huq
            generalize (fun x => Z x ∨ (hbk ≤ x ∧ x < wc.heap.size)) = Z1 at *
            go_upto_if 78 with fail
            go_cut [] (fun wx => ∃ (Y : Nat → Prop) (u : Nat → Bool) (P : Nat → Option Addr × Nat) (J : Nat → Lk.JS), WhK Y w wx sb rb mb bs jb ub xb lp w.heap.size lmb R at_ a b u P J hbk ab q y)
            case first =>
              cases uq
              · have HM := Lib.hid (HK.out.mark hq true)
                go_upto_region 24 with fail
                generalize wc.setCell ⟨ub, q, none⟩ (.bool true) = wm at *
                clear HK ch cb fb
                obtain ⟨B, T, v0, m1, m2, m3⟩ := HM.out.l.mem
                have HSH := Lib.hid m1.sh
                have hs0 := m1.s0
                clear m1 m2 m3
                have hS0 : wm.drew.cell? ⟨hbk, 0, none⟩ = some (.int .i64 (q : Int)) ∧ AkAt wm.drew ab (whAsk at_ y (q : Int)) ∧ wm.drew.cell? ⟨bs, 0, none⟩ = some (.pointer (some ⟨sb, 0, none⟩)) := ⟨HM.out.h, HM.out.a.low (Below.refl _ _).drew, hs0⟩
                refine wp_region_noPanic ?_
                refine wp_region_held (S := fun W => W.cell? ⟨hbk, 0, none⟩ = some (.int .i64 (q : Int)) ∧ AkAt W ab (whAsk at_ y (q : Int)) ∧ W.cell? ⟨bs, 0, none⟩ = some (.pointer (some ⟨sb, 0, none⟩))) (by kernel_rfl) ?_
                refine takeH (fuel := 6) (i := 0) (.int .i64 (q : Int)) ?_ rfl (by kernel_rfl) (by kernel_rfl) (by kernel_rfl) (fun _ _ _ h => h) (by kernel_rfl) (fun W hS => by have c := hS.1; go_simp) hS0 ?_ ?_
                rotate_left 1
                · go_simp
                  exact rfl
                refine takeH (fuel := 5) (i := 1) (.pointer (some ⟨sb, 0, none⟩)) ?_ rfl (by kernel_rfl) (by kernel_rfl) (by kernel_rfl) (fun _ _ _ h => h) (by kernel_rfl) (fun W hS => by have c := hS.2.2; go_simp) hS0 ?_ ?_
                rotate_left 1
                · go_simp
                  exact rfl
                refine takeH (fuel := 4) (i := 2) (.agg (akC (whAsk at_ y (q : Int)))) ?_ rfl (by kernel_rfl) (by kernel_rfl) (by kernel_rfl) (fun _ _ _ h => h) (by kernel_rfl) (fun W hS => exec_load_row AKT _ rfl ab rfl AKT _ _ hS.2.1.cs Tryz.underlying58 rfl info_ak) hS0 ?_ ?_
                rotate_left 1
                · go_simp
                  exact rfl
                refine wpAnyH_all (fuel := 3) (rs := [3]) (by kernel_rfl) (by decide) ?_
                intro i hi
                obtain rfl : i = 3 := by simpa using hi
                refine wpOp_callX 10 #[.pointer (some ⟨sb, 0, none⟩), .agg (akC (whAsk at_ y (q : Int)))] rfl (by kernel_rfl) (by go_simp) ?_
                refine (sneeds_c (whAsk at_ y (q : Int)) (whAsk_in HAT.out HYR.out) wm.drew (HSH.out.low (Below.refl _ _).drew)).mono ?_
                rintro e w3 ⟨v3, rfl, ho3, hb3⟩
                have HRN := Lib.hid (need_rng (c := two14) (a := whAsk at_ y (q : Int)) (whAsk_in HAT.out HYR.out))
                obtain ⟨ns, hns⟩ : ∃ ns, Sh.needS two14 (whAsk at_ y (q : Int)) = ns := ⟨_, rfl⟩
                have hnl := need_len4 hns
                rw [hns] at ho3 HRN
                clear hns
                obtain ⟨p3, cap3, rfl, hv3, hp3, -⟩ := own_formT ho3
                have hd3 : Below wm.heap.size wm w3 := (Below.refl _ _).drew.trans hb3
                have hM3 := HM.out.more hd3
                have hS3 : w3.cell? ⟨hbk, 0, none⟩ = some (.int .i64 (q : Int)) ∧ AkAt w3 ab (whAsk at_ y (q : Int)) ∧ w3.cell? ⟨bs, 0, none⟩ = some (.pointer (some ⟨sb, 0, none⟩)) := ⟨hM3.h, hM3.a, cell_low hs0 hd3⟩
                refine ⟨_, rfl, hS3, ?_⟩
                refine wpAnyH_all (fuel := 2) (rs := [4]) (by kernel_rfl) (by decide) ?_
                intro i hi
                obtain rfl : i = 4 := by simpa using hi
                refine wpOp_callX 9 #[.slice p3 ns.length cap3] rfl (by kernel_rfl) (by go_simp) ?_
                have hnil3 : p3 = none → cap3 = 0 := fun e => by
                  rcases hp3 with h | ⟨b, h, -⟩
                  · exact h.2
                  · rw [e] at h; cases h
                refine (plan_c p3 cap3 ns w3 hv3 hnil3 (by omega)).mono ?_
                rintro e w4 ⟨v4, rfl, ho4, hb4⟩
                obtain ⟨p4, cap4, rfl, hv4, hp4, -⟩ := own_formT ho4
                have hM4 := hM3.more hb4
                have hS4 : w4.cell? ⟨hbk, 0, none⟩ = some (.int .i64 (q : Int)) ∧ AkAt w4 ab (whAsk at_ y (q : Int)) ∧ w4.cell? ⟨bs, 0, none⟩ = some (.pointer (some ⟨sb, 0, none⟩)) := ⟨hM4.h, hM4.a, cell_low hS3.2.2 hb4⟩
                have hJV : Lk.JvT ⟨Srt.set ns, 0, 0, false⟩ := Lk.JvT.new (by have := Srt.set_len ns; omega) (fun x hx => HRN.out x ((Srt.set_mem _ _).1 hx))
                have hRT : RowT (fun x => (Z1 x ∨ (wm.heap.size ≤ x ∧ x < w3.heap.size)) ∨ (w3.heap.size ≤ x ∧ x < w4.heap.size)) jb (WhR sb mb xb ub) w4 p4 cap4 (Srt.set ns) := by
                  refine ⟨hv4, hp4.imp id fun ⟨b, e, _⟩ => ⟨b, 0, e⟩, fun b o e => ?_⟩
                  rcases hp4 with ⟨h, -⟩ | ⟨b1, h, h1, h2⟩
                  · rw [h] at e; cases e
                  · rw [h] at e
                    cases e
                    have hl3 := hM3.l.lts
                    exact ⟨.inr ⟨h1, h2⟩, by omega, by rintro ((e | e | e) | e) <;> omega⟩
                have hL5 := hM4.lay hq hJV hRT
                have hth := hM4.there hq
                refine ⟨_, rfl, hS4, ?_⟩
                refine takeH (fuel := 1) (i := 5) (.pointer (some ⟨jb, q * 4, none⟩)) ?_ rfl (by kernel_rfl) (by kernel_rfl) (by kernel_rfl) (fun _ _ _ h => h) (by kernel_rfl) (fun W hS => by go_simp) hS4 ?_ ?_
                rotate_left 1
                · go_simp
                  exact rfl
                refine wpAnyH_all (fuel := 0) (rs := [6]) (by kernel_rfl) (by decide) ?_
                intro i hi
                obtain rfl : i = 6 := by simpa using hi
                refine wpOp_unitB (w4.setCells jb (q * 4) [.slice p4 (Srt.set ns).length cap4, .int .i64 0, .int .i64 0, .bool false]) ?_ rfl (by kernel_rfl) (exec_store_mid 47 _ _ rfl jb (q * 4) (jV (.slice p4 (Srt.set ns).length cap4) 0 0 false) rfl rfl hth info_job (by simp [Value.oneCell'])) ?_ ?_
                rotate_left 1
                · go_simp
                  exact rfl
                have HF := Lib.hid hL5
                have hS6 : (w4.setCells jb (q * 4) [.slice p4 (Srt.set ns).length cap4, .int .i64 0, .int .i64 0, .bool false]).cell? ⟨hbk, 0, none⟩ = some (.int .i64 (q : Int)) ∧ AkAt (w4.setCells jb (q * 4) [.slice p4 (Srt.set ns).length cap4, .int .i64 0, .int .i64 0, .bool false]) ab (whAsk at_ y (q : Int)) ∧ (w4.setCells jb (q * 4) [.slice p4 (Srt.set ns).length cap4, .int .i64 0, .int .i64 0, .bool false]).cell? ⟨bs, 0, none⟩ = some (.pointer (some ⟨sb, 0, none⟩)) := ⟨HF.out.h, HF.out.a, by obtain ⟨_, _, _, k1, _, _⟩ := HF.out.l.mem; exact k1.s0⟩
                refine ⟨hS6, ?_⟩
                refine wpAnyH_done (by kernel_rfl) ?_ _
                refine NoPanic.normal ?_
                clear hS0 hS3 hS4 hS6 hM3 hM4 hL5 hth hRT hJV ho3 ho4 hv3 hv4 hb3 hb4 hd3 HSH hs0 HM
                go_wp2_with fail
                go_meet
                exact ⟨_, _, _, _, HF.out⟩
              · go_wp2_with fail
                go_meet
                exact ⟨_, _, _, _, HK.out⟩
            case rest =>
              obtain ⟨Y2, u2, P2, J2, hk2⟩ := hcut
              have HK2 := Lib.hid hk2
              clear hk2 HK ch cb fb
              go_upto_region 25 with fail
              have hS0 : wc.drew.cell? ⟨hbk, 0, none⟩ = some (.int .i64 (q : Int)) := HK2.out.h
              refine wp_region_noPanic ?_
              refine wp_region_held (S := fun W => W.cell? ⟨hbk, 0, none⟩ = some (.int .i64 (q : Int))) (by kernel_rfl) ?_
              refine takeH (fuel := 5) (i := 0) (.int .i64 (q : Int)) ?_ rfl (by kernel_rfl) (by kernel_rfl) (by kernel_rfl) (fun _ _ _ h => h) (by kernel_rfl) (fun W hS => by have c := hS; go_simp) hS0 ?_ ?_
              rotate_left 1
              · go_simp
                exact rfl
              refine takeH (fuel := 4) (i := 1) (.pointer (some ⟨jb, q * 4, none⟩)) ?_ rfl (by kernel_rfl) (by kernel_rfl) (by kernel_rfl) (fun _ _ _ h => h) (by kernel_rfl) (fun W hS => by go_simp) hS0 ?_ ?_
              rotate_left 1
              · go_simp
                exact rfl
              refine takeH (fuel := 3) (i := 2) (.pointer (some ⟨lp, 0, none⟩)) ?_ rfl (by kernel_rfl) (by kernel_rfl) (by kernel_rfl) (fun _ _ _ h => h) (by kernel_rfl) (fun W hS => by go_simp) hS0 ?_ ?_
              rotate_left 1
              · go_simp
                exact rfl
              refine takeH (fuel := 2) (i := 3) (.int .i64 (q : Int)) ?_ rfl (by kernel_rfl) (by kernel_rfl) (by kernel_rfl) (fun _ _ _ h => h) (by kernel_rfl) (fun W hS => by have c := hS; go_simp) hS0 ?_ ?_
              rotate_left 1
              · go_simp
                exact rfl
              refine takeH (fuel := 1) (i := 4) (.func (.func 21) #[] #[.pointer (some ⟨bs, 0, none⟩), .pointer (some ⟨hbk, 0, none⟩), .pointer (some ⟨ab, 0, none⟩), .pointer (some ⟨xb, 0, none⟩)]) ?_ rfl (by kernel_rfl) (by kernel_rfl) (by kernel_rfl) (fun _ _ _ h => h) (by kernel_rfl) (fun W hS => by go_simp) hS0 ?_ ?_
              rotate_left 1
              · go_simp
                exact rfl
              refine wpAnyH_all (fuel := 0) (rs := [5]) (by kernel_rfl) (by decide) ?_
              intro i hi
              obtain rfl : i = 5 := by simpa using hi
              refine wpOp_callX 11 #[.pointer (some ⟨jb, q * 4, none⟩), .pointer (some ⟨lp, 0, none⟩), .int .i64 (q : Int), .func (.func 21) #[] #[.pointer (some ⟨bs, 0, none⟩), .pointer (some ⟨hbk, 0, none⟩), .pointer (some ⟨ab, 0, none⟩), .pointer (some ⟨xb, 0, none⟩)]] rfl (by kernel_rfl) (by go_simp) ?_
              refine ((HK2.out.low (Below.refl _ _).drew).step_c hq HAT.out HYR.out HY.out).mono ?_
              rintro e w5 ⟨rv, R3, J3, rfl, hk3⟩
              have HK3 := Lib.hid hk3
              refine ⟨_, rfl, hk3.h, ?_⟩
              refine wpAnyH_done (by kernel_rfl) ?_ _
              refine NoPanic.normal ?_
              clear hS0 HK2 hk3
              have ch := HK3.out.h
              have hjq := HK3.out.l.jobs q hq
              go_wp2_with fail
              refine (done_c jb (q * 4) _ _ _ _ _ _ w5 hjq).mono ?_
              rintro e w6 ⟨rfl, hb6⟩
              have HK6 := Lib.hid (HK3.out.low hb6)
              generalize ((J3 q).d && ((J3 q).g == ((J3 q).xs.length : Int))) = dn at *
              clear hb6 HK3 ch hjq
              have ch := HK6.out.h
              obtain ⟨cb, fb⟩ := HK6.out.busy hq
              generalize u2 q = uq at *
              go_upto_if 95 with fail
              go_cut [17] (fun s17 wx => ∃ (nn' : Nat) (u : Nat → Bool), nn' ≤ k + 1 ∧ s17 = .int .i64 nn' ∧ WhK Y2 w wx sb rb mb bs jb ub xb lp w.heap.size lmb R3 at_ a b u P2 J3 hbk ab q y)
              case first =>
                cases dn
                · go_wp2_with fail
                  go_meet
                  exact ⟨nn, u2, by omega, rfl, HK6.out⟩
                · have HM7 := Lib.hid (HK6.out.mark hq false)
                  go_upto_region 28 with fail
                  generalize w6.setCell ⟨ub, q, none⟩ (.bool false) = w7 at *
                  clear HK6 ch cb fb
                  have ch := HM7.out.h
                  obtain rfl | rfl : q = 0 ∨ q = 1 := by omega
                  · go_wp2_with fail
                    go_meet
                    exact ⟨nn + 1, _, by omega, by go_num, HM7.out⟩
                  · go_wp2_with fail
                    go_meet
                    exact ⟨nn, _, by omega, rfl, HM7.out⟩
              case rest =>
                obtain ⟨n2, u3, hn2, rfl, hk7⟩ := hcut
                have HK7 := Lib.hid hk7
                clear hk7 HK6 ch cb fb
                obtain ⟨B7, T7, v7, m1, -, m3⟩ := HK7.out.l.mem
                have cx := m1.seen.cell 0
                simp only [List.getElem?_toArray, List.getElem?_cons_zero] at cx
                clear m1
                rcases m3 with rfl | rfl | rfl
                · have f1 : ((0 : Int) != 0) = false := by rfl
                  go_wp2_with fail
                  go_roundw
                  case rel => exact ⟨k + 1, n2, _, _, _, _, _, by omega, by omega, by go_num, rfl, HK7.out.l⟩
                  case measure => simp [intOf]; omega
                · have f2 : (v7 != v7) = false := by simp
                  cases f1 : (v7 != 0) with
                  | false =>
                    go_wp2_with fail
                    go_roundw
                    case rel => exact ⟨k + 1, n2, _, _, _, _, _, by omega, by omega, by go_num, rfl, HK7.out.l⟩
                    case measure => simp [intOf]; omega
                  | true =>
                    go_wp2_with fail
                    go_roundw
                    case rel => exact ⟨k + 1, n2, _, _, _, _, _, by omega, by omega, by go_num, rfl, HK7.out.l⟩
                    case measure => simp [intOf]; omega
                · have f3 : (v7 != v7) = false := by simp
                  cases f1 : (v7 != 0) with
                  | false =>
                    go_wp2_with fail
                    go_roundw
                    case rel => exact ⟨k + 1, n2, _, _, _, _, _, by omega, by omega, by go_num, rfl, HK7.out.l⟩
                    case measure => simp [intOf]; omega
                  | true =>
                    cases f2 : (v7 != a) with
                    | false =>
                      go_wp2_with fail
                      go_roundw
                      case rel => exact ⟨k + 1, n2, _, _, _, _, _, by omega, by omega, by go_num, rfl, HK7.out.l⟩
                      case measure => simp [intOf]; omega
                    | true =>
                      go_wp2_with fail
                      go_roundw
                      case rel => exact ⟨k + 1, n2, _, _, _, _, _, by omega, by omega, by go_num, rfl, HK7.out.l⟩
                      case measure => simp [intOf]; omega
      · obtain rfl : k = n := by omega
        have e0 : decide ((k : Int) < (k : Int)) = false := by simp
        have HBF := Lib.hid HWR.out.bel
        go_wp2_with fail
        refine (HLN.out _).mono ?_
        rintro e w5 ⟨rfl, hb5⟩
        have HB5 := Lib.hid (HBF.out.trans (hb5.mono HBF.out.size))
        clear hb5
        go_wp2_with fail
        go_ret
        exact ⟨rfl, HB5.out⟩
end Go.Proofs.YtjeolfcefeglpabGreat
