/-
  The reference of layer 19: Number, Least, ReadOnly, May. The reference of layer 19: Legal. Contracts of status.place, Has, Lets, Data, View, Lay, and of the reference's View, Lay, Data, Lets.
-/
import Derived.Test.YtkbgmppbkllnmaaDoorUag
import Derived.Test.YtkbgmppbkllnmaaDoorUae
import Derived.Test.YtkbgmppbkllnmaaDoorUaf
set_option maxRecDepth 20000
namespace Go.Proofs.YtkbgmppbkllnmaaDoor
open Go.ChangeShapes Go.WideShapes Go.ChangeAt Go.RowKit Wd Csr

theorem isNam_cB (s : ByteArray) (r : RowC) : isNam s r = ((cB r.2.1).toList == s.toList) := by unfold isNam cB; simp
set_option maxHeartbeats 2000000 in
theorem rnum_c (s : ByteArray) (w : World) : Calls Tryd.prog 75 #[.string s] w fun e w' => e = .returned (.int .i64 (numC s)) ∧ Below w.heap.size w w' := by
  go_enter Tryd.func75, Tryd.ntmps75
  go_wp2_with fail
  refine (rrows_c _).mono ?_
  rintro e w1 ⟨rfl, rfl⟩
  have hr := rrAt_new w
  have hB : Below w.heap.size w (w.alloc (.cells rrCells RrT)) := (Below.refl _ _).alloc (Nat.le_refl _) _
  generalize (w.alloc (.cells rrCells RrT)) = w2 at *
  have HR := Lib.hid hr
  have HB := Lib.hid hB
  clear hr hB
  go_wp2_with fail
  go_loop [4] (fun i => ∃ k : Nat, k ≤ 34 ∧ i = .int .i64 k ∧ ∀ j, j < k → isNam s (rowC j) = false) (fun i => 34 - (intOf i).toNat)
  case atStart => exact ⟨0, by omega, rfl, fun j h => by omega⟩
  case round =>
    obtain ⟨k, hk, rfl, hn⟩ := hrel
    have HN := Lib.hid hn
    clear hn
    by_cases hlt : k < 34
    · obtain ⟨c0, c1, c2⟩ := HR.out.2 k hlt
      have hl2 : (k : Int) < 34 := by omega
      cases hp : isNam s (rowC k)
      · have HP := Lib.hid hp
        have t1 : ((cB (rowC k).2.1).toList == s.toList) = false := by rw [← isNam_cB]; exact hp
        clear hp
        generalize cB (rowC k).2.1 = b at *
        go_wp2_with fail
        go_round
        case rel => exact ⟨k + 1, by omega, by go_num, fun i hi => if e : i = k then e ▸ HP.out else HN.out i (by omega)⟩
        case measure => simp [intOf]; omega
      · have HO := Lib.hid (show numC s = ((rowC k).1 : Nat) by unfold numC; rw [fst_hit hlt HN.out hp]; rfl)
        have t1 : ((cB (rowC k).2.1).toList == s.toList) = true := by rw [← isNam_cB]; exact hp
        clear hp
        generalize (((rowC k).1 : Nat) : Int) = a at *
        generalize cB (rowC k).2.1 = b at *
        go_wp2_with fail
        go_ret
        exact ⟨by rw [HO.out]; rfl, HB.out⟩
    · obtain rfl : k = 34 := by omega
      have HO := Lib.hid (show numC s = 0 by unfold numC; rw [fst_none HN.out]; rfl)
      go_wp2_with fail
      go_ret
      exact ⟨by rw [HO.out]; rfl, HB.out⟩
theorem fld_rr0 (a : Int) (s : ByteArray) (m : Int) (w : World) : (Instr.field RrT (.agg #[.int .i64 a, .string s, .int .u64 m]) 0).run Tryd.prog w = .ok (.int .i64 a) w := by kernel_rfl
theorem fld_rr1 (a : Int) (s : ByteArray) (m : Int) (w : World) : (Instr.field RrT (.agg #[.int .i64 a, .string s, .int .u64 m]) 1).run Tryd.prog w = .ok (.string s) w := by kernel_rfl
theorem fld_rr2 (a : Int) (s : ByteArray) (m : Int) (w : World) : (Instr.field RrT (.agg #[.int .i64 a, .string s, .int .u64 m]) 2).run Tryd.prog w = .ok (.int .u64 m) w := by kernel_rfl
theorem of_parts (n : Int) : ∃ (a : Int) (s : ByteArray) (m : Int), rAgg (ofN n) = .agg #[.int .i64 a, .string s, .int .u64 m] ∧ known n = (a != 0) ∧ m = maskC n ∧ s = cB (ofN n).2.1 :=
  ⟨_, _, _, rfl, known_iff n, rfl, rfl⟩
theorem mayC_is' (n p : Int) (wr : Bool) : mayC n p wr = if isPrv p && known n && !decide (p < leastC n) then (!wr || !roC n) else false := by
  unfold mayC
  cases known n <;> cases isPrv p <;> cases decide (p < leastC n) <;> simp
end Go.Proofs.YtkbgmppbkllnmaaDoor
set_option maxRecDepth 20000
namespace Go.Proofs.YtkbgmppbkllnmaaDoor
open Go.ChangeShapes Go.WideShapes Go.ChangeAt Go.RowKit Wd Csr

theorem legS_def {n old v m : Int} (hm : m = maskC n) : legS n old v = if n = 768 ∧ cutS (nextS m old v) 11 2 = 2 then putS (nextS m old v) 11 2 (cutS old 11 2) else if n = 384 ∧ cutS (nextS m old v) 60 4 ≠ 0 ∧ cutS (nextS m old v) 60 4 ≠ 8 then old else nextS m old v := by
  subst hm
  unfold legS
  generalize nextS (maskC n) old v = x
  by_cases h : n = 768 ∧ cutS x 11 2 = 2
  · rw [if_pos h, if_pos h]
  · rw [if_neg h, if_neg h]
    by_cases h2 : n = 384 ∧ badMode x
    · rw [if_pos h2]; exact (if_pos h2).symm
    · rw [if_neg h2]; exact (if_neg h2).symm
set_option maxHeartbeats 4000000 in
theorem rlegal_c (n old v : Int) (ho : 0 ≤ old ∧ old < 18446744073709551616) (hv : 0 ≤ v ∧ v < 18446744073709551616) (w : World) :
    Calls Tryd.prog 76 #[.int .i64 n, .int .u64 old, .int .u64 v] w fun e w' => e = .returned (.int .u64 (legS n old v)) ∧ Below w.heap.size w w' := by
  have HC := Lib.hid (rof_c n w)
  obtain ⟨a, s, m, hr, -, hm, -⟩ := of_parts n
  rw [hr] at HC
  have f2 := fld_rr2 a s m
  have HM := Lib.hid (show 0 ≤ m ∧ m < 18446744073709551616 by rw [hm]; exact mask_range n)
  have HO := Lib.hid ho
  have HV := Lib.hid hv
  have HX := Lib.hid (nextS_range m old v)
  have HL := Lib.hid (show legS n old v = if n = 768 ∧ cutS (nextS m old v) 11 2 = 2 then putS (nextS m old v) 11 2 (cutS old 11 2) else if n = 384 ∧ cutS (nextS m old v) 60 4 ≠ 0 ∧ cutS (nextS m old v) 60 4 ≠ 8 then old else nextS m old v from legS_def hm)
  obtain ⟨i0, hi, hz0, hz1, hz2⟩ := info_parts info_u64
  obtain ⟨f, hf⟩ : ∃ f : Nat → Bool, f = fun (i : Nat) => if tb m i then tb v i else tb old i := ⟨_, rfl⟩
  have HF := Lib.hid hf
  clear hf hr hm ho hv
  go_enter Tryd.func76, Tryd.ntmps76
  go_wp2_with fail
  refine HC.out.mono ?_
  rintro e w1 ⟨rfl, hb⟩
  have HB1 := Lib.hid hb
  clear hb
  go_wp2_with fail
  go_loopw [8, 9] (fun l i wr => ∃ k : Nat, k ≤ 64 ∧ i = .int .i64 k ∧ wr.ownsRow w1.heap.size 25 1 l k (bl f k) ∧ Below w1.heap.size w1 wr) (fun _ i _ => 64 - (intOf i).toNat)
  case atStart => exact ⟨0, Nat.zero_le _, rfl, World.ownsRow_nil _ _ _ _, Below.refl _ _⟩
  case round =>
    obtain ⟨k, hk, rfl, hown, hnx⟩ := hrel
    have hsz := hnx.size
    have HW := Lib.hid hown
    have HNX := Lib.hid hnx
    clear hown hnx
    by_cases hlt : k < 64
    · have hd1 : decide ((k : Int) < 64) = true := decide_eq_true (by omega)
      cases hbit : tb m k
      · have HB := Lib.hid (show tbI old k = f k by rw [HF.out, tbI_nat old k hlt]; simp [hbit])
        have t1 : (bi (tbI m k) == 1) = false := by rw [tbI_nat m k hlt, hbit]; rfl
        clear hbit
        go_wp2_with fail
        refine (bit_c m k _ HM.out.1 HM.out.2).mono ?_
        rintro e w2 ⟨rfl, rfl⟩
        go_wp2_with fail
        refine (bit_c old k _ HO.out.1 HO.out.2).mono ?_
        rintro e w2 ⟨rfl, rfl⟩
        go_wp2_with (at_builtin; refine wpList_append_own _ rfl _ _ 142 rfl w1.heap.size 25 i0 (.int .u64 0) 1 8 Tryd.underlying142 hi hz0 hz1 hz2 rfl (by decide) _ _ _ rfl (HW.out.alloc _) ⟨wr.heap.size, 0, none⟩ 1 1 [.int .u64 (bi (tbI old k))] rfl rfl news_one (one_cell _) (by unfold maxLen; omega) (by omega) (by simp; omega) ?_; intro v' w3 hown' hgrow _)
        have R := rel_app hsz HB.out HW.out hown' hgrow HNX.out
        go_roundw
        case rel => exact ⟨k + 1, by omega, by go_num, R.1, R.2⟩
        case measure => simp [intOf]; omega
      · have HB := Lib.hid (show tbI v k = f k by rw [HF.out, tbI_nat v k hlt]; simp [hbit])
        have t1 : (bi (tbI m k) == 1) = true := by rw [tbI_nat m k hlt, hbit]; rfl
        clear hbit
        go_wp2_with fail
        refine (bit_c m k _ HM.out.1 HM.out.2).mono ?_
        rintro e w2 ⟨rfl, rfl⟩
        go_wp2_with fail
        refine (bit_c v k _ HV.out.1 HV.out.2).mono ?_
        rintro e w2 ⟨rfl, rfl⟩
        go_wp2_with (at_builtin; refine wpList_append_own _ rfl _ _ 142 rfl w1.heap.size 25 i0 (.int .u64 0) 1 8 Tryd.underlying142 hi hz0 hz1 hz2 rfl (by decide) _ _ _ rfl (HW.out.alloc _) ⟨wr.heap.size, 0, none⟩ 1 1 [.int .u64 (bi (tbI v k))] rfl rfl news_one (one_cell _) (by unfold maxLen; omega) (by omega) (by simp; omega) ?_; intro v' w3 hown' hgrow _)
        have R := rel_app hsz HB.out HW.out hown' hgrow HNX.out
        go_roundw
        case rel => exact ⟨k + 1, by omega, by go_num, R.1, R.2⟩
        case measure => simp [intOf]; omega
    · obtain rfl : k = 64 := by omega
      have HX2 := Lib.hid (show ((sumTo f 64 : Nat) : Int) = nextS m old v by rw [HF.out]; rfl)
      have HBW := Lib.hid (HB1.out.trans (HNX.out.mono HB1.out.size))
      have HOF := Lib.hid (of_c f 64 _ w1.heap.size _ (by omega) (by omega) HW.out)
      rw [HX2.out] at HOF
      generalize nextS m old v = x at *
      have HCx := Lib.hid (fun W => refCut_c x 11 2 W HX.out.1 HX.out.2 (by omega) (by omega))
      have HCo := Lib.hid (fun W => refCut_c old 11 2 W HO.out.1 HO.out.2 (by omega) (by omega))
      have HP := Lib.hid (fun W => refPut_c x 11 2 (cutS old 11 2) W HX.out.1 HX.out.2 (by omega) (by omega) (cutS_range _ _ _).1 (cutS_range _ _ _).2)
      have HCy := Lib.hid (fun W y (hy : 0 ≤ y ∧ y < 18446744073709551616) => refCut_c y 60 4 W hy.1 hy.2 (by omega) (by omega))
      have HPR := Lib.hid (putS_range x 11 2 (cutS old 11 2))
      clear hsz
      by_cases h1 : n = 768
      · subst h1
        have e2 : ((768 : Int) == 384) = false := by decide
        by_cases h2 : cutS x 11 2 = 2
        · have t2 : (cutS x 11 2 == 2) = true := by simpa using h2
          have HL2 := Lib.hid (show legS 768 old v = putS x 11 2 (cutS old 11 2) by rw [HL.out, if_pos ⟨rfl, h2⟩])
          clear h2 HL
          generalize cutS x 11 2 = c at *
          generalize cutS old 11 2 = d at *
          generalize hy : putS x 11 2 d = y at *
          go_wp2_with fail
          refine HOF.out.mono ?_
          rintro e w3 ⟨rfl, rfl⟩
          go_wp2_with fail
          refine (HCx.out _).mono ?_
          rintro e w3 ⟨rfl, hb⟩
          have HB3 := Lib.hid (HBW.out.trans (hb.mono HBW.out.size))
          clear hb
          go_wp2_with fail
          refine (HCo.out _).mono ?_
          rintro e w4 ⟨rfl, hb⟩
          have HB4 := Lib.hid (HB3.out.trans (hb.mono HB3.out.size))
          clear hb
          go_wp2_with fail
          refine (HP.out _).mono ?_
          rintro e w5 ⟨rfl, hb⟩
          have HB5 := Lib.hid (HB4.out.trans (hb.mono HB4.out.size))
          clear hb
          go_wp2_with fail
          refine (HCy.out _ y HPR.out).mono ?_
          rintro e w6 ⟨rfl, hb⟩
          have HB6 := Lib.hid (HB5.out.trans (hb.mono HB5.out.size))
          clear hb
          go_wp2_with fail
          go_ret
          exact ⟨by rw [HL2.out]; rfl, HB6.out⟩
        · have t2 : (cutS x 11 2 == 2) = false := by simpa using h2
          have HL2 := Lib.hid (show legS 768 old v = x by rw [HL.out, if_neg (fun h => h2 h.2), if_neg (by omega)])
          clear h2 HL
          generalize cutS x 11 2 = c at *
          go_wp2_with fail
          refine HOF.out.mono ?_
          rintro e w3 ⟨rfl, rfl⟩
          go_wp2_with fail
          refine (HCx.out _).mono ?_
          rintro e w3 ⟨rfl, hb⟩
          have HB3 := Lib.hid (HBW.out.trans (hb.mono HBW.out.size))
          clear hb
          go_wp2_with fail
          refine (HCy.out _ x HX.out).mono ?_
          rintro e w6 ⟨rfl, hb⟩
          have HB6 := Lib.hid (HB3.out.trans (hb.mono HB3.out.size))
          clear hb
          go_wp2_with fail
          go_ret
          exact ⟨by rw [HL2.out]; rfl, HB6.out⟩
      · have e1 : (n == 768) = false := by simpa using h1
        by_cases h3 : n = 384
        · subst h3
          have HCZ := Lib.hid (fun W => HCy.out W x HX.out)
          by_cases h0 : cutS x 60 4 = 0
          · have t0 : (cutS x 60 4 != 0) = false := by simpa using h0
            have HL2 := Lib.hid (show legS 384 old v = x by rw [HL.out, if_neg (by omega), if_neg (fun h => h.2.1 h0)])
            clear h0 HL HCy h1
            generalize cutS x 60 4 = c at *
            go_wp2_with fail
            refine HOF.out.mono ?_
            rintro e w3 ⟨rfl, rfl⟩
            go_wp2_with fail
            refine (HCZ.out _).mono ?_
            rintro e w6 ⟨rfl, hb⟩
            have HB6 := Lib.hid (HBW.out.trans (hb.mono HBW.out.size))
            clear hb
            go_wp2_with fail
            go_ret
            exact ⟨by rw [HL2.out]; rfl, HB6.out⟩
          · have t0 : (cutS x 60 4 != 0) = true := by simpa using h0
            by_cases h8 : cutS x 60 4 = 8
            · have t8 : (cutS x 60 4 != 8) = false := by simpa using h8
              have HL2 := Lib.hid (show legS 384 old v = x by rw [HL.out, if_neg (by omega), if_neg (fun h => h.2.2 h8)])
              clear h0 h8 HL HCy h1
              generalize cutS x 60 4 = c at *
              go_wp2_with fail
              refine HOF.out.mono ?_
              rintro e w3 ⟨rfl, rfl⟩
              go_wp2_with fail
              refine (HCZ.out _).mono ?_
              rintro e w6 ⟨rfl, hb⟩
              have HB6 := Lib.hid (HBW.out.trans (hb.mono HBW.out.size))
              clear hb
              go_wp2_with fail
              go_ret
              exact ⟨by rw [HL2.out]; rfl, HB6.out⟩
            · have t8 : (cutS x 60 4 != 8) = true := by simpa using h8
              have HL2 := Lib.hid (show legS 384 old v = old by rw [HL.out, if_neg (by omega), if_pos ⟨rfl, h0, h8⟩])
              clear h0 h8 HL HCy h1
              generalize cutS x 60 4 = c at *
              go_wp2_with fail
              refine HOF.out.mono ?_
              rintro e w3 ⟨rfl, rfl⟩
              go_wp2_with fail
              refine (HCZ.out _).mono ?_
              rintro e w6 ⟨rfl, hb⟩
              have HB6 := Lib.hid (HBW.out.trans (hb.mono HBW.out.size))
              clear hb
              go_wp2_with fail
              go_ret
              exact ⟨by rw [HL2.out]; rfl, HB6.out⟩
        · have e3 : (n == 384) = false := by simpa using h3
          have HL2 := Lib.hid (show legS n old v = x by rw [HL.out, if_neg (fun h => h1 h.1), if_neg (fun h => h3 h.1)])
          have HCZ := Lib.hid (fun W => HCy.out W x HX.out)
          clear HL HCy h1 h3
          generalize cutS x 60 4 = c at *
          go_wp2_with fail
          refine HOF.out.mono ?_
          rintro e w3 ⟨rfl, rfl⟩
          go_wp2_with fail
          refine (HCZ.out _).mono ?_
          rintro e w6 ⟨rfl, hb⟩
          have HB6 := Lib.hid (HBW.out.trans (hb.mono HBW.out.size))
          clear hb
          go_wp2_with fail
          go_ret
          exact ⟨by rw [HL2.out]; rfl, HB6.out⟩
end Go.Proofs.YtkbgmppbkllnmaaDoor
set_option maxRecDepth 20000
namespace Go.Proofs.YtkbgmppbkllnmaaDoor
open Go.ChangeShapes Go.WideShapes Go.ChangeAt Go.RowKit Wd Csr Sta

def plI (s : ByteArray) : Int := if atI s = -1 then 0 else atI s
def hasS (x : Int) (s : ByteArray) : Bool := bi (tbI x (atI s)) == 1
def letsS (x p dst : Int) : Bool := if dst = 3 then (decide (p < 3) || (p == 3 && (cutS x 3 1 == 1))) else if dst = 1 then (decide (p < 1) || (p == 1 && (cutS x 1 1 == 1))) else false
set_option maxHeartbeats 2000000 in
theorem lets3_c (x p : Int) (hx : W64 x) (w : World) : Calls Tryd.prog 44 #[.int .u64 x, .int .i64 p, .int .i64 3] w fun e w' => e = .returned (.bool (decide (p < 3) || (p == 3 && (cutS x 3 1 == 1)))) ∧ Below w.heap.size w w' := by
  have HG := Lib.hid (fun W => fget_c 3 1 (by omega) (by omega) (by omega) x hx W)
  have HR := Lib.hid (show (decide (p < 3) || (p == 3 && (cutS x 3 1 == 1))) = (decide (p < 3) || (p == 3 && (cutS x ((3 : Nat) : Int) ((1 : Nat) : Int) == 1))) from rfl)
  rw [HR.out]
  clear HR
  generalize cutS x ((3 : Nat) : Int) ((1 : Nat) : Int) = c at *
  generalize hz : (decide (p < 3) || (p == 3 && (c == 1))) = z
  have HZ := Lib.hid hz
  clear hz
  by_cases h1 : p < 3
  · have e1 : decide (p < 3) = true := by simpa using h1
    have HI := Lib.hid (show z = true by rw [← HZ.out, e1]; rfl)
    clear h1
    go_enter Tryd.func44, Tryd.ntmps44
    go_wp2_with fail
    refine (fstk3_c _).mono ?_
    rintro e w1 ⟨rfl, hb⟩
    have HB := Lib.hid hb
    clear hb
    go_wp2_with fail
    go_ret
    exact ⟨by rw [HI.out]; rfl, HB.out.alloc HB.out.size _⟩
  · have e1 : decide (p < 3) = false := by simpa using h1
    by_cases h2 : p = 3
    · subst h2
      have HI := Lib.hid (show z = (c == 1) by rw [← HZ.out]; rfl)
      clear h1
      go_enter Tryd.func44, Tryd.ntmps44
      go_wp2_with fail
      refine (fstk3_c _).mono ?_
      rintro e w1 ⟨rfl, hb⟩
      have HB := Lib.hid hb
      clear hb
      go_wp2_with fail
      refine (HG.out _).mono ?_
      rintro e w2 ⟨rfl, hb⟩
      have HB2 := Lib.hid ((HB.out.alloc HB.out.size _).trans (hb.mono (HB.out.alloc HB.out.size _).size))
      clear hb
      go_wp2_with fail
      go_ret
      exact ⟨by rw [HI.out]; rfl, HB2.out⟩
    · have e2 : (p == 3) = false := by simpa using h2
      have HI := Lib.hid (show z = false by rw [← HZ.out, e1, e2]; rfl)
      clear h1 h2
      go_enter Tryd.func44, Tryd.ntmps44
      go_wp2_with fail
      refine (fstk3_c _).mono ?_
      rintro e w1 ⟨rfl, hb⟩
      have HB := Lib.hid hb
      clear hb
      go_wp2_with fail
      go_ret
      exact ⟨by rw [HI.out]; rfl, HB.out.alloc HB.out.size _⟩
set_option maxHeartbeats 2000000 in
theorem lets1_c (x p : Int) (hx : W64 x) (w : World) : Calls Tryd.prog 44 #[.int .u64 x, .int .i64 p, .int .i64 1] w fun e w' => e = .returned (.bool (decide (p < 1) || (p == 1 && (cutS x 1 1 == 1)))) ∧ Below w.heap.size w w' := by
  have HG := Lib.hid (fun W => fget_c 1 1 (by omega) (by omega) (by omega) x hx W)
  have HR := Lib.hid (show (decide (p < 1) || (p == 1 && (cutS x 1 1 == 1))) = (decide (p < 1) || (p == 1 && (cutS x ((1 : Nat) : Int) ((1 : Nat) : Int) == 1))) from rfl)
  rw [HR.out]
  clear HR
  generalize cutS x ((1 : Nat) : Int) ((1 : Nat) : Int) = c at *
  generalize hz : (decide (p < 1) || (p == 1 && (c == 1))) = z
  have HZ := Lib.hid hz
  clear hz
  by_cases h1 : p < 1
  · have e1 : decide (p < 1) = true := by simpa using h1
    have HI := Lib.hid (show z = true by rw [← HZ.out, e1]; rfl)
    clear h1
    go_enter Tryd.func44, Tryd.ntmps44
    go_wp2_with fail
    refine (fstk1_c _).mono ?_
    rintro e w1 ⟨rfl, hb⟩
    have HB := Lib.hid hb
    clear hb
    go_wp2_with fail
    go_ret
    exact ⟨by rw [HI.out]; rfl, HB.out.alloc HB.out.size _⟩
  · have e1 : decide (p < 1) = false := by simpa using h1
    by_cases h2 : p = 1
    · subst h2
      have HI := Lib.hid (show z = (c == 1) by rw [← HZ.out]; rfl)
      clear h1
      go_enter Tryd.func44, Tryd.ntmps44
      go_wp2_with fail
      refine (fstk1_c _).mono ?_
      rintro e w1 ⟨rfl, hb⟩
      have HB := Lib.hid hb
      clear hb
      go_wp2_with fail
      refine (HG.out _).mono ?_
      rintro e w2 ⟨rfl, hb⟩
      have HB2 := Lib.hid ((HB.out.alloc HB.out.size _).trans (hb.mono (HB.out.alloc HB.out.size _).size))
      clear hb
      go_wp2_with fail
      go_ret
      exact ⟨by rw [HI.out]; rfl, HB2.out⟩
    · have e2 : (p == 1) = false := by simpa using h2
      have HI := Lib.hid (show z = false by rw [← HZ.out, e1, e2]; rfl)
      clear h1 h2
      go_enter Tryd.func44, Tryd.ntmps44
      go_wp2_with fail
      refine (fstk1_c _).mono ?_
      rintro e w1 ⟨rfl, hb⟩
      have HB := Lib.hid hb
      clear hb
      go_wp2_with fail
      go_ret
      exact ⟨by rw [HI.out]; rfl, HB.out.alloc HB.out.size _⟩
set_option maxHeartbeats 2000000 in
theorem lets0_c (x p dst : Int) (h3 : dst ≠ 3) (h1 : dst ≠ 1) (w : World) : Calls Tryd.prog 44 #[.int .u64 x, .int .i64 p, .int .i64 dst] w fun e w' => e = .returned (.bool false) ∧ Below w.heap.size w w' := by
  have HK := Lib.hid (fun W => fstk0_c dst h3 h1 W)
  clear h3 h1
  go_enter Tryd.func44, Tryd.ntmps44
  go_wp2_with fail
  refine (HK.out _).mono ?_
  rintro e w1 ⟨rfl, hb⟩
  have HB := Lib.hid hb
  clear hb
  go_wp2_with fail
  go_ret
  exact ⟨rfl, HB.out.alloc HB.out.size _⟩
theorem lets_c (x p dst : Int) (hx : W64 x) (w : World) : Calls Tryd.prog 44 #[.int .u64 x, .int .i64 p, .int .i64 dst] w fun e w' => e = .returned (.bool (letsS x p dst)) ∧ Below w.heap.size w w' := by
  unfold letsS
  by_cases h3 : dst = 3
  · subst h3; rw [if_pos rfl]; exact lets3_c x p hx w
  · by_cases h1 : dst = 1
    · subst h1; rw [if_neg h3, if_pos rfl]; exact lets1_c x p hx w
    · rw [if_neg h3, if_neg h1]; exact lets0_c x p dst h3 h1 w
set_option maxHeartbeats 2000000 in
theorem rlets3_c (x p : Int) (hx : W64 x) (w : World) : Calls Tryd.prog 46 #[.int .u64 x, .int .i64 p, .int .i64 3] w fun e w' => e = .returned (.bool (decide (p < 3) || (p == 3 && (cutS x 3 1 == 1)))) ∧ w = w' := by
  have HG := Lib.hid (fun W => rget_c x hx ⟨#[109, 105, 101]⟩ W)
  rw [get_mie] at HG
  generalize cutS x 3 1 = c at *
  generalize hz : (decide (p < 3) || (p == 3 && (c == 1))) = z
  have HZ := Lib.hid hz
  clear hz
  by_cases h1 : p < 3
  · have e1 : decide (p < 3) = true := by simpa using h1
    have HI := Lib.hid (show z = true by rw [← HZ.out, e1]; rfl)
    clear h1
    go_enter Tryd.func46, Tryd.ntmps46
    go_wp2_with fail
    go_ret
    exact ⟨by rw [HI.out]; rfl, rfl⟩
  · have e1 : decide (p < 3) = false := by simpa using h1
    by_cases h2 : p = 3
    · subst h2
      have HI := Lib.hid (show z = (c == 1) by rw [← HZ.out]; rfl)
      clear h1
      go_enter Tryd.func46, Tryd.ntmps46
      go_wp2_with fail
      refine (HG.out _).mono ?_
      rintro e w2 ⟨rfl, rfl⟩
      go_wp2_with fail
      go_ret
      exact ⟨by rw [HI.out]; rfl, rfl⟩
    · have e2 : (p == 3) = false := by simpa using h2
      have HI := Lib.hid (show z = false by rw [← HZ.out, e1, e2]; rfl)
      clear h1 h2
      go_enter Tryd.func46, Tryd.ntmps46
      go_wp2_with fail
      go_ret
      exact ⟨by rw [HI.out]; rfl, rfl⟩
set_option maxHeartbeats 2000000 in
theorem rlets1_c (x p : Int) (hx : W64 x) (w : World) : Calls Tryd.prog 46 #[.int .u64 x, .int .i64 p, .int .i64 1] w fun e w' => e = .returned (.bool (decide (p < 1) || (p == 1 && (cutS x 1 1 == 1)))) ∧ w = w' := by
  have HG := Lib.hid (fun W => rget_c x hx ⟨#[115, 105, 101]⟩ W)
  rw [get_sie] at HG
  generalize cutS x 1 1 = c at *
  generalize hz : (decide (p < 1) || (p == 1 && (c == 1))) = z
  have HZ := Lib.hid hz
  clear hz
  by_cases h1 : p < 1
  · have e1 : decide (p < 1) = true := by simpa using h1
    have HI := Lib.hid (show z = true by rw [← HZ.out, e1]; rfl)
    clear h1
    go_enter Tryd.func46, Tryd.ntmps46
    go_wp2_with fail
    go_ret
    exact ⟨by rw [HI.out]; rfl, rfl⟩
  · have e1 : decide (p < 1) = false := by simpa using h1
    by_cases h2 : p = 1
    · subst h2
      have HI := Lib.hid (show z = (c == 1) by rw [← HZ.out]; rfl)
      clear h1
      go_enter Tryd.func46, Tryd.ntmps46
      go_wp2_with fail
      refine (HG.out _).mono ?_
      rintro e w2 ⟨rfl, rfl⟩
      go_wp2_with fail
      go_ret
      exact ⟨by rw [HI.out]; rfl, rfl⟩
    · have e2 : (p == 1) = false := by simpa using h2
      have HI := Lib.hid (show z = false by rw [← HZ.out, e1, e2]; rfl)
      clear h1 h2
      go_enter Tryd.func46, Tryd.ntmps46
      go_wp2_with fail
      go_ret
      exact ⟨by rw [HI.out]; rfl, rfl⟩
theorem rlets_c (x p dst : Int) (hx : W64 x) (w : World) : Calls Tryd.prog 46 #[.int .u64 x, .int .i64 p, .int .i64 dst] w fun e w' => e = .returned (.bool (letsS x p dst)) ∧ w = w' := by
  unfold letsS
  by_cases h3 : dst = 3
  · subst h3; rw [if_pos rfl]; exact rlets3_c x p hx w
  · by_cases h1 : dst = 1
    · subst h1; rw [if_neg h3, if_pos rfl]; exact rlets1_c x p hx w
    · rw [if_neg h3, if_neg h1]
      have e3 : (dst == 3) = false := by simpa using h3
      have e1 : (dst == 1) = false := by simpa using h1
      clear h3 h1
      go_enter Tryd.func46, Tryd.ntmps46
      go_wp2_with fail
      go_ret
      exact ⟨rfl, rfl⟩
def dataS (x p : Int) : Int := if p = 3 ∧ cutS x 17 1 = 1 then mppS x else p
set_option maxHeartbeats 1000000 in
theorem view_c (x : Int) (w : World) : Calls Tryd.prog 50 #[.int .u64 x] w fun e w' => e = .returned (.int .u64 (viewS x)) ∧ w = w' := by
  have HV := Lib.hid (show viewS x = bits .and .u64 x 8590721314 from rfl)
  go_enter Tryd.func50, Tryd.ntmps50
  go_wp2_with fail
  go_ret
  exact ⟨by rw [HV.out]; rfl, rfl⟩
set_option maxHeartbeats 1000000 in
theorem lay_c (x v : Int) (hx : W64 x) (hv : W64 v) (w : World) (hN : RowsIn w) : Calls Tryd.prog 56 #[.int .u64 x, .int .u64 v] w fun e w' => e = .returned (.int .u64 (legS 256 x v)) ∧ Below w.heap.size w w' := by
  have HC := Lib.hid (clegal_c 256 x v hx hv w hN)
  clear hN
  go_enter Tryd.func56, Tryd.ntmps56
  go_wp2_with fail
  refine HC.out.mono ?_
  rintro e w1 ⟨rfl, hb⟩
  have HB := Lib.hid hb
  clear hb
  go_wp2_with fail
  go_ret
  exact ⟨rfl, HB.out⟩
set_option maxHeartbeats 1000000 in
theorem rlay_c (x v : Int) (hx : W64 x) (hv : W64 v) (w : World) : Calls Tryd.prog 90 #[.int .u64 x, .int .u64 v] w fun e w' => e = .returned (.int .u64 (legS 256 x v)) ∧ Below w.heap.size w w' := by
  have HC := Lib.hid (rlegal_c 256 x v hx hv w)
  go_enter Tryd.func90, Tryd.ntmps90
  go_wp2_with fail
  refine HC.out.mono ?_
  rintro e w1 ⟨rfl, hb⟩
  have HB := Lib.hid hb
  clear hb
  go_wp2_with fail
  go_ret
  exact ⟨rfl, HB.out⟩
end Go.Proofs.YtkbgmppbkllnmaaDoor
