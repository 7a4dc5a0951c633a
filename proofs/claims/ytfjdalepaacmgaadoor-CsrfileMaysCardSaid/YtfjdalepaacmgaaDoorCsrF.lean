/-
  The reference of layer 19: Number, Least, ReadOnly, May.
-/
import Derived.Test.YtfjdalepaacmgaaDoorCsrE
set_option maxRecDepth 20000
namespace Go.Proofs.YtfjdalepaacmgaaDoor
open Go.ChangeShapes Go.WideShapes Go.ChangeAt Go.RowKit Wd Csr

theorem isNam_cB (s : ByteArray) (r : RowC) : isNam s r = ((cB r.2.1).toList == s.toList) := by unfold isNam cB; simp
set_option maxHeartbeats 2000000 in
theorem rnum_c (s : ByteArray) (w : World) : Calls Tryd.prog 83 #[.string s] w fun e w' => e = .returned (.int .i64 (numC s)) ∧ Below w.heap.size w w' := by
  go_enter Tryd.func83, Tryd.ntmps83
  go_wp2_with fail
  refine (rrows_c _).mono ?_
  rintro e w1 ⟨rfl, rfl⟩
  have hr := rrAt_new w
  have hB : Below w.heap.size w (w.alloc (.cells rrCells RrT)) := (Below.refl _ _).alloc (Nat.le_refl _) _
  generalize (w.alloc (.cells rrCells RrT)) = w2 at *
  have HR := Lib.hid hr
  have HB := Lib.hid hB
  clear hr hB
  go_wp2_with fail
  go_loop [4] (fun i => ∃ k : Nat, k ≤ 34 ∧ i = .int .i64 k ∧ ∀ j, j < k → isNam s (rowC j) = false) (fun i => 34 - (intOf i).toNat)
  case atStart => exact ⟨0, by omega, rfl, fun j h => by omega⟩
  case round =>
    obtain ⟨k, hk, rfl, hn⟩ := hrel
    have HN := Lib.hid hn
    clear hn
    by_cases hlt : k < 34
    · obtain ⟨c0, c1, c2⟩ := HR.out.2 k hlt
      have hl2 : (k : Int) < 34 := by omega
      cases hp : isNam s (rowC k)
      · have HP := Lib.hid hp
        have t1 : ((cB (rowC k).2.1).toList == s.toList) = false := by rw [← isNam_cB]; exact hp
        clear hp
        generalize cB (rowC k).2.1 = b at *
        go_wp2_with fail
        go_round
        case rel => exact ⟨k + 1, by omega, by go_num, fun i hi => if e : i = k then e ▸ HP.out else HN.out i (by omega)⟩
        case measure => simp [intOf]; omega
      · have HO := Lib.hid (show numC s = ((rowC k).1 : Nat) by unfold numC; rw [fst_hit hlt HN.out hp]; rfl)
        have t1 : ((cB (rowC k).2.1).toList == s.toList) = true := by rw [← isNam_cB]; exact hp
        clear hp
        generalize (((rowC k).1 : Nat) : Int) = a at *
        generalize cB (rowC k).2.1 = b at *
        go_wp2_with fail
        go_ret
        exact ⟨by rw [HO.out]; rfl, HB.out⟩
    · obtain rfl : k = 34 := by omega
      have HO := Lib.hid (show numC s = 0 by unfold numC; rw [fst_none HN.out]; rfl)
      go_wp2_with fail
      go_ret
      exact ⟨by rw [HO.out]; rfl, HB.out⟩
theorem fld_rr0 (a : Int) (s : ByteArray) (m : Int) (w : World) : (Instr.field RrT (.agg #[.int .i64 a, .string s, .int .u64 m]) 0).run Tryd.prog w = .ok (.int .i64 a) w := by kernel_rfl
theorem fld_rr1 (a : Int) (s : ByteArray) (m : Int) (w : World) : (Instr.field RrT (.agg #[.int .i64 a, .string s, .int .u64 m]) 1).run Tryd.prog w = .ok (.string s) w := by kernel_rfl
theorem fld_rr2 (a : Int) (s : ByteArray) (m : Int) (w : World) : (Instr.field RrT (.agg #[.int .i64 a, .string s, .int .u64 m]) 2).run Tryd.prog w = .ok (.int .u64 m) w := by kernel_rfl
theorem of_parts (n : Int) : ∃ (a : Int) (s : ByteArray) (m : Int), rAgg (ofN n) = .agg #[.int .i64 a, .string s, .int .u64 m] ∧ known n = (a != 0) ∧ m = maskC n ∧ s = cB (ofN n).2.1 :=
  ⟨_, _, _, rfl, known_iff n, rfl, rfl⟩
set_option maxHeartbeats 1000000 in
theorem rleast_c (n : Int) (w : World) : Calls Tryd.prog 102 #[.int .i64 n] w fun e w' => e = .returned (.int .i64 (leastC n)) ∧ Below w.heap.size w w' := by
  have HC := Lib.hid (rof_c n w)
  obtain ⟨a, s, m, hv, hk, -, -⟩ := of_parts n
  rw [hv] at HC
  have f0 := fld_rr0 a s m
  cases h : known n
  · rw [h] at hk
    have HL := Lib.hid (show leastC n = 3 by unfold leastC; rw [h]; rfl)
    have t1 : (a == 0) = true := by
      have := hk.symm
      simpa using this
    clear h hk hv
    go_enter Tryd.func102, Tryd.ntmps102
    go_wp2_with fail
    refine HC.out.mono ?_
    rintro e w1 ⟨rfl, hb⟩
    have HB := Lib.hid hb
    clear hb
    go_wp2_with fail
    go_ret
    exact ⟨by rw [HL.out]; rfl, HB.out⟩
  · rw [h] at hk
    have hr := known_low h
    have HL := Lib.hid (show leastC n = n / 256 % 4 by unfold leastC; rw [h]; rfl)
    have t1 : (a == 0) = false := by
      have := hk.symm
      simpa using this
    have t2 : IntKind.i64.wrap (n.tdiv 256) = n / 256 := by rw [Int.tdiv_eq_ediv_of_nonneg (by omega)]; exact IntWalk.i64_in _ (by omega)
    have t3 : (n / 256).tmod 4 = n / 256 % 4 := Int.tmod_eq_emod_of_nonneg (by omega)
    have t4 : IntKind.i64.wrap (n / 256) = n / 256 := IntWalk.i64_in _ (by omega)
    have t5 : IntKind.i64.wrap (n / 256 % 4) = n / 256 % 4 := IntWalk.i64_in _ (by omega)
    clear h hk hv
    go_enter Tryd.func102, Tryd.ntmps102
    go_wp2_with fail
    refine HC.out.mono ?_
    rintro e w1 ⟨rfl, hb⟩
    have HB := Lib.hid hb
    clear hb
    go_wp2_with fail
    go_ret
    refine ⟨?_, HB.out⟩
    rw [HL.out]
    rfl
set_option maxHeartbeats 1000000 in
theorem rro_c (n : Int) (w : World) : Calls Tryd.prog 103 #[.int .i64 n] w fun e w' => e = .returned (.bool (roC n)) ∧ Below w.heap.size w w' := by
  have HC := Lib.hid (rof_c n w)
  obtain ⟨a, s, m, hv, hk, -, -⟩ := of_parts n
  rw [hv] at HC
  have f0 := fld_rr0 a s m
  cases h : known n
  · rw [h] at hk
    have HL := Lib.hid (show roC n = false by unfold roC; rw [h]; rfl)
    have t1 : (a != 0) = false := hk.symm
    clear h hk hv
    go_enter Tryd.func103, Tryd.ntmps103
    go_wp2_with fail
    refine HC.out.mono ?_
    rintro e w1 ⟨rfl, hb⟩
    have HB := Lib.hid hb
    clear hb
    go_wp2_with fail
    go_ret
    exact ⟨by rw [HL.out]; rfl, HB.out⟩
  · rw [h] at hk
    have hr := known_low h
    have HL := Lib.hid (show roC n = (n / 1024 % 4 == 3) by unfold roC; rw [h]; rfl)
    have t1 : (a != 0) = true := hk.symm
    have t2 : IntKind.i64.wrap (n.tdiv 1024) = n / 1024 := by rw [Int.tdiv_eq_ediv_of_nonneg (by omega)]; exact IntWalk.i64_in _ (by omega)
    have t3 : (n / 1024).tmod 4 = n / 1024 % 4 := Int.tmod_eq_emod_of_nonneg (by omega)
    have t4 : IntKind.i64.wrap (n / 1024) = n / 1024 := IntWalk.i64_in _ (by omega)
    have t5 : IntKind.i64.wrap (n / 1024 % 4) = n / 1024 % 4 := IntWalk.i64_in _ (by omega)
    clear h hk hv
    go_enter Tryd.func103, Tryd.ntmps103
    go_wp2_with fail
    refine HC.out.mono ?_
    rintro e w1 ⟨rfl, hb⟩
    have HB := Lib.hid hb
    clear hb
    go_wp2_with fail
    go_ret
    exact ⟨by rw [HL.out]; rfl, HB.out⟩
theorem mayC_is' (n p : Int) (wr : Bool) : mayC n p wr = if isPrv p && known n && !decide (p < leastC n) then (!wr || !roC n) else false := by
  unfold mayC
  cases known n <;> cases isPrv p <;> cases decide (p < leastC n) <;> simp
set_option maxHeartbeats 2000000 in
theorem rmay_c (n p : Int) (wr : Bool) (w : World) : Calls Tryd.prog 78 #[.int .i64 n, .int .i64 p, .bool wr] w fun e w' => e = .returned (.bool (mayC n p wr)) ∧ Below w.heap.size w w' := by
  have HC := Lib.hid (fun W => rof_c n W)
  obtain ⟨a, s, m, hv, hk, -, -⟩ := of_parts n
  rw [hv] at HC
  have f0 := fld_rr0 a s m
  have HL := Lib.hid (fun W => rleast_c n W)
  have HR := Lib.hid (fun W => rro_c n W)
  have HM := Lib.hid (mayC_is' n p wr)
  have HP := Lib.hid (show isPrv p = (p == 0 || p == 1 || p == 3) from rfl)
  generalize known n = k at *
  generalize roC n = r at *
  generalize leastC n = l at *
  clear hv
  by_cases hp : p = 0 ∨ p = 1 ∨ p = 3
  · have HPT := Lib.hid (show isPrv p = true by rw [HP.out]; rcases hp with rfl | rfl | rfl <;> rfl)
    cases k
    · have t1 : (a == 0) = true := by
        have := hk.symm
        simpa using this
      clear hk
      rcases hp with rfl | rfl | rfl
      all_goals
        go_enter Tryd.func78, Tryd.ntmps78
        go_wp2_with fail
        refine (HC.out _).mono ?_
        rintro e w1 ⟨rfl, hb⟩
        have HB := Lib.hid hb
        clear hb
        go_wp2_with fail
        go_ret
        exact ⟨by rw [HM.out, HPT.out]; rfl, HB.out⟩
    · have t1 : (a == 0) = false := by
        have := hk.symm
        simpa using this
      clear hk
      cases hd : decide (p < l)
      · have HD := Lib.hid hd
        have hp0 : (p != 0) = (p != 0) := rfl
        cases wr
        · rcases hp with rfl | rfl | rfl
          all_goals
            go_enter Tryd.func78, Tryd.ntmps78
            go_wp2_with fail
            refine (HC.out _).mono ?_
            rintro e w1 ⟨rfl, hb⟩
            have HB := Lib.hid hb
            clear hb
            go_wp2_with fail
            refine (HL.out _).mono ?_
            rintro e w2 ⟨rfl, hb⟩
            have HB2 := Lib.hid (HB.out.trans (hb.mono HB.out.size))
            clear hb
            go_wp2_with fail
            go_ret
            exact ⟨by rw [HM.out, HPT.out, HD.out]; rfl, HB2.out⟩
        · rcases hp with rfl | rfl | rfl
          all_goals
            go_enter Tryd.func78, Tryd.ntmps78
            go_wp2_with fail
            refine (HC.out _).mono ?_
            rintro e w1 ⟨rfl, hb⟩
            have HB := Lib.hid hb
            clear hb
            go_wp2_with fail
            refine (HL.out _).mono ?_
            rintro e w2 ⟨rfl, hb⟩
            have HB2 := Lib.hid (HB.out.trans (hb.mono HB.out.size))
            clear hb
            go_wp2_with fail
            refine (HR.out _).mono ?_
            rintro e w3 ⟨rfl, hb⟩
            have HB3 := Lib.hid (HB2.out.trans (hb.mono HB2.out.size))
            clear hb
            go_wp2_with fail
            go_ret
            exact ⟨by rw [HM.out, HPT.out, HD.out]; cases r <;> rfl, HB3.out⟩
      · have HD := Lib.hid hd
        rcases hp with rfl | rfl | rfl
        all_goals
          go_enter Tryd.func78, Tryd.ntmps78
          go_wp2_with fail
          refine (HC.out _).mono ?_
          rintro e w1 ⟨rfl, hb⟩
          have HB := Lib.hid hb
          clear hb
          go_wp2_with fail
          refine (HL.out _).mono ?_
          rintro e w2 ⟨rfl, hb⟩
          have HB2 := Lib.hid (HB.out.trans (hb.mono HB.out.size))
          clear hb
          go_wp2_with fail
          go_ret
          exact ⟨by rw [HM.out, HPT.out, HD.out]; rfl, HB2.out⟩
  · have e0 : (p != 0) = true := by simp; omega
    have e1 : (p != 1) = true := by simp; omega
    have e3 : (p != 3) = true := by simp; omega
    have HPF := Lib.hid (show isPrv p = false by
      rw [HP.out]
      have a0 : (p == 0) = false := by simp; omega
      have a1 : (p == 1) = false := by simp; omega
      have a3 : (p == 3) = false := by simp; omega
      rw [a0, a1, a3]; rfl)
    clear hp hk
    go_enter Tryd.func78, Tryd.ntmps78
    go_wp2_with fail
    go_ret
    exact ⟨by rw [HM.out, HPF.out]; rfl, Below.refl _ _⟩
end Go.Proofs.YtfjdalepaacmgaaDoor
