/-
  The reference of layer 18: New. The reference of layer 18: New, Where, May. The reference of layer 18: May.
-/
import Derived.Test.YtfjdalepaacmgaaGreatYap
set_option maxRecDepth 20000
namespace Go.Proofs.YtfjdalepaacmgaaGreat
open Go.ChangeShapes Go.WideShapes Go.ChangeAt Go.RowKit

theorem xbV_one (n : Nat) {c p u : Array Value} (h1 : c.all (·.oneCell') = true) (h2 : p.all (·.oneCell') = true) (h3 : u.all (·.oneCell') = true) : (xbV n c p u).all (·.oneCell') = true := by
  rw [Array.all_eq_true_iff_forall_mem] at h1 h2 h3 ⊢
  intro v hv
  simp only [xbV, Array.mem_append] at hv
  rcases hv with ((hv | hv) | hv) | hv
  · simp at hv; subst hv; rfl
  · exact h1 v hv
  · exact h2 v hv
  · exact h3 v hv
theorem iBx (n : Nat) {c p u : Array Value} (h1 : c.size = 18) (h2 : p.size = 657) (h3 : u.size = 11) : (Tryz.prog.info? BxT).map (·.size) = some (xbV n c p u).size := by
  rw [xbV_size n h1 h2 h3]
  have := info_bx
  cases h : Tryz.prog.info? BxT with
  | none => rw [h] at this; cases this
  | some i => rw [h] at this; simp only [Option.map_some, Option.some.injEq, Prod.mk.injEq] at this ⊢; exact this.2
set_option maxRecDepth 1000000 in
theorem zero_bx (W : World) : (zeroValue BxT).run Tryz.prog W = .ok (.agg (xbV 0 (x15V 0 (Ct.newW 0)) (x16V 0 Pc.zeros) uxZ)) W := by kernel_rfl
end Go.Proofs.YtfjdalepaacmgaaGreat
set_option maxRecDepth 20000
namespace Go.Proofs.YtfjdalepaacmgaaGreat
open Go.ChangeShapes Go.WideShapes Go.ChangeAt Go.RowKit

set_option maxHeartbeats 4000000 in
set_option maxRecDepth 100000 in
theorem rnewB_c (n : Nat) (hn : 1 ≤ n ∧ n ≤ 8) (w : World) : Calls Tryz.prog 6 #[.int .i64 n] w fun e w' => e = .returned (.agg (xbV n (x15V n (Ct.newW n)) (x16V n Pc.zeros) uxZ)) ∧ Below w.heap.size w w' := by
  have hz := zero_bx
  have h15 := x15_size 0 (Ct.newW 0) (ctnew_len (by omega))
  have h16 := x16_size' 0 Pc.zeros
  have g15 := x15_size n (Ct.newW n) (ctnew_len (by omega))
  have g16 := x16_size' n Pc.zeros
  have hc : Ct.cnt (n : Int) = n := by unfold Ct.cnt; rw [if_pos (by omega)]; omega
  have HR15 := Lib.hid (fun W => rnew15_c n W)
  have HR16 := Lib.hid (fun W => rnew16_c n W)
  rw [hc] at HR15 HR16
  have HS0 := Lib.hid (xbV_size 0 (us := uxZ) h15 h16 rfl)
  have HS1 := Lib.hid (xbV_size n (us := uxZ) g15 g16 rfl)
  have HI := Lib.hid (iBx n (u := uxZ) g15 g16 rfl)
  have HB := Lib.hid (built_bx n (x15V n (Ct.newW n)) (x16V n Pc.zeros) g15 g16)
  have HO := Lib.hid (xbV_one n (u := uxZ) (x15V_one (n := n) (ws := Ct.newW n)) (x16_one (n := n) (ws := Pc.zeros)) (by simp [uxZ, Value.oneCell']))
  generalize xbV 0 (x15V 0 (Ct.newW 0)) (x16V 0 Pc.zeros) uxZ = z at *
  generalize hx : xbV n (x15V n (Ct.newW n)) (x16V n Pc.zeros) uxZ = x at *
  generalize x15V n (Ct.newW n) = c at *
  generalize x16V n Pc.zeros = p at *
  have hB0 : Below w.heap.size w (w.alloc (.cells z BxT)) := (Below.refl _ _).alloc (Nat.le_refl _) _
  have hR0 : CsAt (w.alloc (.cells z BxT)) w.heap.size BxT z := CsAt.new w BxT z
  have HB0 := Lib.hid hB0
  have HR0 := Lib.hid hR0
  clear hB0 hR0 h15 h16 g15 g16 hc hx hn
  go_enter Tryz.func6, Tryz.ntmps6
  go_upto_region 1 with fail
  generalize w.alloc (.cells z BxT) = w1 at *
  clear hz
  go_wp2_with fail
  refine (HR15.out _).mono ?_
  rintro e w2 ⟨rfl, hb⟩
  replace HB0 := Lib.hid (HB0.out.trans (hb.mono HB0.out.size))
  replace HR0 := Lib.hid (HR0.out.low hb)
  clear hb
  go_wp2_with fail
  refine (HR16.out _).mono ?_
  rintro e w3 ⟨rfl, hb⟩
  replace HB0 := Lib.hid (HB0.out.trans (hb.mono HB0.out.size))
  replace HR0 := Lib.hid (HR0.out.low hb)
  clear hb
  go_wp2_with (first
    | (refine wpList_buildTo rfl BxT _ rfl _ rfl x ((congrArg (Tryz.prog.built BxT) (show _ = [(0, Value.int .i64 n), (1, Value.agg c), (2, Value.agg p)] by kernel_rfl)).trans HB.out) ?_)
    | (refine wpList_store_row rfl BxT _ _ rfl w.heap.size x (by kernel_rfl) (by kernel_rfl) BxT z HR0.out HI.out (by rw [HS0.out, HS1.out]) HO.out ?_))
  exact bodyPost_ret (results_cell_row Tryz.results6 _ _ _ _ _ _ _ rfl (HR0.out.row x) Tryz.underlying53 rfl HI.out) rfl ⟨rfl, below_setRow HB0.out (Nat.le_refl _) _⟩
namespace Bs
def whN (h a size : Int) : Nat := if dev h a size < 3 then dev h a size + 1 else 0
theorem off_wrap (a : Int) (d : Nat) : IntKind.u64.wrap (a - base d) = offD a d := by unfold offD; rw [IntKind.wrap_u64]
theorem fit_port {a size : Int} (a0 : 0 ≤ a) (a1 : a ≤ 18446744073709551615) {h : Int} : fitD h a size 2 = (decide (268435456 ≤ a) && decide (a < 268435464) && (size == 1)) := by
  unfold fitD fitT offD base
  simp only [show ¬ (2 : Nat) = 0 by omega, show ¬ (2 : Nat) = 1 by omega, if_false]
  by_cases h1 : 268435456 ≤ a ∧ a < 268435464
  · have e1 : (a - 268435456) % 18446744073709551616 < 8 := by omega
    by_cases h2 : size = 1
    · simp [h1.1, h1.2, h2, e1]
    · simp [h1.1, h1.2, h2]
  · have e1 : ¬ (a - 268435456) % 18446744073709551616 < 8 := by omega
    have e2 : (decide (268435456 ≤ a) && decide (a < 268435464)) = false := by
      by_cases h2 : 268435456 ≤ a
      · simp; omega
      · simp [h2]
    rw [e2, Bool.false_and, decide_eq_false (fun hh => e1 hh.1)]
end Bs
set_option maxHeartbeats 4000000 in
theorem rwhere_c (h a size : Int) (a0 : 0 ≤ a) (a1 : a ≤ 18446744073709551615) (w : World) : Calls Tryz.prog 31 #[.int .i64 h, .int .u64 a, .int .i64 size] w fun e w' => e = .returned (.int .i64 (Bs.whN h a size)) ∧ w' = w := by
  cases hh : Bs.okH h with
  | false =>
    have HI := Lib.hid (show Bs.whN h a size = 0 by unfold Bs.whN; rw [Bs.dev_no hh]; rfl)
    have hb : h < 1 ∨ 8 < h := by
      unfold Bs.okH at hh
      simp at hh
      omega
    clear hh
    by_cases h1 : h < 1
    · have e1 : decide (h < 1) = true := by simpa using h1
      clear hb h1
      go_enter Tryz.func31, Tryz.ntmps31
      go_wp2_with fail
      go_ret
      exact ⟨by rw [HI.out]; rfl, rfl⟩
    · have e1 : decide (h < 1) = false := by simpa using h1
      have e2 : decide (h > 8) = true := by simp; omega
      clear hb h1
      go_enter Tryz.func31, Tryz.ntmps31
      go_wp2_with fail
      go_ret
      exact ⟨by rw [HI.out]; rfl, rfl⟩
  | true =>
    have hr : 1 ≤ h ∧ h ≤ 8 := by unfold Bs.okH at hh; simpa using hh
    have e1 : decide (h < 1) = false := by simp; omega
    have e2 : decide (h > 8) = false := by simp; omega
    obtain ⟨n, rfl⟩ := Int.eq_ofNat_of_zero_le (by omega : 0 ≤ h)
    have hc : Ct.cnt (n : Int) = n := by unfold Ct.cnt; rw [if_pos (by omega)]; omega
    have HD := Lib.hid (show Bs.dev n a size = if Bs.fitD n a size 0 = true then 0 else if Bs.fitD n a size 1 = true then 1 else if Bs.fitD n a size 2 = true then 2 else 3 by unfold Bs.dev; rw [if_pos hh])
    have o0 := Bs.offD_rng a 0
    have HA := Lib.hid (fun W => rat15_c n (by omega) (Bs.offD a 0) size o0.1 W)
    have HP := Lib.hid (fun W => rat16_c n (Bs.offD a 1) size W)
    have F0 := Lib.hid (show Bs.fitD n a size 0 = decide ((Ct.at_ n (Bs.offD a 0) size).1 ≠ 0) by unfold Bs.fitD Bs.fitT Ct.is; rw [if_pos rfl, hc])
    have F1 := Lib.hid (show Bs.fitD n a size 1 = decide ((Pc.at_ n (Bs.offD a 1) size).1 ≠ 0) by unfold Bs.fitD Bs.fitT Pc.is; rw [if_neg (by omega), if_pos rfl])
    have F2 := Lib.hid (Bs.fit_port a0 a1 (h := n) (size := size))
    have w0 : IntKind.u64.wrap (a - 33554432) = Bs.offD a 0 := Bs.off_wrap a 0
    have w1 : IntKind.u64.wrap (a - 201326592) = Bs.offD a 1 := Bs.off_wrap a 1
    have HW := Lib.hid (show Bs.whN n a size = if Bs.dev n a size < 3 then Bs.dev n a size + 1 else 0 from rfl)
    clear hh hr hc o0
    generalize Ct.at_ n (Bs.offD a 0) size = t at *
    generalize Pc.at_ n (Bs.offD a 1) size = u at *
    obtain ⟨t0, t1, t2⟩ := t
    obtain ⟨u0, u1⟩ := u
    simp only [atT, atV] at HA HP F0 F1
    by_cases q0 : t0 = 0
    · subst q0
      have f0 : Bs.fitD n a size 0 = false := by rw [F0.out]; rfl
      by_cases q1 : u0 = 0
      · subst q1
        have f1 : Bs.fitD n a size 1 = false := by rw [F1.out]; rfl
        cases f2 : Bs.fitD n a size 2
        · have HI := Lib.hid (show Bs.whN n a size = 0 by rw [HW.out, HD.out, f0, f1, f2]; rfl)
          have hp := F2.out
          rw [f2] at hp
          by_cases p0 : 268435456 ≤ a
          · by_cases p1 : a < 268435464
            · have p2 : (size == 1) = false := by simpa [p0, p1] using hp.symm
              have g0 : decide (a ≥ 268435456) = true := by simpa using p0
              have g1 : decide (a < 268435464) = true := by simpa using p1
              have hg0 : decide (268435456 ≤ a) = true := by simpa using p0
              clear p0 p1 hp f0 f1 f2 a0 a1
              go_enter Tryz.func31, Tryz.ntmps31
              go_wp2_with fail
              refine (HA.out _).mono ?_
              rintro e v1 ⟨rfl, rfl⟩
              go_wp2_with fail
              refine (HP.out _).mono ?_
              rintro e v2 ⟨rfl, rfl⟩
              go_wp2_with fail
              go_ret
              exact ⟨by rw [HI.out]; rfl, rfl⟩
            · have g0 : decide (a ≥ 268435456) = true := by simpa using p0
              have hg0 : decide (268435456 ≤ a) = true := by simpa using p0
              have g1 : decide (a < 268435464) = false := by simpa using p1
              clear p0 p1 hp f0 f1 f2 a0 a1
              go_enter Tryz.func31, Tryz.ntmps31
              go_wp2_with fail
              refine (HA.out _).mono ?_
              rintro e v1 ⟨rfl, rfl⟩
              go_wp2_with fail
              refine (HP.out _).mono ?_
              rintro e v2 ⟨rfl, rfl⟩
              go_wp2_with fail
              go_ret
              exact ⟨by rw [HI.out]; rfl, rfl⟩
          · have g0 : decide (a ≥ 268435456) = false := by simpa using p0
            have hg0 : decide (268435456 ≤ a) = false := by simpa using p0
            clear p0 hp f0 f1 f2 a0 a1
            go_enter Tryz.func31, Tryz.ntmps31
            go_wp2_with fail
            refine (HA.out _).mono ?_
            rintro e v1 ⟨rfl, rfl⟩
            go_wp2_with fail
            refine (HP.out _).mono ?_
            rintro e v2 ⟨rfl, rfl⟩
            go_wp2_with fail
            go_ret
            exact ⟨by rw [HI.out]; rfl, rfl⟩
        · have HI := Lib.hid (show Bs.whN n a size = 3 by rw [HW.out, HD.out, f0, f1, f2]; rfl)
          have hp := F2.out
          rw [f2] at hp
          have hp' : (268435456 ≤ a ∧ a < 268435464) ∧ size = 1 := by simpa using hp.symm
          have g0 : decide (a ≥ 268435456) = true := by simpa using hp'.1.1
          have hg0 : decide (268435456 ≤ a) = true := by simpa using hp'.1.1
          have g1 : decide (a < 268435464) = true := by simpa using hp'.1.2
          have p2 : (size == 1) = true := by simpa using hp'.2
          clear hp hp' f0 f1 f2 a0 a1
          go_enter Tryz.func31, Tryz.ntmps31
          go_wp2_with fail
          refine (HA.out _).mono ?_
          rintro e v1 ⟨rfl, rfl⟩
          go_wp2_with fail
          refine (HP.out _).mono ?_
          rintro e v2 ⟨rfl, rfl⟩
          go_wp2_with fail
          go_ret
          exact ⟨by rw [HI.out]; rfl, rfl⟩
      · have f1 : Bs.fitD n a size 1 = true := by rw [F1.out]; simpa using q1
        have HI := Lib.hid (show Bs.whN n a size = 2 by rw [HW.out, HD.out, f0, f1]; rfl)
        have g1 : decide ((u0 : Int) > 0) = true := by simp; omega
        have g2 : decide (0 < u0) = true := by simp; omega
        clear f0 f1 q1 a0 a1
        go_enter Tryz.func31, Tryz.ntmps31
        go_wp2_with fail
        refine (HA.out _).mono ?_
        rintro e v1 ⟨rfl, rfl⟩
        go_wp2_with fail
        refine (HP.out _).mono ?_
        rintro e v2 ⟨rfl, rfl⟩
        go_wp2_with fail
        go_ret
        exact ⟨by rw [HI.out]; rfl, rfl⟩
    · have f0 : Bs.fitD n a size 0 = true := by rw [F0.out]; simpa using q0
      have HI := Lib.hid (show Bs.whN n a size = 1 by rw [HW.out, HD.out, f0]; rfl)
      have g1 : decide ((t0 : Int) > 0) = true := by simp; omega
      have g2 : decide (0 < t0) = true := by simp; omega
      clear f0 q0 a0 a1
      go_enter Tryz.func31, Tryz.ntmps31
      go_wp2_with fail
      refine (HA.out _).mono ?_
      rintro e v1 ⟨rfl, rfl⟩
      go_wp2_with fail
      go_ret
      exact ⟨by rw [HI.out]; rfl, rfl⟩
end Go.Proofs.YtfjdalepaacmgaaGreat
set_option maxRecDepth 20000
namespace Go.Proofs.YtfjdalepaacmgaaGreat
open Go.ChangeShapes Go.WideShapes Go.ChangeAt Go.RowKit

theorem xbV_0 (n : Nat) (c p u : Array Value) : (xbV n c p u)[0]? = some (.int .i64 n) := by
  unfold xbV
  rw [Array.append_assoc, Array.append_assoc, Array.getElem?_append_left (by simp)]; rfl
theorem wh_pos (n : Int) (a size : Int) : decide (((Bs.whN n a size : Nat) : Int) > 0) = decide (Bs.dev n a size < 3) := by
  apply decide_eq_decide.2
  unfold Bs.whN
  split <;> omega
set_option maxHeartbeats 8000000 in
theorem rmayB_c (n : Nat) (x : Array Value) (hx : x[0]? = some (.int .i64 n)) (a : Ak) (ha : 0 ≤ a.addr ∧ a.addr ≤ 18446744073709551615) (w : World) :
    Calls Tryz.prog 30 #[.agg x, .agg a.cells] w fun e w' => e = .returned (.bool (Bs.mayB n a)) ∧ Below w.heap.size w w' := by
  have hb0 : Below w.heap.size w ((w.alloc (.cells x BxT)).alloc (.cells a.cells AKT)) := ((Below.refl _ _).alloc (Nat.le_refl _) _).alloc (by simp) _
  have hA : AkAt ((w.alloc (.cells x BxT)).alloc (.cells a.cells AKT)) (w.heap.size + 1) a := by
    have := CsAt.new (w.alloc (.cells x BxT)) AKT a.cells
    exact ⟨by simpa using this⟩
  have hN : ((w.alloc (.cells x BxT)).alloc (.cells a.cells AKT)).cell? ⟨w.heap.size, 0, none⟩ = some (.int .i64 n) := by
    have := ((CsAt.new w BxT x).alloc (.cells a.cells AKT)).cell 0
    rw [this, hx]
  have HB := Lib.hid hb0
  have HA := Lib.hid hA
  have HN := Lib.hid hN
  clear hb0 hA hN hx
  obtain ⟨r, hr⟩ : ∃ r, Bs.mayB n a = r := ⟨_, rfl⟩
  rw [hr]
  go_enter Tryz.func30, Tryz.ntmps30
  go_upto_region 1 with fail
  generalize ((w.alloc (.cells x BxT)).alloc (.cells a.cells AKT)) = w1 at *
  have q0 := HA.out.kind
  have q1 := HA.out.addr
  have q2 := HA.out.size
  have q3 := HN.out
  have HW := Lib.hid (fun W => rwhere_c n a.addr a.size ha.1 ha.2 W)
  have HP := Lib.hid (wh_pos n a.addr a.size)
  rcases kind_cases a.kind with hk | hk | hk | hk | hk | hk | hk
  · have hr2 : decide (Bs.dev n a.addr a.size < 3) = r := by rw [← hr]; unfold Bs.mayB Bs.isK; rw [hk]; rfl
    rw [hk] at q0
    rw [hr2] at HP
    have gp := HP.out
    clear hr hk hr2
    generalize Bs.whN n a.addr a.size = d at *
    have gp2 : decide (0 < d) = r := by rw [← gp]; apply decide_eq_decide.2; omega
    go_wp2_with fail
    refine (HW.out _).mono ?_
    rintro e w2 ⟨rfl, rfl⟩
    go_wp2_with fail
    go_ret
    exact ⟨rfl, HB.out⟩
  · have hr2 : decide (Bs.dev n a.addr a.size < 3) = r := by rw [← hr]; unfold Bs.mayB Bs.isK; rw [hk]; rfl
    rw [hk] at q0
    rw [hr2] at HP
    have gp := HP.out
    clear hr hk hr2
    generalize Bs.whN n a.addr a.size = d at *
    have gp2 : decide (0 < d) = r := by rw [← gp]; apply decide_eq_decide.2; omega
    go_wp2_with fail
    refine (HW.out _).mono ?_
    rintro e w2 ⟨rfl, rfl⟩
    go_wp2_with fail
    go_ret
    exact ⟨rfl, HB.out⟩
  · have hr2 : true = r := by rw [← hr]; unfold Bs.mayB Bs.isK Bs.otherK; rw [hk]; rfl
    rw [hk] at q0
    clear hk
    have HR2 := Lib.hid hr2
    clear hr hr2 HW HP q1 q2 q3
    go_wp2_with fail
    go_ret
    exact ⟨by rw [← HR2.out]; rfl, HB.out⟩
  · have hr2 : true = r := by rw [← hr]; unfold Bs.mayB Bs.isK Bs.otherK; rw [hk]; rfl
    rw [hk] at q0
    clear hk
    have HR2 := Lib.hid hr2
    clear hr hr2 HW HP q1 q2 q3
    go_wp2_with fail
    go_ret
    exact ⟨by rw [← HR2.out]; rfl, HB.out⟩
  · have hr2 : true = r := by rw [← hr]; unfold Bs.mayB Bs.isK Bs.otherK; rw [hk]; rfl
    rw [hk] at q0
    clear hk
    have HR2 := Lib.hid hr2
    clear hr hr2 HW HP q1 q2 q3
    go_wp2_with fail
    go_ret
    exact ⟨by rw [← HR2.out]; rfl, HB.out⟩
  · have hr2 : true = r := by rw [← hr]; unfold Bs.mayB Bs.isK Bs.otherK; rw [hk]; rfl
    rw [hk] at q0
    clear hk
    have HR2 := Lib.hid hr2
    clear hr hr2 HW HP q1 q2 q3
    go_wp2_with fail
    go_ret
    exact ⟨by rw [← HR2.out]; rfl, HB.out⟩
  · have hr2 : false = r := by
      rw [← hr]
      unfold Bs.mayB Bs.isK Bs.otherK
      have e : ∀ z : Int, a.kind ≠ z → (a.kind == z) = false := fun z h => by simpa using h
      rw [e 9 hk.1, e 10 hk.2.1, e 11 hk.2.2.1, e 18 hk.2.2.2.1, e 19 hk.2.2.2.2.1, e 20 hk.2.2.2.2.2]; rfl
    have e9 : (a.kind == 9) = false := by simpa using hk.1
    have e10 : (a.kind == 10) = false := by simpa using hk.2.1
    have e11 : (a.kind == 11) = false := by simpa using hk.2.2.1
    have e18 : (a.kind == 18) = false := by simpa using hk.2.2.2.1
    have e19 : (a.kind == 19) = false := by simpa using hk.2.2.2.2.1
    have e20 : (a.kind == 20) = false := by simpa using hk.2.2.2.2.2
    clear hk
    have HR2 := Lib.hid hr2
    clear hr hr2 HW HP q1 q2 q3
    go_wp2_with fail
    go_ret
    exact ⟨by rw [← HR2.out]; rfl, HB.out⟩
end Go.Proofs.YtfjdalepaacmgaaGreat
