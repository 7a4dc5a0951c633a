/-
  The reference of layer 18: May.
-/
import Derived.Test.YtkknfhbaldeigaaBsC
set_option maxRecDepth 20000
namespace Go.Proofs.Ytkknfhbaldeigaa
open Go.ChangeShapes Go.WideShapes Go.ChangeAt Go.RowKit

theorem xbV_0 (n : Nat) (c p u : Array Value) : (xbV n c p u)[0]? = some (.int .i64 n) := by
  unfold xbV
  rw [Array.append_assoc, Array.append_assoc, Array.getElem?_append_left (by simp)]; rfl
theorem wh_pos (n : Int) (a size : Int) : decide (((Bs.whN n a size : Nat) : Int) > 0) = decide (Bs.dev n a size < 3) := by
  apply decide_eq_decide.2
  unfold Bs.whN
  split <;> omega
set_option maxHeartbeats 8000000 in
theorem rmayB_c (n : Nat) (x : Array Value) (hx : x[0]? = some (.int .i64 n)) (a : Ak) (ha : 0 ≤ a.addr ∧ a.addr ≤ 18446744073709551615) (w : World) :
    Calls Try.prog 17 #[.agg x, .agg a.cells] w fun e w' => e = .returned (.bool (Bs.mayB n a)) ∧ Below w.heap.size w w' := by
  have hb0 : Below w.heap.size w ((w.alloc (.cells x BxT)).alloc (.cells a.cells AKT)) := ((Below.refl _ _).alloc (Nat.le_refl _) _).alloc (by simp) _
  have hA : AkAt ((w.alloc (.cells x BxT)).alloc (.cells a.cells AKT)) (w.heap.size + 1) a := by
    have := CsAt.new (w.alloc (.cells x BxT)) AKT a.cells
    exact ⟨by simpa using this⟩
  have hN : ((w.alloc (.cells x BxT)).alloc (.cells a.cells AKT)).cell? ⟨w.heap.size, 0, none⟩ = some (.int .i64 n) := by
    have := ((CsAt.new w BxT x).alloc (.cells a.cells AKT)).cell 0
    rw [this, hx]
  have HB := Lib.hid hb0
  have HA := Lib.hid hA
  have HN := Lib.hid hN
  clear hb0 hA hN hx
  obtain ⟨r, hr⟩ : ∃ r, Bs.mayB n a = r := ⟨_, rfl⟩
  rw [hr]
  go_enter Try.func17, Try.ntmps17
  go_upto_region 1 with fail
  generalize ((w.alloc (.cells x BxT)).alloc (.cells a.cells AKT)) = w1 at *
  have q0 := HA.out.kind
  have q1 := HA.out.addr
  have q2 := HA.out.size
  have q3 := HN.out
  have HW := Lib.hid (fun W => rwhere_c n a.addr a.size ha.1 ha.2 W)
  have HP := Lib.hid (wh_pos n a.addr a.size)
  rcases kind_cases a.kind with hk | hk | hk | hk | hk | hk | hk
  · have hr2 : decide (Bs.dev n a.addr a.size < 3) = r := by rw [← hr]; unfold Bs.mayB Bs.isK; rw [hk]; rfl
    rw [hk] at q0
    rw [hr2] at HP
    have gp := HP.out
    clear hr hk hr2
    generalize Bs.whN n a.addr a.size = d at *
    have gp2 : decide (0 < d) = r := by rw [← gp]; apply decide_eq_decide.2; omega
    go_wp2_with fail
    refine (HW.out _).mono ?_
    rintro e w2 ⟨rfl, rfl⟩
    go_wp2_with fail
    go_ret
    exact ⟨rfl, HB.out⟩
  · have hr2 : decide (Bs.dev n a.addr a.size < 3) = r := by rw [← hr]; unfold Bs.mayB Bs.isK; rw [hk]; rfl
    rw [hk] at q0
    rw [hr2] at HP
    have gp := HP.out
    clear hr hk hr2
    generalize Bs.whN n a.addr a.size = d at *
    have gp2 : decide (0 < d) = r := by rw [← gp]; apply decide_eq_decide.2; omega
    go_wp2_with fail
    refine (HW.out _).mono ?_
    rintro e w2 ⟨rfl, rfl⟩
    go_wp2_with fail
    go_ret
    exact ⟨rfl, HB.out⟩
  · have hr2 : true = r := by rw [← hr]; unfold Bs.mayB Bs.isK Bs.otherK; rw [hk]; rfl
    rw [hk] at q0
    clear hk
    have HR2 := Lib.hid hr2
    clear hr hr2 HW HP q1 q2 q3
    go_wp2_with fail
    go_ret
    exact ⟨by rw [← HR2.out]; rfl, HB.out⟩
  · have hr2 : true = r := by rw [← hr]; unfold Bs.mayB Bs.isK Bs.otherK; rw [hk]; rfl
    rw [hk] at q0
    clear hk
    have HR2 := Lib.hid hr2
    clear hr hr2 HW HP q1 q2 q3
    go_wp2_with fail
    go_ret
    exact ⟨by rw [← HR2.out]; rfl, HB.out⟩
  · have hr2 : true = r := by rw [← hr]; unfold Bs.mayB Bs.isK Bs.otherK; rw [hk]; rfl
    rw [hk] at q0
    clear hk
    have HR2 := Lib.hid hr2
    clear hr hr2 HW HP q1 q2 q3
    go_wp2_with fail
    go_ret
    exact ⟨by rw [← HR2.out]; rfl, HB.out⟩
  · have hr2 : true = r := by rw [← hr]; unfold Bs.mayB Bs.isK Bs.otherK; rw [hk]; rfl
    rw [hk] at q0
    clear hk
    have HR2 := Lib.hid hr2
    clear hr hr2 HW HP q1 q2 q3
    go_wp2_with fail
    go_ret
    exact ⟨by rw [← HR2.out]; rfl, HB.out⟩
  · have hr2 : false = r := by
      rw [← hr]
      unfold Bs.mayB Bs.isK Bs.otherK
      have e : ∀ z : Int, a.kind ≠ z → (a.kind == z) = false := fun z h => by simpa using h
      rw [e 9 hk.1, e 10 hk.2.1, e 11 hk.2.2.1, e 18 hk.2.2.2.1, e 19 hk.2.2.2.2.1, e 20 hk.2.2.2.2.2]; rfl
    have e9 : (a.kind == 9) = false := by simpa using hk.1
    have e10 : (a.kind == 10) = false := by simpa using hk.2.1
    have e11 : (a.kind == 11) = false := by simpa using hk.2.2.1
    have e18 : (a.kind == 18) = false := by simpa using hk.2.2.2.1
    have e19 : (a.kind == 19) = false := by simpa using hk.2.2.2.2.1
    have e20 : (a.kind == 20) = false := by simpa using hk.2.2.2.2.2
    clear hk
    have HR2 := Lib.hid hr2
    clear hr hr2 HW HP q1 q2 q3
    go_wp2_with fail
    go_ret
    exact ⟨by rw [← HR2.out]; rfl, HB.out⟩
end Go.Proofs.Ytkknfhbaldeigaa
