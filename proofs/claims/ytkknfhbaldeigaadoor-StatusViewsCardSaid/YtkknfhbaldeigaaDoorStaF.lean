/-
  Contracts of status.place, Has, Lets, Data, View, Lay, and of the reference's View, Lay, Data, Lets.
-/
import Derived.Test.YtkknfhbaldeigaaDoorStaC
import Derived.Test.YtkknfhbaldeigaaDoorStaD
import Derived.Test.YtkknfhbaldeigaaDoorCsrD
import Derived.Test.YtkknfhbaldeigaaDoorCsrG
namespace Go.Proofs.YtkknfhbaldeigaaDoor
open Go.ChangeShapes Go.WideShapes Go.ChangeAt Go.RowKit Wd Csr Sta

def plI (s : ByteArray) : Int := if atI s = -1 then 0 else atI s
set_option maxHeartbeats 1000000 in
theorem place_c (s : ByteArray) (w : World) : Calls Tryd.prog 54 #[.string s] w fun e w' => e = .returned (.tuple #[.int .u64 (plI s), .bool (atI s != -1)]) ∧ w' = w := by
  have HPL := Lib.hid (show plI s = if atI s = -1 then 0 else atI s from rfl)
  cases e0 : (s.toList == [115, 105, 101])
  · cases e1 : (s.toList == [109, 105, 101])
    · cases e2 : (s.toList == [115, 112, 105, 101])
      · cases e3 : (s.toList == [109, 112, 105, 101])
        · cases e4 : (s.toList == [115, 112, 112])
          · cases e5 : (s.toList == [109, 112, 114, 118])
            · cases e6 : (s.toList == [115, 117, 109])
              · cases e7 : (s.toList == [109, 120, 114])
                · cases e8 : (s.toList == [116, 118, 109])
                  · cases e9 : (s.toList == [116, 119])
                    · cases e10 : (s.toList == [116, 115, 114])
                      · have HA := Lib.hid (show atI s = -1 by unfold atI; simp only [e0, e1, e2, e3, e4, e5, e6, e7, e8, e9, e10, Bool.false_eq_true, if_false])
                        have HP2 := Lib.hid (show plI s = 0 by rw [HPL.out, HA.out]; rfl)
                        go_enter Tryd.func54, Tryd.ntmps54
                        go_wp2_with fail
                        go_ret2
                        exact ⟨by rw [HP2.out, HA.out]; rfl, rfl⟩
                      · have HA := Lib.hid (show atI s = 22 by unfold atI; simp only [e0, e1, e2, e3, e4, e5, e6, e7, e8, e9, e10, if_true, Bool.false_eq_true, if_false])
                        have HP2 := Lib.hid (show plI s = 22 by rw [HPL.out, HA.out]; rfl)
                        go_enter Tryd.func54, Tryd.ntmps54
                        go_wp2_with fail
                        go_ret2
                        exact ⟨by rw [HP2.out, HA.out]; rfl, rfl⟩
                    · have HA := Lib.hid (show atI s = 21 by unfold atI; simp only [e0, e1, e2, e3, e4, e5, e6, e7, e8, e9, if_true, Bool.false_eq_true, if_false])
                      have HP2 := Lib.hid (show plI s = 21 by rw [HPL.out, HA.out]; rfl)
                      go_enter Tryd.func54, Tryd.ntmps54
                      go_wp2_with fail
                      go_ret2
                      exact ⟨by rw [HP2.out, HA.out]; rfl, rfl⟩
                  · have HA := Lib.hid (show atI s = 20 by unfold atI; simp only [e0, e1, e2, e3, e4, e5, e6, e7, e8, if_true, Bool.false_eq_true, if_false])
                    have HP2 := Lib.hid (show plI s = 20 by rw [HPL.out, HA.out]; rfl)
                    go_enter Tryd.func54, Tryd.ntmps54
                    go_wp2_with fail
                    go_ret2
                    exact ⟨by rw [HP2.out, HA.out]; rfl, rfl⟩
                · have HA := Lib.hid (show atI s = 19 by unfold atI; simp only [e0, e1, e2, e3, e4, e5, e6, e7, if_true, Bool.false_eq_true, if_false])
                  have HP2 := Lib.hid (show plI s = 19 by rw [HPL.out, HA.out]; rfl)
                  go_enter Tryd.func54, Tryd.ntmps54
                  go_wp2_with fail
                  go_ret2
                  exact ⟨by rw [HP2.out, HA.out]; rfl, rfl⟩
              · have HA := Lib.hid (show atI s = 18 by unfold atI; simp only [e0, e1, e2, e3, e4, e5, e6, if_true, Bool.false_eq_true, if_false])
                have HP2 := Lib.hid (show plI s = 18 by rw [HPL.out, HA.out]; rfl)
                go_enter Tryd.func54, Tryd.ntmps54
                go_wp2_with fail
                go_ret2
                exact ⟨by rw [HP2.out, HA.out]; rfl, rfl⟩
            · have HA := Lib.hid (show atI s = 17 by unfold atI; simp only [e0, e1, e2, e3, e4, e5, if_true, Bool.false_eq_true, if_false])
              have HP2 := Lib.hid (show plI s = 17 by rw [HPL.out, HA.out]; rfl)
              go_enter Tryd.func54, Tryd.ntmps54
              go_wp2_with fail
              go_ret2
              exact ⟨by rw [HP2.out, HA.out]; rfl, rfl⟩
          · have HA := Lib.hid (show atI s = 8 by unfold atI; simp only [e0, e1, e2, e3, e4, if_true, Bool.false_eq_true, if_false])
            have HP2 := Lib.hid (show plI s = 8 by rw [HPL.out, HA.out]; rfl)
            go_enter Tryd.func54, Tryd.ntmps54
            go_wp2_with fail
            go_ret2
            exact ⟨by rw [HP2.out, HA.out]; rfl, rfl⟩
        · have HA := Lib.hid (show atI s = 7 by unfold atI; simp only [e0, e1, e2, e3, if_true, Bool.false_eq_true, if_false])
          have HP2 := Lib.hid (show plI s = 7 by rw [HPL.out, HA.out]; rfl)
          go_enter Tryd.func54, Tryd.ntmps54
          go_wp2_with fail
          go_ret2
          exact ⟨by rw [HP2.out, HA.out]; rfl, rfl⟩
      · have HA := Lib.hid (show atI s = 5 by unfold atI; simp only [e0, e1, e2, if_true, Bool.false_eq_true, if_false])
        have HP2 := Lib.hid (show plI s = 5 by rw [HPL.out, HA.out]; rfl)
        go_enter Tryd.func54, Tryd.ntmps54
        go_wp2_with fail
        go_ret2
        exact ⟨by rw [HP2.out, HA.out]; rfl, rfl⟩
    · have HA := Lib.hid (show atI s = 3 by unfold atI; simp only [e0, e1, if_true, Bool.false_eq_true, if_false])
      have HP2 := Lib.hid (show plI s = 3 by rw [HPL.out, HA.out]; rfl)
      go_enter Tryd.func54, Tryd.ntmps54
      go_wp2_with fail
      go_ret2
      exact ⟨by rw [HP2.out, HA.out]; rfl, rfl⟩
  · have HA := Lib.hid (show atI s = 1 by unfold atI; simp only [e0, if_true])
    have HP2 := Lib.hid (show plI s = 1 by rw [HPL.out, HA.out]; rfl)
    go_enter Tryd.func54, Tryd.ntmps54
    go_wp2_with fail
    go_ret2
    exact ⟨by rw [HP2.out, HA.out]; rfl, rfl⟩
def hasS (x : Int) (s : ByteArray) : Bool := bi (tbI x (atI s)) == 1
set_option maxHeartbeats 1000000 in
theorem has_c (x : Int) (hx : W64 x) (s : ByteArray) (w : World) : Calls Tryd.prog 35 #[.int .u64 x, .string s] w fun e w' => e = .returned (.bool (hasS x s)) ∧ Below w.heap.size w w' := by
  have HC := Lib.hid (fun W => place_c s W)
  by_cases h : atI s = -1
  · have hf : (atI s != -1) = false := by simp [h]
    have HH := Lib.hid (show hasS x s = false by unfold hasS; rw [h]; rfl)
    rw [hf] at HC
    generalize plI s = q at *
    clear h hf
    go_enter Tryd.func35, Tryd.ntmps35
    go_wp2_with fail
    refine (HC.out _).mono ?_
    rintro e w1 ⟨rfl, rfl⟩
    go_wp2_with fail
    go_ret
    exact ⟨by rw [HH.out]; rfl, Below.refl _ _⟩
  · have hr := at_range s
    obtain ⟨k, hk⟩ := Int.eq_ofNat_of_zero_le (show 0 ≤ atI s by omega)
    have hk64 : k < 64 := by omega
    have hf : (atI s != -1) = true := by simpa using h
    have hq : plI s = (k : Nat) := by unfold plI; rw [if_neg h, hk]
    have HH := Lib.hid (show hasS x s = (cutS x k 1 == 1) by unfold hasS; rw [get_at hk hk64])
    rw [hf, hq] at HC
    have HG := Lib.hid (fun W => fget_c k 1 hk64 (by omega) (by omega) x hx W)
    clear h hf hq hk hr
    generalize cutS x k ((1 : Nat) : Int) = c at *
    go_enter Tryd.func35, Tryd.ntmps35
    go_wp2_with fail
    refine (HC.out _).mono ?_
    rintro e w1 ⟨rfl, rfl⟩
    go_wp2_with fail
    refine (fbit_c k _).mono ?_
    rintro e w2 ⟨rfl, hb⟩
    have HB := Lib.hid hb
    clear hb
    go_wp2_with fail
    refine (HG.out _).mono ?_
    rintro e w3 ⟨rfl, hb⟩
    have HB3 := Lib.hid (HB.out.trans (hb.mono HB.out.size))
    clear hb
    go_wp2_with fail
    go_ret
    exact ⟨by rw [HH.out]; rfl, HB3.out⟩
def letsS (x p dst : Int) : Bool := if dst = 3 then (decide (p < 3) || (p == 3 && (cutS x 3 1 == 1))) else if dst = 1 then (decide (p < 1) || (p == 1 && (cutS x 1 1 == 1))) else false
set_option maxHeartbeats 2000000 in
theorem lets3_c (x p : Int) (hx : W64 x) (w : World) : Calls Tryd.prog 33 #[.int .u64 x, .int .i64 p, .int .i64 3] w fun e w' => e = .returned (.bool (decide (p < 3) || (p == 3 && (cutS x 3 1 == 1)))) ∧ Below w.heap.size w w' := by
  have HG := Lib.hid (fun W => fget_c 3 1 (by omega) (by omega) (by omega) x hx W)
  have HR := Lib.hid (show (decide (p < 3) || (p == 3 && (cutS x 3 1 == 1))) = (decide (p < 3) || (p == 3 && (cutS x ((3 : Nat) : Int) ((1 : Nat) : Int) == 1))) from rfl)
  rw [HR.out]
  clear HR
  generalize cutS x ((3 : Nat) : Int) ((1 : Nat) : Int) = c at *
  generalize hz : (decide (p < 3) || (p == 3 && (c == 1))) = z
  have HZ := Lib.hid hz
  clear hz
  by_cases h1 : p < 3
  · have e1 : decide (p < 3) = true := by simpa using h1
    have HI := Lib.hid (show z = true by rw [← HZ.out, e1]; rfl)
    clear h1
    go_enter Tryd.func33, Tryd.ntmps33
    go_wp2_with fail
    refine (fstk3_c _).mono ?_
    rintro e w1 ⟨rfl, hb⟩
    have HB := Lib.hid hb
    clear hb
    go_wp2_with fail
    go_ret
    exact ⟨by rw [HI.out]; rfl, HB.out.alloc HB.out.size _⟩
  · have e1 : decide (p < 3) = false := by simpa using h1
    by_cases h2 : p = 3
    · subst h2
      have HI := Lib.hid (show z = (c == 1) by rw [← HZ.out]; rfl)
      clear h1
      go_enter Tryd.func33, Tryd.ntmps33
      go_wp2_with fail
      refine (fstk3_c _).mono ?_
      rintro e w1 ⟨rfl, hb⟩
      have HB := Lib.hid hb
      clear hb
      go_wp2_with fail
      refine (HG.out _).mono ?_
      rintro e w2 ⟨rfl, hb⟩
      have HB2 := Lib.hid ((HB.out.alloc HB.out.size _).trans (hb.mono (HB.out.alloc HB.out.size _).size))
      clear hb
      go_wp2_with fail
      go_ret
      exact ⟨by rw [HI.out]; rfl, HB2.out⟩
    · have e2 : (p == 3) = false := by simpa using h2
      have HI := Lib.hid (show z = false by rw [← HZ.out, e1, e2]; rfl)
      clear h1 h2
      go_enter Tryd.func33, Tryd.ntmps33
      go_wp2_with fail
      refine (fstk3_c _).mono ?_
      rintro e w1 ⟨rfl, hb⟩
      have HB := Lib.hid hb
      clear hb
      go_wp2_with fail
      go_ret
      exact ⟨by rw [HI.out]; rfl, HB.out.alloc HB.out.size _⟩
set_option maxHeartbeats 2000000 in
theorem lets1_c (x p : Int) (hx : W64 x) (w : World) : Calls Tryd.prog 33 #[.int .u64 x, .int .i64 p, .int .i64 1] w fun e w' => e = .returned (.bool (decide (p < 1) || (p == 1 && (cutS x 1 1 == 1)))) ∧ Below w.heap.size w w' := by
  have HG := Lib.hid (fun W => fget_c 1 1 (by omega) (by omega) (by omega) x hx W)
  have HR := Lib.hid (show (decide (p < 1) || (p == 1 && (cutS x 1 1 == 1))) = (decide (p < 1) || (p == 1 && (cutS x ((1 : Nat) : Int) ((1 : Nat) : Int) == 1))) from rfl)
  rw [HR.out]
  clear HR
  generalize cutS x ((1 : Nat) : Int) ((1 : Nat) : Int) = c at *
  generalize hz : (decide (p < 1) || (p == 1 && (c == 1))) = z
  have HZ := Lib.hid hz
  clear hz
  by_cases h1 : p < 1
  · have e1 : decide (p < 1) = true := by simpa using h1
    have HI := Lib.hid (show z = true by rw [← HZ.out, e1]; rfl)
    clear h1
    go_enter Tryd.func33, Tryd.ntmps33
    go_wp2_with fail
    refine (fstk1_c _).mono ?_
    rintro e w1 ⟨rfl, hb⟩
    have HB := Lib.hid hb
    clear hb
    go_wp2_with fail
    go_ret
    exact ⟨by rw [HI.out]; rfl, HB.out.alloc HB.out.size _⟩
  · have e1 : decide (p < 1) = false := by simpa using h1
    by_cases h2 : p = 1
    · subst h2
      have HI := Lib.hid (show z = (c == 1) by rw [← HZ.out]; rfl)
      clear h1
      go_enter Tryd.func33, Tryd.ntmps33
      go_wp2_with fail
      refine (fstk1_c _).mono ?_
      rintro e w1 ⟨rfl, hb⟩
      have HB := Lib.hid hb
      clear hb
      go_wp2_with fail
      refine (HG.out _).mono ?_
      rintro e w2 ⟨rfl, hb⟩
      have HB2 := Lib.hid ((HB.out.alloc HB.out.size _).trans (hb.mono (HB.out.alloc HB.out.size _).size))
      clear hb
      go_wp2_with fail
      go_ret
      exact ⟨by rw [HI.out]; rfl, HB2.out⟩
    · have e2 : (p == 1) = false := by simpa using h2
      have HI := Lib.hid (show z = false by rw [← HZ.out, e1, e2]; rfl)
      clear h1 h2
      go_enter Tryd.func33, Tryd.ntmps33
      go_wp2_with fail
      refine (fstk1_c _).mono ?_
      rintro e w1 ⟨rfl, hb⟩
      have HB := Lib.hid hb
      clear hb
      go_wp2_with fail
      go_ret
      exact ⟨by rw [HI.out]; rfl, HB.out.alloc HB.out.size _⟩
set_option maxHeartbeats 2000000 in
theorem lets0_c (x p dst : Int) (h3 : dst ≠ 3) (h1 : dst ≠ 1) (w : World) : Calls Tryd.prog 33 #[.int .u64 x, .int .i64 p, .int .i64 dst] w fun e w' => e = .returned (.bool false) ∧ Below w.heap.size w w' := by
  have HK := Lib.hid (fun W => fstk0_c dst h3 h1 W)
  clear h3 h1
  go_enter Tryd.func33, Tryd.ntmps33
  go_wp2_with fail
  refine (HK.out _).mono ?_
  rintro e w1 ⟨rfl, hb⟩
  have HB := Lib.hid hb
  clear hb
  go_wp2_with fail
  go_ret
  exact ⟨rfl, HB.out.alloc HB.out.size _⟩
theorem lets_c (x p dst : Int) (hx : W64 x) (w : World) : Calls Tryd.prog 33 #[.int .u64 x, .int .i64 p, .int .i64 dst] w fun e w' => e = .returned (.bool (letsS x p dst)) ∧ Below w.heap.size w w' := by
  unfold letsS
  by_cases h3 : dst = 3
  · subst h3; rw [if_pos rfl]; exact lets3_c x p hx w
  · by_cases h1 : dst = 1
    · subst h1; rw [if_neg h3, if_pos rfl]; exact lets1_c x p hx w
    · rw [if_neg h3, if_neg h1]; exact lets0_c x p dst h3 h1 w
set_option maxHeartbeats 2000000 in
theorem rlets3_c (x p : Int) (hx : W64 x) (w : World) : Calls Tryd.prog 34 #[.int .u64 x, .int .i64 p, .int .i64 3] w fun e w' => e = .returned (.bool (decide (p < 3) || (p == 3 && (cutS x 3 1 == 1)))) ∧ w = w' := by
  have HG := Lib.hid (fun W => rget_c x hx ⟨#[109, 105, 101]⟩ W)
  rw [get_mie] at HG
  generalize cutS x 3 1 = c at *
  generalize hz : (decide (p < 3) || (p == 3 && (c == 1))) = z
  have HZ := Lib.hid hz
  clear hz
  by_cases h1 : p < 3
  · have e1 : decide (p < 3) = true := by simpa using h1
    have HI := Lib.hid (show z = true by rw [← HZ.out, e1]; rfl)
    clear h1
    go_enter Tryd.func34, Tryd.ntmps34
    go_wp2_with fail
    go_ret
    exact ⟨by rw [HI.out]; rfl, rfl⟩
  · have e1 : decide (p < 3) = false := by simpa using h1
    by_cases h2 : p = 3
    · subst h2
      have HI := Lib.hid (show z = (c == 1) by rw [← HZ.out]; rfl)
      clear h1
      go_enter Tryd.func34, Tryd.ntmps34
      go_wp2_with fail
      refine (HG.out _).mono ?_
      rintro e w2 ⟨rfl, rfl⟩
      go_wp2_with fail
      go_ret
      exact ⟨by rw [HI.out]; rfl, rfl⟩
    · have e2 : (p == 3) = false := by simpa using h2
      have HI := Lib.hid (show z = false by rw [← HZ.out, e1, e2]; rfl)
      clear h1 h2
      go_enter Tryd.func34, Tryd.ntmps34
      go_wp2_with fail
      go_ret
      exact ⟨by rw [HI.out]; rfl, rfl⟩
set_option maxHeartbeats 2000000 in
theorem rlets1_c (x p : Int) (hx : W64 x) (w : World) : Calls Tryd.prog 34 #[.int .u64 x, .int .i64 p, .int .i64 1] w fun e w' => e = .returned (.bool (decide (p < 1) || (p == 1 && (cutS x 1 1 == 1)))) ∧ w = w' := by
  have HG := Lib.hid (fun W => rget_c x hx ⟨#[115, 105, 101]⟩ W)
  rw [get_sie] at HG
  generalize cutS x 1 1 = c at *
  generalize hz : (decide (p < 1) || (p == 1 && (c == 1))) = z
  have HZ := Lib.hid hz
  clear hz
  by_cases h1 : p < 1
  · have e1 : decide (p < 1) = true := by simpa using h1
    have HI := Lib.hid (show z = true by rw [← HZ.out, e1]; rfl)
    clear h1
    go_enter Tryd.func34, Tryd.ntmps34
    go_wp2_with fail
    go_ret
    exact ⟨by rw [HI.out]; rfl, rfl⟩
  · have e1 : decide (p < 1) = false := by simpa using h1
    by_cases h2 : p = 1
    · subst h2
      have HI := Lib.hid (show z = (c == 1) by rw [← HZ.out]; rfl)
      clear h1
      go_enter Tryd.func34, Tryd.ntmps34
      go_wp2_with fail
      refine (HG.out _).mono ?_
      rintro e w2 ⟨rfl, rfl⟩
      go_wp2_with fail
      go_ret
      exact ⟨by rw [HI.out]; rfl, rfl⟩
    · have e2 : (p == 1) = false := by simpa using h2
      have HI := Lib.hid (show z = false by rw [← HZ.out, e1, e2]; rfl)
      clear h1 h2
      go_enter Tryd.func34, Tryd.ntmps34
      go_wp2_with fail
      go_ret
      exact ⟨by rw [HI.out]; rfl, rfl⟩
theorem rlets_c (x p dst : Int) (hx : W64 x) (w : World) : Calls Tryd.prog 34 #[.int .u64 x, .int .i64 p, .int .i64 dst] w fun e w' => e = .returned (.bool (letsS x p dst)) ∧ w = w' := by
  unfold letsS
  by_cases h3 : dst = 3
  · subst h3; rw [if_pos rfl]; exact rlets3_c x p hx w
  · by_cases h1 : dst = 1
    · subst h1; rw [if_neg h3, if_pos rfl]; exact rlets1_c x p hx w
    · rw [if_neg h3, if_neg h1]
      have e3 : (dst == 3) = false := by simpa using h3
      have e1 : (dst == 1) = false := by simpa using h1
      clear h3 h1
      go_enter Tryd.func34, Tryd.ntmps34
      go_wp2_with fail
      go_ret
      exact ⟨rfl, rfl⟩
def dataS (x p : Int) : Int := if p = 3 ∧ cutS x 17 1 = 1 then mppS x else p
set_option maxHeartbeats 2000000 in
theorem data_c (x p : Int) (hx : W64 x) (w : World) : Calls Tryd.prog 31 #[.int .u64 x, .int .i64 p] w fun e w' => e = .returned (.int .i64 (dataS x p)) ∧ Below w.heap.size w w' := by
  have HD := Lib.hid (show dataS x p = if p = 3 ∧ cutS x ((17 : Nat) : Int) ((1 : Nat) : Int) = 1 then mppS x else p from rfl)
  have HG := Lib.hid (fun W => fget_c 17 1 (by omega) (by omega) (by omega) x hx W)
  have HM := Lib.hid (fun W => fget_c 11 2 (by omega) (by omega) (by omega) x hx W)
  have h4 := cut2_lt x
  have h5 := (cutS_range x 11 2).1
  have HP := Lib.hid (fun W => fprv_c (cutS x ((11 : Nat) : Int) ((2 : Nat) : Int)) h5 (by have e : cutS x ((11 : Nat) : Int) ((2 : Nat) : Int) = cutS x 11 2 := rfl; rw [e]; omega) W)
  have HQ := Lib.hid (show mppS x = prvS (cutS x ((11 : Nat) : Int) ((2 : Nat) : Int)) from rfl)
  clear h4 h5
  generalize cutS x ((17 : Nat) : Int) ((1 : Nat) : Int) = c at *
  generalize mppS x = q at *
  generalize prvS (cutS x ((11 : Nat) : Int) ((2 : Nat) : Int)) = q2 at *
  generalize cutS x ((11 : Nat) : Int) ((2 : Nat) : Int) = m at *
  by_cases h1 : p = 3
  · subst h1
    by_cases h2 : c = 1
    · have e2 : (c == 1) = true := by simpa using h2
      have HI := Lib.hid (show dataS x 3 = q2 by rw [HD.out, if_pos ⟨rfl, h2⟩, HQ.out])
      clear h2
      go_enter Tryd.func31, Tryd.ntmps31
      go_wp2_with fail
      refine (fbit_c 17 _).mono ?_
      rintro e w1 ⟨rfl, hb⟩
      have HB := Lib.hid hb
      clear hb
      go_wp2_with fail
      refine (HG.out _).mono ?_
      rintro e w2 ⟨rfl, hb⟩
      replace HB := Lib.hid (HB.out.trans (hb.mono HB.out.size))
      clear hb
      go_wp2_with fail
      refine (HM.out _).mono ?_
      rintro e w3 ⟨rfl, hb⟩
      replace HB := Lib.hid (HB.out.trans (hb.mono HB.out.size))
      clear hb
      go_wp2_with fail
      refine (HP.out _).mono ?_
      rintro e w4 ⟨rfl, rfl⟩
      go_wp2_with fail
      go_ret
      exact ⟨by rw [HI.out]; rfl, HB.out⟩
    · have e2 : (c == 1) = false := by simpa using h2
      have HI := Lib.hid (show dataS x 3 = 3 by rw [HD.out, if_neg (fun h => h2 h.2)])
      clear h2
      go_enter Tryd.func31, Tryd.ntmps31
      go_wp2_with fail
      refine (fbit_c 17 _).mono ?_
      rintro e w1 ⟨rfl, hb⟩
      have HB := Lib.hid hb
      clear hb
      go_wp2_with fail
      refine (HG.out _).mono ?_
      rintro e w2 ⟨rfl, hb⟩
      replace HB := Lib.hid (HB.out.trans (hb.mono HB.out.size))
      clear hb
      go_wp2_with fail
      go_ret
      exact ⟨by rw [HI.out]; rfl, HB.out⟩
  · have e1 : (p == 3) = false := by simpa using h1
    have HI := Lib.hid (show dataS x p = p by rw [HD.out, if_neg (fun h => h1 h.1)])
    clear h1
    go_enter Tryd.func31, Tryd.ntmps31
    go_wp2_with fail
    go_ret
    exact ⟨by rw [HI.out]; rfl, Below.refl _ _⟩
set_option maxHeartbeats 2000000 in
theorem rdata_c (x p : Int) (hx : W64 x) (w : World) : Calls Tryd.prog 32 #[.int .u64 x, .int .i64 p] w fun e w' => e = .returned (.int .i64 (dataS x p)) ∧ Below w.heap.size w w' := by
  have HD := Lib.hid (show dataS x p = if p = 3 ∧ cutS x 17 1 = 1 then mppS x else p from rfl)
  have HG := Lib.hid (fun W => rget_c x hx ⟨#[109, 112, 114, 118]⟩ W)
  rw [get_mprv] at HG
  have HM := Lib.hid (fun W => rmpp_c x hx W)
  generalize cutS x 17 1 = c at *
  generalize mppS x = q at *
  by_cases h1 : p = 3
  · subst h1
    by_cases h2 : c = 1
    · have e2 : (c == 1) = true := by simpa using h2
      have HI := Lib.hid (show dataS x 3 = q by rw [HD.out, if_pos ⟨rfl, h2⟩])
      clear h2
      go_enter Tryd.func32, Tryd.ntmps32
      go_wp2_with fail
      refine (HG.out _).mono ?_
      rintro e w1 ⟨rfl, rfl⟩
      go_wp2_with fail
      refine (HM.out _).mono ?_
      rintro e w2 ⟨rfl, hb⟩
      have HB := Lib.hid hb
      clear hb
      go_wp2_with fail
      go_ret
      exact ⟨by rw [HI.out]; rfl, HB.out⟩
    · have e2 : (c == 1) = false := by simpa using h2
      have HI := Lib.hid (show dataS x 3 = 3 by rw [HD.out, if_neg (fun h => h2 h.2)])
      clear h2
      go_enter Tryd.func32, Tryd.ntmps32
      go_wp2_with fail
      refine (HG.out _).mono ?_
      rintro e w1 ⟨rfl, rfl⟩
      go_wp2_with fail
      go_ret
      exact ⟨by rw [HI.out]; rfl, Below.refl _ _⟩
  · have e1 : (p == 3) = false := by simpa using h1
    have HI := Lib.hid (show dataS x p = p by rw [HD.out, if_neg (fun h => h1 h.1)])
    clear h1
    go_enter Tryd.func32, Tryd.ntmps32
    go_wp2_with fail
    go_ret
    exact ⟨by rw [HI.out]; rfl, Below.refl _ _⟩
set_option maxHeartbeats 1000000 in
theorem view_c (x : Int) (w : World) : Calls Tryd.prog 27 #[.int .u64 x] w fun e w' => e = .returned (.int .u64 (viewS x)) ∧ w = w' := by
  have HV := Lib.hid (show viewS x = bits .and .u64 x 8590721314 from rfl)
  go_enter Tryd.func27, Tryd.ntmps27
  go_wp2_with fail
  go_ret
  exact ⟨by rw [HV.out]; rfl, rfl⟩
set_option maxHeartbeats 1000000 in
theorem lay_c (x v : Int) (hx : W64 x) (hv : W64 v) (w : World) (hN : RowsIn w) : Calls Tryd.prog 29 #[.int .u64 x, .int .u64 v] w fun e w' => e = .returned (.int .u64 (legS 256 x v)) ∧ Below w.heap.size w w' := by
  have HC := Lib.hid (clegal_c 256 x v hx hv w hN)
  clear hN
  go_enter Tryd.func29, Tryd.ntmps29
  go_wp2_with fail
  refine HC.out.mono ?_
  rintro e w1 ⟨rfl, hb⟩
  have HB := Lib.hid hb
  clear hb
  go_wp2_with fail
  go_ret
  exact ⟨rfl, HB.out⟩
set_option maxHeartbeats 1000000 in
theorem rlay_c (x v : Int) (hx : W64 x) (hv : W64 v) (w : World) : Calls Tryd.prog 30 #[.int .u64 x, .int .u64 v] w fun e w' => e = .returned (.int .u64 (legS 256 x v)) ∧ Below w.heap.size w w' := by
  have HC := Lib.hid (rlegal_c 256 x v hx hv w)
  go_enter Tryd.func30, Tryd.ntmps30
  go_wp2_with fail
  refine HC.out.mono ?_
  rintro e w1 ⟨rfl, hb⟩
  have HB := Lib.hid hb
  clear hb
  go_wp2_with fail
  go_ret
  exact ⟨rfl, HB.out⟩
end Go.Proofs.YtkknfhbaldeigaaDoor
