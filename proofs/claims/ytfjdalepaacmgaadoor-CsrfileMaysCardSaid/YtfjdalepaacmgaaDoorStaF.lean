/-
  Contracts of status.place, Has, Lets, Data, View, Lay, and of the reference's View, Lay, Data, Lets.
-/
import Derived.Test.YtfjdalepaacmgaaDoorStaC
import Derived.Test.YtfjdalepaacmgaaDoorStaD
import Derived.Test.YtfjdalepaacmgaaDoorCsrD
import Derived.Test.YtfjdalepaacmgaaDoorCsrG
set_option maxRecDepth 20000
namespace Go.Proofs.YtfjdalepaacmgaaDoor
open Go.ChangeShapes Go.WideShapes Go.ChangeAt Go.RowKit Wd Csr Sta

def plI (s : ByteArray) : Int := if atI s = -1 then 0 else atI s
set_option maxHeartbeats 1000000 in
theorem place_c (s : ByteArray) (w : World) : Calls Tryd.prog 99 #[.string s] w fun e w' => e = .returned (.tuple #[.int .u64 (plI s), .bool (atI s != -1)]) ∧ w' = w := by
  have HPL := Lib.hid (show plI s = if atI s = -1 then 0 else atI s from rfl)
  cases e0 : (s.toList == [115, 105, 101])
  · cases e1 : (s.toList == [109, 105, 101])
    · cases e2 : (s.toList == [115, 112, 105, 101])
      · cases e3 : (s.toList == [109, 112, 105, 101])
        · cases e4 : (s.toList == [115, 112, 112])
          · cases e5 : (s.toList == [109, 112, 114, 118])
            · cases e6 : (s.toList == [115, 117, 109])
              · cases e7 : (s.toList == [109, 120, 114])
                · cases e8 : (s.toList == [116, 118, 109])
                  · cases e9 : (s.toList == [116, 119])
                    · cases e10 : (s.toList == [116, 115, 114])
                      · have HA := Lib.hid (show atI s = -1 by unfold atI; simp only [e0, e1, e2, e3, e4, e5, e6, e7, e8, e9, e10, Bool.false_eq_true, if_false])
                        have HP2 := Lib.hid (show plI s = 0 by rw [HPL.out, HA.out]; rfl)
                        go_enter Tryd.func99, Tryd.ntmps99
                        go_wp2_with fail
                        go_ret2
                        exact ⟨by rw [HP2.out, HA.out]; rfl, rfl⟩
                      · have HA := Lib.hid (show atI s = 22 by unfold atI; simp only [e0, e1, e2, e3, e4, e5, e6, e7, e8, e9, e10, if_true, Bool.false_eq_true, if_false])
                        have HP2 := Lib.hid (show plI s = 22 by rw [HPL.out, HA.out]; rfl)
                        go_enter Tryd.func99, Tryd.ntmps99
                        go_wp2_with fail
                        go_ret2
                        exact ⟨by rw [HP2.out, HA.out]; rfl, rfl⟩
                    · have HA := Lib.hid (show atI s = 21 by unfold atI; simp only [e0, e1, e2, e3, e4, e5, e6, e7, e8, e9, if_true, Bool.false_eq_true, if_false])
                      have HP2 := Lib.hid (show plI s = 21 by rw [HPL.out, HA.out]; rfl)
                      go_enter Tryd.func99, Tryd.ntmps99
                      go_wp2_with fail
                      go_ret2
                      exact ⟨by rw [HP2.out, HA.out]; rfl, rfl⟩
                  · have HA := Lib.hid (show atI s = 20 by unfold atI; simp only [e0, e1, e2, e3, e4, e5, e6, e7, e8, if_true, Bool.false_eq_true, if_false])
                    have HP2 := Lib.hid (show plI s = 20 by rw [HPL.out, HA.out]; rfl)
                    go_enter Tryd.func99, Tryd.ntmps99
                    go_wp2_with fail
                    go_ret2
                    exact ⟨by rw [HP2.out, HA.out]; rfl, rfl⟩
                · have HA := Lib.hid (show atI s = 19 by unfold atI; simp only [e0, e1, e2, e3, e4, e5, e6, e7, if_true, Bool.false_eq_true, if_false])
                  have HP2 := Lib.hid (show plI s = 19 by rw [HPL.out, HA.out]; rfl)
                  go_enter Tryd.func99, Tryd.ntmps99
                  go_wp2_with fail
                  go_ret2
                  exact ⟨by rw [HP2.out, HA.out]; rfl, rfl⟩
              · have HA := Lib.hid (show atI s = 18 by unfold atI; simp only [e0, e1, e2, e3, e4, e5, e6, if_true, Bool.false_eq_true, if_false])
                have HP2 := Lib.hid (show plI s = 18 by rw [HPL.out, HA.out]; rfl)
                go_enter Tryd.func99, Tryd.ntmps99
                go_wp2_with fail
                go_ret2
                exact ⟨by rw [HP2.out, HA.out]; rfl, rfl⟩
            · have HA := Lib.hid (show atI s = 17 by unfold atI; simp only [e0, e1, e2, e3, e4, e5, if_true, Bool.false_eq_true, if_false])
              have HP2 := Lib.hid (show plI s = 17 by rw [HPL.out, HA.out]; rfl)
              go_enter Tryd.func99, Tryd.ntmps99
              go_wp2_with fail
              go_ret2
              exact ⟨by rw [HP2.out, HA.out]; rfl, rfl⟩
          · have HA := Lib.hid (show atI s = 8 by unfold atI; simp only [e0, e1, e2, e3, e4, if_true, Bool.false_eq_true, if_false])
            have HP2 := Lib.hid (show plI s = 8 by rw [HPL.out, HA.out]; rfl)
            go_enter Tryd.func99, Tryd.ntmps99
            go_wp2_with fail
            go_ret2
            exact ⟨by rw [HP2.out, HA.out]; rfl, rfl⟩
        · have HA := Lib.hid (show atI s = 7 by unfold atI; simp only [e0, e1, e2, e3, if_true, Bool.false_eq_true, if_false])
          have HP2 := Lib.hid (show plI s = 7 by rw [HPL.out, HA.out]; rfl)
          go_enter Tryd.func99, Tryd.ntmps99
          go_wp2_with fail
          go_ret2
          exact ⟨by rw [HP2.out, HA.out]; rfl, rfl⟩
      · have HA := Lib.hid (show atI s = 5 by unfold atI; simp only [e0, e1, e2, if_true, Bool.false_eq_true, if_false])
        have HP2 := Lib.hid (show plI s = 5 by rw [HPL.out, HA.out]; rfl)
        go_enter Tryd.func99, Tryd.ntmps99
        go_wp2_with fail
        go_ret2
        exact ⟨by rw [HP2.out, HA.out]; rfl, rfl⟩
    · have HA := Lib.hid (show atI s = 3 by unfold atI; simp only [e0, e1, if_true, Bool.false_eq_true, if_false])
      have HP2 := Lib.hid (show plI s = 3 by rw [HPL.out, HA.out]; rfl)
      go_enter Tryd.func99, Tryd.ntmps99
      go_wp2_with fail
      go_ret2
      exact ⟨by rw [HP2.out, HA.out]; rfl, rfl⟩
  · have HA := Lib.hid (show atI s = 1 by unfold atI; simp only [e0, if_true])
    have HP2 := Lib.hid (show plI s = 1 by rw [HPL.out, HA.out]; rfl)
    go_enter Tryd.func99, Tryd.ntmps99
    go_wp2_with fail
    go_ret2
    exact ⟨by rw [HP2.out, HA.out]; rfl, rfl⟩
def hasS (x : Int) (s : ByteArray) : Bool := bi (tbI x (atI s)) == 1
set_option maxHeartbeats 1000000 in
theorem has_c (x : Int) (hx : W64 x) (s : ByteArray) (w : World) : Calls Tryd.prog 75 #[.int .u64 x, .string s] w fun e w' => e = .returned (.bool (hasS x s)) ∧ Below w.heap.size w w' := by
  have HC := Lib.hid (fun W => place_c s W)
  by_cases h : atI s = -1
  · have hf : (atI s != -1) = false := by simp [h]
    have HH := Lib.hid (show hasS x s = false by unfold hasS; rw [h]; rfl)
    rw [hf] at HC
    generalize plI s = q at *
    clear h hf
    go_enter Tryd.func75, Tryd.ntmps75
    go_wp2_with fail
    refine (HC.out _).mono ?_
    rintro e w1 ⟨rfl, rfl⟩
    go_wp2_with fail
    go_ret
    exact ⟨by rw [HH.out]; rfl, Below.refl _ _⟩
  · have hr := at_range s
    obtain ⟨k, hk⟩ := Int.eq_ofNat_of_zero_le (show 0 ≤ atI s by omega)
    have hk64 : k < 64 := by omega
    have hf : (atI s != -1) = true := by simpa using h
    have hq : plI s = (k : Nat) := by unfold plI; rw [if_neg h, hk]
    have HH := Lib.hid (show hasS x s = (cutS x k 1 == 1) by unfold hasS; rw [get_at hk hk64])
    rw [hf, hq] at HC
    have HG := Lib.hid (fun W => fget_c k 1 hk64 (by omega) (by omega) x hx W)
    clear h hf hq hk hr
    generalize cutS x k ((1 : Nat) : Int) = c at *
    go_enter Tryd.func75, Tryd.ntmps75
    go_wp2_with fail
    refine (HC.out _).mono ?_
    rintro e w1 ⟨rfl, rfl⟩
    go_wp2_with fail
    refine (fbit_c k _).mono ?_
    rintro e w2 ⟨rfl, hb⟩
    have HB := Lib.hid hb
    clear hb
    go_wp2_with fail
    refine (HG.out _).mono ?_
    rintro e w3 ⟨rfl, hb⟩
    have HB3 := Lib.hid (HB.out.trans (hb.mono HB.out.size))
    clear hb
    go_wp2_with fail
    go_ret
    exact ⟨by rw [HH.out]; rfl, HB3.out⟩
def letsS (x p dst : Int) : Bool := if dst = 3 then (decide (p < 3) || (p == 3 && (cutS x 3 1 == 1))) else if dst = 1 then (decide (p < 1) || (p == 1 && (cutS x 1 1 == 1))) else false
def dataS (x p : Int) : Int := if p = 3 ∧ cutS x 17 1 = 1 then mppS x else p
set_option maxHeartbeats 1000000 in
theorem view_c (x : Int) (w : World) : Calls Tryd.prog 72 #[.int .u64 x] w fun e w' => e = .returned (.int .u64 (viewS x)) ∧ w = w' := by
  have HV := Lib.hid (show viewS x = bits .and .u64 x 8590721314 from rfl)
  go_enter Tryd.func72, Tryd.ntmps72
  go_wp2_with fail
  go_ret
  exact ⟨by rw [HV.out]; rfl, rfl⟩
set_option maxHeartbeats 1000000 in
theorem lay_c (x v : Int) (hx : W64 x) (hv : W64 v) (w : World) (hN : RowsIn w) : Calls Tryd.prog 67 #[.int .u64 x, .int .u64 v] w fun e w' => e = .returned (.int .u64 (legS 256 x v)) ∧ Below w.heap.size w w' := by
  have HC := Lib.hid (clegal_c 256 x v hx hv w hN)
  clear hN
  go_enter Tryd.func67, Tryd.ntmps67
  go_wp2_with fail
  refine HC.out.mono ?_
  rintro e w1 ⟨rfl, hb⟩
  have HB := Lib.hid hb
  clear hb
  go_wp2_with fail
  go_ret
  exact ⟨rfl, HB.out⟩
set_option maxHeartbeats 1000000 in
theorem rlay_c (x v : Int) (hx : W64 x) (hv : W64 v) (w : World) : Calls Tryd.prog 85 #[.int .u64 x, .int .u64 v] w fun e w' => e = .returned (.int .u64 (legS 256 x v)) ∧ Below w.heap.size w w' := by
  have HC := Lib.hid (rlegal_c 256 x v hx hv w)
  go_enter Tryd.func85, Tryd.ntmps85
  go_wp2_with fail
  refine HC.out.mono ?_
  rintro e w1 ⟨rfl, hb⟩
  have HB := Lib.hid hb
  clear hb
  go_wp2_with fail
  go_ret
  exact ⟨rfl, HB.out⟩
end Go.Proofs.YtfjdalepaacmgaaDoor
