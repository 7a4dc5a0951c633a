/-
  The reference of layer 20: At, Get, put, mpp, Enter, Leave.
-/
import Derived.Test.YtfjdalepaacmgaaDoorStaA
import Derived.Test.YtfjdalepaacmgaaDoorRefC
import Derived.ProofKit
import Derived.WalkLawsBesides
import Derived.Deep.DeepCutAuto
set_option maxRecDepth 20000
namespace Go.Proofs.YtfjdalepaacmgaaDoor
open Go.ChangeShapes Go.WideShapes Go.ChangeAt Go.RowKit Wd Csr Sta

/-- Where the bit of a name stands; -1: nowhere. -/
def atI (s : ByteArray) : Int := if s.toList == [115, 105, 101] then 1 else if s.toList == [109, 105, 101] then 3 else if s.toList == [115, 112, 105, 101] then 5 else if s.toList == [109, 112, 105, 101] then 7 else if s.toList == [115, 112, 112] then 8 else if s.toList == [109, 112, 114, 118] then 17 else if s.toList == [115, 117, 109] then 18 else if s.toList == [109, 120, 114] then 19 else if s.toList == [116, 118, 109] then 20 else if s.toList == [116, 119] then 21 else if s.toList == [116, 115, 114] then 22 else -1
theorem at_sie : atI ⟨#[115, 105, 101]⟩ = 1 := by decide +kernel
theorem at_mie : atI ⟨#[109, 105, 101]⟩ = 3 := by decide +kernel
theorem at_spie : atI ⟨#[115, 112, 105, 101]⟩ = 5 := by decide +kernel
theorem at_mpie : atI ⟨#[109, 112, 105, 101]⟩ = 7 := by decide +kernel
theorem at_spp : atI ⟨#[115, 112, 112]⟩ = 8 := by decide +kernel
theorem at_mprv : atI ⟨#[109, 112, 114, 118]⟩ = 17 := by decide +kernel
theorem at_sum : atI ⟨#[115, 117, 109]⟩ = 18 := by decide +kernel
theorem at_mxr : atI ⟨#[109, 120, 114]⟩ = 19 := by decide +kernel
theorem at_tvm : atI ⟨#[116, 118, 109]⟩ = 20 := by decide +kernel
theorem at_tw : atI ⟨#[116, 119]⟩ = 21 := by decide +kernel
theorem at_tsr : atI ⟨#[116, 115, 114]⟩ = 22 := by decide +kernel
theorem at_range (s : ByteArray) : -1 ≤ atI s ∧ atI s ≤ 22 := by
  unfold atI
  repeat' split
  all_goals omega
set_option maxHeartbeats 1000000 in
theorem at_c (s : ByteArray) (w : World) : Calls Tryd.prog 104 #[.string s] w fun e w' => e = .returned (.int .i64 (atI s)) ∧ w' = w := by
  cases e0 : (s.toList == [115, 105, 101])
  · cases e1 : (s.toList == [109, 105, 101])
    · cases e2 : (s.toList == [115, 112, 105, 101])
      · cases e3 : (s.toList == [109, 112, 105, 101])
        · cases e4 : (s.toList == [115, 112, 112])
          · cases e5 : (s.toList == [109, 112, 114, 118])
            · cases e6 : (s.toList == [115, 117, 109])
              · cases e7 : (s.toList == [109, 120, 114])
                · cases e8 : (s.toList == [116, 118, 109])
                  · cases e9 : (s.toList == [116, 119])
                    · cases e10 : (s.toList == [116, 115, 114])
                      · have HA := Lib.hid (show atI s = -1 by unfold atI; simp only [e0, e1, e2, e3, e4, e5, e6, e7, e8, e9, e10, Bool.false_eq_true, if_false])
                        go_enter Tryd.func104, Tryd.ntmps104
                        go_wp2_with fail
                        go_ret
                        exact ⟨by rw [HA.out]; rfl, rfl⟩
                      · have HA := Lib.hid (show atI s = 22 by unfold atI; simp only [e0, e1, e2, e3, e4, e5, e6, e7, e8, e9, e10, if_true, Bool.false_eq_true, if_false])
                        go_enter Tryd.func104, Tryd.ntmps104
                        go_wp2_with fail
                        go_ret
                        exact ⟨by rw [HA.out]; rfl, rfl⟩
                    · have HA := Lib.hid (show atI s = 21 by unfold atI; simp only [e0, e1, e2, e3, e4, e5, e6, e7, e8, e9, if_true, Bool.false_eq_true, if_false])
                      go_enter Tryd.func104, Tryd.ntmps104
                      go_wp2_with fail
                      go_ret
                      exact ⟨by rw [HA.out]; rfl, rfl⟩
                  · have HA := Lib.hid (show atI s = 20 by unfold atI; simp only [e0, e1, e2, e3, e4, e5, e6, e7, e8, if_true, Bool.false_eq_true, if_false])
                    go_enter Tryd.func104, Tryd.ntmps104
                    go_wp2_with fail
                    go_ret
                    exact ⟨by rw [HA.out]; rfl, rfl⟩
                · have HA := Lib.hid (show atI s = 19 by unfold atI; simp only [e0, e1, e2, e3, e4, e5, e6, e7, if_true, Bool.false_eq_true, if_false])
                  go_enter Tryd.func104, Tryd.ntmps104
                  go_wp2_with fail
                  go_ret
                  exact ⟨by rw [HA.out]; rfl, rfl⟩
              · have HA := Lib.hid (show atI s = 18 by unfold atI; simp only [e0, e1, e2, e3, e4, e5, e6, if_true, Bool.false_eq_true, if_false])
                go_enter Tryd.func104, Tryd.ntmps104
                go_wp2_with fail
                go_ret
                exact ⟨by rw [HA.out]; rfl, rfl⟩
            · have HA := Lib.hid (show atI s = 17 by unfold atI; simp only [e0, e1, e2, e3, e4, e5, if_true, Bool.false_eq_true, if_false])
              go_enter Tryd.func104, Tryd.ntmps104
              go_wp2_with fail
              go_ret
              exact ⟨by rw [HA.out]; rfl, rfl⟩
          · have HA := Lib.hid (show atI s = 8 by unfold atI; simp only [e0, e1, e2, e3, e4, if_true, Bool.false_eq_true, if_false])
            go_enter Tryd.func104, Tryd.ntmps104
            go_wp2_with fail
            go_ret
            exact ⟨by rw [HA.out]; rfl, rfl⟩
        · have HA := Lib.hid (show atI s = 7 by unfold atI; simp only [e0, e1, e2, e3, if_true, Bool.false_eq_true, if_false])
          go_enter Tryd.func104, Tryd.ntmps104
          go_wp2_with fail
          go_ret
          exact ⟨by rw [HA.out]; rfl, rfl⟩
      · have HA := Lib.hid (show atI s = 5 by unfold atI; simp only [e0, e1, e2, if_true, Bool.false_eq_true, if_false])
        go_enter Tryd.func104, Tryd.ntmps104
        go_wp2_with fail
        go_ret
        exact ⟨by rw [HA.out]; rfl, rfl⟩
    · have HA := Lib.hid (show atI s = 3 by unfold atI; simp only [e0, e1, if_true, Bool.false_eq_true, if_false])
      go_enter Tryd.func104, Tryd.ntmps104
      go_wp2_with fail
      go_ret
      exact ⟨by rw [HA.out]; rfl, rfl⟩
  · have HA := Lib.hid (show atI s = 1 by unfold atI; simp only [e0, if_true])
    go_enter Tryd.func104, Tryd.ntmps104
    go_wp2_with fail
    go_ret
    exact ⟨by rw [HA.out]; rfl, rfl⟩
set_option maxHeartbeats 1000000 in
theorem rget_c (x : Int) (hx : W64 x) (s : ByteArray) (w : World) : Calls Tryd.prog 79 #[.int .u64 x, .string s] w fun e w' => e = .returned (.int .u64 (bi (tbI x (atI s)))) ∧ w = w' := by
  have HC := Lib.hid (fun W => bit_c x (atI s) W hx.1 hx.2)
  go_enter Tryd.func79, Tryd.ntmps79
  go_wp2_with fail
  refine (at_c s _).mono ?_
  rintro e w1 ⟨rfl, rfl⟩
  go_wp2_with fail
  refine (HC.out _).mono ?_
  rintro e w2 ⟨rfl, rfl⟩
  go_wp2_with fail
  go_ret
  exact ⟨rfl, rfl⟩
set_option maxHeartbeats 1000000 in
theorem rput_c (x : Int) (hx : W64 x) (s : ByteArray) (n : Int) (hn : W64 n) (w : World) : Calls Tryd.prog 80 #[.int .u64 x, .string s, .int .u64 n] w fun e w' => e = .returned (.int .u64 (putS x (atI s) 1 n)) ∧ Below w.heap.size w w' := by
  have hr := at_range s
  have HC := Lib.hid (fun W => refPut_c x (atI s) 1 n W hx.1 hx.2 (by omega) (by omega) hn.1 hn.2)
  go_enter Tryd.func80, Tryd.ntmps80
  go_wp2_with fail
  refine (at_c s _).mono ?_
  rintro e w1 ⟨rfl, rfl⟩
  go_wp2_with fail
  refine (HC.out _).mono ?_
  rintro e w2 ⟨rfl, hb⟩
  have HB := Lib.hid hb
  clear hb
  go_wp2_with fail
  go_ret
  exact ⟨rfl, HB.out⟩
theorem get_at {x : Int} {s : ByteArray} {k : Nat} (h : atI s = k) (hk : k < 64) : bi (tbI x (atI s)) = cutS x k 1 := by
  rw [h, cut1 x hk, tbI_nat x k hk]
theorem get_sie (x : Int) : bi (tbI x (atI ⟨#[115, 105, 101]⟩)) = cutS x 1 1 := get_at (k := 1) at_sie (by omega)
theorem get_mie (x : Int) : bi (tbI x (atI ⟨#[109, 105, 101]⟩)) = cutS x 3 1 := get_at (k := 3) at_mie (by omega)
theorem get_spie (x : Int) : bi (tbI x (atI ⟨#[115, 112, 105, 101]⟩)) = cutS x 5 1 := get_at (k := 5) at_spie (by omega)
theorem get_mpie (x : Int) : bi (tbI x (atI ⟨#[109, 112, 105, 101]⟩)) = cutS x 7 1 := get_at (k := 7) at_mpie (by omega)
theorem get_spp (x : Int) : bi (tbI x (atI ⟨#[115, 112, 112]⟩)) = cutS x 8 1 := get_at (k := 8) at_spp (by omega)
theorem get_mprv (x : Int) : bi (tbI x (atI ⟨#[109, 112, 114, 118]⟩)) = cutS x 17 1 := get_at (k := 17) at_mprv (by omega)
theorem get_sum (x : Int) : bi (tbI x (atI ⟨#[115, 117, 109]⟩)) = cutS x 18 1 := get_at (k := 18) at_sum (by omega)
theorem get_mxr (x : Int) : bi (tbI x (atI ⟨#[109, 120, 114]⟩)) = cutS x 19 1 := get_at (k := 19) at_mxr (by omega)
theorem get_tvm (x : Int) : bi (tbI x (atI ⟨#[116, 118, 109]⟩)) = cutS x 20 1 := get_at (k := 20) at_tvm (by omega)
theorem get_tw (x : Int) : bi (tbI x (atI ⟨#[116, 119]⟩)) = cutS x 21 1 := get_at (k := 21) at_tw (by omega)
theorem get_tsr (x : Int) : bi (tbI x (atI ⟨#[116, 115, 114]⟩)) = cutS x 22 1 := get_at (k := 22) at_tsr (by omega)
theorem rprv_cases {p : Int} (h : isPriv p = true) : p = 0 ∨ p = 1 ∨ p = 3 := by
  unfold isPriv at h
  simp at h
  omega
theorem rprv_no {p : Int} (h : isPriv p = false) : ¬ (p = 0 ∨ p = 1 ∨ p = 3) := by
  unfold isPriv at h
  simp at h
  omega
end Go.Proofs.YtfjdalepaacmgaaDoor
