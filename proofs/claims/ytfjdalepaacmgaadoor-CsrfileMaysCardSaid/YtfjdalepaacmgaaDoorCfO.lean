/-
  Who may: csrfile.File.May, shows, the reference's May; what a file that is not there answers.
-/
import Derived.Test.YtfjdalepaacmgaaDoorCfL
set_option maxRecDepth 20000
namespace Go.Proofs.YtfjdalepaacmgaaDoor
open Go.ChangeShapes Go.WideShapes Go.ChangeAt Go.RowKit Wd Csr Sta Cf

theorem tb_pow {c i : Nat} : tb ((2 : Int) ^ c) i = decide (i = c) := by
  unfold tb
  rw [toNat_pow, Nat.testBit_two_pow]
  exact decide_eq_decide.2 eq_comm
theorem and_pow {x : Int} (hx : W64 x) {k : Nat} (hk : k < 64) : (bits .and .u64 x (2 ^ k) == 0) = !tb x k := by
  have hp := pow_le (k := k) (by omega)
  have e2 : W64 ((2 : Int) ^ k) := ⟨by omega, by omega⟩
  have hr := and_range hx.1 hx.2 e2.1 e2.2
  have hb : ∀ i, tb (bits .and .u64 x (2 ^ k)) i = (tb x i && decide (i = k)) := fun i => by rw [tb_and hx.1 hx.2 e2.1 e2.2, tb_pow]
  cases h : tb x k
  · have : bits .and .u64 x (2 ^ k) = 0 := by
      apply ext hr.1 hr.2 (by omega) (by omega)
      intro i _
      rw [hb i, tb_zero]
      by_cases e : i = k
      · subst e; rw [h]; rfl
      · simp [e]
    rw [this]; rfl
  · have h1 := hb k
    rw [h] at h1
    simp only [Bool.true_and, decide_true] at h1
    simp only [Bool.not_true, beq_eq_false_iff_ne, ne_eq]
    intro e
    rw [e, tb_zero] at h1
    cases h1
def showS (s : S) (k : Nat) (p : Int) : Bool := (p == 3 || tb (s.f 774) k) && (p != 0 || tb (s.f 262) k)
def mayF (s : S) (n p : Int) (wr : Bool) : Bool := mayC n p wr && (if n = 384 then (p != 1 || !hasS (s.f 768) ⟨#[116, 118, 109]⟩) else if n = 3072 then showS s 0 p else if n = 3073 then showS s 1 p else if n = 3074 then showS s 2 p else true)
theorem may_prv {n p : Int} {wr : Bool} (h : mayC n p wr = true) : p = 0 ∨ p = 1 ∨ p = 3 := by
  unfold mayC at h
  simp only [Bool.and_eq_true] at h
  have := h.1.1.2
  unfold isPrv at this
  simp only [Bool.or_eq_true, beq_iff_eq] at this
  omega
set_option maxHeartbeats 4000000 in
theorem fshows_c (g : Nat) (k : Nat) (hk : k < 3) (p : Int) (hp : p = 0 ∨ p = 1 ∨ p = 3) (s : S) (w : World) (hK : KeptIn w) (h : FlAt w g s) :
    Calls Tryd.prog 76 #[.pointer (some ⟨g, 0, none⟩), .int .i64 (3072 + k : Nat), .int .i64 p] w fun e w' => e = .returned (.bool (showS s k p)) ∧ Below w.heap.size w w' := by
  have HW := Lib.hid (fun m W (hb : Below w.heap.size w W) => fword_c g m s W (hK.low hb) (h.low hb))
  have ok := h.ok
  have hx1 := and_pow (ok.w 774) (k := k) (by omega)
  have hx2 := and_pow (ok.w 262) (k := k) (by omega)
  have HV := Lib.hid (show showS s k p = ((p == 3 || tb (s.f 774) k) && (p != 0 || tb (s.f 262) k)) from rfl)
  generalize tb (s.f 774) k = b1 at *
  generalize tb (s.f 262) k = b2 at *
  clear hK h ok
  obtain rfl | rfl | rfl : k = 0 ∨ k = 1 ∨ k = 2 := by omega
  all_goals rcases hp with rfl | rfl | rfl
  all_goals cases b1 <;> cases b2
  · skip
    have q1 : (bits .and .u64 (s.f 774) 1 == 0) = true := hx1
    have q2 : (bits .and .u64 (s.f 262) 1 != 0) = false := by rw [bne, show (bits .and .u64 (s.f 262) 1 == 0) = true from hx2]; rfl
    clear hx1 hx2
    go_enter Tryd.func76, Tryd.ntmps76
    go_wp2_with fail
    refine (HW.out 774 _ (Below.refl _ _)).mono ?_
    rintro e w1 ⟨rfl, hb⟩
    have HB1 := Lib.hid (hb)
    clear hb
    go_wp2_with fail
    go_ret
    exact ⟨by rw [HV.out]; rfl, HB1.out⟩
  · skip
    have q1 : (bits .and .u64 (s.f 774) 1 == 0) = true := hx1
    have q2 : (bits .and .u64 (s.f 262) 1 != 0) = true := by rw [bne, show (bits .and .u64 (s.f 262) 1 == 0) = false from hx2]; rfl
    clear hx1 hx2
    go_enter Tryd.func76, Tryd.ntmps76
    go_wp2_with fail
    refine (HW.out 774 _ (Below.refl _ _)).mono ?_
    rintro e w1 ⟨rfl, hb⟩
    have HB1 := Lib.hid (hb)
    clear hb
    go_wp2_with fail
    go_ret
    exact ⟨by rw [HV.out]; rfl, HB1.out⟩
  · skip
    have q1 : (bits .and .u64 (s.f 774) 1 == 0) = false := hx1
    have q2 : (bits .and .u64 (s.f 262) 1 != 0) = false := by rw [bne, show (bits .and .u64 (s.f 262) 1 == 0) = true from hx2]; rfl
    clear hx1 hx2
    go_enter Tryd.func76, Tryd.ntmps76
    go_wp2_with fail
    refine (HW.out 774 _ (Below.refl _ _)).mono ?_
    rintro e w1 ⟨rfl, hb⟩
    have HB1 := Lib.hid (hb)
    clear hb
    go_wp2_with fail
    refine (HW.out 262 _ HB1.out).mono ?_
    rintro e w2 ⟨rfl, hb⟩
    have HB2 := Lib.hid (HB1.out.trans (hb.mono HB1.out.size))
    clear hb
    go_wp2_with fail
    go_ret
    exact ⟨by rw [HV.out]; rfl, HB2.out⟩
  · skip
    have q1 : (bits .and .u64 (s.f 774) 1 == 0) = false := hx1
    have q2 : (bits .and .u64 (s.f 262) 1 != 0) = true := by rw [bne, show (bits .and .u64 (s.f 262) 1 == 0) = false from hx2]; rfl
    clear hx1 hx2
    go_enter Tryd.func76, Tryd.ntmps76
    go_wp2_with fail
    refine (HW.out 774 _ (Below.refl _ _)).mono ?_
    rintro e w1 ⟨rfl, hb⟩
    have HB1 := Lib.hid (hb)
    clear hb
    go_wp2_with fail
    refine (HW.out 262 _ HB1.out).mono ?_
    rintro e w2 ⟨rfl, hb⟩
    have HB2 := Lib.hid (HB1.out.trans (hb.mono HB1.out.size))
    clear hb
    go_wp2_with fail
    go_ret
    exact ⟨by rw [HV.out]; rfl, HB2.out⟩
  · skip
    have q1 : (bits .and .u64 (s.f 774) 1 == 0) = true := hx1
    have q2 : (bits .and .u64 (s.f 262) 1 != 0) = false := by rw [bne, show (bits .and .u64 (s.f 262) 1 == 0) = true from hx2]; rfl
    clear hx1 hx2
    go_enter Tryd.func76, Tryd.ntmps76
    go_wp2_with fail
    refine (HW.out 774 _ (Below.refl _ _)).mono ?_
    rintro e w1 ⟨rfl, hb⟩
    have HB1 := Lib.hid (hb)
    clear hb
    go_wp2_with fail
    go_ret
    exact ⟨by rw [HV.out]; rfl, HB1.out⟩
  · skip
    have q1 : (bits .and .u64 (s.f 774) 1 == 0) = true := hx1
    have q2 : (bits .and .u64 (s.f 262) 1 != 0) = true := by rw [bne, show (bits .and .u64 (s.f 262) 1 == 0) = false from hx2]; rfl
    clear hx1 hx2
    go_enter Tryd.func76, Tryd.ntmps76
    go_wp2_with fail
    refine (HW.out 774 _ (Below.refl _ _)).mono ?_
    rintro e w1 ⟨rfl, hb⟩
    have HB1 := Lib.hid (hb)
    clear hb
    go_wp2_with fail
    go_ret
    exact ⟨by rw [HV.out]; rfl, HB1.out⟩
  · skip
    have q1 : (bits .and .u64 (s.f 774) 1 == 0) = false := hx1
    have q2 : (bits .and .u64 (s.f 262) 1 != 0) = false := by rw [bne, show (bits .and .u64 (s.f 262) 1 == 0) = true from hx2]; rfl
    clear hx1 hx2
    go_enter Tryd.func76, Tryd.ntmps76
    go_wp2_with fail
    refine (HW.out 774 _ (Below.refl _ _)).mono ?_
    rintro e w1 ⟨rfl, hb⟩
    have HB1 := Lib.hid (hb)
    clear hb
    go_wp2_with fail
    go_ret
    exact ⟨by rw [HV.out]; rfl, HB1.out⟩
  · skip
    have q1 : (bits .and .u64 (s.f 774) 1 == 0) = false := hx1
    have q2 : (bits .and .u64 (s.f 262) 1 != 0) = true := by rw [bne, show (bits .and .u64 (s.f 262) 1 == 0) = false from hx2]; rfl
    clear hx1 hx2
    go_enter Tryd.func76, Tryd.ntmps76
    go_wp2_with fail
    refine (HW.out 774 _ (Below.refl _ _)).mono ?_
    rintro e w1 ⟨rfl, hb⟩
    have HB1 := Lib.hid (hb)
    clear hb
    go_wp2_with fail
    go_ret
    exact ⟨by rw [HV.out]; rfl, HB1.out⟩
  · skip
    have q1 : (bits .and .u64 (s.f 774) 1 == 0) = true := hx1
    have q2 : (bits .and .u64 (s.f 262) 1 != 0) = false := by rw [bne, show (bits .and .u64 (s.f 262) 1 == 0) = true from hx2]; rfl
    clear hx1 hx2
    go_enter Tryd.func76, Tryd.ntmps76
    go_wp2_with fail
    go_ret
    exact ⟨by rw [HV.out]; rfl, Below.refl _ _⟩
  · skip
    have q1 : (bits .and .u64 (s.f 774) 1 == 0) = true := hx1
    have q2 : (bits .and .u64 (s.f 262) 1 != 0) = true := by rw [bne, show (bits .and .u64 (s.f 262) 1 == 0) = false from hx2]; rfl
    clear hx1 hx2
    go_enter Tryd.func76, Tryd.ntmps76
    go_wp2_with fail
    go_ret
    exact ⟨by rw [HV.out]; rfl, Below.refl _ _⟩
  · skip
    have q1 : (bits .and .u64 (s.f 774) 1 == 0) = false := hx1
    have q2 : (bits .and .u64 (s.f 262) 1 != 0) = false := by rw [bne, show (bits .and .u64 (s.f 262) 1 == 0) = true from hx2]; rfl
    clear hx1 hx2
    go_enter Tryd.func76, Tryd.ntmps76
    go_wp2_with fail
    go_ret
    exact ⟨by rw [HV.out]; rfl, Below.refl _ _⟩
  · skip
    have q1 : (bits .and .u64 (s.f 774) 1 == 0) = false := hx1
    have q2 : (bits .and .u64 (s.f 262) 1 != 0) = true := by rw [bne, show (bits .and .u64 (s.f 262) 1 == 0) = false from hx2]; rfl
    clear hx1 hx2
    go_enter Tryd.func76, Tryd.ntmps76
    go_wp2_with fail
    go_ret
    exact ⟨by rw [HV.out]; rfl, Below.refl _ _⟩
  · skip
    have q1 : (bits .and .u64 (s.f 774) 2 == 0) = true := hx1
    have q2 : (bits .and .u64 (s.f 262) 2 != 0) = false := by rw [bne, show (bits .and .u64 (s.f 262) 2 == 0) = true from hx2]; rfl
    clear hx1 hx2
    go_enter Tryd.func76, Tryd.ntmps76
    go_wp2_with fail
    refine (HW.out 774 _ (Below.refl _ _)).mono ?_
    rintro e w1 ⟨rfl, hb⟩
    have HB1 := Lib.hid (hb)
    clear hb
    go_wp2_with fail
    go_ret
    exact ⟨by rw [HV.out]; rfl, HB1.out⟩
  · skip
    have q1 : (bits .and .u64 (s.f 774) 2 == 0) = true := hx1
    have q2 : (bits .and .u64 (s.f 262) 2 != 0) = true := by rw [bne, show (bits .and .u64 (s.f 262) 2 == 0) = false from hx2]; rfl
    clear hx1 hx2
    go_enter Tryd.func76, Tryd.ntmps76
    go_wp2_with fail
    refine (HW.out 774 _ (Below.refl _ _)).mono ?_
    rintro e w1 ⟨rfl, hb⟩
    have HB1 := Lib.hid (hb)
    clear hb
    go_wp2_with fail
    go_ret
    exact ⟨by rw [HV.out]; rfl, HB1.out⟩
  · skip
    have q1 : (bits .and .u64 (s.f 774) 2 == 0) = false := hx1
    have q2 : (bits .and .u64 (s.f 262) 2 != 0) = false := by rw [bne, show (bits .and .u64 (s.f 262) 2 == 0) = true from hx2]; rfl
    clear hx1 hx2
    go_enter Tryd.func76, Tryd.ntmps76
    go_wp2_with fail
    refine (HW.out 774 _ (Below.refl _ _)).mono ?_
    rintro e w1 ⟨rfl, hb⟩
    have HB1 := Lib.hid (hb)
    clear hb
    go_wp2_with fail
    refine (HW.out 262 _ HB1.out).mono ?_
    rintro e w2 ⟨rfl, hb⟩
    have HB2 := Lib.hid (HB1.out.trans (hb.mono HB1.out.size))
    clear hb
    go_wp2_with fail
    go_ret
    exact ⟨by rw [HV.out]; rfl, HB2.out⟩
  · skip
    have q1 : (bits .and .u64 (s.f 774) 2 == 0) = false := hx1
    have q2 : (bits .and .u64 (s.f 262) 2 != 0) = true := by rw [bne, show (bits .and .u64 (s.f 262) 2 == 0) = false from hx2]; rfl
    clear hx1 hx2
    go_enter Tryd.func76, Tryd.ntmps76
    go_wp2_with fail
    refine (HW.out 774 _ (Below.refl _ _)).mono ?_
    rintro e w1 ⟨rfl, hb⟩
    have HB1 := Lib.hid (hb)
    clear hb
    go_wp2_with fail
    refine (HW.out 262 _ HB1.out).mono ?_
    rintro e w2 ⟨rfl, hb⟩
    have HB2 := Lib.hid (HB1.out.trans (hb.mono HB1.out.size))
    clear hb
    go_wp2_with fail
    go_ret
    exact ⟨by rw [HV.out]; rfl, HB2.out⟩
  · skip
    have q1 : (bits .and .u64 (s.f 774) 2 == 0) = true := hx1
    have q2 : (bits .and .u64 (s.f 262) 2 != 0) = false := by rw [bne, show (bits .and .u64 (s.f 262) 2 == 0) = true from hx2]; rfl
    clear hx1 hx2
    go_enter Tryd.func76, Tryd.ntmps76
    go_wp2_with fail
    refine (HW.out 774 _ (Below.refl _ _)).mono ?_
    rintro e w1 ⟨rfl, hb⟩
    have HB1 := Lib.hid (hb)
    clear hb
    go_wp2_with fail
    go_ret
    exact ⟨by rw [HV.out]; rfl, HB1.out⟩
  · skip
    have q1 : (bits .and .u64 (s.f 774) 2 == 0) = true := hx1
    have q2 : (bits .and .u64 (s.f 262) 2 != 0) = true := by rw [bne, show (bits .and .u64 (s.f 262) 2 == 0) = false from hx2]; rfl
    clear hx1 hx2
    go_enter Tryd.func76, Tryd.ntmps76
    go_wp2_with fail
    refine (HW.out 774 _ (Below.refl _ _)).mono ?_
    rintro e w1 ⟨rfl, hb⟩
    have HB1 := Lib.hid (hb)
    clear hb
    go_wp2_with fail
    go_ret
    exact ⟨by rw [HV.out]; rfl, HB1.out⟩
  · skip
    have q1 : (bits .and .u64 (s.f 774) 2 == 0) = false := hx1
    have q2 : (bits .and .u64 (s.f 262) 2 != 0) = false := by rw [bne, show (bits .and .u64 (s.f 262) 2 == 0) = true from hx2]; rfl
    clear hx1 hx2
    go_enter Tryd.func76, Tryd.ntmps76
    go_wp2_with fail
    refine (HW.out 774 _ (Below.refl _ _)).mono ?_
    rintro e w1 ⟨rfl, hb⟩
    have HB1 := Lib.hid (hb)
    clear hb
    go_wp2_with fail
    go_ret
    exact ⟨by rw [HV.out]; rfl, HB1.out⟩
  · skip
    have q1 : (bits .and .u64 (s.f 774) 2 == 0) = false := hx1
    have q2 : (bits .and .u64 (s.f 262) 2 != 0) = true := by rw [bne, show (bits .and .u64 (s.f 262) 2 == 0) = false from hx2]; rfl
    clear hx1 hx2
    go_enter Tryd.func76, Tryd.ntmps76
    go_wp2_with fail
    refine (HW.out 774 _ (Below.refl _ _)).mono ?_
    rintro e w1 ⟨rfl, hb⟩
    have HB1 := Lib.hid (hb)
    clear hb
    go_wp2_with fail
    go_ret
    exact ⟨by rw [HV.out]; rfl, HB1.out⟩
  · skip
    have q1 : (bits .and .u64 (s.f 774) 2 == 0) = true := hx1
    have q2 : (bits .and .u64 (s.f 262) 2 != 0) = false := by rw [bne, show (bits .and .u64 (s.f 262) 2 == 0) = true from hx2]; rfl
    clear hx1 hx2
    go_enter Tryd.func76, Tryd.ntmps76
    go_wp2_with fail
    go_ret
    exact ⟨by rw [HV.out]; rfl, Below.refl _ _⟩
  · skip
    have q1 : (bits .and .u64 (s.f 774) 2 == 0) = true := hx1
    have q2 : (bits .and .u64 (s.f 262) 2 != 0) = true := by rw [bne, show (bits .and .u64 (s.f 262) 2 == 0) = false from hx2]; rfl
    clear hx1 hx2
    go_enter Tryd.func76, Tryd.ntmps76
    go_wp2_with fail
    go_ret
    exact ⟨by rw [HV.out]; rfl, Below.refl _ _⟩
  · skip
    have q1 : (bits .and .u64 (s.f 774) 2 == 0) = false := hx1
    have q2 : (bits .and .u64 (s.f 262) 2 != 0) = false := by rw [bne, show (bits .and .u64 (s.f 262) 2 == 0) = true from hx2]; rfl
    clear hx1 hx2
    go_enter Tryd.func76, Tryd.ntmps76
    go_wp2_with fail
    go_ret
    exact ⟨by rw [HV.out]; rfl, Below.refl _ _⟩
  · skip
    have q1 : (bits .and .u64 (s.f 774) 2 == 0) = false := hx1
    have q2 : (bits .and .u64 (s.f 262) 2 != 0) = true := by rw [bne, show (bits .and .u64 (s.f 262) 2 == 0) = false from hx2]; rfl
    clear hx1 hx2
    go_enter Tryd.func76, Tryd.ntmps76
    go_wp2_with fail
    go_ret
    exact ⟨by rw [HV.out]; rfl, Below.refl _ _⟩
  · skip
    have q1 : (bits .and .u64 (s.f 774) 4 == 0) = true := hx1
    have q2 : (bits .and .u64 (s.f 262) 4 != 0) = false := by rw [bne, show (bits .and .u64 (s.f 262) 4 == 0) = true from hx2]; rfl
    clear hx1 hx2
    go_enter Tryd.func76, Tryd.ntmps76
    go_wp2_with fail
    refine (HW.out 774 _ (Below.refl _ _)).mono ?_
    rintro e w1 ⟨rfl, hb⟩
    have HB1 := Lib.hid (hb)
    clear hb
    go_wp2_with fail
    go_ret
    exact ⟨by rw [HV.out]; rfl, HB1.out⟩
  · skip
    have q1 : (bits .and .u64 (s.f 774) 4 == 0) = true := hx1
    have q2 : (bits .and .u64 (s.f 262) 4 != 0) = true := by rw [bne, show (bits .and .u64 (s.f 262) 4 == 0) = false from hx2]; rfl
    clear hx1 hx2
    go_enter Tryd.func76, Tryd.ntmps76
    go_wp2_with fail
    refine (HW.out 774 _ (Below.refl _ _)).mono ?_
    rintro e w1 ⟨rfl, hb⟩
    have HB1 := Lib.hid (hb)
    clear hb
    go_wp2_with fail
    go_ret
    exact ⟨by rw [HV.out]; rfl, HB1.out⟩
  · skip
    have q1 : (bits .and .u64 (s.f 774) 4 == 0) = false := hx1
    have q2 : (bits .and .u64 (s.f 262) 4 != 0) = false := by rw [bne, show (bits .and .u64 (s.f 262) 4 == 0) = true from hx2]; rfl
    clear hx1 hx2
    go_enter Tryd.func76, Tryd.ntmps76
    go_wp2_with fail
    refine (HW.out 774 _ (Below.refl _ _)).mono ?_
    rintro e w1 ⟨rfl, hb⟩
    have HB1 := Lib.hid (hb)
    clear hb
    go_wp2_with fail
    refine (HW.out 262 _ HB1.out).mono ?_
    rintro e w2 ⟨rfl, hb⟩
    have HB2 := Lib.hid (HB1.out.trans (hb.mono HB1.out.size))
    clear hb
    go_wp2_with fail
    go_ret
    exact ⟨by rw [HV.out]; rfl, HB2.out⟩
  · skip
    have q1 : (bits .and .u64 (s.f 774) 4 == 0) = false := hx1
    have q2 : (bits .and .u64 (s.f 262) 4 != 0) = true := by rw [bne, show (bits .and .u64 (s.f 262) 4 == 0) = false from hx2]; rfl
    clear hx1 hx2
    go_enter Tryd.func76, Tryd.ntmps76
    go_wp2_with fail
    refine (HW.out 774 _ (Below.refl _ _)).mono ?_
    rintro e w1 ⟨rfl, hb⟩
    have HB1 := Lib.hid (hb)
    clear hb
    go_wp2_with fail
    refine (HW.out 262 _ HB1.out).mono ?_
    rintro e w2 ⟨rfl, hb⟩
    have HB2 := Lib.hid (HB1.out.trans (hb.mono HB1.out.size))
    clear hb
    go_wp2_with fail
    go_ret
    exact ⟨by rw [HV.out]; rfl, HB2.out⟩
  · skip
    have q1 : (bits .and .u64 (s.f 774) 4 == 0) = true := hx1
    have q2 : (bits .and .u64 (s.f 262) 4 != 0) = false := by rw [bne, show (bits .and .u64 (s.f 262) 4 == 0) = true from hx2]; rfl
    clear hx1 hx2
    go_enter Tryd.func76, Tryd.ntmps76
    go_wp2_with fail
    refine (HW.out 774 _ (Below.refl _ _)).mono ?_
    rintro e w1 ⟨rfl, hb⟩
    have HB1 := Lib.hid (hb)
    clear hb
    go_wp2_with fail
    go_ret
    exact ⟨by rw [HV.out]; rfl, HB1.out⟩
  · skip
    have q1 : (bits .and .u64 (s.f 774) 4 == 0) = true := hx1
    have q2 : (bits .and .u64 (s.f 262) 4 != 0) = true := by rw [bne, show (bits .and .u64 (s.f 262) 4 == 0) = false from hx2]; rfl
    clear hx1 hx2
    go_enter Tryd.func76, Tryd.ntmps76
    go_wp2_with fail
    refine (HW.out 774 _ (Below.refl _ _)).mono ?_
    rintro e w1 ⟨rfl, hb⟩
    have HB1 := Lib.hid (hb)
    clear hb
    go_wp2_with fail
    go_ret
    exact ⟨by rw [HV.out]; rfl, HB1.out⟩
  · skip
    have q1 : (bits .and .u64 (s.f 774) 4 == 0) = false := hx1
    have q2 : (bits .and .u64 (s.f 262) 4 != 0) = false := by rw [bne, show (bits .and .u64 (s.f 262) 4 == 0) = true from hx2]; rfl
    clear hx1 hx2
    go_enter Tryd.func76, Tryd.ntmps76
    go_wp2_with fail
    refine (HW.out 774 _ (Below.refl _ _)).mono ?_
    rintro e w1 ⟨rfl, hb⟩
    have HB1 := Lib.hid (hb)
    clear hb
    go_wp2_with fail
    go_ret
    exact ⟨by rw [HV.out]; rfl, HB1.out⟩
  · skip
    have q1 : (bits .and .u64 (s.f 774) 4 == 0) = false := hx1
    have q2 : (bits .and .u64 (s.f 262) 4 != 0) = true := by rw [bne, show (bits .and .u64 (s.f 262) 4 == 0) = false from hx2]; rfl
    clear hx1 hx2
    go_enter Tryd.func76, Tryd.ntmps76
    go_wp2_with fail
    refine (HW.out 774 _ (Below.refl _ _)).mono ?_
    rintro e w1 ⟨rfl, hb⟩
    have HB1 := Lib.hid (hb)
    clear hb
    go_wp2_with fail
    go_ret
    exact ⟨by rw [HV.out]; rfl, HB1.out⟩
  · skip
    have q1 : (bits .and .u64 (s.f 774) 4 == 0) = true := hx1
    have q2 : (bits .and .u64 (s.f 262) 4 != 0) = false := by rw [bne, show (bits .and .u64 (s.f 262) 4 == 0) = true from hx2]; rfl
    clear hx1 hx2
    go_enter Tryd.func76, Tryd.ntmps76
    go_wp2_with fail
    go_ret
    exact ⟨by rw [HV.out]; rfl, Below.refl _ _⟩
  · skip
    have q1 : (bits .and .u64 (s.f 774) 4 == 0) = true := hx1
    have q2 : (bits .and .u64 (s.f 262) 4 != 0) = true := by rw [bne, show (bits .and .u64 (s.f 262) 4 == 0) = false from hx2]; rfl
    clear hx1 hx2
    go_enter Tryd.func76, Tryd.ntmps76
    go_wp2_with fail
    go_ret
    exact ⟨by rw [HV.out]; rfl, Below.refl _ _⟩
  · skip
    have q1 : (bits .and .u64 (s.f 774) 4 == 0) = false := hx1
    have q2 : (bits .and .u64 (s.f 262) 4 != 0) = false := by rw [bne, show (bits .and .u64 (s.f 262) 4 == 0) = true from hx2]; rfl
    clear hx1 hx2
    go_enter Tryd.func76, Tryd.ntmps76
    go_wp2_with fail
    go_ret
    exact ⟨by rw [HV.out]; rfl, Below.refl _ _⟩
  · skip
    have q1 : (bits .and .u64 (s.f 774) 4 == 0) = false := hx1
    have q2 : (bits .and .u64 (s.f 262) 4 != 0) = true := by rw [bne, show (bits .and .u64 (s.f 262) 4 == 0) = false from hx2]; rfl
    clear hx1 hx2
    go_enter Tryd.func76, Tryd.ntmps76
    go_wp2_with fail
    go_ret
    exact ⟨by rw [HV.out]; rfl, Below.refl _ _⟩
set_option maxHeartbeats 4000000 in
theorem fmay_c (g : Nat) (n p : Int) (wr : Bool) (s : S) (w : World) (hN : RowsIn w) (hK : KeptIn w) (h : FlAt w g s) :
    Calls Tryd.prog 40 #[.pointer (some ⟨g, 0, none⟩), .int .i64 n, .int .i64 p, .bool wr] w fun e w' => e = .returned (.bool (mayF s n p wr)) ∧ Below w.heap.size w w' := by
  have HM := Lib.hid (cmay_c n p wr w hN)
  have HW := Lib.hid (fun m W (hb : Below w.heap.size w W) => fword_c g m s W (hK.low hb) (h.low hb))
  have HH := Lib.hid (fun W => has_c (s.f 768) (h.ok.w 768) ⟨#[116, 118, 109]⟩ W)
  have HS := Lib.hid (fun k hk hp W (hb : Below w.heap.size w W) => fshows_c g k hk p hp s W (hK.low hb) (h.low hb))
  have HV := Lib.hid (show mayF s n p wr = (mayC n p wr && (if n = 384 then (p != 1 || !hasS (s.f 768) ⟨#[116, 118, 109]⟩) else if n = 3072 then showS s 0 p else if n = 3073 then showS s 1 p else if n = 3074 then showS s 2 p else true)) from rfl)
  clear hN hK h
  cases hm : mayC n p wr
  · rw [hm] at HM HV
    clear hm
    go_enter Tryd.func40, Tryd.ntmps40
    go_wp2_with fail
    refine HM.out.mono ?_
    rintro e w1 ⟨rfl, hb⟩
    have HB := Lib.hid hb
    clear hb
    go_wp2_with fail
    go_ret
    exact ⟨by rw [HV.out]; rfl, HB.out⟩
  · have hp := may_prv hm
    rw [hm] at HM HV
    clear hm
    generalize hasS (s.f 768) ⟨#[116, 118, 109]⟩ = hs at *
    by_cases h1 : n = 384
    · subst h1
      rcases hp with rfl | rfl | rfl
      · skip
        go_enter Tryd.func40, Tryd.ntmps40
        go_wp2_with fail
        refine HM.out.mono ?_
        rintro e w1 ⟨rfl, hb⟩
        have HB := Lib.hid hb
        clear hb
        go_wp2_with fail
        go_ret
        exact ⟨by rw [HV.out]; rfl, HB.out⟩
      · skip
        go_enter Tryd.func40, Tryd.ntmps40
        go_wp2_with fail
        refine HM.out.mono ?_
        rintro e w1 ⟨rfl, hb⟩
        have HB := Lib.hid hb
        clear hb
        go_wp2_with fail
        refine (HW.out 768 _ HB.out).mono ?_
        rintro e w2 ⟨rfl, hb⟩
        have HB2 := Lib.hid (HB.out.trans (hb.mono HB.out.size))
        clear hb
        go_wp2_with fail
        refine (HH.out _).mono ?_
        rintro e w3 ⟨rfl, hb⟩
        have HB3 := Lib.hid (HB2.out.trans (hb.mono HB2.out.size))
        clear hb
        go_wp2_with fail
        go_ret
        exact ⟨by rw [HV.out]; rfl, HB3.out⟩
      · skip
        go_enter Tryd.func40, Tryd.ntmps40
        go_wp2_with fail
        refine HM.out.mono ?_
        rintro e w1 ⟨rfl, hb⟩
        have HB := Lib.hid hb
        clear hb
        go_wp2_with fail
        go_ret
        exact ⟨by rw [HV.out]; rfl, HB.out⟩
    · have e1 : (n == 384) = false := by simpa using h1
      rw [if_neg h1] at HV
      by_cases h3072 : n = 3072
      · subst h3072
        have HV2 := Lib.hid (show _ = showS s 0 p from HV.out)
        go_enter Tryd.func40, Tryd.ntmps40
        go_wp2_with fail
        refine HM.out.mono ?_
        rintro e w1 ⟨rfl, hb⟩
        have HB := Lib.hid hb
        clear hb
        go_wp2_with fail
        refine (HS.out 0 (by omega) hp _ HB.out).mono ?_
        rintro e w2 ⟨rfl, hb⟩
        have HB2 := Lib.hid (HB.out.trans (hb.mono HB.out.size))
        clear hb
        go_wp2_with fail
        go_ret
        exact ⟨by rw [HV2.out]; rfl, HB2.out⟩
      · have e3072 : (n == 3072) = false := by simpa using h3072
        rw [if_neg h3072] at HV
        by_cases h3073 : n = 3073
        · subst h3073
          have HV2 := Lib.hid (show _ = showS s 1 p from HV.out)
          go_enter Tryd.func40, Tryd.ntmps40
          go_wp2_with fail
          refine HM.out.mono ?_
          rintro e w1 ⟨rfl, hb⟩
          have HB := Lib.hid hb
          clear hb
          go_wp2_with fail
          refine (HS.out 1 (by omega) hp _ HB.out).mono ?_
          rintro e w2 ⟨rfl, hb⟩
          have HB2 := Lib.hid (HB.out.trans (hb.mono HB.out.size))
          clear hb
          go_wp2_with fail
          go_ret
          exact ⟨by rw [HV2.out]; rfl, HB2.out⟩
        · have e3073 : (n == 3073) = false := by simpa using h3073
          rw [if_neg h3073] at HV
          by_cases h3074 : n = 3074
          · subst h3074
            have HV2 := Lib.hid (show _ = showS s 2 p from HV.out)
            go_enter Tryd.func40, Tryd.ntmps40
            go_wp2_with fail
            refine HM.out.mono ?_
            rintro e w1 ⟨rfl, hb⟩
            have HB := Lib.hid hb
            clear hb
            go_wp2_with fail
            refine (HS.out 2 (by omega) hp _ HB.out).mono ?_
            rintro e w2 ⟨rfl, hb⟩
            have HB2 := Lib.hid (HB.out.trans (hb.mono HB.out.size))
            clear hb
            go_wp2_with fail
            go_ret
            exact ⟨by rw [HV2.out]; rfl, HB2.out⟩
          · have e3074 : (n == 3074) = false := by simpa using h3074
            rw [if_neg h3074] at HV
            go_enter Tryd.func40, Tryd.ntmps40
            go_wp2_with fail
            refine HM.out.mono ?_
            rintro e w1 ⟨rfl, hb⟩
            have HB := Lib.hid hb
            clear hb
            go_wp2_with fail
            go_ret
            exact ⟨by rw [HV.out]; rfl, HB.out⟩
theorem wpList_load_rowO {P : Program} {ops : Array Oper} {rest : List Oper} {o : Oper} {a : Act} {w : World} {Q : Exit → Act → World → Prop} (hw : Region.wanted o (yielded ops a.tmps) = true) (ty : TypeId) (x : Operand) (ho : o.op = .load ty x)
    (g : Nat) (hx : a.eval x = .pointer (some ⟨g, 0, none⟩)) (t : TypeId) (cs : Array Value) (fr : Nat × Nat) (d : TypeDesc) (hg : w.heap[g]? = some (.cells cs t fr))
    (hu : P.underlying ty = some d) (hd : (match d with | .struct _ | .array _ _ => true | _ => false) = true) (hi : (P.info? ty).map (·.size) = some cs.size)
    (h : wpList P ops Q rest (a.put o.dst (.agg cs)) w) : wpList P ops Q (o :: rest) a w :=
  wpList_step fun _ hK => by
    rw [if_pos hw]
    exact wp_load_row ty x ho g hx t cs fr d hg hu hd hi (hK _ _ h)
theorem bi0 (b : Bool) : (bi b == 0) = !b := by cases b <;> rfl
set_option maxHeartbeats 4000000 in
theorem rmay22_c (s : S) (ok : Ok s) (n p : Int) (wr : Bool) (w : World) :
    Calls Tryd.prog 42 #[.agg (refV s), .int .i64 n, .int .i64 p, .bool wr] w fun e w' => e = .returned (.bool (mayF s n p wr)) ∧ Below w.heap.size w w' := by
  have HS1 := Lib.hid (show RgS w (w.alloc (.cells (refV s) RfT)) s from ⟨CsAt.new w RfT _, (Below.refl _ _).alloc (Nat.le_refl _) _⟩)
  have HM := Lib.hid (fun W => rmay_c n p wr W)
  have HG := Lib.hid (fun W => rget_c (s.f 768) (ok.w 768) ⟨#[116, 118, 109]⟩ W)
  have HWM := Lib.hid (fun W => rword_c s ⟨#[109, 115, 116, 97, 116, 117, 115]⟩ 10 (by decide) nc_mstatus W)
  have HWC := Lib.hid (fun W => rword_c s ⟨#[109, 99, 111, 117, 110, 116, 101, 114, 101, 110]⟩ 16 (by decide) nc_mcounteren W)
  have HWS := Lib.hid (fun W => rword_c s ⟨#[115, 99, 111, 117, 110, 116, 101, 114, 101, 110]⟩ 3 (by decide) nc_scounteren W)
  have HBM := Lib.hid (fun (k : Nat) (hk : k < 64) W => show Calls Tryd.prog 54 #[.int .u64 (s.f 774), .int .i64 (k : Nat)] W fun e w' => e = .returned (.int .u64 (bi (tb (s.f 774) k))) ∧ W = w' by rw [← tbI_nat _ k hk]; exact bit_c (s.f 774) k W (ok.w 774).1 (ok.w 774).2)
  have HBS := Lib.hid (fun (k : Nat) (hk : k < 64) W => show Calls Tryd.prog 54 #[.int .u64 (s.f 262), .int .i64 (k : Nat)] W fun e w' => e = .returned (.int .u64 (bi (tb (s.f 262) k))) ∧ W = w' by rw [← tbI_nat _ k hk]; exact bit_c (s.f 262) k W (ok.w 262).1 (ok.w 262).2)
  have HV := Lib.hid (show mayF s n p wr = (mayC n p wr && (if n = 384 then (p != 1 || !hasS (s.f 768) ⟨#[116, 118, 109]⟩) else if n = 3072 then showS s 0 p else if n = 3073 then showS s 1 p else if n = 3074 then showS s 2 p else true)) from rfl)
  have HHS := Lib.hid (show hasS (s.f 768) ⟨#[116, 118, 109]⟩ = (bi (tbI (s.f 768) (atI ⟨#[116, 118, 109]⟩)) == 1) from rfl)
  cases hm : mayC n p wr
  · rw [hm] at HM HV
    clear hm
    go_enter Tryd.func42, Tryd.ntmps42
    go_upto_region 1 with fail
    generalize w.alloc (.cells (refV s) RfT) = w1 at *
    go_wp2_with fail
    refine (HM.out _).mono ?_
    rintro e w2 ⟨rfl, hb⟩
    have HS2 := Lib.hid (HS1.out.low hb)
    clear hb
    go_wp2_with fail
    go_ret
    exact ⟨by rw [HV.out]; rfl, HS2.out.bel⟩
  · have hp := may_prv hm
    rw [hm] at HM HV
    clear hm
    by_cases h1 : n = 384
    · subst h1
      rcases hp with rfl | rfl | rfl
      · skip
        go_enter Tryd.func42, Tryd.ntmps42
        go_upto_region 1 with fail
        generalize w.alloc (.cells (refV s) RfT) = w1 at *
        go_wp2_with fail
        refine (HM.out _).mono ?_
        rintro e w2 ⟨rfl, hb⟩
        have HS2 := Lib.hid (HS1.out.low hb)
        clear hb
        go_wp2_with fail
        go_ret
        exact ⟨by rw [HV.out]; rfl, HS2.out.bel⟩
      · skip
        generalize hx : bi (tbI (s.f 768) (atI ⟨#[116, 118, 109]⟩)) = x at *
        cases ht : (x == 1)
        · skip
          rw [ht] at HHS
          go_enter Tryd.func42, Tryd.ntmps42
          go_upto_region 1 with fail
          generalize w.alloc (.cells (refV s) RfT) = w1 at *
          go_wp2_with fail
          refine (HM.out _).mono ?_
          rintro e w2 ⟨rfl, hb⟩
          have HS2 := Lib.hid (HS1.out.low hb)
          clear hb
          go_wp2_with (refine wpList_load_rowO (by rfl) RfT _ rfl w.heap.size rfl RfT _ (0, 0) _ HS2.out.r Tryd.underlying58 rfl (iRf _) ?_)
          refine (HWM.out _).mono ?_
          rintro e w3 ⟨rfl, hb⟩
          have HS3 := Lib.hid (HS2.out.low hb)
          clear hb
          rw [show s.f (((rowC 10).1 : Nat) : Int) = s.f 768 from rfl]
          go_wp2_with fail
          refine (HG.out _).mono ?_
          rintro e w4 ⟨rfl, rfl⟩
          go_wp2_with fail
          go_ret
          exact ⟨by rw [HV.out, HHS.out]; rfl, HS3.out.bel⟩
        · skip
          rw [ht] at HHS
          go_enter Tryd.func42, Tryd.ntmps42
          go_upto_region 1 with fail
          generalize w.alloc (.cells (refV s) RfT) = w1 at *
          go_wp2_with fail
          refine (HM.out _).mono ?_
          rintro e w2 ⟨rfl, hb⟩
          have HS2 := Lib.hid (HS1.out.low hb)
          clear hb
          go_wp2_with (refine wpList_load_rowO (by rfl) RfT _ rfl w.heap.size rfl RfT _ (0, 0) _ HS2.out.r Tryd.underlying58 rfl (iRf _) ?_)
          refine (HWM.out _).mono ?_
          rintro e w3 ⟨rfl, hb⟩
          have HS3 := Lib.hid (HS2.out.low hb)
          clear hb
          rw [show s.f (((rowC 10).1 : Nat) : Int) = s.f 768 from rfl]
          go_wp2_with fail
          refine (HG.out _).mono ?_
          rintro e w4 ⟨rfl, rfl⟩
          go_wp2_with fail
          go_ret
          exact ⟨by rw [HV.out, HHS.out]; rfl, HS3.out.bel⟩
      · skip
        go_enter Tryd.func42, Tryd.ntmps42
        go_upto_region 1 with fail
        generalize w.alloc (.cells (refV s) RfT) = w1 at *
        go_wp2_with fail
        refine (HM.out _).mono ?_
        rintro e w2 ⟨rfl, hb⟩
        have HS2 := Lib.hid (HS1.out.low hb)
        clear hb
        go_wp2_with fail
        go_ret
        exact ⟨by rw [HV.out]; rfl, HS2.out.bel⟩
    · have e1 : (n == 384) = false := by simpa using h1
      rw [if_neg h1] at HV
      by_cases h3072 : n = 3072
      · subst h3072
        have HV2 := Lib.hid (show _ = showS s 0 p from HV.out)
        have HB1 := Lib.hid (fun W => HBM.out 0 (by omega) W)
        have HB2 := Lib.hid (fun W => HBS.out 0 (by omega) W)
        have HSH := Lib.hid (show showS s 0 p = ((p == 3 || tb (s.f 774) 0) && (p != 0 || tb (s.f 262) 0)) from rfl)
        generalize tb (s.f 774) 0 = b1 at *
        generalize tb (s.f 262) 0 = b2 at *
        clear HBM HBS
        rcases hp with rfl | rfl | rfl
        · skip
          cases b1 <;> cases b2
          · skip
            go_enter Tryd.func42, Tryd.ntmps42
            go_upto_region 1 with fail
            generalize w.alloc (.cells (refV s) RfT) = w1 at *
            go_wp2_with fail
            refine (HM.out _).mono ?_
            rintro e w2 ⟨rfl, hb⟩
            have HS2 := Lib.hid (HS1.out.low hb)
            clear hb
            go_wp2_with (refine wpList_load_rowO (by rfl) RfT _ rfl w.heap.size rfl RfT _ (0, 0) _ HS2.out.r Tryd.underlying58 rfl (iRf _) ?_)
            refine (HWC.out _).mono ?_
            rintro e w3 ⟨rfl, hb⟩
            have HS3 := Lib.hid (HS2.out.low hb)
            clear hb
            rw [show s.f (((rowC 16).1 : Nat) : Int) = s.f 774 from rfl]
            go_wp2_with fail
            refine (HB1.out _).mono ?_
            rintro e w4 ⟨rfl, rfl⟩
            go_wp2_with fail
            go_ret
            exact ⟨by rw [HV2.out, HSH.out]; rfl, HS3.out.bel⟩
          · skip
            go_enter Tryd.func42, Tryd.ntmps42
            go_upto_region 1 with fail
            generalize w.alloc (.cells (refV s) RfT) = w1 at *
            go_wp2_with fail
            refine (HM.out _).mono ?_
            rintro e w2 ⟨rfl, hb⟩
            have HS2 := Lib.hid (HS1.out.low hb)
            clear hb
            go_wp2_with (refine wpList_load_rowO (by rfl) RfT _ rfl w.heap.size rfl RfT _ (0, 0) _ HS2.out.r Tryd.underlying58 rfl (iRf _) ?_)
            refine (HWC.out _).mono ?_
            rintro e w3 ⟨rfl, hb⟩
            have HS3 := Lib.hid (HS2.out.low hb)
            clear hb
            rw [show s.f (((rowC 16).1 : Nat) : Int) = s.f 774 from rfl]
            go_wp2_with fail
            refine (HB1.out _).mono ?_
            rintro e w4 ⟨rfl, rfl⟩
            go_wp2_with fail
            go_ret
            exact ⟨by rw [HV2.out, HSH.out]; rfl, HS3.out.bel⟩
          · skip
            go_enter Tryd.func42, Tryd.ntmps42
            go_upto_region 1 with fail
            generalize w.alloc (.cells (refV s) RfT) = w1 at *
            go_wp2_with fail
            refine (HM.out _).mono ?_
            rintro e w2 ⟨rfl, hb⟩
            have HS2 := Lib.hid (HS1.out.low hb)
            clear hb
            go_wp2_with (refine wpList_load_rowO (by rfl) RfT _ rfl w.heap.size rfl RfT _ (0, 0) _ HS2.out.r Tryd.underlying58 rfl (iRf _) ?_)
            refine (HWC.out _).mono ?_
            rintro e w3 ⟨rfl, hb⟩
            have HS3 := Lib.hid (HS2.out.low hb)
            clear hb
            rw [show s.f (((rowC 16).1 : Nat) : Int) = s.f 774 from rfl]
            go_wp2_with fail
            refine (HB1.out _).mono ?_
            rintro e w4 ⟨rfl, rfl⟩
            go_wp2_with (refine wpList_load_rowO (by rfl) RfT _ rfl w.heap.size rfl RfT _ (0, 0) _ HS3.out.r Tryd.underlying58 rfl (iRf _) ?_)
            refine (HWS.out _).mono ?_
            rintro e w5 ⟨rfl, hb⟩
            have HS4 := Lib.hid (HS3.out.low hb)
            clear hb
            rw [show s.f (((rowC 3).1 : Nat) : Int) = s.f 262 from rfl]
            go_wp2_with fail
            refine (HB2.out _).mono ?_
            rintro e w6 ⟨rfl, rfl⟩
            go_wp2_with fail
            go_ret
            exact ⟨by rw [HV2.out, HSH.out]; rfl, HS4.out.bel⟩
          · skip
            go_enter Tryd.func42, Tryd.ntmps42
            go_upto_region 1 with fail
            generalize w.alloc (.cells (refV s) RfT) = w1 at *
            go_wp2_with fail
            refine (HM.out _).mono ?_
            rintro e w2 ⟨rfl, hb⟩
            have HS2 := Lib.hid (HS1.out.low hb)
            clear hb
            go_wp2_with (refine wpList_load_rowO (by rfl) RfT _ rfl w.heap.size rfl RfT _ (0, 0) _ HS2.out.r Tryd.underlying58 rfl (iRf _) ?_)
            refine (HWC.out _).mono ?_
            rintro e w3 ⟨rfl, hb⟩
            have HS3 := Lib.hid (HS2.out.low hb)
            clear hb
            rw [show s.f (((rowC 16).1 : Nat) : Int) = s.f 774 from rfl]
            go_wp2_with fail
            refine (HB1.out _).mono ?_
            rintro e w4 ⟨rfl, rfl⟩
            go_wp2_with (refine wpList_load_rowO (by rfl) RfT _ rfl w.heap.size rfl RfT _ (0, 0) _ HS3.out.r Tryd.underlying58 rfl (iRf _) ?_)
            refine (HWS.out _).mono ?_
            rintro e w5 ⟨rfl, hb⟩
            have HS4 := Lib.hid (HS3.out.low hb)
            clear hb
            rw [show s.f (((rowC 3).1 : Nat) : Int) = s.f 262 from rfl]
            go_wp2_with fail
            refine (HB2.out _).mono ?_
            rintro e w6 ⟨rfl, rfl⟩
            go_wp2_with fail
            go_ret
            exact ⟨by rw [HV2.out, HSH.out]; rfl, HS4.out.bel⟩
        · skip
          cases b1 <;> cases b2
          · skip
            go_enter Tryd.func42, Tryd.ntmps42
            go_upto_region 1 with fail
            generalize w.alloc (.cells (refV s) RfT) = w1 at *
            go_wp2_with fail
            refine (HM.out _).mono ?_
            rintro e w2 ⟨rfl, hb⟩
            have HS2 := Lib.hid (HS1.out.low hb)
            clear hb
            go_wp2_with (refine wpList_load_rowO (by rfl) RfT _ rfl w.heap.size rfl RfT _ (0, 0) _ HS2.out.r Tryd.underlying58 rfl (iRf _) ?_)
            refine (HWC.out _).mono ?_
            rintro e w3 ⟨rfl, hb⟩
            have HS3 := Lib.hid (HS2.out.low hb)
            clear hb
            rw [show s.f (((rowC 16).1 : Nat) : Int) = s.f 774 from rfl]
            go_wp2_with fail
            refine (HB1.out _).mono ?_
            rintro e w4 ⟨rfl, rfl⟩
            go_wp2_with fail
            go_ret
            exact ⟨by rw [HV2.out, HSH.out]; rfl, HS3.out.bel⟩
          · skip
            go_enter Tryd.func42, Tryd.ntmps42
            go_upto_region 1 with fail
            generalize w.alloc (.cells (refV s) RfT) = w1 at *
            go_wp2_with fail
            refine (HM.out _).mono ?_
            rintro e w2 ⟨rfl, hb⟩
            have HS2 := Lib.hid (HS1.out.low hb)
            clear hb
            go_wp2_with (refine wpList_load_rowO (by rfl) RfT _ rfl w.heap.size rfl RfT _ (0, 0) _ HS2.out.r Tryd.underlying58 rfl (iRf _) ?_)
            refine (HWC.out _).mono ?_
            rintro e w3 ⟨rfl, hb⟩
            have HS3 := Lib.hid (HS2.out.low hb)
            clear hb
            rw [show s.f (((rowC 16).1 : Nat) : Int) = s.f 774 from rfl]
            go_wp2_with fail
            refine (HB1.out _).mono ?_
            rintro e w4 ⟨rfl, rfl⟩
            go_wp2_with fail
            go_ret
            exact ⟨by rw [HV2.out, HSH.out]; rfl, HS3.out.bel⟩
          · skip
            go_enter Tryd.func42, Tryd.ntmps42
            go_upto_region 1 with fail
            generalize w.alloc (.cells (refV s) RfT) = w1 at *
            go_wp2_with fail
            refine (HM.out _).mono ?_
            rintro e w2 ⟨rfl, hb⟩
            have HS2 := Lib.hid (HS1.out.low hb)
            clear hb
            go_wp2_with (refine wpList_load_rowO (by rfl) RfT _ rfl w.heap.size rfl RfT _ (0, 0) _ HS2.out.r Tryd.underlying58 rfl (iRf _) ?_)
            refine (HWC.out _).mono ?_
            rintro e w3 ⟨rfl, hb⟩
            have HS3 := Lib.hid (HS2.out.low hb)
            clear hb
            rw [show s.f (((rowC 16).1 : Nat) : Int) = s.f 774 from rfl]
            go_wp2_with fail
            refine (HB1.out _).mono ?_
            rintro e w4 ⟨rfl, rfl⟩
            go_wp2_with fail
            go_ret
            exact ⟨by rw [HV2.out, HSH.out]; rfl, HS3.out.bel⟩
          · skip
            go_enter Tryd.func42, Tryd.ntmps42
            go_upto_region 1 with fail
            generalize w.alloc (.cells (refV s) RfT) = w1 at *
            go_wp2_with fail
            refine (HM.out _).mono ?_
            rintro e w2 ⟨rfl, hb⟩
            have HS2 := Lib.hid (HS1.out.low hb)
            clear hb
            go_wp2_with (refine wpList_load_rowO (by rfl) RfT _ rfl w.heap.size rfl RfT _ (0, 0) _ HS2.out.r Tryd.underlying58 rfl (iRf _) ?_)
            refine (HWC.out _).mono ?_
            rintro e w3 ⟨rfl, hb⟩
            have HS3 := Lib.hid (HS2.out.low hb)
            clear hb
            rw [show s.f (((rowC 16).1 : Nat) : Int) = s.f 774 from rfl]
            go_wp2_with fail
            refine (HB1.out _).mono ?_
            rintro e w4 ⟨rfl, rfl⟩
            go_wp2_with fail
            go_ret
            exact ⟨by rw [HV2.out, HSH.out]; rfl, HS3.out.bel⟩
        · skip
          go_enter Tryd.func42, Tryd.ntmps42
          go_upto_region 1 with fail
          generalize w.alloc (.cells (refV s) RfT) = w1 at *
          go_wp2_with fail
          refine (HM.out _).mono ?_
          rintro e w2 ⟨rfl, hb⟩
          have HS2 := Lib.hid (HS1.out.low hb)
          clear hb
          go_wp2_with fail
          go_ret
          exact ⟨by rw [HV2.out, HSH.out]; rfl, HS2.out.bel⟩
      · have e3072 : (n == 3072) = false := by simpa using h3072
        rw [if_neg h3072] at HV
        by_cases h3073 : n = 3073
        · subst h3073
          have HV2 := Lib.hid (show _ = showS s 1 p from HV.out)
          have HB1 := Lib.hid (fun W => HBM.out 1 (by omega) W)
          have HB2 := Lib.hid (fun W => HBS.out 1 (by omega) W)
          have HSH := Lib.hid (show showS s 1 p = ((p == 3 || tb (s.f 774) 1) && (p != 0 || tb (s.f 262) 1)) from rfl)
          generalize tb (s.f 774) 1 = b1 at *
          generalize tb (s.f 262) 1 = b2 at *
          clear HBM HBS
          rcases hp with rfl | rfl | rfl
          · skip
            cases b1 <;> cases b2
            · skip
              go_enter Tryd.func42, Tryd.ntmps42
              go_upto_region 1 with fail
              generalize w.alloc (.cells (refV s) RfT) = w1 at *
              go_wp2_with fail
              refine (HM.out _).mono ?_
              rintro e w2 ⟨rfl, hb⟩
              have HS2 := Lib.hid (HS1.out.low hb)
              clear hb
              go_wp2_with (refine wpList_load_rowO (by rfl) RfT _ rfl w.heap.size rfl RfT _ (0, 0) _ HS2.out.r Tryd.underlying58 rfl (iRf _) ?_)
              refine (HWC.out _).mono ?_
              rintro e w3 ⟨rfl, hb⟩
              have HS3 := Lib.hid (HS2.out.low hb)
              clear hb
              rw [show s.f (((rowC 16).1 : Nat) : Int) = s.f 774 from rfl]
              go_wp2_with fail
              refine (HB1.out _).mono ?_
              rintro e w4 ⟨rfl, rfl⟩
              go_wp2_with fail
              go_ret
              exact ⟨by rw [HV2.out, HSH.out]; rfl, HS3.out.bel⟩
            · skip
              go_enter Tryd.func42, Tryd.ntmps42
              go_upto_region 1 with fail
              generalize w.alloc (.cells (refV s) RfT) = w1 at *
              go_wp2_with fail
              refine (HM.out _).mono ?_
              rintro e w2 ⟨rfl, hb⟩
              have HS2 := Lib.hid (HS1.out.low hb)
              clear hb
              go_wp2_with (refine wpList_load_rowO (by rfl) RfT _ rfl w.heap.size rfl RfT _ (0, 0) _ HS2.out.r Tryd.underlying58 rfl (iRf _) ?_)
              refine (HWC.out _).mono ?_
              rintro e w3 ⟨rfl, hb⟩
              have HS3 := Lib.hid (HS2.out.low hb)
              clear hb
              rw [show s.f (((rowC 16).1 : Nat) : Int) = s.f 774 from rfl]
              go_wp2_with fail
              refine (HB1.out _).mono ?_
              rintro e w4 ⟨rfl, rfl⟩
              go_wp2_with fail
              go_ret
              exact ⟨by rw [HV2.out, HSH.out]; rfl, HS3.out.bel⟩
            · skip
              go_enter Tryd.func42, Tryd.ntmps42
              go_upto_region 1 with fail
              generalize w.alloc (.cells (refV s) RfT) = w1 at *
              go_wp2_with fail
              refine (HM.out _).mono ?_
              rintro e w2 ⟨rfl, hb⟩
              have HS2 := Lib.hid (HS1.out.low hb)
              clear hb
              go_wp2_with (refine wpList_load_rowO (by rfl) RfT _ rfl w.heap.size rfl RfT _ (0, 0) _ HS2.out.r Tryd.underlying58 rfl (iRf _) ?_)
              refine (HWC.out _).mono ?_
              rintro e w3 ⟨rfl, hb⟩
              have HS3 := Lib.hid (HS2.out.low hb)
              clear hb
              rw [show s.f (((rowC 16).1 : Nat) : Int) = s.f 774 from rfl]
              go_wp2_with fail
              refine (HB1.out _).mono ?_
              rintro e w4 ⟨rfl, rfl⟩
              go_wp2_with (refine wpList_load_rowO (by rfl) RfT _ rfl w.heap.size rfl RfT _ (0, 0) _ HS3.out.r Tryd.underlying58 rfl (iRf _) ?_)
              refine (HWS.out _).mono ?_
              rintro e w5 ⟨rfl, hb⟩
              have HS4 := Lib.hid (HS3.out.low hb)
              clear hb
              rw [show s.f (((rowC 3).1 : Nat) : Int) = s.f 262 from rfl]
              go_wp2_with fail
              refine (HB2.out _).mono ?_
              rintro e w6 ⟨rfl, rfl⟩
              go_wp2_with fail
              go_ret
              exact ⟨by rw [HV2.out, HSH.out]; rfl, HS4.out.bel⟩
            · skip
              go_enter Tryd.func42, Tryd.ntmps42
              go_upto_region 1 with fail
              generalize w.alloc (.cells (refV s) RfT) = w1 at *
              go_wp2_with fail
              refine (HM.out _).mono ?_
              rintro e w2 ⟨rfl, hb⟩
              have HS2 := Lib.hid (HS1.out.low hb)
              clear hb
              go_wp2_with (refine wpList_load_rowO (by rfl) RfT _ rfl w.heap.size rfl RfT _ (0, 0) _ HS2.out.r Tryd.underlying58 rfl (iRf _) ?_)
              refine (HWC.out _).mono ?_
              rintro e w3 ⟨rfl, hb⟩
              have HS3 := Lib.hid (HS2.out.low hb)
              clear hb
              rw [show s.f (((rowC 16).1 : Nat) : Int) = s.f 774 from rfl]
              go_wp2_with fail
              refine (HB1.out _).mono ?_
              rintro e w4 ⟨rfl, rfl⟩
              go_wp2_with (refine wpList_load_rowO (by rfl) RfT _ rfl w.heap.size rfl RfT _ (0, 0) _ HS3.out.r Tryd.underlying58 rfl (iRf _) ?_)
              refine (HWS.out _).mono ?_
              rintro e w5 ⟨rfl, hb⟩
              have HS4 := Lib.hid (HS3.out.low hb)
              clear hb
              rw [show s.f (((rowC 3).1 : Nat) : Int) = s.f 262 from rfl]
              go_wp2_with fail
              refine (HB2.out _).mono ?_
              rintro e w6 ⟨rfl, rfl⟩
              go_wp2_with fail
              go_ret
              exact ⟨by rw [HV2.out, HSH.out]; rfl, HS4.out.bel⟩
          · skip
            cases b1 <;> cases b2
            · skip
              go_enter Tryd.func42, Tryd.ntmps42
              go_upto_region 1 with fail
              generalize w.alloc (.cells (refV s) RfT) = w1 at *
              go_wp2_with fail
              refine (HM.out _).mono ?_
              rintro e w2 ⟨rfl, hb⟩
              have HS2 := Lib.hid (HS1.out.low hb)
              clear hb
              go_wp2_with (refine wpList_load_rowO (by rfl) RfT _ rfl w.heap.size rfl RfT _ (0, 0) _ HS2.out.r Tryd.underlying58 rfl (iRf _) ?_)
              refine (HWC.out _).mono ?_
              rintro e w3 ⟨rfl, hb⟩
              have HS3 := Lib.hid (HS2.out.low hb)
              clear hb
              rw [show s.f (((rowC 16).1 : Nat) : Int) = s.f 774 from rfl]
              go_wp2_with fail
              refine (HB1.out _).mono ?_
              rintro e w4 ⟨rfl, rfl⟩
              go_wp2_with fail
              go_ret
              exact ⟨by rw [HV2.out, HSH.out]; rfl, HS3.out.bel⟩
            · skip
              go_enter Tryd.func42, Tryd.ntmps42
              go_upto_region 1 with fail
              generalize w.alloc (.cells (refV s) RfT) = w1 at *
              go_wp2_with fail
              refine (HM.out _).mono ?_
              rintro e w2 ⟨rfl, hb⟩
              have HS2 := Lib.hid (HS1.out.low hb)
              clear hb
              go_wp2_with (refine wpList_load_rowO (by rfl) RfT _ rfl w.heap.size rfl RfT _ (0, 0) _ HS2.out.r Tryd.underlying58 rfl (iRf _) ?_)
              refine (HWC.out _).mono ?_
              rintro e w3 ⟨rfl, hb⟩
              have HS3 := Lib.hid (HS2.out.low hb)
              clear hb
              rw [show s.f (((rowC 16).1 : Nat) : Int) = s.f 774 from rfl]
              go_wp2_with fail
              refine (HB1.out _).mono ?_
              rintro e w4 ⟨rfl, rfl⟩
              go_wp2_with fail
              go_ret
              exact ⟨by rw [HV2.out, HSH.out]; rfl, HS3.out.bel⟩
            · skip
              go_enter Tryd.func42, Tryd.ntmps42
              go_upto_region 1 with fail
              generalize w.alloc (.cells (refV s) RfT) = w1 at *
              go_wp2_with fail
              refine (HM.out _).mono ?_
              rintro e w2 ⟨rfl, hb⟩
              have HS2 := Lib.hid (HS1.out.low hb)
              clear hb
              go_wp2_with (refine wpList_load_rowO (by rfl) RfT _ rfl w.heap.size rfl RfT _ (0, 0) _ HS2.out.r Tryd.underlying58 rfl (iRf _) ?_)
              refine (HWC.out _).mono ?_
              rintro e w3 ⟨rfl, hb⟩
              have HS3 := Lib.hid (HS2.out.low hb)
              clear hb
              rw [show s.f (((rowC 16).1 : Nat) : Int) = s.f 774 from rfl]
              go_wp2_with fail
              refine (HB1.out _).mono ?_
              rintro e w4 ⟨rfl, rfl⟩
              go_wp2_with fail
              go_ret
              exact ⟨by rw [HV2.out, HSH.out]; rfl, HS3.out.bel⟩
            · skip
              go_enter Tryd.func42, Tryd.ntmps42
              go_upto_region 1 with fail
              generalize w.alloc (.cells (refV s) RfT) = w1 at *
              go_wp2_with fail
              refine (HM.out _).mono ?_
              rintro e w2 ⟨rfl, hb⟩
              have HS2 := Lib.hid (HS1.out.low hb)
              clear hb
              go_wp2_with (refine wpList_load_rowO (by rfl) RfT _ rfl w.heap.size rfl RfT _ (0, 0) _ HS2.out.r Tryd.underlying58 rfl (iRf _) ?_)
              refine (HWC.out _).mono ?_
              rintro e w3 ⟨rfl, hb⟩
              have HS3 := Lib.hid (HS2.out.low hb)
              clear hb
              rw [show s.f (((rowC 16).1 : Nat) : Int) = s.f 774 from rfl]
              go_wp2_with fail
              refine (HB1.out _).mono ?_
              rintro e w4 ⟨rfl, rfl⟩
              go_wp2_with fail
              go_ret
              exact ⟨by rw [HV2.out, HSH.out]; rfl, HS3.out.bel⟩
          · skip
            go_enter Tryd.func42, Tryd.ntmps42
            go_upto_region 1 with fail
            generalize w.alloc (.cells (refV s) RfT) = w1 at *
            go_wp2_with fail
            refine (HM.out _).mono ?_
            rintro e w2 ⟨rfl, hb⟩
            have HS2 := Lib.hid (HS1.out.low hb)
            clear hb
            go_wp2_with fail
            go_ret
            exact ⟨by rw [HV2.out, HSH.out]; rfl, HS2.out.bel⟩
        · have e3073 : (n == 3073) = false := by simpa using h3073
          rw [if_neg h3073] at HV
          by_cases h3074 : n = 3074
          · subst h3074
            have HV2 := Lib.hid (show _ = showS s 2 p from HV.out)
            have HB1 := Lib.hid (fun W => HBM.out 2 (by omega) W)
            have HB2 := Lib.hid (fun W => HBS.out 2 (by omega) W)
            have HSH := Lib.hid (show showS s 2 p = ((p == 3 || tb (s.f 774) 2) && (p != 0 || tb (s.f 262) 2)) from rfl)
            generalize tb (s.f 774) 2 = b1 at *
            generalize tb (s.f 262) 2 = b2 at *
            clear HBM HBS
            rcases hp with rfl | rfl | rfl
            · skip
              cases b1 <;> cases b2
              · skip
                go_enter Tryd.func42, Tryd.ntmps42
                go_upto_region 1 with fail
                generalize w.alloc (.cells (refV s) RfT) = w1 at *
                go_wp2_with fail
                refine (HM.out _).mono ?_
                rintro e w2 ⟨rfl, hb⟩
                have HS2 := Lib.hid (HS1.out.low hb)
                clear hb
                go_wp2_with (refine wpList_load_rowO (by rfl) RfT _ rfl w.heap.size rfl RfT _ (0, 0) _ HS2.out.r Tryd.underlying58 rfl (iRf _) ?_)
                refine (HWC.out _).mono ?_
                rintro e w3 ⟨rfl, hb⟩
                have HS3 := Lib.hid (HS2.out.low hb)
                clear hb
                rw [show s.f (((rowC 16).1 : Nat) : Int) = s.f 774 from rfl]
                go_wp2_with fail
                refine (HB1.out _).mono ?_
                rintro e w4 ⟨rfl, rfl⟩
                go_wp2_with fail
                go_ret
                exact ⟨by rw [HV2.out, HSH.out]; rfl, HS3.out.bel⟩
              · skip
                go_enter Tryd.func42, Tryd.ntmps42
                go_upto_region 1 with fail
                generalize w.alloc (.cells (refV s) RfT) = w1 at *
                go_wp2_with fail
                refine (HM.out _).mono ?_
                rintro e w2 ⟨rfl, hb⟩
                have HS2 := Lib.hid (HS1.out.low hb)
                clear hb
                go_wp2_with (refine wpList_load_rowO (by rfl) RfT _ rfl w.heap.size rfl RfT _ (0, 0) _ HS2.out.r Tryd.underlying58 rfl (iRf _) ?_)
                refine (HWC.out _).mono ?_
                rintro e w3 ⟨rfl, hb⟩
                have HS3 := Lib.hid (HS2.out.low hb)
                clear hb
                rw [show s.f (((rowC 16).1 : Nat) : Int) = s.f 774 from rfl]
                go_wp2_with fail
                refine (HB1.out _).mono ?_
                rintro e w4 ⟨rfl, rfl⟩
                go_wp2_with fail
                go_ret
                exact ⟨by rw [HV2.out, HSH.out]; rfl, HS3.out.bel⟩
              · skip
                go_enter Tryd.func42, Tryd.ntmps42
                go_upto_region 1 with fail
                generalize w.alloc (.cells (refV s) RfT) = w1 at *
                go_wp2_with fail
                refine (HM.out _).mono ?_
                rintro e w2 ⟨rfl, hb⟩
                have HS2 := Lib.hid (HS1.out.low hb)
                clear hb
                go_wp2_with (refine wpList_load_rowO (by rfl) RfT _ rfl w.heap.size rfl RfT _ (0, 0) _ HS2.out.r Tryd.underlying58 rfl (iRf _) ?_)
                refine (HWC.out _).mono ?_
                rintro e w3 ⟨rfl, hb⟩
                have HS3 := Lib.hid (HS2.out.low hb)
                clear hb
                rw [show s.f (((rowC 16).1 : Nat) : Int) = s.f 774 from rfl]
                go_wp2_with fail
                refine (HB1.out _).mono ?_
                rintro e w4 ⟨rfl, rfl⟩
                go_wp2_with (refine wpList_load_rowO (by rfl) RfT _ rfl w.heap.size rfl RfT _ (0, 0) _ HS3.out.r Tryd.underlying58 rfl (iRf _) ?_)
                refine (HWS.out _).mono ?_
                rintro e w5 ⟨rfl, hb⟩
                have HS4 := Lib.hid (HS3.out.low hb)
                clear hb
                rw [show s.f (((rowC 3).1 : Nat) : Int) = s.f 262 from rfl]
                go_wp2_with fail
                refine (HB2.out _).mono ?_
                rintro e w6 ⟨rfl, rfl⟩
                go_wp2_with fail
                go_ret
                exact ⟨by rw [HV2.out, HSH.out]; rfl, HS4.out.bel⟩
              · skip
                go_enter Tryd.func42, Tryd.ntmps42
                go_upto_region 1 with fail
                generalize w.alloc (.cells (refV s) RfT) = w1 at *
                go_wp2_with fail
                refine (HM.out _).mono ?_
                rintro e w2 ⟨rfl, hb⟩
                have HS2 := Lib.hid (HS1.out.low hb)
                clear hb
                go_wp2_with (refine wpList_load_rowO (by rfl) RfT _ rfl w.heap.size rfl RfT _ (0, 0) _ HS2.out.r Tryd.underlying58 rfl (iRf _) ?_)
                refine (HWC.out _).mono ?_
                rintro e w3 ⟨rfl, hb⟩
                have HS3 := Lib.hid (HS2.out.low hb)
                clear hb
                rw [show s.f (((rowC 16).1 : Nat) : Int) = s.f 774 from rfl]
                go_wp2_with fail
                refine (HB1.out _).mono ?_
                rintro e w4 ⟨rfl, rfl⟩
                go_wp2_with (refine wpList_load_rowO (by rfl) RfT _ rfl w.heap.size rfl RfT _ (0, 0) _ HS3.out.r Tryd.underlying58 rfl (iRf _) ?_)
                refine (HWS.out _).mono ?_
                rintro e w5 ⟨rfl, hb⟩
                have HS4 := Lib.hid (HS3.out.low hb)
                clear hb
                rw [show s.f (((rowC 3).1 : Nat) : Int) = s.f 262 from rfl]
                go_wp2_with fail
                refine (HB2.out _).mono ?_
                rintro e w6 ⟨rfl, rfl⟩
                go_wp2_with fail
                go_ret
                exact ⟨by rw [HV2.out, HSH.out]; rfl, HS4.out.bel⟩
            · skip
              cases b1 <;> cases b2
              · skip
                go_enter Tryd.func42, Tryd.ntmps42
                go_upto_region 1 with fail
                generalize w.alloc (.cells (refV s) RfT) = w1 at *
                go_wp2_with fail
                refine (HM.out _).mono ?_
                rintro e w2 ⟨rfl, hb⟩
                have HS2 := Lib.hid (HS1.out.low hb)
                clear hb
                go_wp2_with (refine wpList_load_rowO (by rfl) RfT _ rfl w.heap.size rfl RfT _ (0, 0) _ HS2.out.r Tryd.underlying58 rfl (iRf _) ?_)
                refine (HWC.out _).mono ?_
                rintro e w3 ⟨rfl, hb⟩
                have HS3 := Lib.hid (HS2.out.low hb)
                clear hb
                rw [show s.f (((rowC 16).1 : Nat) : Int) = s.f 774 from rfl]
                go_wp2_with fail
                refine (HB1.out _).mono ?_
                rintro e w4 ⟨rfl, rfl⟩
                go_wp2_with fail
                go_ret
                exact ⟨by rw [HV2.out, HSH.out]; rfl, HS3.out.bel⟩
              · skip
                go_enter Tryd.func42, Tryd.ntmps42
                go_upto_region 1 with fail
                generalize w.alloc (.cells (refV s) RfT) = w1 at *
                go_wp2_with fail
                refine (HM.out _).mono ?_
                rintro e w2 ⟨rfl, hb⟩
                have HS2 := Lib.hid (HS1.out.low hb)
                clear hb
                go_wp2_with (refine wpList_load_rowO (by rfl) RfT _ rfl w.heap.size rfl RfT _ (0, 0) _ HS2.out.r Tryd.underlying58 rfl (iRf _) ?_)
                refine (HWC.out _).mono ?_
                rintro e w3 ⟨rfl, hb⟩
                have HS3 := Lib.hid (HS2.out.low hb)
                clear hb
                rw [show s.f (((rowC 16).1 : Nat) : Int) = s.f 774 from rfl]
                go_wp2_with fail
                refine (HB1.out _).mono ?_
                rintro e w4 ⟨rfl, rfl⟩
                go_wp2_with fail
                go_ret
                exact ⟨by rw [HV2.out, HSH.out]; rfl, HS3.out.bel⟩
              · skip
                go_enter Tryd.func42, Tryd.ntmps42
                go_upto_region 1 with fail
                generalize w.alloc (.cells (refV s) RfT) = w1 at *
                go_wp2_with fail
                refine (HM.out _).mono ?_
                rintro e w2 ⟨rfl, hb⟩
                have HS2 := Lib.hid (HS1.out.low hb)
                clear hb
                go_wp2_with (refine wpList_load_rowO (by rfl) RfT _ rfl w.heap.size rfl RfT _ (0, 0) _ HS2.out.r Tryd.underlying58 rfl (iRf _) ?_)
                refine (HWC.out _).mono ?_
                rintro e w3 ⟨rfl, hb⟩
                have HS3 := Lib.hid (HS2.out.low hb)
                clear hb
                rw [show s.f (((rowC 16).1 : Nat) : Int) = s.f 774 from rfl]
                go_wp2_with fail
                refine (HB1.out _).mono ?_
                rintro e w4 ⟨rfl, rfl⟩
                go_wp2_with fail
                go_ret
                exact ⟨by rw [HV2.out, HSH.out]; rfl, HS3.out.bel⟩
              · skip
                go_enter Tryd.func42, Tryd.ntmps42
                go_upto_region 1 with fail
                generalize w.alloc (.cells (refV s) RfT) = w1 at *
                go_wp2_with fail
                refine (HM.out _).mono ?_
                rintro e w2 ⟨rfl, hb⟩
                have HS2 := Lib.hid (HS1.out.low hb)
                clear hb
                go_wp2_with (refine wpList_load_rowO (by rfl) RfT _ rfl w.heap.size rfl RfT _ (0, 0) _ HS2.out.r Tryd.underlying58 rfl (iRf _) ?_)
                refine (HWC.out _).mono ?_
                rintro e w3 ⟨rfl, hb⟩
                have HS3 := Lib.hid (HS2.out.low hb)
                clear hb
                rw [show s.f (((rowC 16).1 : Nat) : Int) = s.f 774 from rfl]
                go_wp2_with fail
                refine (HB1.out _).mono ?_
                rintro e w4 ⟨rfl, rfl⟩
                go_wp2_with fail
                go_ret
                exact ⟨by rw [HV2.out, HSH.out]; rfl, HS3.out.bel⟩
            · skip
              go_enter Tryd.func42, Tryd.ntmps42
              go_upto_region 1 with fail
              generalize w.alloc (.cells (refV s) RfT) = w1 at *
              go_wp2_with fail
              refine (HM.out _).mono ?_
              rintro e w2 ⟨rfl, hb⟩
              have HS2 := Lib.hid (HS1.out.low hb)
              clear hb
              go_wp2_with fail
              go_ret
              exact ⟨by rw [HV2.out, HSH.out]; rfl, HS2.out.bel⟩
          · have e3074 : (n == 3074) = false := by simpa using h3074
            rw [if_neg h3074] at HV
            by_cases hlo : n < 3072
            · have g1 : decide (n ≥ 3072) = false := by simp; omega
              go_enter Tryd.func42, Tryd.ntmps42
              go_upto_region 1 with fail
              generalize w.alloc (.cells (refV s) RfT) = w1 at *
              go_wp2_with fail
              refine (HM.out _).mono ?_
              rintro e w2 ⟨rfl, hb⟩
              have HS2 := Lib.hid (HS1.out.low hb)
              clear hb
              go_wp2_with fail
              go_ret
              exact ⟨by rw [HV.out]; rfl, HS2.out.bel⟩
            · have g1 : decide (n ≥ 3072) = true := by simp; omega
              have g2 : decide (n ≤ 3074) = false := by simp; omega
              go_enter Tryd.func42, Tryd.ntmps42
              go_upto_region 1 with fail
              generalize w.alloc (.cells (refV s) RfT) = w1 at *
              go_wp2_with fail
              refine (HM.out _).mono ?_
              rintro e w2 ⟨rfl, hb⟩
              have HS2 := Lib.hid (HS1.out.low hb)
              clear hb
              go_wp2_with fail
              go_ret
              exact ⟨by rw [HV.out]; rfl, HS2.out.bel⟩
end Go.Proofs.YtfjdalepaacmgaaDoor
