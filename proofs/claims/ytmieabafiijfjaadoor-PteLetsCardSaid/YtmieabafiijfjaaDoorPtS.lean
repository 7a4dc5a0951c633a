/-
  The reference of layer 25: what a leaf lets, how it is marked, where it leads.
-/
import Derived.Test.YtmieabafiijfjaaDoorPtR
set_option maxRecDepth 4000
namespace Go.Proofs.YtmieabafiijfjaaDoor
open Go.ChangeShapes Go.WideShapes Go.ChangeAt Go.RowKit Wd Csr Sta

theorem ecut_lt {x p s : Int} (t : Nat) (h : s ≤ t) : cutS x p s < 2 ^ t := by
  have r := cutS_range x p s
  have e : (cutS x p s).toNat % 2 ^ t = (cutS x p s).toNat := by
    apply Nat.eq_of_testBit_eq
    intro i
    rw [Nat.testBit_mod_two_pow]
    by_cases c : i < t
    · simp [c]
    · have : (cutS x p s).toNat.testBit i = false := by
        show tb (cutS x p s) i = false
        unfold cutS
        rw [tb_word]
        have : ¬ ((i : Int) < s ∧ 0 ≤ p + i) := by omega
        rw [decide_eq_false this]
        simp
      rw [this]
      simp
  have l := Nat.mod_lt (cutS x p s).toNat (Nat.two_pow_pos t)
  rw [e] at l
  rw [pow_cast]
  omega
/-- Does a leaf let an access? -/
def hasE (p acc : Int) (mxr : Bool) : Bool := if acc = 0 then tb p 3 else if acc = 1 then tb p 1 || (mxr && tb p 3) else if acc = 2 then tb p 2 else false
def letsE (p acc priv : Int) (sum mxr : Bool) : Bool := if !hasE p acc mxr then false else if priv = 0 then tb p 4 else if tb p 4 then sum && (acc != 0) else true
set_option maxHeartbeats 8000000 in
theorem rletsE_c (p acc priv : Int) (sum mxr : Bool) (hp : W64 p) (w : World) : Calls Tryd.prog 8 #[.int .u64 p, .int .i64 acc, .int .i64 priv, .bool sum, .bool mxr] w fun e w' => e = .returned (.bool (letsE p acc priv sum mxr)) ∧ w = w' := by
  have HK := Lib.hid (show letsE p acc priv sum mxr = if !hasE p acc mxr then false else if priv = 0 then tb p 4 else if tb p 4 then sum && (acc != 0) else true from rfl)
  have HE := Lib.hid (show hasE p acc mxr = if acc = 0 then tb p 3 else if acc = 1 then tb p 1 || (mxr && tb p 3) else if acc = 2 then tb p 2 else false from rfl)
  have HX := Lib.hid (fun W => ebit_X p hp W)
  have HR := Lib.hid (fun W => ebit_R p hp W)
  have HW := Lib.hid (fun W => ebit_W p hp W)
  have HU := Lib.hid (fun W => ebit_U p hp W)
  clear hp
  generalize letsE p acc priv sum mxr = r at *
  generalize hasE p acc mxr = q at *
  generalize tb p 1 = b1 at *
  generalize tb p 2 = b2 at *
  generalize tb p 3 = b3 at *
  generalize tb p 4 = b4 at *
  by_cases hpr : priv = 0
  · rw [if_pos hpr] at HK
    subst hpr
    by_cases h0 : acc = 0
    · subst h0
      rw [if_pos rfl] at HE
      go_enter Tryd.func8, Tryd.ntmps8
      cases b3
      · go_wp2_with fail
        refine (HX.out _).mono ?_
        rintro e w2 ⟨rfl, rfl⟩
        go_wp2_with fail
        go_ret
        exact ⟨by rw [HK.out, HE.out]; rfl, rfl⟩
      · go_wp2_with fail
        refine (HX.out _).mono ?_
        rintro e w2 ⟨rfl, rfl⟩
        cases b4
        · go_wp2_with fail
          refine (HU.out _).mono ?_
          rintro e w2 ⟨rfl, rfl⟩
          go_wp2_with fail
          go_ret
          exact ⟨by rw [HK.out, HE.out]; rfl, rfl⟩
        · go_wp2_with fail
          refine (HU.out _).mono ?_
          rintro e w2 ⟨rfl, rfl⟩
          go_wp2_with fail
          go_ret
          exact ⟨by rw [HK.out, HE.out]; rfl, rfl⟩
    · by_cases h1 : acc = 1
      · subst h1
        rw [if_neg (by decide), if_pos rfl] at HE
        go_enter Tryd.func8, Tryd.ntmps8
        cases b1
        · go_wp2_with fail
          refine (HR.out _).mono ?_
          rintro e w2 ⟨rfl, rfl⟩
          cases mxr
          · go_wp2_with fail
            go_ret
            exact ⟨by rw [HK.out, HE.out]; rfl, rfl⟩
          · cases b3
            · go_wp2_with fail
              refine (HX.out _).mono ?_
              rintro e w2 ⟨rfl, rfl⟩
              go_wp2_with fail
              go_ret
              exact ⟨by rw [HK.out, HE.out]; rfl, rfl⟩
            · go_wp2_with fail
              refine (HX.out _).mono ?_
              rintro e w2 ⟨rfl, rfl⟩
              cases b4
              · go_wp2_with fail
                refine (HU.out _).mono ?_
                rintro e w2 ⟨rfl, rfl⟩
                go_wp2_with fail
                go_ret
                exact ⟨by rw [HK.out, HE.out]; rfl, rfl⟩
              · go_wp2_with fail
                refine (HU.out _).mono ?_
                rintro e w2 ⟨rfl, rfl⟩
                go_wp2_with fail
                go_ret
                exact ⟨by rw [HK.out, HE.out]; rfl, rfl⟩
        · go_wp2_with fail
          refine (HR.out _).mono ?_
          rintro e w2 ⟨rfl, rfl⟩
          cases b4
          · go_wp2_with fail
            refine (HU.out _).mono ?_
            rintro e w2 ⟨rfl, rfl⟩
            go_wp2_with fail
            go_ret
            exact ⟨by rw [HK.out, HE.out]; rfl, rfl⟩
          · go_wp2_with fail
            refine (HU.out _).mono ?_
            rintro e w2 ⟨rfl, rfl⟩
            go_wp2_with fail
            go_ret
            exact ⟨by rw [HK.out, HE.out]; rfl, rfl⟩
      · by_cases h2 : acc = 2
        · subst h2
          rw [if_neg (by decide), if_neg (by decide), if_pos rfl] at HE
          go_enter Tryd.func8, Tryd.ntmps8
          cases b2
          · go_wp2_with fail
            refine (HW.out _).mono ?_
            rintro e w2 ⟨rfl, rfl⟩
            go_wp2_with fail
            go_ret
            exact ⟨by rw [HK.out, HE.out]; rfl, rfl⟩
          · go_wp2_with fail
            refine (HW.out _).mono ?_
            rintro e w2 ⟨rfl, rfl⟩
            cases b4
            · go_wp2_with fail
              refine (HU.out _).mono ?_
              rintro e w2 ⟨rfl, rfl⟩
              go_wp2_with fail
              go_ret
              exact ⟨by rw [HK.out, HE.out]; rfl, rfl⟩
            · go_wp2_with fail
              refine (HU.out _).mono ?_
              rintro e w2 ⟨rfl, rfl⟩
              go_wp2_with fail
              go_ret
              exact ⟨by rw [HK.out, HE.out]; rfl, rfl⟩
        · rw [if_neg h0, if_neg h1, if_neg h2] at HE
          have a0 : (acc == 0) = false := by simpa using h0
          have a1 : (acc == 1) = false := by simpa using h1
          have a2 : (acc == 2) = false := by simpa using h2
          clear h0 h1 h2
          go_enter Tryd.func8, Tryd.ntmps8
          go_wp2_with fail
          go_ret
          exact ⟨by rw [HK.out, HE.out]; rfl, rfl⟩
  · rw [if_neg hpr] at HK
    have e0 : (priv == 0) = false := by simpa using hpr
    clear hpr
    by_cases h0 : acc = 0
    · subst h0
      rw [if_pos rfl] at HE
      go_enter Tryd.func8, Tryd.ntmps8
      cases b3
      · go_wp2_with fail
        refine (HX.out _).mono ?_
        rintro e w2 ⟨rfl, rfl⟩
        go_wp2_with fail
        go_ret
        exact ⟨by rw [HK.out, HE.out]; rfl, rfl⟩
      · go_wp2_with fail
        refine (HX.out _).mono ?_
        rintro e w2 ⟨rfl, rfl⟩
        cases b4
        · go_wp2_with fail
          refine (HU.out _).mono ?_
          rintro e w2 ⟨rfl, rfl⟩
          go_wp2_with fail
          go_ret
          exact ⟨by rw [HK.out, HE.out]; rfl, rfl⟩
        · go_wp2_with fail
          refine (HU.out _).mono ?_
          rintro e w2 ⟨rfl, rfl⟩
          cases sum
          · go_wp2_with fail
            go_ret
            exact ⟨by rw [HK.out, HE.out]; rfl, rfl⟩
          · go_wp2_with fail
            go_ret
            exact ⟨by rw [HK.out, HE.out]; rfl, rfl⟩
    · by_cases h1 : acc = 1
      · subst h1
        rw [if_neg (by decide), if_pos rfl] at HE
        go_enter Tryd.func8, Tryd.ntmps8
        cases b1
        · go_wp2_with fail
          refine (HR.out _).mono ?_
          rintro e w2 ⟨rfl, rfl⟩
          cases mxr
          · go_wp2_with fail
            go_ret
            exact ⟨by rw [HK.out, HE.out]; rfl, rfl⟩
          · cases b3
            · go_wp2_with fail
              refine (HX.out _).mono ?_
              rintro e w2 ⟨rfl, rfl⟩
              go_wp2_with fail
              go_ret
              exact ⟨by rw [HK.out, HE.out]; rfl, rfl⟩
            · go_wp2_with fail
              refine (HX.out _).mono ?_
              rintro e w2 ⟨rfl, rfl⟩
              cases b4
              · go_wp2_with fail
                refine (HU.out _).mono ?_
                rintro e w2 ⟨rfl, rfl⟩
                go_wp2_with fail
                go_ret
                exact ⟨by rw [HK.out, HE.out]; rfl, rfl⟩
              · go_wp2_with fail
                refine (HU.out _).mono ?_
                rintro e w2 ⟨rfl, rfl⟩
                cases sum
                · go_wp2_with fail
                  go_ret
                  exact ⟨by rw [HK.out, HE.out]; rfl, rfl⟩
                · go_wp2_with fail
                  go_ret
                  exact ⟨by rw [HK.out, HE.out]; rfl, rfl⟩
        · go_wp2_with fail
          refine (HR.out _).mono ?_
          rintro e w2 ⟨rfl, rfl⟩
          cases b4
          · go_wp2_with fail
            refine (HU.out _).mono ?_
            rintro e w2 ⟨rfl, rfl⟩
            go_wp2_with fail
            go_ret
            exact ⟨by rw [HK.out, HE.out]; rfl, rfl⟩
          · go_wp2_with fail
            refine (HU.out _).mono ?_
            rintro e w2 ⟨rfl, rfl⟩
            cases sum
            · go_wp2_with fail
              go_ret
              exact ⟨by rw [HK.out, HE.out]; rfl, rfl⟩
            · go_wp2_with fail
              go_ret
              exact ⟨by rw [HK.out, HE.out]; rfl, rfl⟩
      · by_cases h2 : acc = 2
        · subst h2
          rw [if_neg (by decide), if_neg (by decide), if_pos rfl] at HE
          go_enter Tryd.func8, Tryd.ntmps8
          cases b2
          · go_wp2_with fail
            refine (HW.out _).mono ?_
            rintro e w2 ⟨rfl, rfl⟩
            go_wp2_with fail
            go_ret
            exact ⟨by rw [HK.out, HE.out]; rfl, rfl⟩
          · go_wp2_with fail
            refine (HW.out _).mono ?_
            rintro e w2 ⟨rfl, rfl⟩
            cases b4
            · go_wp2_with fail
              refine (HU.out _).mono ?_
              rintro e w2 ⟨rfl, rfl⟩
              go_wp2_with fail
              go_ret
              exact ⟨by rw [HK.out, HE.out]; rfl, rfl⟩
            · go_wp2_with fail
              refine (HU.out _).mono ?_
              rintro e w2 ⟨rfl, rfl⟩
              cases sum
              · go_wp2_with fail
                go_ret
                exact ⟨by rw [HK.out, HE.out]; rfl, rfl⟩
              · go_wp2_with fail
                go_ret
                exact ⟨by rw [HK.out, HE.out]; rfl, rfl⟩
        · rw [if_neg h0, if_neg h1, if_neg h2] at HE
          have a0 : (acc == 0) = false := by simpa using h0
          have a1 : (acc == 1) = false := by simpa using h1
          have a2 : (acc == 2) = false := by simpa using h2
          clear h0 h1 h2
          go_enter Tryd.func8, Tryd.ntmps8
          go_wp2_with fail
          go_ret
          exact ⟨by rw [HK.out, HE.out]; rfl, rfl⟩
def markS (p acc : Int) : Int := if acc = 2 then putS (putS p 6 1 1) 7 1 1 else putS p 6 1 1
set_option maxHeartbeats 2000000 in
theorem rmarkS_c (p acc : Int) (hp : W64 p) (w : World) : Calls Tryd.prog 6 #[.int .u64 p, .int .i64 acc] w fun e w' => e = .returned (.int .u64 (markS p acc)) ∧ Below w.heap.size w w' := by
  have HK := Lib.hid (show markS p acc = if acc = 2 then putS (putS p 6 1 1) 7 1 1 else putS p 6 1 1 from rfl)
  have h1 := putS_range p 6 1 1
  have HP := Lib.hid (fun W => refPut_c p 6 1 1 W hp.1 hp.2 (by omega) (by omega) (by omega) (by omega))
  have HQ := Lib.hid (fun W => refPut_c (putS p 6 1 1) 7 1 1 W h1.1 h1.2 (by omega) (by omega) (by omega) (by omega))
  generalize markS p acc = r at *
  generalize putS (putS p 6 1 1) 7 1 1 = y at *
  generalize putS p 6 1 1 = x at *
  clear hp h1
  by_cases h : acc = 2
  · rw [if_pos h] at HK
    subst h
    go_enter Tryd.func6, Tryd.ntmps6
    go_wp2_with fail
    refine (HP.out _).mono ?_
    rintro e w1 ⟨rfl, hb⟩
    have HB := Lib.hid hb
    clear hb
    go_wp2_with fail
    refine (HQ.out _).mono ?_
    rintro e w2 ⟨rfl, hb⟩
    have HB2 := Lib.hid (HB.out.trans (hb.mono HB.out.size))
    clear hb
    go_wp2_with fail
    go_ret
    exact ⟨by rw [HK.out]; rfl, HB2.out⟩
  · rw [if_neg h] at HK
    have e2 : (acc == 2) = false := by simpa using h
    clear h
    go_enter Tryd.func6, Tryd.ntmps6
    go_wp2_with fail
    refine (HP.out _).mono ?_
    rintro e w1 ⟨rfl, hb⟩
    have HB := Lib.hid hb
    clear hb
    go_wp2_with fail
    go_ret
    exact ⟨by rw [HK.out]; rfl, HB.out⟩
def frameS (p l va : Int) : Int := if 0 ≤ l ∧ l ≤ 2 then putS (cutS p 10 44 * 4096) 0 (12 + 9 * l) va else 0
set_option maxHeartbeats 2000000 in
theorem rframeS_c (p l va : Int) (hp : W64 p) (hv : W64 va) (w : World) : Calls Tryd.prog 10 #[.int .u64 p, .int .i64 l, .int .u64 va] w fun e w' => e = .returned (.int .u64 (frameS p l va)) ∧ Below w.heap.size w w' := by
  have HK := Lib.hid (show frameS p l va = if 0 ≤ l ∧ l ≤ 2 then putS (cutS p 10 44 * 4096) 0 (12 + 9 * l) va else 0 from rfl)
  have HN := Lib.hid (fun W => rppn_c p hp W)
  have h1 := cutS_range p 10 44
  have h2 : cutS p 10 44 < 2 ^ 44 := ecut_lt 44 (by omega)
  have h3 : cutS p 10 44 < 17592186044416 := h2
  have HQ := Lib.hid (fun W (h0 : 0 ≤ l) (hl : l ≤ 2) => refPut_c (cutS p 10 44 * 4096) 0 (12 + 9 * l) va W (by omega) (by omega) (by omega) (by omega) hv.1 hv.2)
  generalize frameS p l va = r at *
  generalize putS (cutS p 10 44 * 4096) 0 (12 + 9 * l) va = y at *
  have h1' := h1.1
  generalize cutS p 10 44 = x at *
  clear hp hv h1 h2
  by_cases hl : 0 ≤ l ∧ l ≤ 2
  · rw [if_pos hl] at HK
    have HQ2 := Lib.hid (fun W => HQ.out W hl.1 hl.2)
    have hd0 : decide (l < 0) = false := decide_eq_false (by omega)
    have hd2 : decide (l > 2) = false := decide_eq_false (by omega)
    have hl1 : 0 ≤ l := hl.1
    have hl2 : l ≤ 2 := hl.2
    have hm : IntKind.u64.wrap (x * 4096) = x * 4096 := by rw [IntKind.wrap_u64]; omega
    clear HQ hl
    go_enter Tryd.func10, Tryd.ntmps10
    go_wp2_with fail
    refine (HN.out _).mono ?_
    rintro e w1 ⟨rfl, hb⟩
    have HB := Lib.hid hb
    clear hb
    go_wp2_with fail
    refine (HQ2.out _).mono ?_
    rintro e w2 ⟨rfl, hb⟩
    have HB2 := Lib.hid (HB.out.trans (hb.mono HB.out.size))
    clear hb
    go_wp2_with fail
    go_ret
    exact ⟨by rw [HK.out]; rfl, HB2.out⟩
  · rw [if_neg hl] at HK
    have HB := Lib.hid (Below.refl w.heap.size w)
    clear HQ HN h3 h1'
    by_cases h : l < 0
    · have hd0 : decide (l < 0) = true := decide_eq_true h
      go_enter Tryd.func10, Tryd.ntmps10
      go_wp2_with fail
      go_ret
      exact ⟨by rw [HK.out]; rfl, HB.out⟩
    · have hd0 : decide (l < 0) = false := decide_eq_false h
      have hd2 : decide (l > 2) = true := decide_eq_true (by omega)
      go_enter Tryd.func10, Tryd.ntmps10
      go_wp2_with fail
      go_ret
      exact ⟨by rw [HK.out]; rfl, HB.out⟩
end Go.Proofs.YtmieabafiijfjaaDoor
