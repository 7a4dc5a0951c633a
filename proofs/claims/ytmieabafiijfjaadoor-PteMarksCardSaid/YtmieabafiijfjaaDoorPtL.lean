/-
  The program's layer 25: what a leaf lets, how it is marked; the laws PteLets and PteMarks walked.
-/
import Derived.Test.YtmieabafiijfjaaDoorPtK
import Derived.Test.YtmieabafiijfjaaDoorPtP
import Derived.Test.YtmieabafiijfjaaDoorBxS
import Derived.Deep.DeepCutAuto
set_option maxRecDepth 4000
namespace Go.Proofs.YtmieabafiijfjaaDoor
open Go.ChangeShapes Go.WideShapes Go.ChangeAt Go.RowKit Wd Csr Sta

/-- The table of what an access requires, as it lies in memory. -/
def reqK : List Nat := [3, 1, 2]
def ReqIn (w : World) : Prop := 0 < w.heap.size ∧ ∀ k, k < 3 → w.cell? ⟨0, k, none⟩ = some (.int .i64 (reqK.getD k 0 : Nat))
theorem ReqIn.low {w w' : World} (h : ReqIn w) (hb : Below w.heap.size w w') : ReqIn w' := ⟨Nat.lt_of_lt_of_le h.1 hb.size, fun k hk => (hb.cell (p := ⟨0, k, none⟩) h.1).trans (h.2 k hk)⟩
theorem ReqIn.drew {w : World} (h : ReqIn w) : ReqIn w.drew := h
def openE (p acc priv : Int) (sum : Bool) : Bool := if priv = 0 then tb p 4 else !tb p 4 || (sum && (acc != 0))
theorem lets_open (p acc priv : Int) (sum mxr : Bool) : letsE p acc priv sum mxr = (openE p acc priv sum && hasE p acc mxr) := by
  unfold letsE openE
  generalize hasE p acc mxr = h
  generalize (acc != 0) = z
  generalize tb p 4 = b
  by_cases c : priv = 0
  · rw [if_pos c, if_pos c]; cases h <;> cases b <;> rfl
  · rw [if_neg c, if_neg c]; cases h <;> cases b <;> cases sum <;> cases z <;> rfl
set_option maxHeartbeats 4000000 in
theorem open_c (p acc priv : Int) (sum : Bool) (hp : W64 p) (w : World) : Calls Tryd.prog 15 #[.int .u64 p, .int .i64 acc, .int .i64 priv, .bool sum] w fun e w' => e = .returned (.bool (openE p acc priv sum)) ∧ Below w.heap.size w w' := by
  have HK := Lib.hid (show openE p acc priv sum = if priv = 0 then tb p 4 else !tb p 4 || (sum && (acc != 0)) from rfl)
  have H4 := Lib.hid (fun W => some1_c p hp 4 (by omega) W)
  have HB := Lib.hid (Below.refl w.heap.size w)
  generalize openE p acc priv sum = r at *
  generalize tb p 4 = b4 at *
  generalize hz : (acc != 0) = z at *
  clear hp
  by_cases c : priv = 0
  · rw [if_pos c] at HK
    have hr := HK.out
    subst hr
    have hc : (priv == 0) = true := by simpa using c
    clear HK c
    go_enter Tryd.func15, Tryd.ntmps15
    go_wp2_with fail
    refine (H4.out _).mono ?_
    rintro e w2 ⟨rfl, hb⟩
    replace HB := Lib.hid (HB.out.trans (hb.mono HB.out.size))
    clear hb
    go_wp2_with fail
    go_ret
    exact ⟨rfl, HB.out⟩
  · rw [if_neg c] at HK
    have hc : (priv == 0) = false := by simpa using c
    clear c
    go_enter Tryd.func15, Tryd.ntmps15
    go_wp2_with fail
    refine (H4.out _).mono ?_
    rintro e w2 ⟨rfl, hb⟩
    replace HB := Lib.hid (HB.out.trans (hb.mono HB.out.size))
    clear hb
    cases b4
    · go_wp2_with fail
      go_ret
      exact ⟨by rw [HK.out]; rfl, HB.out⟩
    · cases sum
      · go_wp2_with fail
        go_ret
        exact ⟨by rw [HK.out]; rfl, HB.out⟩
      · cases z
        · go_wp2_with fail
          go_ret
          exact ⟨by rw [HK.out]; rfl, HB.out⟩
        · go_wp2_with fail
          go_ret
          exact ⟨by rw [HK.out]; rfl, HB.out⟩
set_option maxHeartbeats 8000000 in
theorem lets_c (p acc priv : Int) (sum mxr : Bool) (hp : W64 p) (w : World) (hN : ReqIn w) : Calls Tryd.prog 7 #[.int .u64 p, .int .i64 acc, .int .i64 priv, .bool sum, .bool mxr] w fun e w' => e = .returned (.bool (letsE p acc priv sum mxr)) ∧ Below w.heap.size w w' := by
  have HK := Lib.hid (lets_open p acc priv sum mxr)
  have HE := Lib.hid (show hasE p acc mxr = if acc = 0 then tb p 3 else if acc = 1 then tb p 1 || (mxr && tb p 3) else if acc = 2 then tb p 2 else false from rfl)
  have HO := Lib.hid (fun W => open_c p acc priv sum hp W)
  have H1 := Lib.hid (fun W => some1_c p hp 1 (by omega) W)
  have H2 := Lib.hid (fun W => some1_c p hp 2 (by omega) W)
  have H3 := Lib.hid (fun W => some1_c p hp 3 (by omega) W)
  have HN := Lib.hid hN
  have HB := Lib.hid (Below.refl w.heap.size w)
  generalize letsE p acc priv sum mxr = r at *
  generalize hasE p acc mxr = q at *
  generalize openE p acc priv sum = op at *
  generalize tb p 1 = b1 at *
  generalize tb p 2 = b2 at *
  generalize tb p 3 = b3 at *
  clear hp hN
  by_cases h0 : acc < 0
  · have hr : r = false := by rw [HK.out, HE.out, if_neg (by omega), if_neg (by omega), if_neg (by omega), Bool.and_false]
    subst hr
    clear HK HE HO H1 H2 H3 HN
    go_enter Tryd.func7, Tryd.ntmps7
    go_wp2_with fail
    go_ret
    exact ⟨rfl, HB.out⟩
  · by_cases h3 : 3 ≤ acc
    · have hr : r = false := by rw [HK.out, HE.out, if_neg (by omega), if_neg (by omega), if_neg (by omega), Bool.and_false]
      subst hr
      clear HK HE HO H1 H2 H3 HN h0
      have hd0 : decide (acc < 0) = false := decide_eq_false (by omega)
      go_enter Tryd.func7, Tryd.ntmps7
      go_wp2_with fail
      go_ret
      exact ⟨rfl, HB.out⟩
    · obtain rfl | rfl | rfl : acc = 0 ∨ acc = 1 ∨ acc = 2 := by omega
      · have HE' := Lib.hid (show q = b3 by rw [HE.out]; rfl)
        clear HE
        have HE := HE'
        clear HE'
        clear h0 h3
        go_enter Tryd.func7, Tryd.ntmps7
        go_wp2_with fail
        refine (HO.out _).mono ?_
        rintro e w2 ⟨rfl, hb⟩
        replace HB := Lib.hid (HB.out.trans (hb.mono HB.out.size))
        clear hb
        have hn := (HN.out.low HB.out).2 0 (by omega)
        have hz : w2.cell? ⟨0, 0, none⟩ = some (.int .i64 3) := hn
        clear hn
        cases op
        · go_wp2_with fail
          go_ret
          exact ⟨by rw [HK.out, HE.out]; rfl, HB.out⟩
        · go_wp2_with fail
          refine (H3.out _).mono ?_
          rintro e w2 ⟨rfl, hb⟩
          replace HB := Lib.hid (HB.out.trans (hb.mono HB.out.size))
          clear hb
          clear hz
          cases b3
          · cases mxr
            · go_wp2_with fail
              go_ret
              exact ⟨by rw [HK.out, HE.out]; rfl, HB.out⟩
            · go_wp2_with fail
              go_ret
              exact ⟨by rw [HK.out, HE.out]; rfl, HB.out⟩
          · go_wp2_with fail
            go_ret
            exact ⟨by rw [HK.out, HE.out]; rfl, HB.out⟩
      · have HE' := Lib.hid (show q = (b1 || (mxr && b3)) by rw [HE.out]; rfl)
        clear HE
        have HE := HE'
        clear HE'
        clear h0 h3
        go_enter Tryd.func7, Tryd.ntmps7
        go_wp2_with fail
        refine (HO.out _).mono ?_
        rintro e w2 ⟨rfl, hb⟩
        replace HB := Lib.hid (HB.out.trans (hb.mono HB.out.size))
        clear hb
        have hn := (HN.out.low HB.out).2 1 (by omega)
        have hz : w2.cell? ⟨0, 1, none⟩ = some (.int .i64 1) := hn
        clear hn
        cases op
        · go_wp2_with fail
          go_ret
          exact ⟨by rw [HK.out, HE.out]; rfl, HB.out⟩
        · go_wp2_with fail
          refine (H1.out _).mono ?_
          rintro e w2 ⟨rfl, hb⟩
          replace HB := Lib.hid (HB.out.trans (hb.mono HB.out.size))
          clear hb
          clear hz
          cases b1
          · cases mxr
            · go_wp2_with fail
              go_ret
              exact ⟨by rw [HK.out, HE.out]; rfl, HB.out⟩
            · go_wp2_with fail
              refine (H3.out _).mono ?_
              rintro e w2 ⟨rfl, hb⟩
              replace HB := Lib.hid (HB.out.trans (hb.mono HB.out.size))
              clear hb
              cases b3
              · go_wp2_with fail
                go_ret
                exact ⟨by rw [HK.out, HE.out]; rfl, HB.out⟩
              · go_wp2_with fail
                go_ret
                exact ⟨by rw [HK.out, HE.out]; rfl, HB.out⟩
          · go_wp2_with fail
            go_ret
            exact ⟨by rw [HK.out, HE.out]; rfl, HB.out⟩
      · have HE' := Lib.hid (show q = b2 by rw [HE.out]; rfl)
        clear HE
        have HE := HE'
        clear HE'
        clear h0 h3
        go_enter Tryd.func7, Tryd.ntmps7
        go_wp2_with fail
        refine (HO.out _).mono ?_
        rintro e w2 ⟨rfl, hb⟩
        replace HB := Lib.hid (HB.out.trans (hb.mono HB.out.size))
        clear hb
        have hn := (HN.out.low HB.out).2 2 (by omega)
        have hz : w2.cell? ⟨0, 2, none⟩ = some (.int .i64 2) := hn
        clear hn
        cases op
        · go_wp2_with fail
          go_ret
          exact ⟨by rw [HK.out, HE.out]; rfl, HB.out⟩
        · go_wp2_with fail
          refine (H2.out _).mono ?_
          rintro e w2 ⟨rfl, hb⟩
          replace HB := Lib.hid (HB.out.trans (hb.mono HB.out.size))
          clear hb
          clear hz
          cases b2
          · cases mxr
            · go_wp2_with fail
              go_ret
              exact ⟨by rw [HK.out, HE.out]; rfl, HB.out⟩
            · go_wp2_with fail
              go_ret
              exact ⟨by rw [HK.out, HE.out]; rfl, HB.out⟩
          · go_wp2_with fail
            go_ret
            exact ⟨by rw [HK.out, HE.out]; rfl, HB.out⟩
theorem tb64 {i : Nat} (hi : i < 64) : tb 64 i = decide (i = 6) := (by decide +kernel : ∀ i : Fin 64, tb 64 i.val = decide (i.val = 6)) ⟨i, hi⟩
theorem tb128 {i : Nat} (hi : i < 64) : tb 128 i = decide (i = 7) := (by decide +kernel : ∀ i : Fin 64, tb 128 i.val = decide (i.val = 7)) ⟨i, hi⟩
theorem or_64 {p : Int} (hp : W64 p) : bits .or .u64 p 64 = putS p 6 1 1 := by
  have a := or_range hp.1 hp.2 (y := 64) (by omega) (by omega)
  have b := putS_range p 6 1 1
  apply Wd.ext a.1 a.2 b.1 b.2
  intro i hi
  rw [tb_or hp.1 hp.2 (by omega) (by omega), tb64 hi]
  show _ = tb (putS p ((6 : Nat) : Int) 1 1) i
  rw [tb_p1 _ _ _ hi, tb_1]
  by_cases h : i = 6
  · subst h; simp
  · simp [h]
theorem or_128 {p : Int} (hp : W64 p) : bits .or .u64 p 128 = putS p 7 1 1 := by
  have a := or_range hp.1 hp.2 (y := 128) (by omega) (by omega)
  have b := putS_range p 7 1 1
  apply Wd.ext a.1 a.2 b.1 b.2
  intro i hi
  rw [tb_or hp.1 hp.2 (by omega) (by omega), tb128 hi]
  show _ = tb (putS p ((7 : Nat) : Int) 1 1) i
  rw [tb_p1 _ _ _ hi, tb_1]
  by_cases h : i = 7
  · subst h; simp
  · simp [h]
set_option maxHeartbeats 2000000 in
theorem marked_c (p acc : Int) (hp : W64 p) (w : World) : Calls Tryd.prog 5 #[.int .u64 p, .int .i64 acc] w fun e w' => e = .returned (.tuple #[.int .u64 (markS p acc), .bool (markS p acc != p)]) ∧ w = w' := by
  have h6 := or_64 hp
  have r6 := putS_range p 6 1 1
  have h7 := or_128 r6
  by_cases c : acc = 2
  · have HK := Lib.hid (show markS p acc = putS (putS p 6 1 1) 7 1 1 from if_pos c)
    have hc : (acc == 2) = true := by simpa using c
    rw [HK.out]
    generalize putS (putS p 6 1 1) 7 1 1 = y at *
    generalize putS p 6 1 1 = x at *
    clear HK c r6 hp
    go_enter Tryd.func5, Tryd.ntmps5
    go_wp2_with fail
    go_ret2
    exact ⟨rfl, rfl⟩
  · have HK := Lib.hid (show markS p acc = putS p 6 1 1 from if_neg c)
    have hc : (acc == 2) = false := by simpa using c
    rw [HK.out]
    clear h7
    generalize putS p 6 1 1 = x at *
    clear HK c r6 hp
    go_enter Tryd.func5, Tryd.ntmps5
    go_wp2_with fail
    go_ret2
    exact ⟨rfl, rfl⟩
end Go.Proofs.YtmieabafiijfjaaDoor
