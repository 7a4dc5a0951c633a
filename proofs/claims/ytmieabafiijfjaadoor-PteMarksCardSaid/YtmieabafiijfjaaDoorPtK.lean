/-
  The program's layer 25: what an entry is, its frame's number, and the entry of a frame.
-/
import Derived.Test.YtmieabafiijfjaaDoorPtS
set_option maxRecDepth 4000
namespace Go.Proofs.YtmieabafiijfjaaDoor
open Go.ChangeShapes Go.WideShapes Go.ChangeAt Go.RowKit Wd Csr Sta

abbrev PlT : TypeId := 53
/-- At least one of these bits. -/
def anyB (p : Int) (ks : List Nat) : Bool := ks.any fun k => tb p k
theorem some_bit {p : Int} (hp : W64 p) {k : Nat} (hk : k < 64) : bits .and .u64 (p / 2 ^ k) 1 = bi (tb p k) := by
  have h := shr_cut hp hk (s := 1) (by omega)
  rw [show (2 : Int) ^ 1 - 1 = 1 from rfl] at h
  rw [h, show ((1 : Nat) : Int) = 1 from rfl, cut1 p hk]
theorem any_hit {p : Int} {ks : List Nat} {k : Nat} (hk : k < ks.length) (h : tb p (ks.getD k 0) = true) : anyB p ks = true := by
  unfold anyB
  rw [List.any_eq_true]
  refine ⟨ks.getD k 0, ?_, h⟩
  rw [List.getD_eq_getElem?_getD, List.getElem?_eq_getElem hk]
  exact List.getElem_mem hk
theorem any_none {p : Int} {ks : List Nat} (h : ∀ j, j < ks.length → tb p (ks.getD j 0) = false) : anyB p ks = false := by
  unfold anyB
  rw [List.any_eq_false]
  intro x hx
  obtain ⟨j, hj, rfl⟩ := List.getElem_of_mem hx
  have := h j hj
  rw [List.getD_eq_getElem?_getD, List.getElem?_eq_getElem hj] at this
  simpa using this
set_option maxHeartbeats 4000000 in
theorem some_c (p : Int) (hp : W64 p) (b : Nat) (ks : List Nat) (hks : ∀ j, j < ks.length → ks.getD j 0 < 64) (hn : ks.length < 100) (w : World) (h : ∀ j, j < ks.length → w.cell? ⟨b, j, none⟩ = some (.int .i64 ((ks.getD j 0 : Nat) : Int))) :
    Calls Tryd.prog 16 #[.int .u64 p, .slice (some ⟨b, 0, none⟩) ks.length ks.length] w fun e w' => e = .returned (.bool (anyB p ks)) ∧ w = w' := by
  have HC := Lib.hid h
  have HK := Lib.hid hks
  have HB := Lib.hid (fun (k : Nat) (hk : k < 64) => some_bit hp hk)
  have HH := Lib.hid (fun (k : Nat) (hk : k < ks.length) (h : tb p (ks.getD k 0) = true) => any_hit hk h)
  have HN := Lib.hid (any_none (p := p) (ks := ks))
  have hp1 := hp.1
  have hp2 := hp.2
  clear h hks hp
  generalize anyB p ks = r at *
  generalize hm : ks.length = m at *
  clear hm
  go_enter Tryd.func16, Tryd.ntmps16
  go_wp2_with fail
  go_loopw [9] (fun i wr => ∃ k : Nat, k ≤ m ∧ i = .int .i64 k ∧ (∀ j, j < k → tb p (ks.getD j 0) = false) ∧ w = wr) (fun i _ => m - (intOf i).toNat)
  case atStart => exact ⟨0, Nat.zero_le _, rfl, fun j hj => absurd hj (Nat.not_lt_zero _), rfl⟩
  case round =>
    obtain ⟨k, hk, rfl, hpre, rfl⟩ := hrel
    have HP := Lib.hid hpre
    clear hpre
    by_cases hkm : k < m
    · have hc := HC.out k hkm
      have hk64 := HK.out k hkm
      have hbit := HB.out _ hk64
      have HH2 := Lib.hid (HH.out _ hkm)
      have HS := Lib.hid (fun (hz : tb p (ks.getD k 0) = false) => show ∀ j, j < k + 1 → tb p (ks.getD j 0) = false from fun j hj => by
        by_cases e : j = k
        · rw [e]; exact hz
        · exact HP.out j (by omega))
      clear HC HK HB HH HN HP
      generalize tb p (ks.getD k 0) = t at *
      generalize ks.getD k 0 = x at *
      cases t
      · have hbit0 : bits .and .u64 (p / 2 ^ x) 1 = 0 := hbit
        clear hbit
        go_wp2_with fail
        go_roundw
        case rel => exact ⟨k + 1, by omega, by go_num, HS.out rfl, trivial⟩
        case measure => simp [intOf]; omega
      · have hbit0 : bits .and .u64 (p / 2 ^ x) 1 = 1 := hbit
        have hr := HH2.out rfl
        subst hr
        clear hbit HH2
        go_wp2_with fail
        go_ret
        exact ⟨rfl, rfl⟩
    · obtain rfl : k = m := by omega
      have HE := Lib.hid (HN.out HP.out)
      clear HC HK HB HH HN HP
      go_wp2_with fail
      go_ret
      exact ⟨by rw [HE.out]; rfl, rfl⟩
/-- A slice that was just built. -/
theorem some_new (p : Int) (hp : W64 p) (ks : List Nat) (hks : ks.all (· < 64) = true) (hn : ks.length < 100) (w : World) :
    Calls Tryd.prog 16 #[.int .u64 p, .slice (some ⟨w.heap.size, 0, none⟩) ks.length ks.length] (w.alloc (.cells (ks.map fun k => Value.int .i64 ((k : Nat) : Int)).toArray 3)) fun e w' => e = .returned (.bool (anyB p ks)) ∧ Below w.heap.size w w' := by
  have hc : ∀ j, j < ks.length → (w.alloc (.cells (ks.map fun k => Value.int .i64 ((k : Nat) : Int)).toArray 3)).cell? ⟨w.heap.size, j, none⟩ = some (.int .i64 ((ks.getD j 0 : Nat) : Int)) := by
    intro j hj
    rw [cell_of_row (w.alloc (.cells (ks.map fun k => Value.int .i64 ((k : Nat) : Int)).toArray 3)) w.heap.size j (ks.map fun k => Value.int .i64 ((k : Nat) : Int)).toArray 3 (0, 0) (by show (w.heap.push _)[w.heap.size]? = _; simp)]
    rw [List.getD_eq_getElem?_getD, List.getElem?_eq_getElem hj]
    simp [hj]
  have hb : Below w.heap.size w (w.alloc (.cells (ks.map fun k => Value.int .i64 ((k : Nat) : Int)).toArray 3)) := (Below.refl _ _).alloc (Nat.le_refl _) _
  refine (some_c p hp w.heap.size ks (fun j hj => ?_) hn _ hc).mono ?_
  · rw [List.getD_eq_getElem?_getD, List.getElem?_eq_getElem hj]
    rw [List.all_eq_true] at hks
    simpa using hks _ (List.getElem_mem hj)
  · rintro e w' ⟨rfl, rfl⟩
    exact ⟨rfl, hb⟩
theorem some1_c (p : Int) (hp : W64 p) (k : Nat) (hk : k < 64) (w : World) :
    Calls Tryd.prog 16 #[.int .u64 p, .slice (some ⟨w.heap.size, 0, none⟩) 1 1] (w.alloc (.cells #[.int .i64 ((k : Nat) : Int)] 3)) fun e w' => e = .returned (.bool (tb p k)) ∧ Below w.heap.size w w' := by
  have h := some_new p hp [k] (by simpa using hk) (by show 1 < 100; omega) w
  have e : anyB p [k] = tb p k := by simp [anyB]
  rw [e] at h
  exact h
theorem level_c (l : Int) (w : World) : Calls Tryd.prog 18 #[.int .i64 l] w fun e w' => e = .returned (.bool (decide (0 ≤ l ∧ l ≤ 2))) ∧ w = w' := by
  obtain ⟨r, hr⟩ : ∃ r, decide (0 ≤ l ∧ l ≤ 2) = r := ⟨_, rfl⟩
  rw [hr]
  by_cases h1 : l < 0
  · rw [decide_eq_false (by omega)] at hr
    subst hr
    go_enter Tryd.func18, Tryd.ntmps18
    go_wp2_with fail
    go_ret
    exact ⟨rfl, rfl⟩
  · by_cases h2 : 2 < l
    · rw [decide_eq_false (by omega)] at hr
      subst hr
      have hd : decide (l ≤ 2) = false := decide_eq_false (by omega)
      go_enter Tryd.func18, Tryd.ntmps18
      go_wp2_with fail
      go_ret
      exact ⟨by rw [← hd]; rfl, rfl⟩
    · rw [decide_eq_true (by omega)] at hr
      subst hr
      have hd : decide (l ≤ 2) = true := decide_eq_true (by omega)
      go_enter Tryd.func18, Tryd.ntmps18
      go_wp2_with fail
      go_ret
      exact ⟨by first | rfl | (rw [← hd]; rfl), rfl⟩
theorem ppn_c (p : Int) (hp : W64 p) (w : World) : Calls Tryd.prog 13 #[.int .u64 p] w fun e w' => e = .returned (.int .u64 (cutS p 10 44)) ∧ w = w' := by
  have HC := Lib.hid (fun W => cut_c p 10 44 W hp.1 hp.2 (by omega) (by omega))
  generalize cutS p 10 44 = x at *
  clear hp
  go_enter Tryd.func13, Tryd.ntmps13
  go_wp2_with fail
  refine (HC.out _).mono ?_
  rintro e w1 ⟨rfl, rfl⟩
  go_wp2_with fail
  go_ret
  exact ⟨rfl, rfl⟩
theorem aligned_c (p l : Int) (hp : W64 p) (hl : 0 ≤ l ∧ l ≤ 2) (w : World) : Calls Tryd.prog 23 #[.int .u64 p, .int .i64 l] w fun e w' => e = .returned (.bool (cutS (cutS p 10 44) 0 (9 * l) == 0)) ∧ w = w' := by
  have HP := Lib.hid (fun W => ppn_c p hp W)
  have hr := cutS_range p 10 44
  have HC := Lib.hid (fun W => low_c (cutS p 10 44) (9 * l) W hr.1 hr.2)
  have h1 := hl.1
  have h2 := hl.2
  generalize cutS p 10 44 = x at *
  generalize cutS x 0 (9 * l) = y at *
  clear hp hr hl
  go_enter Tryd.func23, Tryd.ntmps23
  go_wp2_with fail
  refine (HP.out _).mono ?_
  rintro e w1 ⟨rfl, rfl⟩
  go_wp2_with fail
  refine (HC.out _).mono ?_
  rintro e w1 ⟨rfl, rfl⟩
  go_wp2_with fail
  go_ret
  exact ⟨rfl, rfl⟩
theorem make_c (n f : Int) (hn : W64 n) (hf : W64 f) (w : World) : Calls Tryd.prog 21 #[.int .u64 n, .int .u64 f] w fun e w' => e = .returned (.int .u64 (putS (cutS f 0 10) 10 44 n)) ∧ w = w' := by
  have HL := Lib.hid (fun W => low_c f 10 W hf.1 hf.2)
  have hr := cutS_range f 0 10
  have HP := Lib.hid (fun W => put_c (cutS f 0 10) 10 44 n W hr.1 hr.2 (by omega) (by omega) (by omega) (by omega) hn.1 hn.2)
  generalize cutS f 0 10 = x at *
  generalize putS x 10 44 n = y at *
  clear hn hf hr
  go_enter Tryd.func21, Tryd.ntmps21
  go_wp2_with fail
  refine (HL.out _).mono ?_
  rintro e w1 ⟨rfl, rfl⟩
  go_wp2_with fail
  refine (HP.out _).mono ?_
  rintro e w1 ⟨rfl, rfl⟩
  go_wp2_with fail
  go_ret
  exact ⟨rfl, rfl⟩
theorem make_sum (n f : Int) : putS (cutS f 0 10) 10 44 n = cutS n 0 44 * 1024 + cutS f 0 10 := by
  have a := cutS_range n 0 44
  have b := cutS_range f 0 10
  have a2 : cutS n 0 44 < 2 ^ 44 := ecut_lt 44 (by omega)
  have b2 : cutS f 0 10 < 2 ^ 10 := ecut_lt 10 (by omega)
  have a3 : cutS n 0 44 < 17592186044416 := a2
  have b3 : cutS f 0 10 < 1024 := b2
  have p := putS_range (cutS f 0 10) 10 44 n
  apply Wd.ext p.1 p.2 (by omega) (by omega)
  intro i hi
  rw [cput _ _ _ _ hi]
  have hs : tb (cutS n 0 44 * 1024 + cutS f 0 10) i = if i < 10 then tb (cutS f 0 10) i else tb (cutS n 0 44) (i - 10) := by
    generalize hx : cutS n 0 44 = x at *
    generalize hy : cutS f 0 10 = y at *
    obtain ⟨X, rfl⟩ := Int.eq_ofNat_of_zero_le a.1
    obtain ⟨Y, rfl⟩ := Int.eq_ofNat_of_zero_le b.1
    unfold tb
    rw [show ((X : Int) * 1024 + (Y : Int)).toNat = 2 ^ 10 * X + Y by omega, show ((X : Nat) : Int).toNat = X by omega, show ((Y : Nat) : Int).toNat = Y by omega]
    rw [Nat.testBit_two_pow_mul_add X (by omega) i]
  rw [hs]
  unfold inP
  by_cases c1 : i < 10
  · rw [if_pos c1, if_neg (by simp; omega)]
  · rw [if_neg c1, ccut n _ _ (by omega)]
    by_cases c2 : i < 54
    · rw [if_pos (by simp; omega), decide_eq_true (by omega), show ((0 : Int) + ((i - 10 : Nat) : Int)).toNat = ((i : Int) - 10).toNat by omega]; rfl
    · rw [if_neg (by simp; omega), ccut f _ _ (by omega), decide_eq_false (by omega), decide_eq_false (by omega)]; rfl
/-! ### what an entry is -/
def brokenS (p l : Int) : Bool := decide (l < 0) || decide (l > 2) || !tb p 0 || (tb p 2 && !tb p 1) || (cutS p 54 10 != 0)
theorem broken_lev (p l : Int) : brokenS p l = (!decide (0 ≤ l ∧ l ≤ 2) || !tb p 0 || (tb p 2 && !tb p 1) || (cutS p 54 10 != 0)) := by
  have e : (decide (l < 0) || decide (l > 2)) = !decide (0 ≤ l ∧ l ≤ 2) := by
    by_cases h : 0 ≤ l ∧ l ≤ 2
    · rw [decide_eq_true h, decide_eq_false (by omega), decide_eq_false (by omega)]; rfl
    · rw [decide_eq_false h]
      by_cases h1 : l < 0
      · rw [decide_eq_true h1]; rfl
      · rw [decide_eq_true (show l > 2 by omega)]; simp
  unfold brokenS
  rw [e]
theorem broken_no {p l : Int} (h : brokenS p l = false) : (0 ≤ l ∧ l ≤ 2) ∧ (tb p 2 = true → tb p 1 = true) := by
  rw [broken_lev] at h
  simp only [Bool.or_eq_false_iff, Bool.not_eq_false', decide_eq_true_eq] at h
  refine ⟨h.1.1.1, fun h2 => ?_⟩
  have := h.1.2
  rw [h2] at this
  simpa using this
theorem kind_plain (p l : Int) : kindS p l = if brokenS p l then 0 else if (anyB p [1, 3] && (cutS (cutS p 10 44) 0 (9 * l) == 0)) then 2 else if (decide (l > 0) && !anyB p [1, 2, 3, 4, 6, 7]) then 1 else 0 := by
  have e2 : anyB p [1, 3] = (tb p 1 || tb p 3) := by simp [anyB]
  have e6 : anyB p [1, 2, 3, 4, 6, 7] = (tb p 1 || tb p 2 || tb p 3 || tb p 4 || tb p 6 || tb p 7) := by simp [anyB, Bool.or_assoc]
  rw [e2, e6]
  have hk : kindS p l = if brokenS p l then 0 else if tb p 1 || tb p 3 then (if (cutS (cutS p 10 44) 0 (9 * l) != 0) then 0 else 2) else if decide (l > 0) && !tb p 4 && !tb p 6 && !tb p 7 then 1 else 0 := rfl
  rw [hk]
  cases hb : brokenS p l
  · have h2 := (broken_no hb).2
    generalize tb p 1 = b1 at *
    generalize tb p 2 = b2 at *
    generalize tb p 3 = b3 at *
    generalize tb p 4 = b4 at *
    generalize tb p 6 = b6 at *
    generalize tb p 7 = b7 at *
    generalize decide (l > 0) = g at *
    have hn : (cutS (cutS p 10 44) 0 (9 * l) != 0) = !(cutS (cutS p 10 44) 0 (9 * l) == 0) := rfl
    rw [hn]
    generalize (cutS (cutS p 10 44) 0 (9 * l) == 0) = al at *
    cases b1
    · cases b2
      · cases b3 <;> cases b4 <;> cases b6 <;> cases b7 <;> cases g <;> cases al <;> rfl
      · exact absurd (h2 rfl) (by decide)
    · cases al <;> simp
  · rfl
set_option maxHeartbeats 8000000 in
theorem broken_c (p l : Int) (hp : W64 p) (w : World) : Calls Tryd.prog 22 #[.int .u64 p, .int .i64 l] w fun e w' => e = .returned (.bool (brokenS p l)) ∧ Below w.heap.size w w' := by
  have HK := Lib.hid (broken_lev p l)
  have HV := Lib.hid (fun W => level_c l W)
  have H0 := Lib.hid (fun W => some1_c p hp 0 (by omega) W)
  have H1 := Lib.hid (fun W => some1_c p hp 1 (by omega) W)
  have H2 := Lib.hid (fun W => some1_c p hp 2 (by omega) W)
  have HC := Lib.hid (fun W => cut_c p 54 10 W hp.1 hp.2 (by omega) (by omega))
  have HB := Lib.hid (Below.refl w.heap.size w)
  generalize brokenS p l = r at *
  generalize decide (0 ≤ l ∧ l ≤ 2) = lv at *
  generalize tb p 0 = b0 at *
  generalize tb p 1 = b1 at *
  generalize tb p 2 = b2 at *
  generalize cutS p 54 10 = x at *
  generalize hx : (x != 0) = cx at *
  clear hp
  go_enter Tryd.func22, Tryd.ntmps22
  go_wp2_with fail
  refine (HV.out _).mono ?_
  rintro e w1 ⟨rfl, rfl⟩
  cases lv
  · go_wp2_with fail
    go_ret
    exact ⟨by rw [HK.out]; rfl, HB.out⟩
  · go_wp2_with fail
    refine (H0.out _).mono ?_
    rintro e w2 ⟨rfl, hb⟩
    replace HB := Lib.hid (HB.out.trans (hb.mono HB.out.size))
    clear hb
    cases b0
    · go_wp2_with fail
      go_ret
      exact ⟨by rw [HK.out]; rfl, HB.out⟩
    · go_wp2_with fail
      refine (H2.out _).mono ?_
      rintro e w2 ⟨rfl, hb⟩
      replace HB := Lib.hid (HB.out.trans (hb.mono HB.out.size))
      clear hb
      cases b2
      · go_wp2_with fail
        refine (HC.out _).mono ?_
        rintro e w2 ⟨rfl, rfl⟩
        cases cx
        · go_wp2_with fail
          go_ret
          exact ⟨by rw [HK.out]; rfl, HB.out⟩
        · go_wp2_with fail
          go_ret
          exact ⟨by rw [HK.out]; rfl, HB.out⟩
      · go_wp2_with fail
        refine (H1.out _).mono ?_
        rintro e w2 ⟨rfl, hb⟩
        replace HB := Lib.hid (HB.out.trans (hb.mono HB.out.size))
        clear hb
        cases b1
        · go_wp2_with fail
          go_ret
          exact ⟨by rw [HK.out]; rfl, HB.out⟩
        · go_wp2_with fail
          refine (HC.out _).mono ?_
          rintro e w2 ⟨rfl, rfl⟩
          cases cx
          · go_wp2_with fail
            go_ret
            exact ⟨by rw [HK.out]; rfl, HB.out⟩
          · go_wp2_with fail
            go_ret
            exact ⟨by rw [HK.out]; rfl, HB.out⟩
set_option maxHeartbeats 8000000 in
theorem kind_c (p l : Int) (hp : W64 p) (w : World) : Calls Tryd.prog 12 #[.int .u64 p, .int .i64 l] w fun e w' => e = .returned (.int .i64 (kindS p l)) ∧ Below w.heap.size w w' := by
  have HK := Lib.hid (kind_plain p l)
  have HR := Lib.hid (fun W => broken_c p l hp W)
  have HL := Lib.hid (fun (h : brokenS p l = false) W => aligned_c p l hp (broken_no h).1 W)
  have HO := Lib.hid (fun W => some_new p hp [1, 3] (by decide) (by decide) W)
  have HX := Lib.hid (fun W => some_new p hp [1, 2, 3, 4, 6, 7] (by decide) (by decide) W)
  have HB := Lib.hid (Below.refl w.heap.size w)
  generalize kindS p l = r at *
  generalize anyB p [1, 3] = a2 at *
  generalize anyB p [1, 2, 3, 4, 6, 7] = a6 at *
  generalize (cutS (cutS p 10 44) 0 (9 * l) == 0) = al at *
  generalize hg : decide (l > 0) = g at *
  generalize brokenS p l = br at *
  clear hp
  go_enter Tryd.func12, Tryd.ntmps12
  go_wp2_with fail
  refine (HR.out _).mono ?_
  rintro e w1 ⟨rfl, hb⟩
  replace HB := Lib.hid (HB.out.trans (hb.mono HB.out.size))
  clear hb
  cases br
  · go_wp2_with fail
    refine (HO.out _).mono ?_
    rintro e w2 ⟨rfl, hb⟩
    replace HB := Lib.hid (HB.out.trans (hb.mono HB.out.size))
    clear hb
    cases a2
    · cases g
      · go_wp2_with fail
        go_ret
        exact ⟨by rw [HK.out]; rfl, HB.out⟩
      · go_wp2_with fail
        refine (HX.out _).mono ?_
        rintro e w2 ⟨rfl, hb⟩
        replace HB := Lib.hid (HB.out.trans (hb.mono HB.out.size))
        clear hb
        cases a6
        · go_wp2_with fail
          go_ret
          exact ⟨by rw [HK.out]; rfl, HB.out⟩
        · go_wp2_with fail
          go_ret
          exact ⟨by rw [HK.out]; rfl, HB.out⟩
    · go_wp2_with fail
      refine (HL.out (by trivial) _).mono ?_
      rintro e w2 ⟨rfl, rfl⟩
      cases al
      · cases g
        · go_wp2_with fail
          go_ret
          exact ⟨by rw [HK.out]; rfl, HB.out⟩
        · go_wp2_with fail
          refine (HX.out _).mono ?_
          rintro e w2 ⟨rfl, hb⟩
          replace HB := Lib.hid (HB.out.trans (hb.mono HB.out.size))
          clear hb
          cases a6
          · go_wp2_with fail
            go_ret
            exact ⟨by rw [HK.out]; rfl, HB.out⟩
          · go_wp2_with fail
            go_ret
            exact ⟨by rw [HK.out]; rfl, HB.out⟩
      · go_wp2_with fail
        go_ret
        exact ⟨by rw [HK.out]; rfl, HB.out⟩
  · go_wp2_with fail
    go_ret
    exact ⟨by rw [HK.out]; rfl, HB.out⟩
theorem frame_c (p l v : Int) (hp : W64 p) (hv : W64 v) (w : World) : Calls Tryd.prog 9 #[.int .u64 p, .int .i64 l, .int .u64 v] w fun e w' => e = .returned (.int .u64 (frameS p l v)) ∧ w = w' := by
  have HV := Lib.hid (fun W => level_c l W)
  by_cases h : 0 ≤ l ∧ l ≤ 2
  · rw [decide_eq_true h] at HV
    have HK := Lib.hid (show frameS p l v = putS (cutS p 10 44 * 4096) 0 (12 + 9 * l) v from if_pos h)
    have HP := Lib.hid (fun W => ppn_c p hp W)
    have a := cutS_range p 10 44
    have a2 : cutS p 10 44 < 2 ^ 44 := ecut_lt 44 (by omega)
    have a3 : cutS p 10 44 < 17592186044416 := a2
    have HU := Lib.hid (fun W => put_c (cutS p 10 44 * 4096) 0 (12 + 9 * l) v W (by omega) (by omega) (by omega) (by omega) (by omega) (by omega) hv.1 hv.2)
    have a1 := a.1
    generalize frameS p l v = r at *
    generalize cutS p 10 44 = x at *
    rw [← HK.out] at HU
    have h1 := h.1
    have h2 := h.2
    clear HK a a2 h hp hv
    go_enter Tryd.func9, Tryd.ntmps9
    go_wp2_with fail
    refine (HV.out _).mono ?_
    rintro e w1 ⟨rfl, rfl⟩
    go_wp2_with fail
    refine (HP.out _).mono ?_
    rintro e w1 ⟨rfl, rfl⟩
    go_wp2_with fail
    refine (HU.out _).mono ?_
    rintro e w1 ⟨rfl, rfl⟩
    go_wp2_with fail
    go_ret
    exact ⟨rfl, rfl⟩
  · rw [decide_eq_false h] at HV
    have HK := Lib.hid (show frameS p l v = 0 from if_neg h)
    clear h hp hv
    go_enter Tryd.func9, Tryd.ntmps9
    go_wp2_with fail
    refine (HV.out _).mono ?_
    rintro e w1 ⟨rfl, rfl⟩
    go_wp2_with fail
    go_ret
    exact ⟨by rw [HK.out]; rfl, rfl⟩
set_option maxHeartbeats 2000000 in
theorem live25_c (w : World) : Calls Tryd.prog 11 #[] w fun e w' => e = .returned (.bool true) ∧ Below w.heap.size w w' := by
  have w1 : W64 1 := by constructor <;> omega
  have w7 : W64 7 := by constructor <;> omega
  have w5 : W64 512 := by constructor <;> omega
  have wv : W64 4660 := by constructor <;> omega
  have e1 : kindS 1 1 = 1 := by decide +kernel
  have e2 : kindS 1 0 = 0 := by decide +kernel
  have e3 : kindS 7 2 = 2 := by decide +kernel
  have e4 : putS (cutS 7 0 10) 10 44 512 = 524295 := by decide +kernel
  have wm : W64 524295 := by constructor <;> omega
  have e5 : frameS 524295 1 4660 = 2101812 := by decide +kernel
  have H1 := Lib.hid (fun W => kind_c 1 1 w1 W)
  have H2 := Lib.hid (fun W => kind_c 1 0 w1 W)
  have H3 := Lib.hid (fun W => kind_c 7 2 w7 W)
  have H4 := Lib.hid (fun W => make_c 512 7 w5 w7 W)
  rw [e1] at H1
  rw [e2] at H2
  rw [e3] at H3
  rw [e4] at H4
  have H5 := Lib.hid (fun W => frame_c 524295 1 4660 wm wv W)
  rw [e5] at H5
  have HB := Lib.hid (Below.refl w.heap.size w)
  clear e1 e2 e3 e4 e5 w1 w7 w5 wv wm
  go_enter Tryd.func11, Tryd.ntmps11
  go_wp2_with fail
  refine (H1.out _).mono ?_
  rintro e w2 ⟨rfl, hb⟩
  replace HB := Lib.hid (HB.out.trans (hb.mono HB.out.size))
  clear hb
  go_wp2_with fail
  refine (H2.out _).mono ?_
  rintro e w2 ⟨rfl, hb⟩
  replace HB := Lib.hid (HB.out.trans (hb.mono HB.out.size))
  clear hb
  go_wp2_with fail
  refine (H3.out _).mono ?_
  rintro e w2 ⟨rfl, hb⟩
  replace HB := Lib.hid (HB.out.trans (hb.mono HB.out.size))
  clear hb
  go_wp2_with fail
  refine (H4.out _).mono ?_
  rintro e w2 ⟨rfl, rfl⟩
  go_wp2_with fail
  refine (H5.out _).mono ?_
  rintro e w2 ⟨rfl, rfl⟩
  go_wp2_with fail
  go_ret
  exact ⟨rfl, HB.out⟩
end Go.Proofs.YtmieabafiijfjaaDoor
