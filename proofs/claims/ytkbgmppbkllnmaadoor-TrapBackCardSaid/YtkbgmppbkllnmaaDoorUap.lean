/-
  The code of layer 23: the registers of a trap, and where one leads. Plain numbers, no program: what a trap and its return leave in a file, and what stays so whatever is done. The reference of layer 22: Writes, Do, Turn.
-/
import Derived.Test.YtkbgmppbkllnmaaDoorUao
import Derived.Test.YtkbgmppbkllnmaaDoorUad
import Derived.Test.YtkbgmppbkllnmaaDoorUan
set_option maxRecDepth 20000
namespace Go.Proofs.YtkbgmppbkllnmaaDoor
open Go.ChangeShapes Go.WideShapes Go.ChangeAt Go.RowKit Wd Cau

/-- The numbers of the registers of the traps that a privilege takes. -/
def tvI (a : Int) : Int := if a = 3 then 773 else if a = 1 then 261 else 0
def epI (a : Int) : Int := if a = 3 then 833 else if a = 1 then 321 else 0
def caI (a : Int) : Int := if a = 3 then 834 else if a = 1 then 322 else 0
def vaI (a : Int) : Int := if a = 3 then 835 else if a = 1 then 323 else 0
abbrev GrT : TypeId := 67
def grpV (a : Int) : Array Value := #[.int .i64 (tvI a), .int .i64 (epI a), .int .i64 (caI a), .int .i64 (vaI a)]
abbrev zGr : Array Value := #[.int .i64 0, .int .i64 0, .int .i64 0, .int .i64 0]
theorem grp_3 : grpV 3 = #[.int .i64 773, .int .i64 833, .int .i64 834, .int .i64 835] := rfl
theorem grp_1 : grpV 1 = #[.int .i64 261, .int .i64 321, .int .i64 322, .int .i64 323] := rfl
theorem grp_0 {a : Int} (h3 : a ≠ 3) (h1 : a ≠ 1) : grpV a = zGr := by
  unfold grpV tvI epI caI vaI
  simp [h3, h1]
set_option maxHeartbeats 2000000 in
theorem grp_c (a : Int) (w : World) : Calls Tryd.prog 26 #[.int .i64 a] w fun e w' => e = .returned (.tuple #[.agg (grpV a), .bool (a == 3 || a == 1)]) ∧ Below w.heap.size w w' := by
  have hB0 : Below w.heap.size w (w.alloc (.cells zGr GrT)) := (Below.refl _ _).alloc (Nat.le_refl _) _
  have h0 := CsAt.new w GrT zGr
  have z0 := h0.cell 0
  have z1 := h0.cell 1
  have z2 := h0.cell 2
  have z3 := h0.cell 3
  have y0 := h0.frozen 0
  have y1 := h0.frozen 1
  have y2 := h0.frozen 2
  have y3 := h0.frozen 3
  have HB := Lib.hid hB0
  clear h0 hB0
  simp only [List.getElem?_toArray, List.getElem?_cons_zero, List.getElem?_cons_succ] at z0 z1 z2 z3
  by_cases h3 : a = 3
  · subst h3
    rw [grp_3]
    go_enter Tryd.func26, Tryd.ntmps26
    go_upto_region 1 with (fail)
    generalize (w.alloc (.cells zGr GrT)) = w1 at *
    go_wp2_with fail
    refine bodyPost_ret (v := .tuple #[.agg #[.int .i64 773, .int .i64 833, .int .i64 834, .int .i64 835], .bool true]) (by simp [results, Tryd.results26, go_sem, z0, z1, z2, z3]) rfl ⟨rfl, ?_⟩
    exact (((HB.out.setCell (by exact Nat.le_refl _) _).setCell (by exact Nat.le_refl _) _).setCell (by exact Nat.le_refl _) _).setCell (by exact Nat.le_refl _) _
  · have e3 : (a == 3) = false := by simpa using h3
    by_cases h1 : a = 1
    · subst h1
      rw [grp_1]
      go_enter Tryd.func26, Tryd.ntmps26
      go_upto_region 1 with (fail)
      generalize (w.alloc (.cells zGr GrT)) = w1 at *
      go_wp2_with fail
      refine bodyPost_ret (v := .tuple #[.agg #[.int .i64 261, .int .i64 321, .int .i64 322, .int .i64 323], .bool true]) (by simp [results, Tryd.results26, go_sem, z0, z1, z2, z3]) rfl ⟨rfl, ?_⟩
      exact (((HB.out.setCell (by exact Nat.le_refl _) _).setCell (by exact Nat.le_refl _) _).setCell (by exact Nat.le_refl _) _).setCell (by exact Nat.le_refl _) _
    · have e1 : (a == 1) = false := by simpa using h1
      rw [grp_0 h3 h1, e3, e1]
      clear h3 h1
      go_enter Tryd.func26, Tryd.ntmps26
      go_upto_region 1 with (fail)
      generalize (w.alloc (.cells zGr GrT)) = w1 at *
      go_wp2_with fail
      refine bodyPost_ret (v := .tuple #[.agg zGr, .bool false]) (by simp [results, Tryd.results26, go_sem, z0, z1, z2, z3]) rfl ⟨rfl, ?_⟩
      exact (((HB.out.setCell (by exact Nat.le_refl _) _).setCell (by exact Nat.le_refl _) _).setCell (by exact Nat.le_refl _) _).setCell (by exact Nat.le_refl _) _
/-- Where a trap leads. -/
def vecS (t : Int) (b : Bool) (n : Int) : Int := if (bits .and .u64 t 1 == 0) || !b then bits .andNot .u64 t 3 else IntKind.u64.wrap (bits .andNot .u64 t 3 + IntKind.u64.wrap (4 * wordK false n))
set_option maxHeartbeats 2000000 in
theorem vec_c (t : Int) (b : Bool) (n : Int) (w : World) : Calls Tryd.prog 14 #[.int .u64 t, .agg #[.bool b, .int .i64 n]] w fun e w' => e = .returned (.int .u64 (vecS t b n)) ∧ Below w.heap.size w w' := by
  have hB : Below w.heap.size w (w.alloc (.cells #[.bool b, .int .i64 n] CaT)) := (Below.refl _ _).alloc (Nat.le_refl _) _
  have h0 := CsAt.new w CaT #[.bool b, .int .i64 n]
  have z0 := h0.cell 0
  have z1 := h0.cell 1
  have HB := Lib.hid hB
  clear h0 hB
  simp only [List.getElem?_toArray, List.getElem?_cons_zero, List.getElem?_cons_succ] at z0 z1
  have HV := Lib.hid (show vecS t b n = if (bits .and .u64 t 1 == 0) || !b then bits .andNot .u64 t 3 else IntKind.u64.wrap (bits .andNot .u64 t 3 + IntKind.u64.wrap (4 * wordK false n)) from rfl)
  have HW := Lib.hid (fun W => kword_c false n W)
  generalize vecS t b n = r at *
  generalize wordK false n = k at *
  cases h1 : (bits .and .u64 t 1 == 0)
  all_goals rw [h1] at HV
  · cases b
    all_goals
      simp only [Bool.or_false, Bool.or_true, Bool.not_false, Bool.not_true, Bool.false_eq_true, if_true, if_false] at HV
      go_enter Tryd.func14, Tryd.ntmps14
      go_upto_region 1 with (fail)
    · generalize (w.alloc (.cells #[.bool false, .int .i64 n] CaT)) = w1 at *
      go_wp2_with fail
      go_ret
      exact ⟨by rw [HV.out]; rfl, HB.out⟩
    · generalize (w.alloc (.cells #[.bool true, .int .i64 n] CaT)) = w1 at *
      go_wp2_with fail
      refine (HW.out _).mono ?_
      rintro e w2 ⟨rfl, hb⟩
      have HB2 := Lib.hid (HB.out.trans (hb.mono HB.out.size))
      clear hb
      go_wp2_with fail
      go_ret
      exact ⟨by rw [HV.out]; rfl, HB2.out⟩
  · simp only [Bool.true_or, if_true] at HV
    go_enter Tryd.func14, Tryd.ntmps14
    go_upto_region 1 with (fail)
    generalize (w.alloc (.cells #[.bool b, .int .i64 n] CaT)) = w1 at *
    go_wp2_with fail
    go_ret
    exact ⟨by rw [HV.out]; rfl, HB.out⟩
end Go.Proofs.YtkbgmppbkllnmaaDoor
set_option maxRecDepth 20000
namespace Go.Proofs.YtkbgmppbkllnmaaDoor
open Go.RowKit Wd Csr Sta Cf Cau

theorem enterV_rng {x p d : Int} (hx : W64 x) : W64 (enterV x p d) := by
  unfold enterV enterM enterU
  repeat' split
  all_goals first | exact hx | exact putS_range _ _ _ _
theorem leaveV_rng {x d : Int} (hx : W64 x) : W64 (leaveV x d) := by
  unfold leaveV leaveM leaveU backM
  repeat' split
  all_goals first | exact hx | exact putS_range _ _ _ _
def mstB (i : Nat) : Bool := i == 1 || i == 3 || i == 5 || i == 7 || i == 8 || i == 11 || i == 12 || i == 17 || i == 18 || i == 19 || i == 20 || i == 21 || i == 22
theorem tbMst {i : Nat} (hi : i < 64) : tb (maskC 768) i = mstB i := (by decide +kernel : ∀ i : Fin 64, tb (maskC 768) i.val = mstB i.val) ⟨i, hi⟩
theorem mst_ne {i : Nat} (hi : i < 64) (h : tb (maskC 768) i = false) : i ≠ 1 ∧ i ≠ 3 ∧ i ≠ 5 ∧ i ≠ 7 ∧ i ≠ 8 ∧ i ≠ 11 ∧ i ≠ 12 ∧ i ≠ 17 := by
  rw [tbMst hi] at h
  unfold mstB at h
  refine ⟨?_, ?_, ?_, ?_, ?_, ?_, ?_, ?_⟩ <;> intro e <;> subst e <;> cases h
theorem cut2_0 (x : Int) : tb (cutS x 11 2) 0 = tb x 11 := by rw [ccut _ _ _ (by omega)]; rfl
theorem cut2_1 (x : Int) : tb (cutS x 11 2) 1 = tb x 12 := by rw [ccut _ _ _ (by omega)]; rfl
theorem leg_mst {x y : Int} (hy : W64 y) (hk : ∀ i, i < 64 → tb (maskC 768) i = false → tb y i = tb x i) (hm : (tb y 12 = false ∨ tb y 11 = true) ∨ (tb y 11 = tb x 11 ∧ tb y 12 = tb x 12)) : legS 768 x y = y := by
  have hn := next_of_kept (n := 768) hy hk
  unfold legS
  rw [hn]
  by_cases h : cutS y 11 2 = 2
  · rw [if_pos ⟨rfl, h⟩]
    have t1 := cut2_0 y
    have t2 := cut2_1 y
    rw [h] at t1 t2
    have t1' : false = tb y 11 := t1
    have t2' : true = tb y 12 := t2
    rcases hm with (h1 | h1) | ⟨h1, h2⟩
    · rw [h1] at t2'; cases t2'
    · rw [h1] at t1'; cases t1'
    · have a := putS_range y 11 2 (cutS x 11 2)
      apply ext a.1 a.2 hy.1 hy.2
      intro i hi
      rw [tb_p2 _ _ hi, cut2_0, cut2_1]
      by_cases e1 : i = 11
      · subst e1; rw [if_pos rfl, h1]
      · rw [if_neg e1]
        by_cases e2 : i = 12
        · subst e2; rw [if_pos rfl, h2]
        · rw [if_neg e2]
  · rw [if_neg (fun h' => h h'.2), if_neg (fun h' => absurd h'.1 (by decide))]
theorem tb_enterM (x p : Int) {i : Nat} (hi : i < 64) : tb (enterM x p) i = if i = 11 then tb p 0 else if i = 12 then tb p 1 else if i = 3 then false else if i = 7 then tb x 3 else tb x i := by
  show tb (putS (putS (putS x ((7 : Nat) : Int) 1 (cutS x ((3 : Nat) : Int) 1)) ((3 : Nat) : Int) 1 0) 11 2 p) i = _
  rw [tb_p2 _ _ hi, tb_p1 _ _ _ hi, tb_p1 _ _ _ hi, tb_cut10 _ (by omega), tb_0]
theorem tb_enterU (x n : Int) {i : Nat} (hi : i < 64) : tb (enterU x n) i = if i = 8 then tb n 0 else if i = 1 then false else if i = 5 then tb x 1 else tb x i := by
  show tb (putS (putS (putS x ((5 : Nat) : Int) 1 (cutS x ((1 : Nat) : Int) 1)) ((1 : Nat) : Int) 1 0) ((8 : Nat) : Int) 1 n) i = _
  rw [tb_p1 _ _ _ hi, tb_p1 _ _ _ hi, tb_p1 _ _ _ hi, tb_cut10 _ (by omega), tb_0]
theorem tb_backM (x : Int) {i : Nat} (hi : i < 64) : tb (backM x) i = if i = 11 then false else if i = 12 then false else if i = 7 then true else if i = 3 then tb x 7 else tb x i := by
  show tb (putS (putS (putS x ((3 : Nat) : Int) 1 (cutS x ((7 : Nat) : Int) 1)) ((7 : Nat) : Int) 1 1) 11 2 0) i = _
  rw [tb_p2 _ _ hi, tb_p1 _ _ _ hi, tb_p1 _ _ _ hi, tb_cut10 _ (by omega)]
  rfl
theorem tb_leaveM (x : Int) {i : Nat} (hi : i < 64) (h17 : i ≠ 17) : tb (leaveM x) i = tb (backM x) i := by
  unfold leaveM
  split
  · rfl
  · show tb (putS (backM x) ((17 : Nat) : Int) 1 0) i = _
    rw [tb_p1 _ _ _ hi, if_neg h17]
theorem tb_leaveU (x : Int) {i : Nat} (hi : i < 64) (h17 : i ≠ 17) : tb (leaveU x) i = if i = 8 then false else if i = 5 then true else if i = 1 then tb x 5 else tb x i := by
  show tb (putS (putS (putS (putS x ((1 : Nat) : Int) 1 (cutS x ((5 : Nat) : Int) 1)) ((5 : Nat) : Int) 1 1) ((8 : Nat) : Int) 1 0) ((17 : Nat) : Int) 1 0) i = _
  rw [tb_p1 _ _ _ hi, if_neg h17, tb_p1 _ _ _ hi, tb_p1 _ _ _ hi, tb_p1 _ _ _ hi, tb_cut10 _ (by omega)]
  rfl
theorem prv3 {p : Int} (h : isPriv p = true) : p = 0 ∨ p = 1 ∨ p = 3 := by
  unfold isPriv at h
  simp at h
  omega
/-- What a trap lays may be written. -/
theorem leg_enter {x : Int} (hx : W64 x) (p a : Int) : legS 768 x (enterV x p a) = enterV x p a := by
  have hy := enterV_rng (p := p) (d := a) hx
  unfold enterV at hy ⊢
  cases hp : isPriv p
  · simp only [Bool.false_eq_true, if_false]; exact leg_self hx
  · rw [hp] at hy
    simp only [if_true] at hy ⊢
    by_cases h3 : a = 3
    · rw [if_pos h3] at hy ⊢
      refine leg_mst hy (fun i hi h => ?_) (.inl ?_)
      · obtain ⟨n1, n3, n5, n7, n8, n11, n12, n17⟩ := mst_ne hi h
        rw [tb_enterM _ _ hi, if_neg n11, if_neg n12, if_neg n3, if_neg n7]
      · rw [tb_enterM _ _ (by omega), tb_enterM _ _ (by omega), if_neg (by omega), if_pos rfl, if_pos rfl]
        rcases prv3 hp with rfl | rfl | rfl
        · exact .inl rfl
        · exact .inl rfl
        · exact .inr rfl
    · rw [if_neg h3] at hy ⊢
      by_cases h1 : a = 1
      · rw [if_pos h1] at hy ⊢
        refine leg_mst hy (fun i hi h => ?_) (.inr ⟨?_, ?_⟩)
        · obtain ⟨n1, n3, n5, n7, n8, n11, n12, n17⟩ := mst_ne hi h
          rw [tb_enterU _ _ hi, if_neg n8, if_neg n1, if_neg n5]
        · rw [tb_enterU _ _ (by omega), if_neg (by omega), if_neg (by omega), if_neg (by omega)]
        · rw [tb_enterU _ _ (by omega), if_neg (by omega), if_neg (by omega), if_neg (by omega)]
      · rw [if_neg h1]; exact leg_self hx
theorem leg_leave {x : Int} (hx : W64 x) (a : Int) : legS 768 x (leaveV x a) = leaveV x a := by
  have hy := leaveV_rng (d := a) hx
  unfold leaveV at hy ⊢
  by_cases h3 : a = 3
  · rw [if_pos h3] at hy ⊢
    refine leg_mst hy (fun i hi h => ?_) (.inl (.inl ?_))
    · obtain ⟨n1, n3, n5, n7, n8, n11, n12, n17⟩ := mst_ne hi h
      rw [tb_leaveM _ hi n17, tb_backM _ hi, if_neg n11, if_neg n12, if_neg n7, if_neg n3]
    · rw [tb_leaveM _ (by omega) (by omega), tb_backM _ (by omega), if_neg (by omega), if_pos rfl]
  · rw [if_neg h3] at hy ⊢
    by_cases h1 : a = 1
    · rw [if_pos h1] at hy ⊢
      refine leg_mst hy (fun i hi h => ?_) (.inr ⟨?_, ?_⟩)
      · obtain ⟨n1, n3, n5, n7, n8, n11, n12, n17⟩ := mst_ne hi h
        rw [tb_leaveU _ hi n17, if_neg n8, if_neg n5, if_neg n1]
      · rw [tb_leaveU _ (by omega) (by omega), if_neg (by omega), if_neg (by omega), if_neg (by omega)]
      · rw [tb_leaveU _ (by omega) (by omega), if_neg (by omega), if_neg (by omega), if_neg (by omega)]
    · rw [if_neg h1]; exact leg_self hx
/-! ### files behind a trap -/
def layS (s : S) (n v : Int) : S := s.put n (legS n (s.f n) v)
theorem layS_ok {s : S} (h : Ok s) {n : Int} (v : Int) (hn : idxK n ≠ none) : Ok (layS s n v) := h.put hn (legS_range (h.w _))
theorem layS_ne (s : S) {n m : Int} (v : Int) (h : m ≠ n) : (layS s n v).f m = s.f m := put_ne s _ h
theorem layS_at (s : S) (n v : Int) : (layS s n v).f n = legS n (s.f n) v := put_at s _ _
def isTr (n : Int) : Prop := n = 833 ∨ n = 834 ∨ n = 835 ∨ n = 321 ∨ n = 322 ∨ n = 323 ∨ n = 768
theorem set_lay (s : S) {n : Int} (h : isTr n) (v : Int) : setS s n v = layS s n v := by
  rcases h with rfl | rfl | rfl | rfl | rfl | rfl | rfl
  all_goals exact set_put v (by decide) (by decide) (by decide) (by decide) (by decide) (by decide)
theorem isTr_kept {n : Int} (h : isTr n) : idxK n ≠ none := by rcases h with rfl | rfl | rfl | rfl | rfl | rfl | rfl <;> decide
theorem get_768 (s : S) (l : Int) : getS s 768 l = s.f 768 := rfl
theorem get_770 (s : S) (l : Int) : getS s 770 l = s.f 770 := rfl
theorem get_771 (s : S) (l : Int) : getS s 771 l = s.f 771 := rfl
theorem get_772 (s : S) (l : Int) : getS s 772 l = s.f 772 := rfl
/-- The file behind a trap that a takes: pc, the word of the cause, the value. -/
def trapS (s : S) (a p pc c tv : Int) : S := (layS (layS (layS s (epI a) pc) (caI a) c) (vaI a) tv).put 768 (enterV (s.f 768) p a)
def backS (s : S) (a : Int) : S := if a = 3 ∨ a = 1 then s.put 768 (leaveV (s.f 768) a) else s
def backA (s : S) (a : Int) : Int := if a = 3 then s.f 833 else if a = 1 then s.f 321 else 0
def trapA (s : S) (a : Int) (b : Bool) (n : Int) : Int := vecS (s.f (tvI a)) b n
theorem trap_is {s : S} (ok : Ok s) {a : Int} (ha : a = 3 ∨ a = 1) (p pc c tv : Int) :
    setS (setS (setS (setS s (epI a) pc) (caI a) c) (vaI a) tv) 768 (enterV (getS (setS (setS (setS s (epI a) pc) (caI a) c) (vaI a) tv) 768 0) p a) = trapS s a p pc c tv := by
  have he : isTr (epI a) := by rcases ha with rfl | rfl <;> simp [isTr, epI]
  have hc : isTr (caI a) := by rcases ha with rfl | rfl <;> simp [isTr, caI]
  have hv : isTr (vaI a) := by rcases ha with rfl | rfl <;> simp [isTr, vaI]
  rw [set_lay s he, set_lay _ hc, set_lay _ hv, get_768, set_lay _ (by simp [isTr])]
  have hs : (layS (layS (layS s (epI a) pc) (caI a) c) (vaI a) tv).f 768 = s.f 768 := by
    rw [layS_ne, layS_ne, layS_ne]
    all_goals rcases ha with rfl | rfl <;> decide
  unfold trapS
  rw [hs]
  show (layS (layS (layS s (epI a) pc) (caI a) c) (vaI a) tv).put 768 (legS 768 ((layS (layS (layS s (epI a) pc) (caI a) c) (vaI a) tv).f 768) _) = _
  rw [hs, leg_enter (ok.w 768)]
theorem trap_tvec (s : S) {a : Int} (ha : a = 3 ∨ a = 1) (p pc c tv : Int) : (trapS s a p pc c tv).f (tvI a) = s.f (tvI a) := by
  unfold trapS
  rw [put_ne, layS_ne, layS_ne, layS_ne]
  all_goals rcases ha with rfl | rfl <;> decide
theorem get_tvec (s : S) {a : Int} (ha : a = 3 ∨ a = 1) (l : Int) : getS s (tvI a) l = s.f (tvI a) := by rcases ha with rfl | rfl <;> rfl
theorem get_epc (s : S) {a : Int} (ha : a = 3 ∨ a = 1) (l : Int) : getS s (epI a) l = backA s a := by rcases ha with rfl | rfl <;> rfl
theorem back_is {s : S} (ok : Ok s) {a : Int} (ha : a = 3 ∨ a = 1) : setS s 768 (leaveV (getS s 768 0) a) = backS s a := by
  rw [get_768, set_lay _ (by simp [isTr])]
  unfold backS layS
  rw [if_pos ha, leg_leave (ok.w 768)]
theorem trap_ok {s : S} (ok : Ok s) {a : Int} (ha : a = 3 ∨ a = 1) (p pc c tv : Int) : Ok (trapS s a p pc c tv) := by
  have he : isTr (epI a) := by rcases ha with rfl | rfl <;> simp [isTr, epI]
  have hc : isTr (caI a) := by rcases ha with rfl | rfl <;> simp [isTr, caI]
  have hv : isTr (vaI a) := by rcases ha with rfl | rfl <;> simp [isTr, vaI]
  exact (layS_ok (layS_ok (layS_ok ok pc (isTr_kept he)) c (isTr_kept hc)) tv (isTr_kept hv)).put (by decide) (enterV_rng (ok.w 768))
theorem bckS_ok {s : S} (ok : Ok s) (a : Int) : Ok (backS s a) := by
  unfold backS
  split
  · exact ok.put (by decide) (leaveV_rng (ok.w 768))
  · exact ok
theorem toK_cases (b : Bool) (n p d i : Int) : toK b n p d i = 3 ∨ toK b n p d i = 1 := by
  by_cases h : p ≠ 3 ∧ 0 ≤ n ∧ n ≤ 63 ∧ tb (if b then i else d) n.toNat = true
  · exact .inr (if_pos h)
  · exact .inl (if_neg h)
/-! ### what stays so: the lowest bits of mepc and sepc -/
def Al (s : S) : Prop := ∀ n, n = 833 ∨ n = 321 → ∀ i, i < 2 → tb (s.f n) i = false
theorem Al.of_eq {s t : S} (h : Al s) (h1 : t.f 833 = s.f 833) (h2 : t.f 321 = s.f 321) : Al t := by
  intro n hn i hi
  rcases hn with rfl | rfl
  · rw [h1]; exact h _ (.inl rfl) i hi
  · rw [h2]; exact h _ (.inr rfl) i hi
theorem Al.put {s : S} (h : Al s) {n : Int} (v : Int) (h1 : n ≠ 833) (h2 : n ≠ 321) : Al (s.put n v) := h.of_eq (put_ne s v h1.symm) (put_ne s v h2.symm)
theorem msk_epc : ∀ i : Fin 2, tb (maskC 833) i.val = false ∧ tb (maskC 321) i.val = false := by decide +kernel
theorem Al.lay {s : S} (ok : Ok s) (h : Al s) (n v : Int) : Al (layS s n v) := by
  intro m hm i hi
  by_cases e : m = n
  · subst e
    rw [layS_at, leg_kept (ok.w m) (by omega) (by rcases hm with rfl | rfl; exact (msk_epc ⟨i, hi⟩).1; exact (msk_epc ⟨i, hi⟩).2)]
    exact h m hm i hi
  · rw [layS_ne s v e]; exact h m hm i hi
theorem al_new (h : Int) : Al (new h) := by
  intro n hn i hi
  have : (new h).f n = 0 := by rcases hn with rfl | rfl <;> rfl
  rw [this]
  exact tb_zero i
theorem Al.set {s : S} (ok : Ok s) (h : Al s) (n v : Int) : Al (setS s n v) := by
  have hw : Al (setW s n v) := by
    unfold setW
    repeat' split
    · exact h.put _ (by decide) (by decide)
    · exact h.put _ (by decide) (by decide)
    · exact h.put _ (by decide) (by decide)
    · exact h
    · exact h.lay ok n v
  exact hw.of_eq rfl rfl
theorem Al.turn {s : S} (h : Al s) (r : Bool) : Al (turnS s r) := by
  unfold turnS
  have h1 : Al (if s.cw then s else s.put 2816 (incr (s.f 2816))) := by
    split
    · exact h
    · exact h.put _ (by decide) (by decide)
  dsimp only
  generalize (if s.cw then s else s.put 2816 (incr (s.f 2816))) = a at *
  split
  · exact (h1.put (n := 2818) (incr (a.f 2818)) (by decide) (by decide)).of_eq rfl rfl
  · exact h1.of_eq rfl rfl
theorem al_and {v : Int} (hv : W64 v) {i : Nat} (hi : i < 64) : tb (bits .andNot .u64 v 3) i = (tb v i && !decide (i < 2)) := by
  rw [tb_andNot hv.1 hv.2 (by omega) (by omega)]
  congr 2
  exact (by decide +kernel : ∀ i : Fin 64, tb 3 i.val = decide (i.val < 2)) ⟨i, hi⟩
theorem msk_epc2 : ∀ i : Fin 64, tb (maskC 833) i.val = !decide (i.val < 2) ∧ tb (maskC 321) i.val = !decide (i.val < 2) := by decide +kernel
/-- What is read of an address that was written. -/
theorem leg_epc {s : S} (h : Al s) {n v : Int} (hn : n = 833 ∨ n = 321) (hv : W64 v) : legS n (s.f n) v = bits .andNot .u64 v 3 := by
  have hr : legS n (s.f n) v = nextS (maskC n) (s.f n) v := by
    unfold legS
    rw [if_neg (by rintro ⟨rfl, -⟩; omega), if_neg (by rintro ⟨rfl, -⟩; omega)]
  rw [hr]
  have a := nextS_range (maskC n) (s.f n) v
  have b := andNot_range hv.1 hv.2 (y := 3) (by omega) (by omega)
  apply Wd.ext a.1 a.2 b.1 b.2
  intro i hi
  have hm : tb (maskC n) i = !decide (i < 2) := by rcases hn with rfl | rfl; exact (msk_epc2 ⟨i, hi⟩).1; exact (msk_epc2 ⟨i, hi⟩).2
  rw [tb_next _ _ _ hi, al_and hv hi, hm]
  by_cases e : i < 2
  · rw [decide_eq_true e]; simp [h n hn i e]
  · rw [decide_eq_false e]; simp
end Go.Proofs.YtkbgmppbkllnmaaDoor
set_option maxRecDepth 20000
namespace Go.Proofs.YtkbgmppbkllnmaaDoor
open Go.ChangeShapes Go.WideShapes Go.ChangeAt Go.RowKit Wd Csr Sta Cf

theorem results_cbF {F : Func} {x y : Tmp} (ty : TypeId) (hF : F.results = #[.cell x ty, .tmp y]) (tmps : Array Value) (w : World) (b : Nat) (cs : Array Value) (r : Value) (h2 : tmps.getD x undef = .pointer (some ⟨b, 0, none⟩)) (h3 : tmps.getD y undef = r)
    (hl : (loadVar ty ⟨b, 0, none⟩).run Tryd.prog w = .ok (.agg cs) w) : (results F tmps).run Tryd.prog w = .ok (.tuple #[.agg cs, r]) w := by
  have h2' : tmps[x]?.getD undef = .pointer (some ⟨b, 0, none⟩) := by simpa using h2
  have h3' : tmps[y]?.getD undef = r := by simpa using h3
  simp [results, hF, h2', h3', asAddr, hl]
theorem class8 {op : Int} (h : classS op = 8) : op = 89 ∨ op = 90 ∨ op = 91 ∨ op = 92 ∨ op = 93 ∨ op = 94 := by
  unfold classS at h
  split at h
  · rename_i hr
    have l : ∀ k : Fin 99, classL.getD k.val 0 = 8 → 89 ≤ k.val ∧ k.val ≤ 94 := by decide +kernel
    have := l ⟨op.toNat, by omega⟩ (by simp only; exact_mod_cast h)
    simp only at this
    omega
  · cases h
set_option maxHeartbeats 4000000 in
theorem rwrites22_c (op rs1 : Int) (w : World) : Calls Tryd.prog 92 #[.int .i64 op, .int .i64 rs1] w fun e w' => e = .returned (.bool (wrS op rs1)) ∧ Below w.heap.size w w' := by
  have HC := Lib.hid (fun W => refClass_c op W)
  by_cases hc : classS op = 8
  · rw [hc] at HC
    cases hr : (rs1 != 0)
    all_goals
      have HR := Lib.hid hr
      rcases class8 hc with rfl | rfl | rfl | rfl | rfl | rfl
      all_goals clear hc
    · skip
      have HV := Lib.hid (show wrS 89 rs1 = true by show ((classS 89 == 8) && (((89 : Int) == 89) || ((89 : Int) == 92) || (rs1 != 0))) = _; rw [HR.out]; decide +kernel)
      go_enter Tryd.func92, Tryd.ntmps92
      go_wp2_with fail
      refine (HC.out _).mono ?_
      rintro e w1 ⟨rfl, hb⟩
      have HB := Lib.hid hb
      clear hb
      go_wp2_with fail
      refine (refNames4_c _).mono ?_
      rintro e w2 ⟨rfl, rfl⟩
      have c : _ = some (Value.string ⟨#[99, 115, 114, 114, 119]⟩) := names4_cell w1 89 (by omega)
      have HB2 := Lib.hid (HB.out.trans (((Below.refl w1.heap.size w1).alloc (Nat.le_refl _) (.cells (Tab.names4.map strV).toArray 9)).mono HB.out.size))
      generalize (w1.alloc (.cells (Tab.names4.map strV).toArray 9)) = W at *
      go_wp2_with fail
      go_ret
      exact ⟨by rw [HV.out]; rfl, HB2.out⟩
    · skip
      have HV := Lib.hid (show wrS 90 rs1 = false by show ((classS 90 == 8) && (((90 : Int) == 89) || ((90 : Int) == 92) || (rs1 != 0))) = _; rw [HR.out]; decide +kernel)
      go_enter Tryd.func92, Tryd.ntmps92
      go_wp2_with fail
      refine (HC.out _).mono ?_
      rintro e w1 ⟨rfl, hb⟩
      have HB := Lib.hid hb
      clear hb
      go_wp2_with fail
      refine (refNames4_c _).mono ?_
      rintro e w2 ⟨rfl, rfl⟩
      have c : _ = some (Value.string ⟨#[99, 115, 114, 114, 115]⟩) := names4_cell w1 90 (by omega)
      have HB2 := Lib.hid (HB.out.trans (((Below.refl w1.heap.size w1).alloc (Nat.le_refl _) (.cells (Tab.names4.map strV).toArray 9)).mono HB.out.size))
      generalize (w1.alloc (.cells (Tab.names4.map strV).toArray 9)) = W at *
      go_wp2_with fail
      go_ret
      exact ⟨by rw [HV.out]; rfl, HB2.out⟩
    · skip
      have HV := Lib.hid (show wrS 91 rs1 = false by show ((classS 91 == 8) && (((91 : Int) == 89) || ((91 : Int) == 92) || (rs1 != 0))) = _; rw [HR.out]; decide +kernel)
      go_enter Tryd.func92, Tryd.ntmps92
      go_wp2_with fail
      refine (HC.out _).mono ?_
      rintro e w1 ⟨rfl, hb⟩
      have HB := Lib.hid hb
      clear hb
      go_wp2_with fail
      refine (refNames4_c _).mono ?_
      rintro e w2 ⟨rfl, rfl⟩
      have c : _ = some (Value.string ⟨#[99, 115, 114, 114, 99]⟩) := names4_cell w1 91 (by omega)
      have HB2 := Lib.hid (HB.out.trans (((Below.refl w1.heap.size w1).alloc (Nat.le_refl _) (.cells (Tab.names4.map strV).toArray 9)).mono HB.out.size))
      generalize (w1.alloc (.cells (Tab.names4.map strV).toArray 9)) = W at *
      go_wp2_with fail
      go_ret
      exact ⟨by rw [HV.out]; rfl, HB2.out⟩
    · skip
      have HV := Lib.hid (show wrS 92 rs1 = true by show ((classS 92 == 8) && (((92 : Int) == 89) || ((92 : Int) == 92) || (rs1 != 0))) = _; rw [HR.out]; decide +kernel)
      go_enter Tryd.func92, Tryd.ntmps92
      go_wp2_with fail
      refine (HC.out _).mono ?_
      rintro e w1 ⟨rfl, hb⟩
      have HB := Lib.hid hb
      clear hb
      go_wp2_with fail
      refine (refNames4_c _).mono ?_
      rintro e w2 ⟨rfl, rfl⟩
      have c : _ = some (Value.string ⟨#[99, 115, 114, 114, 119, 105]⟩) := names4_cell w1 92 (by omega)
      have HB2 := Lib.hid (HB.out.trans (((Below.refl w1.heap.size w1).alloc (Nat.le_refl _) (.cells (Tab.names4.map strV).toArray 9)).mono HB.out.size))
      generalize (w1.alloc (.cells (Tab.names4.map strV).toArray 9)) = W at *
      go_wp2_with fail
      go_ret
      exact ⟨by rw [HV.out]; rfl, HB2.out⟩
    · skip
      have HV := Lib.hid (show wrS 93 rs1 = false by show ((classS 93 == 8) && (((93 : Int) == 89) || ((93 : Int) == 92) || (rs1 != 0))) = _; rw [HR.out]; decide +kernel)
      go_enter Tryd.func92, Tryd.ntmps92
      go_wp2_with fail
      refine (HC.out _).mono ?_
      rintro e w1 ⟨rfl, hb⟩
      have HB := Lib.hid hb
      clear hb
      go_wp2_with fail
      refine (refNames4_c _).mono ?_
      rintro e w2 ⟨rfl, rfl⟩
      have c : _ = some (Value.string ⟨#[99, 115, 114, 114, 115, 105]⟩) := names4_cell w1 93 (by omega)
      have HB2 := Lib.hid (HB.out.trans (((Below.refl w1.heap.size w1).alloc (Nat.le_refl _) (.cells (Tab.names4.map strV).toArray 9)).mono HB.out.size))
      generalize (w1.alloc (.cells (Tab.names4.map strV).toArray 9)) = W at *
      go_wp2_with fail
      go_ret
      exact ⟨by rw [HV.out]; rfl, HB2.out⟩
    · skip
      have HV := Lib.hid (show wrS 94 rs1 = false by show ((classS 94 == 8) && (((94 : Int) == 89) || ((94 : Int) == 92) || (rs1 != 0))) = _; rw [HR.out]; decide +kernel)
      go_enter Tryd.func92, Tryd.ntmps92
      go_wp2_with fail
      refine (HC.out _).mono ?_
      rintro e w1 ⟨rfl, hb⟩
      have HB := Lib.hid hb
      clear hb
      go_wp2_with fail
      refine (refNames4_c _).mono ?_
      rintro e w2 ⟨rfl, rfl⟩
      have c : _ = some (Value.string ⟨#[99, 115, 114, 114, 99, 105]⟩) := names4_cell w1 94 (by omega)
      have HB2 := Lib.hid (HB.out.trans (((Below.refl w1.heap.size w1).alloc (Nat.le_refl _) (.cells (Tab.names4.map strV).toArray 9)).mono HB.out.size))
      generalize (w1.alloc (.cells (Tab.names4.map strV).toArray 9)) = W at *
      go_wp2_with fail
      go_ret
      exact ⟨by rw [HV.out]; rfl, HB2.out⟩
    · skip
      have HV := Lib.hid (show wrS 89 rs1 = true by show ((classS 89 == 8) && (((89 : Int) == 89) || ((89 : Int) == 92) || (rs1 != 0))) = _; rw [HR.out]; decide +kernel)
      go_enter Tryd.func92, Tryd.ntmps92
      go_wp2_with fail
      refine (HC.out _).mono ?_
      rintro e w1 ⟨rfl, hb⟩
      have HB := Lib.hid hb
      clear hb
      go_wp2_with fail
      refine (refNames4_c _).mono ?_
      rintro e w2 ⟨rfl, rfl⟩
      have c : _ = some (Value.string ⟨#[99, 115, 114, 114, 119]⟩) := names4_cell w1 89 (by omega)
      have HB2 := Lib.hid (HB.out.trans (((Below.refl w1.heap.size w1).alloc (Nat.le_refl _) (.cells (Tab.names4.map strV).toArray 9)).mono HB.out.size))
      generalize (w1.alloc (.cells (Tab.names4.map strV).toArray 9)) = W at *
      go_wp2_with fail
      go_ret
      exact ⟨by rw [HV.out]; rfl, HB2.out⟩
    · skip
      have HV := Lib.hid (show wrS 90 rs1 = true by show ((classS 90 == 8) && (((90 : Int) == 89) || ((90 : Int) == 92) || (rs1 != 0))) = _; rw [HR.out]; decide +kernel)
      go_enter Tryd.func92, Tryd.ntmps92
      go_wp2_with fail
      refine (HC.out _).mono ?_
      rintro e w1 ⟨rfl, hb⟩
      have HB := Lib.hid hb
      clear hb
      go_wp2_with fail
      refine (refNames4_c _).mono ?_
      rintro e w2 ⟨rfl, rfl⟩
      have c : _ = some (Value.string ⟨#[99, 115, 114, 114, 115]⟩) := names4_cell w1 90 (by omega)
      have HB2 := Lib.hid (HB.out.trans (((Below.refl w1.heap.size w1).alloc (Nat.le_refl _) (.cells (Tab.names4.map strV).toArray 9)).mono HB.out.size))
      generalize (w1.alloc (.cells (Tab.names4.map strV).toArray 9)) = W at *
      go_wp2_with fail
      go_ret
      exact ⟨by rw [HV.out]; rfl, HB2.out⟩
    · skip
      have HV := Lib.hid (show wrS 91 rs1 = true by show ((classS 91 == 8) && (((91 : Int) == 89) || ((91 : Int) == 92) || (rs1 != 0))) = _; rw [HR.out]; decide +kernel)
      go_enter Tryd.func92, Tryd.ntmps92
      go_wp2_with fail
      refine (HC.out _).mono ?_
      rintro e w1 ⟨rfl, hb⟩
      have HB := Lib.hid hb
      clear hb
      go_wp2_with fail
      refine (refNames4_c _).mono ?_
      rintro e w2 ⟨rfl, rfl⟩
      have c : _ = some (Value.string ⟨#[99, 115, 114, 114, 99]⟩) := names4_cell w1 91 (by omega)
      have HB2 := Lib.hid (HB.out.trans (((Below.refl w1.heap.size w1).alloc (Nat.le_refl _) (.cells (Tab.names4.map strV).toArray 9)).mono HB.out.size))
      generalize (w1.alloc (.cells (Tab.names4.map strV).toArray 9)) = W at *
      go_wp2_with fail
      go_ret
      exact ⟨by rw [HV.out]; rfl, HB2.out⟩
    · skip
      have HV := Lib.hid (show wrS 92 rs1 = true by show ((classS 92 == 8) && (((92 : Int) == 89) || ((92 : Int) == 92) || (rs1 != 0))) = _; rw [HR.out]; decide +kernel)
      go_enter Tryd.func92, Tryd.ntmps92
      go_wp2_with fail
      refine (HC.out _).mono ?_
      rintro e w1 ⟨rfl, hb⟩
      have HB := Lib.hid hb
      clear hb
      go_wp2_with fail
      refine (refNames4_c _).mono ?_
      rintro e w2 ⟨rfl, rfl⟩
      have c : _ = some (Value.string ⟨#[99, 115, 114, 114, 119, 105]⟩) := names4_cell w1 92 (by omega)
      have HB2 := Lib.hid (HB.out.trans (((Below.refl w1.heap.size w1).alloc (Nat.le_refl _) (.cells (Tab.names4.map strV).toArray 9)).mono HB.out.size))
      generalize (w1.alloc (.cells (Tab.names4.map strV).toArray 9)) = W at *
      go_wp2_with fail
      go_ret
      exact ⟨by rw [HV.out]; rfl, HB2.out⟩
    · skip
      have HV := Lib.hid (show wrS 93 rs1 = true by show ((classS 93 == 8) && (((93 : Int) == 89) || ((93 : Int) == 92) || (rs1 != 0))) = _; rw [HR.out]; decide +kernel)
      go_enter Tryd.func92, Tryd.ntmps92
      go_wp2_with fail
      refine (HC.out _).mono ?_
      rintro e w1 ⟨rfl, hb⟩
      have HB := Lib.hid hb
      clear hb
      go_wp2_with fail
      refine (refNames4_c _).mono ?_
      rintro e w2 ⟨rfl, rfl⟩
      have c : _ = some (Value.string ⟨#[99, 115, 114, 114, 115, 105]⟩) := names4_cell w1 93 (by omega)
      have HB2 := Lib.hid (HB.out.trans (((Below.refl w1.heap.size w1).alloc (Nat.le_refl _) (.cells (Tab.names4.map strV).toArray 9)).mono HB.out.size))
      generalize (w1.alloc (.cells (Tab.names4.map strV).toArray 9)) = W at *
      go_wp2_with fail
      go_ret
      exact ⟨by rw [HV.out]; rfl, HB2.out⟩
    · skip
      have HV := Lib.hid (show wrS 94 rs1 = true by show ((classS 94 == 8) && (((94 : Int) == 89) || ((94 : Int) == 92) || (rs1 != 0))) = _; rw [HR.out]; decide +kernel)
      go_enter Tryd.func92, Tryd.ntmps92
      go_wp2_with fail
      refine (HC.out _).mono ?_
      rintro e w1 ⟨rfl, hb⟩
      have HB := Lib.hid hb
      clear hb
      go_wp2_with fail
      refine (refNames4_c _).mono ?_
      rintro e w2 ⟨rfl, rfl⟩
      have c : _ = some (Value.string ⟨#[99, 115, 114, 114, 99, 105]⟩) := names4_cell w1 94 (by omega)
      have HB2 := Lib.hid (HB.out.trans (((Below.refl w1.heap.size w1).alloc (Nat.le_refl _) (.cells (Tab.names4.map strV).toArray 9)).mono HB.out.size))
      generalize (w1.alloc (.cells (Tab.names4.map strV).toArray 9)) = W at *
      go_wp2_with fail
      go_ret
      exact ⟨by rw [HV.out]; rfl, HB2.out⟩
  · have hc' : (classS op != 8) = true := by simpa using hc
    have HV := Lib.hid (show wrS op rs1 = false by unfold wrS; rw [show (classS op == 8) = false by simpa using hc]; rfl)
    generalize classS op = c at *
    clear hc
    go_enter Tryd.func92, Tryd.ntmps92
    go_wp2_with fail
    refine (HC.out _).mono ?_
    rintro e w1 ⟨rfl, hb⟩
    have HB := Lib.hid hb
    clear hb
    go_wp2_with fail
    go_ret
    exact ⟨by rw [HV.out]; rfl, HB.out⟩
theorem RtS.put {w W : World} {s t : S} (h : RtS w W s t) (s' : S) : RtS w (W.setRow w.heap.size (refV s')) s' t := ⟨h.r.row _, h.z.rowFar (by omega) _, below_setRow h.bel (Nat.le_refl _) _⟩
theorem RtS.cw {w W : World} {s t : S} (h : RtS w W s t) (x : Bool) : RtS w (W.setCell ⟨w.heap.size, 35, none⟩ (.bool x)) { s with cw := x } t :=
  ⟨ref_cw h.r x, (Chg.of_cell (S := one w.heap.size) rfl _ _).cs h.z (fun (e : w.heap.size + 1 = w.heap.size) => by omega), h.bel.setCell (by exact Nat.le_refl _) _⟩
theorem RtS.iw {w W : World} {s t : S} (h : RtS w W s t) (x : Bool) : RtS w (W.setCell ⟨w.heap.size, 36, none⟩ (.bool x)) { s with iw := x } t :=
  ⟨ref_iw h.r x, (Chg.of_cell (S := one w.heap.size) rfl _ _).cs h.z (fun (e : w.heap.size + 1 = w.heap.size) => by omega), h.bel.setCell (by exact Nat.le_refl _) _⟩
theorem RtS.c35 {w W : World} {s t : S} (h : RtS w W s t) : W.cell? ⟨w.heap.size, 35, none⟩ = some (.bool s.cw) := by rw [h.r.cell, refV_cw]
theorem RtS.c36 {w W : World} {s t : S} (h : RtS w W s t) : W.cell? ⟨w.heap.size, 36, none⟩ = some (.bool s.iw) := by rw [h.r.cell, refV_iw]
set_option maxHeartbeats 8000000 in
theorem rturn22_c (s : S) (r : Bool) (w : World) : Calls Tryd.prog 72 #[.agg (refV s), .bool r] w fun e w' => e = .returned (.agg (refV (turnS s r))) ∧ Below w.heap.size w w' := by
  have HS1 := Lib.hid (RtS.new w s)
  have HWD := Lib.hid (fun t nm k hk hn W => rword_c t nm k hk hn W)
  have HWT := Lib.hid (fun t nm x k hk hn W => rwith_c t nm x k hk hn W)
  obtain ⟨hh, f, a, b⟩ := s
  cases a <;> cases b <;> cases r
  · skip
    go_enter Tryd.func72, Tryd.ntmps72
    go_upto_region 1 with (refine wpList_allocY rfl _ rfl RfT rfl (refV (zero 0)) (zero_rf _) ?_)
    generalize ((w.alloc (.cells (refV (⟨hh, f, false, false⟩ : S)) RfT)).alloc (.cells (refV (zero 0)) RfT)) = w1 at *
    have c35 : w1.cell? ⟨w.heap.size, 35, none⟩ = some (.bool false) := HS1.out.c35
    have c36 : w1.cell? ⟨w.heap.size, 36, none⟩ = some (.bool false) := HS1.out.c36
    have y35 := HS1.out.r.frozen 35
    have y36 := HS1.out.r.frozen 36
    go_upto_region 2 with fail
    clear c35 c36 y35 y36
    refine wp_region_steady_tail (fun W => RtS w W (⟨hh, f, false, false⟩ : S) (zero 0)) 5 (by kernel_rfl) (by kernel_rfl) HS1.out.drew ?_
    refine steady_val (.agg (refV (⟨hh, f, false, false⟩ : S))) ?_ (by kernel_rfl) (fun W hS => exec_load_row RfT _ rfl w.heap.size rfl RfT _ _ hS.r Tryd.underlying38 rfl (iRf _)) ?_ ?_
    rotate_left 1
    · go_simp
      exact rfl
    refine steady_val (.agg (refV (⟨hh, f, false, false⟩ : S))) ?_ (by kernel_rfl) (fun W hS => exec_load_row RfT _ rfl w.heap.size rfl RfT _ _ hS.r Tryd.underlying38 rfl (iRf _)) ?_ ?_
    rotate_left 1
    · go_simp
      exact rfl
    refine steady_enter (.int .u64 ((⟨hh, f, false, false⟩ : S).f 2816)) 35 #[.agg (refV (⟨hh, f, false, false⟩ : S)), .string ⟨#[109, 99, 121, 99, 108, 101]⟩] ?_ (by kernel_rfl) (fun W hS => ?_) (fun W hS => (HWD.out (⟨hh, f, false, false⟩ : S) ⟨#[109, 99, 121, 99, 108, 101]⟩ 25 (by decide) nc_mcycle W).mono (by rintro e w' ⟨rfl, hb⟩; exact ⟨rfl, hS.low hb⟩)) ?_ ?_
    rotate_left 1
    · go_simp
    · go_simp
      exact rfl
    refine steady_val ?_ ?_ (by kernel_rfl) (fun W hS => ?_) ?_ ?_
    rotate_left 2
    · go_simp
      exact rfl
    · go_simp
      exact rfl
    refine steady_enter (.agg (refV (S.put (⟨hh, f, false, false⟩ : S) 2816 (incr ((⟨hh, f, false, false⟩ : S).f 2816))))) 67 #[.agg (refV (⟨hh, f, false, false⟩ : S)), .string ⟨#[109, 99, 121, 99, 108, 101]⟩, .int .u64 (IntKind.u64.wrap ((⟨hh, f, false, false⟩ : S).f 2816 + 1))] ?_ (by kernel_rfl) (fun W hS => ?_) (fun W hS => (HWT.out (⟨hh, f, false, false⟩ : S) ⟨#[109, 99, 121, 99, 108, 101]⟩ (IntKind.u64.wrap ((⟨hh, f, false, false⟩ : S).f 2816 + 1)) 25 (by decide) nc_mcycle W).mono (by rintro e w' ⟨rfl, hb⟩; exact ⟨rfl, hS.low hb⟩)) ?_ ?_
    rotate_left 1
    · go_simp
    · go_simp
      exact rfl
    refine steady_nil ?_
    intro W2 hS
    have HSZ2 := Lib.hid hS
    clear hS
    simp only [List.drop_succ_cons, List.drop_zero]
    have HS2 := Lib.hid (HSZ2.out.put (S.put (⟨hh, f, false, false⟩ : S) 2816 (incr ((⟨hh, f, false, false⟩ : S).f 2816))))
    go_upto_region 3 with (refine wpList_store_row rfl RfT _ _ rfl w.heap.size (refV ((S.put (⟨hh, f, false, false⟩ : S) 2816 (incr ((⟨hh, f, false, false⟩ : S).f 2816))))) rfl rfl RfT _ HSZ2.out.r (iRf _) (by rw [refV_size, refV_size]) (rfV_one _) ?_)
    generalize W2.setRow w.heap.size (refV (S.put (⟨hh, f, false, false⟩ : S) 2816 (incr ((⟨hh, f, false, false⟩ : S).f 2816)))) = w2 at *
    have c35 : w2.cell? ⟨w.heap.size, 35, none⟩ = some (.bool false) := HS2.out.c35
    have c36 : w2.cell? ⟨w.heap.size, 36, none⟩ = some (.bool false) := HS2.out.c36
    have y35 := HS2.out.r.frozen 35
    have y36 := HS2.out.r.frozen 36
    have HF := Lib.hid ((HS2.out.cw false).iw false)
    go_upto_region 7 with fail
    generalize (w2.setCell ⟨w.heap.size, 35, none⟩ (.bool false)).setCell ⟨w.heap.size, 36, none⟩ (.bool false) = wz at *
    clear c35 c36 y35 y36
    go_wp2_with (first | (refine wpList_load_row rfl RfT _ rfl w.heap.size rfl RfT _ (0, 0) _ HF.out.r Tryd.underlying38 rfl (iRf _) ?_) | (refine wpList_store_row rfl RfT _ _ rfl (w.heap.size + 1) (refV (({ (S.put (⟨hh, f, false, false⟩ : S) 2816 (incr ((⟨hh, f, false, false⟩ : S).f 2816))) with cw := false, iw := false } : S))) rfl rfl RfT _ HF.out.z (iRf _) (by rw [refV_size, refV_size]) (rfV_one _) ?_))
    exact bodyPost_ret (results_cell_row Tryd.results72 _ _ _ _ _ _ _ rfl (HF.out.z.row _) Tryd.underlying38 rfl (iRf _)) rfl ⟨rfl, below_setRow HF.out.bel (by omega) _⟩
  · skip
    go_enter Tryd.func72, Tryd.ntmps72
    go_upto_region 1 with (refine wpList_allocY rfl _ rfl RfT rfl (refV (zero 0)) (zero_rf _) ?_)
    generalize ((w.alloc (.cells (refV (⟨hh, f, false, false⟩ : S)) RfT)).alloc (.cells (refV (zero 0)) RfT)) = w1 at *
    have c35 : w1.cell? ⟨w.heap.size, 35, none⟩ = some (.bool false) := HS1.out.c35
    have c36 : w1.cell? ⟨w.heap.size, 36, none⟩ = some (.bool false) := HS1.out.c36
    have y35 := HS1.out.r.frozen 35
    have y36 := HS1.out.r.frozen 36
    go_upto_region 2 with fail
    clear c35 c36 y35 y36
    refine wp_region_steady_tail (fun W => RtS w W (⟨hh, f, false, false⟩ : S) (zero 0)) 5 (by kernel_rfl) (by kernel_rfl) HS1.out.drew ?_
    refine steady_val (.agg (refV (⟨hh, f, false, false⟩ : S))) ?_ (by kernel_rfl) (fun W hS => exec_load_row RfT _ rfl w.heap.size rfl RfT _ _ hS.r Tryd.underlying38 rfl (iRf _)) ?_ ?_
    rotate_left 1
    · go_simp
      exact rfl
    refine steady_val (.agg (refV (⟨hh, f, false, false⟩ : S))) ?_ (by kernel_rfl) (fun W hS => exec_load_row RfT _ rfl w.heap.size rfl RfT _ _ hS.r Tryd.underlying38 rfl (iRf _)) ?_ ?_
    rotate_left 1
    · go_simp
      exact rfl
    refine steady_enter (.int .u64 ((⟨hh, f, false, false⟩ : S).f 2816)) 35 #[.agg (refV (⟨hh, f, false, false⟩ : S)), .string ⟨#[109, 99, 121, 99, 108, 101]⟩] ?_ (by kernel_rfl) (fun W hS => ?_) (fun W hS => (HWD.out (⟨hh, f, false, false⟩ : S) ⟨#[109, 99, 121, 99, 108, 101]⟩ 25 (by decide) nc_mcycle W).mono (by rintro e w' ⟨rfl, hb⟩; exact ⟨rfl, hS.low hb⟩)) ?_ ?_
    rotate_left 1
    · go_simp
    · go_simp
      exact rfl
    refine steady_val ?_ ?_ (by kernel_rfl) (fun W hS => ?_) ?_ ?_
    rotate_left 2
    · go_simp
      exact rfl
    · go_simp
      exact rfl
    refine steady_enter (.agg (refV (S.put (⟨hh, f, false, false⟩ : S) 2816 (incr ((⟨hh, f, false, false⟩ : S).f 2816))))) 67 #[.agg (refV (⟨hh, f, false, false⟩ : S)), .string ⟨#[109, 99, 121, 99, 108, 101]⟩, .int .u64 (IntKind.u64.wrap ((⟨hh, f, false, false⟩ : S).f 2816 + 1))] ?_ (by kernel_rfl) (fun W hS => ?_) (fun W hS => (HWT.out (⟨hh, f, false, false⟩ : S) ⟨#[109, 99, 121, 99, 108, 101]⟩ (IntKind.u64.wrap ((⟨hh, f, false, false⟩ : S).f 2816 + 1)) 25 (by decide) nc_mcycle W).mono (by rintro e w' ⟨rfl, hb⟩; exact ⟨rfl, hS.low hb⟩)) ?_ ?_
    rotate_left 1
    · go_simp
    · go_simp
      exact rfl
    refine steady_nil ?_
    intro W2 hS
    have HSZ2 := Lib.hid hS
    clear hS
    simp only [List.drop_succ_cons, List.drop_zero]
    have HS2 := Lib.hid (HSZ2.out.put (S.put (⟨hh, f, false, false⟩ : S) 2816 (incr ((⟨hh, f, false, false⟩ : S).f 2816))))
    go_upto_region 3 with (refine wpList_store_row rfl RfT _ _ rfl w.heap.size (refV ((S.put (⟨hh, f, false, false⟩ : S) 2816 (incr ((⟨hh, f, false, false⟩ : S).f 2816))))) rfl rfl RfT _ HSZ2.out.r (iRf _) (by rw [refV_size, refV_size]) (rfV_one _) ?_)
    generalize W2.setRow w.heap.size (refV (S.put (⟨hh, f, false, false⟩ : S) 2816 (incr ((⟨hh, f, false, false⟩ : S).f 2816)))) = w2 at *
    have c35 : w2.cell? ⟨w.heap.size, 35, none⟩ = some (.bool false) := HS2.out.c35
    have c36 : w2.cell? ⟨w.heap.size, 36, none⟩ = some (.bool false) := HS2.out.c36
    have y35 := HS2.out.r.frozen 35
    have y36 := HS2.out.r.frozen 36
    go_upto_region 4 with fail
    clear c35 c36 y35 y36
    refine wp_region_steady_tail (fun W => RtS w W (S.put (⟨hh, f, false, false⟩ : S) 2816 (incr ((⟨hh, f, false, false⟩ : S).f 2816))) (zero 0)) 5 (by kernel_rfl) (by kernel_rfl) HS2.out.drew ?_
    refine steady_val (.agg (refV (S.put (⟨hh, f, false, false⟩ : S) 2816 (incr ((⟨hh, f, false, false⟩ : S).f 2816))))) ?_ (by kernel_rfl) (fun W hS => exec_load_row RfT _ rfl w.heap.size rfl RfT _ _ hS.r Tryd.underlying38 rfl (iRf _)) ?_ ?_
    rotate_left 1
    · go_simp
      exact rfl
    refine steady_val (.agg (refV (S.put (⟨hh, f, false, false⟩ : S) 2816 (incr ((⟨hh, f, false, false⟩ : S).f 2816))))) ?_ (by kernel_rfl) (fun W hS => exec_load_row RfT _ rfl w.heap.size rfl RfT _ _ hS.r Tryd.underlying38 rfl (iRf _)) ?_ ?_
    rotate_left 1
    · go_simp
      exact rfl
    refine steady_enter (.int .u64 ((S.put (⟨hh, f, false, false⟩ : S) 2816 (incr ((⟨hh, f, false, false⟩ : S).f 2816))).f 2818)) 35 #[.agg (refV (S.put (⟨hh, f, false, false⟩ : S) 2816 (incr ((⟨hh, f, false, false⟩ : S).f 2816)))), .string ⟨#[109, 105, 110, 115, 116, 114, 101, 116]⟩] ?_ (by kernel_rfl) (fun W hS => ?_) (fun W hS => (HWD.out (S.put (⟨hh, f, false, false⟩ : S) 2816 (incr ((⟨hh, f, false, false⟩ : S).f 2816))) ⟨#[109, 105, 110, 115, 116, 114, 101, 116]⟩ 26 (by decide) nc_minstret W).mono (by rintro e w' ⟨rfl, hb⟩; exact ⟨rfl, hS.low hb⟩)) ?_ ?_
    rotate_left 1
    · go_simp
    · go_simp
      exact rfl
    refine steady_val ?_ ?_ (by kernel_rfl) (fun W hS => ?_) ?_ ?_
    rotate_left 2
    · go_simp
      exact rfl
    · go_simp
      exact rfl
    refine steady_enter (.agg (refV (S.put (S.put (⟨hh, f, false, false⟩ : S) 2816 (incr ((⟨hh, f, false, false⟩ : S).f 2816))) 2818 (incr ((S.put (⟨hh, f, false, false⟩ : S) 2816 (incr ((⟨hh, f, false, false⟩ : S).f 2816))).f 2818))))) 67 #[.agg (refV (S.put (⟨hh, f, false, false⟩ : S) 2816 (incr ((⟨hh, f, false, false⟩ : S).f 2816)))), .string ⟨#[109, 105, 110, 115, 116, 114, 101, 116]⟩, .int .u64 (IntKind.u64.wrap ((S.put (⟨hh, f, false, false⟩ : S) 2816 (incr ((⟨hh, f, false, false⟩ : S).f 2816))).f 2818 + 1))] ?_ (by kernel_rfl) (fun W hS => ?_) (fun W hS => (HWT.out (S.put (⟨hh, f, false, false⟩ : S) 2816 (incr ((⟨hh, f, false, false⟩ : S).f 2816))) ⟨#[109, 105, 110, 115, 116, 114, 101, 116]⟩ (IntKind.u64.wrap ((S.put (⟨hh, f, false, false⟩ : S) 2816 (incr ((⟨hh, f, false, false⟩ : S).f 2816))).f 2818 + 1)) 26 (by decide) nc_minstret W).mono (by rintro e w' ⟨rfl, hb⟩; exact ⟨rfl, hS.low hb⟩)) ?_ ?_
    rotate_left 1
    · go_simp
    · go_simp
      exact rfl
    refine steady_nil ?_
    intro W3 hS
    have HSZ3 := Lib.hid hS
    clear hS
    simp only [List.drop_succ_cons, List.drop_zero]
    have HS3 := Lib.hid (HSZ3.out.put (S.put (S.put (⟨hh, f, false, false⟩ : S) 2816 (incr ((⟨hh, f, false, false⟩ : S).f 2816))) 2818 (incr ((S.put (⟨hh, f, false, false⟩ : S) 2816 (incr ((⟨hh, f, false, false⟩ : S).f 2816))).f 2818))))
    go_upto_region 5 with (refine wpList_store_row rfl RfT _ _ rfl w.heap.size (refV ((S.put (S.put (⟨hh, f, false, false⟩ : S) 2816 (incr ((⟨hh, f, false, false⟩ : S).f 2816))) 2818 (incr ((S.put (⟨hh, f, false, false⟩ : S) 2816 (incr ((⟨hh, f, false, false⟩ : S).f 2816))).f 2818))))) rfl rfl RfT _ HSZ3.out.r (iRf _) (by rw [refV_size, refV_size]) (rfV_one _) ?_)
    generalize W3.setRow w.heap.size (refV (S.put (S.put (⟨hh, f, false, false⟩ : S) 2816 (incr ((⟨hh, f, false, false⟩ : S).f 2816))) 2818 (incr ((S.put (⟨hh, f, false, false⟩ : S) 2816 (incr ((⟨hh, f, false, false⟩ : S).f 2816))).f 2818)))) = w3 at *
    have c35 : w3.cell? ⟨w.heap.size, 35, none⟩ = some (.bool false) := HS3.out.c35
    have c36 : w3.cell? ⟨w.heap.size, 36, none⟩ = some (.bool false) := HS3.out.c36
    have y35 := HS3.out.r.frozen 35
    have y36 := HS3.out.r.frozen 36
    have HF := Lib.hid ((HS3.out.cw false).iw false)
    go_upto_region 7 with fail
    generalize (w3.setCell ⟨w.heap.size, 35, none⟩ (.bool false)).setCell ⟨w.heap.size, 36, none⟩ (.bool false) = wz at *
    clear c35 c36 y35 y36
    go_wp2_with (first | (refine wpList_load_row rfl RfT _ rfl w.heap.size rfl RfT _ (0, 0) _ HF.out.r Tryd.underlying38 rfl (iRf _) ?_) | (refine wpList_store_row rfl RfT _ _ rfl (w.heap.size + 1) (refV (({ (S.put (S.put (⟨hh, f, false, false⟩ : S) 2816 (incr ((⟨hh, f, false, false⟩ : S).f 2816))) 2818 (incr ((S.put (⟨hh, f, false, false⟩ : S) 2816 (incr ((⟨hh, f, false, false⟩ : S).f 2816))).f 2818))) with cw := false, iw := false } : S))) rfl rfl RfT _ HF.out.z (iRf _) (by rw [refV_size, refV_size]) (rfV_one _) ?_))
    exact bodyPost_ret (results_cell_row Tryd.results72 _ _ _ _ _ _ _ rfl (HF.out.z.row _) Tryd.underlying38 rfl (iRf _)) rfl ⟨rfl, below_setRow HF.out.bel (by omega) _⟩
  · skip
    go_enter Tryd.func72, Tryd.ntmps72
    go_upto_region 1 with (refine wpList_allocY rfl _ rfl RfT rfl (refV (zero 0)) (zero_rf _) ?_)
    generalize ((w.alloc (.cells (refV (⟨hh, f, false, true⟩ : S)) RfT)).alloc (.cells (refV (zero 0)) RfT)) = w1 at *
    have c35 : w1.cell? ⟨w.heap.size, 35, none⟩ = some (.bool false) := HS1.out.c35
    have c36 : w1.cell? ⟨w.heap.size, 36, none⟩ = some (.bool true) := HS1.out.c36
    have y35 := HS1.out.r.frozen 35
    have y36 := HS1.out.r.frozen 36
    go_upto_region 2 with fail
    clear c35 c36 y35 y36
    refine wp_region_steady_tail (fun W => RtS w W (⟨hh, f, false, true⟩ : S) (zero 0)) 5 (by kernel_rfl) (by kernel_rfl) HS1.out.drew ?_
    refine steady_val (.agg (refV (⟨hh, f, false, true⟩ : S))) ?_ (by kernel_rfl) (fun W hS => exec_load_row RfT _ rfl w.heap.size rfl RfT _ _ hS.r Tryd.underlying38 rfl (iRf _)) ?_ ?_
    rotate_left 1
    · go_simp
      exact rfl
    refine steady_val (.agg (refV (⟨hh, f, false, true⟩ : S))) ?_ (by kernel_rfl) (fun W hS => exec_load_row RfT _ rfl w.heap.size rfl RfT _ _ hS.r Tryd.underlying38 rfl (iRf _)) ?_ ?_
    rotate_left 1
    · go_simp
      exact rfl
    refine steady_enter (.int .u64 ((⟨hh, f, false, true⟩ : S).f 2816)) 35 #[.agg (refV (⟨hh, f, false, true⟩ : S)), .string ⟨#[109, 99, 121, 99, 108, 101]⟩] ?_ (by kernel_rfl) (fun W hS => ?_) (fun W hS => (HWD.out (⟨hh, f, false, true⟩ : S) ⟨#[109, 99, 121, 99, 108, 101]⟩ 25 (by decide) nc_mcycle W).mono (by rintro e w' ⟨rfl, hb⟩; exact ⟨rfl, hS.low hb⟩)) ?_ ?_
    rotate_left 1
    · go_simp
    · go_simp
      exact rfl
    refine steady_val ?_ ?_ (by kernel_rfl) (fun W hS => ?_) ?_ ?_
    rotate_left 2
    · go_simp
      exact rfl
    · go_simp
      exact rfl
    refine steady_enter (.agg (refV (S.put (⟨hh, f, false, true⟩ : S) 2816 (incr ((⟨hh, f, false, true⟩ : S).f 2816))))) 67 #[.agg (refV (⟨hh, f, false, true⟩ : S)), .string ⟨#[109, 99, 121, 99, 108, 101]⟩, .int .u64 (IntKind.u64.wrap ((⟨hh, f, false, true⟩ : S).f 2816 + 1))] ?_ (by kernel_rfl) (fun W hS => ?_) (fun W hS => (HWT.out (⟨hh, f, false, true⟩ : S) ⟨#[109, 99, 121, 99, 108, 101]⟩ (IntKind.u64.wrap ((⟨hh, f, false, true⟩ : S).f 2816 + 1)) 25 (by decide) nc_mcycle W).mono (by rintro e w' ⟨rfl, hb⟩; exact ⟨rfl, hS.low hb⟩)) ?_ ?_
    rotate_left 1
    · go_simp
    · go_simp
      exact rfl
    refine steady_nil ?_
    intro W2 hS
    have HSZ2 := Lib.hid hS
    clear hS
    simp only [List.drop_succ_cons, List.drop_zero]
    have HS2 := Lib.hid (HSZ2.out.put (S.put (⟨hh, f, false, true⟩ : S) 2816 (incr ((⟨hh, f, false, true⟩ : S).f 2816))))
    go_upto_region 3 with (refine wpList_store_row rfl RfT _ _ rfl w.heap.size (refV ((S.put (⟨hh, f, false, true⟩ : S) 2816 (incr ((⟨hh, f, false, true⟩ : S).f 2816))))) rfl rfl RfT _ HSZ2.out.r (iRf _) (by rw [refV_size, refV_size]) (rfV_one _) ?_)
    generalize W2.setRow w.heap.size (refV (S.put (⟨hh, f, false, true⟩ : S) 2816 (incr ((⟨hh, f, false, true⟩ : S).f 2816)))) = w2 at *
    have c35 : w2.cell? ⟨w.heap.size, 35, none⟩ = some (.bool false) := HS2.out.c35
    have c36 : w2.cell? ⟨w.heap.size, 36, none⟩ = some (.bool true) := HS2.out.c36
    have y35 := HS2.out.r.frozen 35
    have y36 := HS2.out.r.frozen 36
    have HF := Lib.hid ((HS2.out.cw false).iw false)
    go_upto_region 7 with fail
    generalize (w2.setCell ⟨w.heap.size, 35, none⟩ (.bool false)).setCell ⟨w.heap.size, 36, none⟩ (.bool false) = wz at *
    clear c35 c36 y35 y36
    go_wp2_with (first | (refine wpList_load_row rfl RfT _ rfl w.heap.size rfl RfT _ (0, 0) _ HF.out.r Tryd.underlying38 rfl (iRf _) ?_) | (refine wpList_store_row rfl RfT _ _ rfl (w.heap.size + 1) (refV (({ (S.put (⟨hh, f, false, true⟩ : S) 2816 (incr ((⟨hh, f, false, true⟩ : S).f 2816))) with cw := false, iw := false } : S))) rfl rfl RfT _ HF.out.z (iRf _) (by rw [refV_size, refV_size]) (rfV_one _) ?_))
    exact bodyPost_ret (results_cell_row Tryd.results72 _ _ _ _ _ _ _ rfl (HF.out.z.row _) Tryd.underlying38 rfl (iRf _)) rfl ⟨rfl, below_setRow HF.out.bel (by omega) _⟩
  · skip
    go_enter Tryd.func72, Tryd.ntmps72
    go_upto_region 1 with (refine wpList_allocY rfl _ rfl RfT rfl (refV (zero 0)) (zero_rf _) ?_)
    generalize ((w.alloc (.cells (refV (⟨hh, f, false, true⟩ : S)) RfT)).alloc (.cells (refV (zero 0)) RfT)) = w1 at *
    have c35 : w1.cell? ⟨w.heap.size, 35, none⟩ = some (.bool false) := HS1.out.c35
    have c36 : w1.cell? ⟨w.heap.size, 36, none⟩ = some (.bool true) := HS1.out.c36
    have y35 := HS1.out.r.frozen 35
    have y36 := HS1.out.r.frozen 36
    go_upto_region 2 with fail
    clear c35 c36 y35 y36
    refine wp_region_steady_tail (fun W => RtS w W (⟨hh, f, false, true⟩ : S) (zero 0)) 5 (by kernel_rfl) (by kernel_rfl) HS1.out.drew ?_
    refine steady_val (.agg (refV (⟨hh, f, false, true⟩ : S))) ?_ (by kernel_rfl) (fun W hS => exec_load_row RfT _ rfl w.heap.size rfl RfT _ _ hS.r Tryd.underlying38 rfl (iRf _)) ?_ ?_
    rotate_left 1
    · go_simp
      exact rfl
    refine steady_val (.agg (refV (⟨hh, f, false, true⟩ : S))) ?_ (by kernel_rfl) (fun W hS => exec_load_row RfT _ rfl w.heap.size rfl RfT _ _ hS.r Tryd.underlying38 rfl (iRf _)) ?_ ?_
    rotate_left 1
    · go_simp
      exact rfl
    refine steady_enter (.int .u64 ((⟨hh, f, false, true⟩ : S).f 2816)) 35 #[.agg (refV (⟨hh, f, false, true⟩ : S)), .string ⟨#[109, 99, 121, 99, 108, 101]⟩] ?_ (by kernel_rfl) (fun W hS => ?_) (fun W hS => (HWD.out (⟨hh, f, false, true⟩ : S) ⟨#[109, 99, 121, 99, 108, 101]⟩ 25 (by decide) nc_mcycle W).mono (by rintro e w' ⟨rfl, hb⟩; exact ⟨rfl, hS.low hb⟩)) ?_ ?_
    rotate_left 1
    · go_simp
    · go_simp
      exact rfl
    refine steady_val ?_ ?_ (by kernel_rfl) (fun W hS => ?_) ?_ ?_
    rotate_left 2
    · go_simp
      exact rfl
    · go_simp
      exact rfl
    refine steady_enter (.agg (refV (S.put (⟨hh, f, false, true⟩ : S) 2816 (incr ((⟨hh, f, false, true⟩ : S).f 2816))))) 67 #[.agg (refV (⟨hh, f, false, true⟩ : S)), .string ⟨#[109, 99, 121, 99, 108, 101]⟩, .int .u64 (IntKind.u64.wrap ((⟨hh, f, false, true⟩ : S).f 2816 + 1))] ?_ (by kernel_rfl) (fun W hS => ?_) (fun W hS => (HWT.out (⟨hh, f, false, true⟩ : S) ⟨#[109, 99, 121, 99, 108, 101]⟩ (IntKind.u64.wrap ((⟨hh, f, false, true⟩ : S).f 2816 + 1)) 25 (by decide) nc_mcycle W).mono (by rintro e w' ⟨rfl, hb⟩; exact ⟨rfl, hS.low hb⟩)) ?_ ?_
    rotate_left 1
    · go_simp
    · go_simp
      exact rfl
    refine steady_nil ?_
    intro W2 hS
    have HSZ2 := Lib.hid hS
    clear hS
    simp only [List.drop_succ_cons, List.drop_zero]
    have HS2 := Lib.hid (HSZ2.out.put (S.put (⟨hh, f, false, true⟩ : S) 2816 (incr ((⟨hh, f, false, true⟩ : S).f 2816))))
    go_upto_region 3 with (refine wpList_store_row rfl RfT _ _ rfl w.heap.size (refV ((S.put (⟨hh, f, false, true⟩ : S) 2816 (incr ((⟨hh, f, false, true⟩ : S).f 2816))))) rfl rfl RfT _ HSZ2.out.r (iRf _) (by rw [refV_size, refV_size]) (rfV_one _) ?_)
    generalize W2.setRow w.heap.size (refV (S.put (⟨hh, f, false, true⟩ : S) 2816 (incr ((⟨hh, f, false, true⟩ : S).f 2816)))) = w2 at *
    have c35 : w2.cell? ⟨w.heap.size, 35, none⟩ = some (.bool false) := HS2.out.c35
    have c36 : w2.cell? ⟨w.heap.size, 36, none⟩ = some (.bool true) := HS2.out.c36
    have y35 := HS2.out.r.frozen 35
    have y36 := HS2.out.r.frozen 36
    have HF := Lib.hid ((HS2.out.cw false).iw false)
    go_upto_region 7 with fail
    generalize (w2.setCell ⟨w.heap.size, 35, none⟩ (.bool false)).setCell ⟨w.heap.size, 36, none⟩ (.bool false) = wz at *
    clear c35 c36 y35 y36
    go_wp2_with (first | (refine wpList_load_row rfl RfT _ rfl w.heap.size rfl RfT _ (0, 0) _ HF.out.r Tryd.underlying38 rfl (iRf _) ?_) | (refine wpList_store_row rfl RfT _ _ rfl (w.heap.size + 1) (refV (({ (S.put (⟨hh, f, false, true⟩ : S) 2816 (incr ((⟨hh, f, false, true⟩ : S).f 2816))) with cw := false, iw := false } : S))) rfl rfl RfT _ HF.out.z (iRf _) (by rw [refV_size, refV_size]) (rfV_one _) ?_))
    exact bodyPost_ret (results_cell_row Tryd.results72 _ _ _ _ _ _ _ rfl (HF.out.z.row _) Tryd.underlying38 rfl (iRf _)) rfl ⟨rfl, below_setRow HF.out.bel (by omega) _⟩
  · skip
    go_enter Tryd.func72, Tryd.ntmps72
    go_upto_region 1 with (refine wpList_allocY rfl _ rfl RfT rfl (refV (zero 0)) (zero_rf _) ?_)
    generalize ((w.alloc (.cells (refV (⟨hh, f, true, false⟩ : S)) RfT)).alloc (.cells (refV (zero 0)) RfT)) = w1 at *
    have c35 : w1.cell? ⟨w.heap.size, 35, none⟩ = some (.bool true) := HS1.out.c35
    have c36 : w1.cell? ⟨w.heap.size, 36, none⟩ = some (.bool false) := HS1.out.c36
    have y35 := HS1.out.r.frozen 35
    have y36 := HS1.out.r.frozen 36
    have HF := Lib.hid ((HS1.out.cw false).iw false)
    go_upto_region 7 with fail
    generalize (w1.setCell ⟨w.heap.size, 35, none⟩ (.bool false)).setCell ⟨w.heap.size, 36, none⟩ (.bool false) = wz at *
    clear c35 c36 y35 y36
    go_wp2_with (first | (refine wpList_load_row rfl RfT _ rfl w.heap.size rfl RfT _ (0, 0) _ HF.out.r Tryd.underlying38 rfl (iRf _) ?_) | (refine wpList_store_row rfl RfT _ _ rfl (w.heap.size + 1) (refV (({ (⟨hh, f, true, false⟩ : S) with cw := false, iw := false } : S))) rfl rfl RfT _ HF.out.z (iRf _) (by rw [refV_size, refV_size]) (rfV_one _) ?_))
    exact bodyPost_ret (results_cell_row Tryd.results72 _ _ _ _ _ _ _ rfl (HF.out.z.row _) Tryd.underlying38 rfl (iRf _)) rfl ⟨rfl, below_setRow HF.out.bel (by omega) _⟩
  · skip
    go_enter Tryd.func72, Tryd.ntmps72
    go_upto_region 1 with (refine wpList_allocY rfl _ rfl RfT rfl (refV (zero 0)) (zero_rf _) ?_)
    generalize ((w.alloc (.cells (refV (⟨hh, f, true, false⟩ : S)) RfT)).alloc (.cells (refV (zero 0)) RfT)) = w1 at *
    have c35 : w1.cell? ⟨w.heap.size, 35, none⟩ = some (.bool true) := HS1.out.c35
    have c36 : w1.cell? ⟨w.heap.size, 36, none⟩ = some (.bool false) := HS1.out.c36
    have y35 := HS1.out.r.frozen 35
    have y36 := HS1.out.r.frozen 36
    go_upto_region 4 with fail
    clear c35 c36 y35 y36
    refine wp_region_steady_tail (fun W => RtS w W (⟨hh, f, true, false⟩ : S) (zero 0)) 5 (by kernel_rfl) (by kernel_rfl) HS1.out.drew ?_
    refine steady_val (.agg (refV (⟨hh, f, true, false⟩ : S))) ?_ (by kernel_rfl) (fun W hS => exec_load_row RfT _ rfl w.heap.size rfl RfT _ _ hS.r Tryd.underlying38 rfl (iRf _)) ?_ ?_
    rotate_left 1
    · go_simp
      exact rfl
    refine steady_val (.agg (refV (⟨hh, f, true, false⟩ : S))) ?_ (by kernel_rfl) (fun W hS => exec_load_row RfT _ rfl w.heap.size rfl RfT _ _ hS.r Tryd.underlying38 rfl (iRf _)) ?_ ?_
    rotate_left 1
    · go_simp
      exact rfl
    refine steady_enter (.int .u64 ((⟨hh, f, true, false⟩ : S).f 2818)) 35 #[.agg (refV (⟨hh, f, true, false⟩ : S)), .string ⟨#[109, 105, 110, 115, 116, 114, 101, 116]⟩] ?_ (by kernel_rfl) (fun W hS => ?_) (fun W hS => (HWD.out (⟨hh, f, true, false⟩ : S) ⟨#[109, 105, 110, 115, 116, 114, 101, 116]⟩ 26 (by decide) nc_minstret W).mono (by rintro e w' ⟨rfl, hb⟩; exact ⟨rfl, hS.low hb⟩)) ?_ ?_
    rotate_left 1
    · go_simp
    · go_simp
      exact rfl
    refine steady_val ?_ ?_ (by kernel_rfl) (fun W hS => ?_) ?_ ?_
    rotate_left 2
    · go_simp
      exact rfl
    · go_simp
      exact rfl
    refine steady_enter (.agg (refV (S.put (⟨hh, f, true, false⟩ : S) 2818 (incr ((⟨hh, f, true, false⟩ : S).f 2818))))) 67 #[.agg (refV (⟨hh, f, true, false⟩ : S)), .string ⟨#[109, 105, 110, 115, 116, 114, 101, 116]⟩, .int .u64 (IntKind.u64.wrap ((⟨hh, f, true, false⟩ : S).f 2818 + 1))] ?_ (by kernel_rfl) (fun W hS => ?_) (fun W hS => (HWT.out (⟨hh, f, true, false⟩ : S) ⟨#[109, 105, 110, 115, 116, 114, 101, 116]⟩ (IntKind.u64.wrap ((⟨hh, f, true, false⟩ : S).f 2818 + 1)) 26 (by decide) nc_minstret W).mono (by rintro e w' ⟨rfl, hb⟩; exact ⟨rfl, hS.low hb⟩)) ?_ ?_
    rotate_left 1
    · go_simp
    · go_simp
      exact rfl
    refine steady_nil ?_
    intro W2 hS
    have HSZ2 := Lib.hid hS
    clear hS
    simp only [List.drop_succ_cons, List.drop_zero]
    have HS2 := Lib.hid (HSZ2.out.put (S.put (⟨hh, f, true, false⟩ : S) 2818 (incr ((⟨hh, f, true, false⟩ : S).f 2818))))
    go_upto_region 5 with (refine wpList_store_row rfl RfT _ _ rfl w.heap.size (refV ((S.put (⟨hh, f, true, false⟩ : S) 2818 (incr ((⟨hh, f, true, false⟩ : S).f 2818))))) rfl rfl RfT _ HSZ2.out.r (iRf _) (by rw [refV_size, refV_size]) (rfV_one _) ?_)
    generalize W2.setRow w.heap.size (refV (S.put (⟨hh, f, true, false⟩ : S) 2818 (incr ((⟨hh, f, true, false⟩ : S).f 2818)))) = w2 at *
    have c35 : w2.cell? ⟨w.heap.size, 35, none⟩ = some (.bool true) := HS2.out.c35
    have c36 : w2.cell? ⟨w.heap.size, 36, none⟩ = some (.bool false) := HS2.out.c36
    have y35 := HS2.out.r.frozen 35
    have y36 := HS2.out.r.frozen 36
    have HF := Lib.hid ((HS2.out.cw false).iw false)
    go_upto_region 7 with fail
    generalize (w2.setCell ⟨w.heap.size, 35, none⟩ (.bool false)).setCell ⟨w.heap.size, 36, none⟩ (.bool false) = wz at *
    clear c35 c36 y35 y36
    go_wp2_with (first | (refine wpList_load_row rfl RfT _ rfl w.heap.size rfl RfT _ (0, 0) _ HF.out.r Tryd.underlying38 rfl (iRf _) ?_) | (refine wpList_store_row rfl RfT _ _ rfl (w.heap.size + 1) (refV (({ (S.put (⟨hh, f, true, false⟩ : S) 2818 (incr ((⟨hh, f, true, false⟩ : S).f 2818))) with cw := false, iw := false } : S))) rfl rfl RfT _ HF.out.z (iRf _) (by rw [refV_size, refV_size]) (rfV_one _) ?_))
    exact bodyPost_ret (results_cell_row Tryd.results72 _ _ _ _ _ _ _ rfl (HF.out.z.row _) Tryd.underlying38 rfl (iRf _)) rfl ⟨rfl, below_setRow HF.out.bel (by omega) _⟩
  · skip
    go_enter Tryd.func72, Tryd.ntmps72
    go_upto_region 1 with (refine wpList_allocY rfl _ rfl RfT rfl (refV (zero 0)) (zero_rf _) ?_)
    generalize ((w.alloc (.cells (refV (⟨hh, f, true, true⟩ : S)) RfT)).alloc (.cells (refV (zero 0)) RfT)) = w1 at *
    have c35 : w1.cell? ⟨w.heap.size, 35, none⟩ = some (.bool true) := HS1.out.c35
    have c36 : w1.cell? ⟨w.heap.size, 36, none⟩ = some (.bool true) := HS1.out.c36
    have y35 := HS1.out.r.frozen 35
    have y36 := HS1.out.r.frozen 36
    have HF := Lib.hid ((HS1.out.cw false).iw false)
    go_upto_region 7 with fail
    generalize (w1.setCell ⟨w.heap.size, 35, none⟩ (.bool false)).setCell ⟨w.heap.size, 36, none⟩ (.bool false) = wz at *
    clear c35 c36 y35 y36
    go_wp2_with (first | (refine wpList_load_row rfl RfT _ rfl w.heap.size rfl RfT _ (0, 0) _ HF.out.r Tryd.underlying38 rfl (iRf _) ?_) | (refine wpList_store_row rfl RfT _ _ rfl (w.heap.size + 1) (refV (({ (⟨hh, f, true, true⟩ : S) with cw := false, iw := false } : S))) rfl rfl RfT _ HF.out.z (iRf _) (by rw [refV_size, refV_size]) (rfV_one _) ?_))
    exact bodyPost_ret (results_cell_row Tryd.results72 _ _ _ _ _ _ _ rfl (HF.out.z.row _) Tryd.underlying38 rfl (iRf _)) rfl ⟨rfl, below_setRow HF.out.bel (by omega) _⟩
  · skip
    go_enter Tryd.func72, Tryd.ntmps72
    go_upto_region 1 with (refine wpList_allocY rfl _ rfl RfT rfl (refV (zero 0)) (zero_rf _) ?_)
    generalize ((w.alloc (.cells (refV (⟨hh, f, true, true⟩ : S)) RfT)).alloc (.cells (refV (zero 0)) RfT)) = w1 at *
    have c35 : w1.cell? ⟨w.heap.size, 35, none⟩ = some (.bool true) := HS1.out.c35
    have c36 : w1.cell? ⟨w.heap.size, 36, none⟩ = some (.bool true) := HS1.out.c36
    have y35 := HS1.out.r.frozen 35
    have y36 := HS1.out.r.frozen 36
    have HF := Lib.hid ((HS1.out.cw false).iw false)
    go_upto_region 7 with fail
    generalize (w1.setCell ⟨w.heap.size, 35, none⟩ (.bool false)).setCell ⟨w.heap.size, 36, none⟩ (.bool false) = wz at *
    clear c35 c36 y35 y36
    go_wp2_with (first | (refine wpList_load_row rfl RfT _ rfl w.heap.size rfl RfT _ (0, 0) _ HF.out.r Tryd.underlying38 rfl (iRf _) ?_) | (refine wpList_store_row rfl RfT _ _ rfl (w.heap.size + 1) (refV (({ (⟨hh, f, true, true⟩ : S) with cw := false, iw := false } : S))) rfl rfl RfT _ HF.out.z (iRf _) (by rw [refV_size, refV_size]) (rfV_one _) ?_))
    exact bodyPost_ret (results_cell_row Tryd.results72 _ _ _ _ _ _ _ rfl (HF.out.z.row _) Tryd.underlying38 rfl (iRf _)) rfl ⟨rfl, below_setRow HF.out.bel (by omega) _⟩
set_option maxHeartbeats 8000000 in
theorem rdo22_c (s : S) (ok : Ok s) (op n rs1 v l : Int) (hv : W64 v) (hl : W64 l) (w : World) :
    Calls Tryd.prog 69 #[.agg (refV s), .int .i64 op, .int .i64 n, .int .i64 rs1, .int .u64 v, .int .u64 l] w fun e w' => e = .returned (.tuple #[.agg (refV (doS s op n rs1 v)), .int .u64 (doV s op n l)]) ∧ Below w.heap.size w w' := by
  have HS1 := Lib.hid (RtS.new w s)
  have HC := Lib.hid (fun W => refClass_c op W)
  have HG := Lib.hid (fun W => rget22_c s ok n l hl W)
  have HG0 := Lib.hid (fun W => rget22_c s ok n 0 ⟨by omega, by omega⟩ W)
  have HST := Lib.hid (fun x hx W => rset22_c s ok n x hx W)
  have HW := Lib.hid (fun W => rwrites22_c op rs1 W)
  have HBX := Lib.hid (get_64 ok n (l := 0) ⟨by omega, by omega⟩)
  have HVV := Lib.hid hv
  by_cases hc : classS op = 8
  · have HU := Lib.hid (show doS s op n rs1 v = if wrS op rs1 then setS s n (wtS op (getS s n 0) v) else s by unfold doS; rw [show (classS op == 8) = true by rw [hc]; rfl]; rfl)
    have HV := Lib.hid (show doV s op n l = getS s n l by unfold doV; rw [show (classS op == 8) = true by rw [hc]; rfl]; rfl)
    rw [hc] at HC
    generalize hxl : getS s n l = xl at *
    generalize hx0 : getS s n 0 = x0 at *
    clear hl hxl hx0 ok hv
    cases hw : wrS op rs1
    · rw [hw] at HU HW
      clear hw
      go_enter Tryd.func69, Tryd.ntmps69
      go_upto_region 1 with (refine wpList_allocY rfl _ rfl RfT rfl (refV (zero 0)) (zero_rf _) ?_)
      generalize ((w.alloc (.cells (refV s) RfT)).alloc (.cells (refV (zero 0)) RfT)) = w1 at *
      go_wp2_with fail
      refine (HC.out _).mono ?_
      rintro e w2 ⟨rfl, hb⟩
      have HS2 := Lib.hid (HS1.out.low hb)
      clear hb
      go_wp2_with (refine wpList_load_row rfl RfT _ rfl w.heap.size rfl RfT _ (0, 0) _ HS2.out.r Tryd.underlying38 rfl (iRf _) ?_)
      refine (HG.out _).mono ?_
      rintro e w3 ⟨rfl, hb⟩
      have HS3 := Lib.hid (HS2.out.low hb)
      clear hb
      go_wp2_with (refine wpList_load_row rfl RfT _ rfl w.heap.size rfl RfT _ (0, 0) _ HS3.out.r Tryd.underlying38 rfl (iRf _) ?_)
      refine (HW.out _).mono ?_
      rintro e w4 ⟨rfl, hb⟩
      have HS4 := Lib.hid (HS3.out.low hb)
      clear hb
      go_wp2_with (first | (refine wpList_load_row rfl RfT _ rfl w.heap.size rfl RfT _ (0, 0) _ HS4.out.r Tryd.underlying38 rfl (iRf _) ?_) | (refine wpList_store_row rfl RfT _ _ rfl (w.heap.size + 1) (refV (s)) rfl rfl RfT _ HS4.out.z (iRf _) (by rw [refV_size, refV_size]) (rfV_one _) ?_))
      exact bodyPost_ret (results_cbF RfT Tryd.results69 _ _ (w.heap.size + 1) _ _ rfl rfl (run_loadVar_row _ _ RfT RfT _ (0, 0) _ (HS4.out.z.row _) Tryd.underlying38 rfl (iRf _))) rfl ⟨by rw [HU.out, HV.out]; rfl, below_setRow HS4.out.bel (by omega) _⟩
    · rw [hw] at HU HW
      clear hw
      rcases class8 hc with rfl | rfl | rfl | rfl | rfl | rfl
      · skip
        have hwt : wtS 89 x0 v = v := by unfold wtS; simp
        rw [hwt] at HU
        have HSET := Lib.hid (fun W => HST.out (v) HVV.out W)
        clear hc hwt
        go_enter Tryd.func69, Tryd.ntmps69
        go_upto_region 1 with (refine wpList_allocY rfl _ rfl RfT rfl (refV (zero 0)) (zero_rf _) ?_)
        generalize ((w.alloc (.cells (refV s) RfT)).alloc (.cells (refV (zero 0)) RfT)) = w1 at *
        go_wp2_with fail
        refine (HC.out _).mono ?_
        rintro e w2 ⟨rfl, hb⟩
        have HS2 := Lib.hid (HS1.out.low hb)
        clear hb
        go_wp2_with (refine wpList_load_row rfl RfT _ rfl w.heap.size rfl RfT _ (0, 0) _ HS2.out.r Tryd.underlying38 rfl (iRf _) ?_)
        refine (HG.out _).mono ?_
        rintro e w3 ⟨rfl, hb⟩
        have HS3 := Lib.hid (HS2.out.low hb)
        clear hb
        go_wp2_with (refine wpList_load_row rfl RfT _ rfl w.heap.size rfl RfT _ (0, 0) _ HS3.out.r Tryd.underlying38 rfl (iRf _) ?_)
        refine (HW.out _).mono ?_
        rintro e w4 ⟨rfl, hb⟩
        have HS4 := Lib.hid (HS3.out.low hb)
        clear hb
        go_wp2_with (refine wpList_load_row rfl RfT _ rfl w.heap.size rfl RfT _ (0, 0) _ HS4.out.r Tryd.underlying38 rfl (iRf _) ?_)
        refine (HG0.out _).mono ?_
        rintro e w5 ⟨rfl, hb⟩
        have HS5 := Lib.hid (HS4.out.low hb)
        clear hb
        go_wp2_with fail
        refine (refNames4_c _).mono ?_
        rintro e w6 ⟨rfl, rfl⟩
        have c : _ = some (Value.string ⟨#[99, 115, 114, 114, 119]⟩) := names4_cell w5 89 (by omega)
        have HS6 := Lib.hid (HS5.out.low ((Below.refl w5.heap.size w5).alloc (Nat.le_refl _) (.cells (Tab.names4.map strV).toArray 9)))
        generalize (w5.alloc (.cells (Tab.names4.map strV).toArray 9)) = w6 at *
        go_wp2_with (refine wpList_load_row rfl RfT _ rfl w.heap.size rfl RfT _ (0, 0) _ HS6.out.r Tryd.underlying38 rfl (iRf _) ?_)
        refine (HSET.out _).mono ?_
        rintro e w7 ⟨rfl, hb⟩
        have HS7 := Lib.hid (HS6.out.low hb)
        clear hb
        go_wp2_with (refine wpList_store_row rfl RfT _ _ rfl (w.heap.size + 1) (refV (setS s n (v))) rfl rfl RfT _ HS7.out.z (iRf _) (by rw [refV_size, refV_size]) (rfV_one _) ?_)
        exact bodyPost_ret (results_cbF RfT Tryd.results69 _ _ (w.heap.size + 1) _ _ rfl rfl (run_loadVar_row _ _ RfT RfT _ (0, 0) _ (HS7.out.z.row _) Tryd.underlying38 rfl (iRf _))) rfl ⟨by rw [HU.out, HV.out]; rfl, below_setRow HS7.out.bel (by omega) _⟩
      · skip
        have hwt : wtS 90 x0 v = bits .or .u64 x0 v := by unfold wtS; simp
        rw [hwt] at HU
        have HSET := Lib.hid (fun W => HST.out (bits .or .u64 x0 v) (or_range HBX.out.1 HBX.out.2 HVV.out.1 HVV.out.2) W)
        clear hc hwt
        go_enter Tryd.func69, Tryd.ntmps69
        go_upto_region 1 with (refine wpList_allocY rfl _ rfl RfT rfl (refV (zero 0)) (zero_rf _) ?_)
        generalize ((w.alloc (.cells (refV s) RfT)).alloc (.cells (refV (zero 0)) RfT)) = w1 at *
        go_wp2_with fail
        refine (HC.out _).mono ?_
        rintro e w2 ⟨rfl, hb⟩
        have HS2 := Lib.hid (HS1.out.low hb)
        clear hb
        go_wp2_with (refine wpList_load_row rfl RfT _ rfl w.heap.size rfl RfT _ (0, 0) _ HS2.out.r Tryd.underlying38 rfl (iRf _) ?_)
        refine (HG.out _).mono ?_
        rintro e w3 ⟨rfl, hb⟩
        have HS3 := Lib.hid (HS2.out.low hb)
        clear hb
        go_wp2_with (refine wpList_load_row rfl RfT _ rfl w.heap.size rfl RfT _ (0, 0) _ HS3.out.r Tryd.underlying38 rfl (iRf _) ?_)
        refine (HW.out _).mono ?_
        rintro e w4 ⟨rfl, hb⟩
        have HS4 := Lib.hid (HS3.out.low hb)
        clear hb
        go_wp2_with (refine wpList_load_row rfl RfT _ rfl w.heap.size rfl RfT _ (0, 0) _ HS4.out.r Tryd.underlying38 rfl (iRf _) ?_)
        refine (HG0.out _).mono ?_
        rintro e w5 ⟨rfl, hb⟩
        have HS5 := Lib.hid (HS4.out.low hb)
        clear hb
        go_wp2_with fail
        refine (refNames4_c _).mono ?_
        rintro e w6 ⟨rfl, rfl⟩
        have c : _ = some (Value.string ⟨#[99, 115, 114, 114, 115]⟩) := names4_cell w5 90 (by omega)
        have HS6 := Lib.hid (HS5.out.low ((Below.refl w5.heap.size w5).alloc (Nat.le_refl _) (.cells (Tab.names4.map strV).toArray 9)))
        generalize (w5.alloc (.cells (Tab.names4.map strV).toArray 9)) = w6 at *
        go_upto_region 10 with fail
        have hs0 := HS6.out.drew
        refine wp_region_noPanic ?_
        refine wp_region_held (S := fun V => CsAt V w.heap.size RfT (refV s)) (by kernel_rfl) ?_
        refine takeH (fuel := 8) (i := 0) (.agg (refV s)) ?_ rfl (by kernel_rfl) (by kernel_rfl) (by kernel_rfl) (fun _ _ _ h => h) (by kernel_rfl) (fun W hS => exec_load_row RfT _ rfl w.heap.size rfl RfT _ _ hS Tryd.underlying38 rfl (iRf _)) hs0.r ?_ ?_
        rotate_left 1
        · go_simp
          exact rfl
        refine takeH (fuel := 7) (i := 1) (.int .i64 n) ?_ rfl (by kernel_rfl) (by kernel_rfl) (by kernel_rfl) (fun _ _ _ h => h) (by kernel_rfl) (fun W hS => by go_simp) hs0.r ?_ ?_
        rotate_left 1
        · go_simp
          exact rfl
        refine takeH (fuel := 6) (i := 2) (.int .u64 x0) ?_ rfl (by kernel_rfl) (by kernel_rfl) (by kernel_rfl) (fun _ _ _ h => h) (by kernel_rfl) (fun W hS => by go_simp) hs0.r ?_ ?_
        rotate_left 1
        · go_simp
          exact rfl
        refine takeH (fuel := 5) (i := 3) (.int .u64 v) ?_ rfl (by kernel_rfl) (by kernel_rfl) (by kernel_rfl) (fun _ _ _ h => h) (by kernel_rfl) (fun W hS => by go_simp) hs0.r ?_ ?_
        rotate_left 1
        · go_simp
          exact rfl
        refine takeH (fuel := 4) (i := 6) (.int .u64 xl) ?_ rfl (by kernel_rfl) (by kernel_rfl) (by kernel_rfl) (fun _ _ _ h => h) (by kernel_rfl) (fun W hS => by go_simp) hs0.r ?_ ?_
        rotate_left 1
        · go_simp
          exact rfl
        refine wpAnyH_all (fuel := 3) (rs := [4]) (by kernel_rfl) (by decide) ?_
        intro i hi
        obtain rfl : i = 4 := by simpa using hi
        refine wpOp_callX 80 #[.int .u64 x0, .int .u64 v] rfl (by kernel_rfl) (by go_simp) ?_
        refine (ror_c x0 v HBX.out HVV.out _).mono ?_
        rintro e w7 ⟨rfl, hb⟩
        have hs1 := hs0.low hb
        clear hb
        refine ⟨_, rfl, hs1.r, ?_⟩
        refine wpAnyH_all (fuel := 2) (rs := [5]) (by kernel_rfl) (by decide) ?_
        intro i hi
        obtain rfl : i = 5 := by simpa using hi
        refine wpOp_callX 68 #[.agg (refV s), .int .i64 n, .int .u64 (bits .or .u64 x0 v)] rfl (by kernel_rfl) (by go_simp) ?_
        refine (HSET.out _).mono ?_
        rintro e w8 ⟨rfl, hb⟩
        have hs2 := hs1.low hb
        clear hb
        refine ⟨_, rfl, hs2.r, ?_⟩
        refine wpAnyH_all (fuel := 1) (rs := [7]) (by kernel_rfl) (by decide) ?_
        intro i hi
        obtain rfl : i = 7 := by simpa using hi
        refine wpOp_unitB (w8.setRow (w.heap.size + 1) (refV (setS s n (bits .or .u64 x0 v)))) _ rfl (by kernel_rfl) (exec_store_row RfT _ _ rfl (w.heap.size + 1) (refV (setS s n (bits .or .u64 x0 v))) rfl rfl RfT _ hs2.z (iRf _) (by rw [refV_size, refV_size]) (rfV_one _)) rfl ?_
        have hs3 : CsAt (w8.setRow (w.heap.size + 1) (refV (setS s n (bits .or .u64 x0 v)))) w.heap.size RfT (refV s) := hs2.r.rowFar (by omega) _
        refine ⟨hs3, ?_⟩
        refine takeH (fuel := 0) (i := 8) (.int .u64 xl) ?_ rfl (by kernel_rfl) (by kernel_rfl) (by kernel_rfl) (fun _ _ _ h => h) (by kernel_rfl) (fun W hS => by go_simp) hs3 ?_ ?_
        rotate_left 1
        · go_simp
          exact rfl
        refine wpAnyH_done (by kernel_rfl) ?_ _
        refine NoPanic.normal ?_
        have HSZ := Lib.hid hs2
        clear hs0 hs1 hs2 hs3
        go_wp2_with fail
        exact bodyPost_ret (results_cbF RfT Tryd.results69 _ _ (w.heap.size + 1) _ _ rfl rfl (run_loadVar_row _ _ RfT RfT _ (0, 0) _ (HSZ.out.z.row _) Tryd.underlying38 rfl (iRf _))) rfl ⟨by rw [HU.out, HV.out]; rfl, below_setRow HSZ.out.bel (by omega) _⟩
      · skip
        have hwt : wtS 91 x0 v = bits .andNot .u64 x0 v := by unfold wtS; simp
        rw [hwt] at HU
        have HSET := Lib.hid (fun W => HST.out (bits .andNot .u64 x0 v) (andNot_range HBX.out.1 HBX.out.2 HVV.out.1 HVV.out.2) W)
        have hsub : IntKind.u64.wrap (x0 - bits .and .u64 x0 v) = bits .andNot .u64 x0 v := by
          have h1 := not_and HBX.out HVV.out
          have h2 := andNot_range HBX.out.1 HBX.out.2 HVV.out.1 HVV.out.2
          rw [IntKind.wrap_u64]
          omega
        clear hc hwt
        go_enter Tryd.func69, Tryd.ntmps69
        go_upto_region 1 with (refine wpList_allocY rfl _ rfl RfT rfl (refV (zero 0)) (zero_rf _) ?_)
        generalize ((w.alloc (.cells (refV s) RfT)).alloc (.cells (refV (zero 0)) RfT)) = w1 at *
        go_wp2_with fail
        refine (HC.out _).mono ?_
        rintro e w2 ⟨rfl, hb⟩
        have HS2 := Lib.hid (HS1.out.low hb)
        clear hb
        go_wp2_with (refine wpList_load_row rfl RfT _ rfl w.heap.size rfl RfT _ (0, 0) _ HS2.out.r Tryd.underlying38 rfl (iRf _) ?_)
        refine (HG.out _).mono ?_
        rintro e w3 ⟨rfl, hb⟩
        have HS3 := Lib.hid (HS2.out.low hb)
        clear hb
        go_wp2_with (refine wpList_load_row rfl RfT _ rfl w.heap.size rfl RfT _ (0, 0) _ HS3.out.r Tryd.underlying38 rfl (iRf _) ?_)
        refine (HW.out _).mono ?_
        rintro e w4 ⟨rfl, hb⟩
        have HS4 := Lib.hid (HS3.out.low hb)
        clear hb
        go_wp2_with (refine wpList_load_row rfl RfT _ rfl w.heap.size rfl RfT _ (0, 0) _ HS4.out.r Tryd.underlying38 rfl (iRf _) ?_)
        refine (HG0.out _).mono ?_
        rintro e w5 ⟨rfl, hb⟩
        have HS5 := Lib.hid (HS4.out.low hb)
        clear hb
        go_wp2_with fail
        refine (refNames4_c _).mono ?_
        rintro e w6 ⟨rfl, rfl⟩
        have c : _ = some (Value.string ⟨#[99, 115, 114, 114, 99]⟩) := names4_cell w5 91 (by omega)
        have HS6 := Lib.hid (HS5.out.low ((Below.refl w5.heap.size w5).alloc (Nat.le_refl _) (.cells (Tab.names4.map strV).toArray 9)))
        generalize (w5.alloc (.cells (Tab.names4.map strV).toArray 9)) = w6 at *
        go_upto_region 13 with fail
        have hs0 := HS6.out.drew
        refine wp_region_noPanic ?_
        refine wp_region_held (S := fun V => CsAt V w.heap.size RfT (refV s)) (by kernel_rfl) ?_
        refine takeH (fuel := 10) (i := 0) (.agg (refV s)) ?_ rfl (by kernel_rfl) (by kernel_rfl) (by kernel_rfl) (fun _ _ _ h => h) (by kernel_rfl) (fun W hS => exec_load_row RfT _ rfl w.heap.size rfl RfT _ _ hS Tryd.underlying38 rfl (iRf _)) hs0.r ?_ ?_
        rotate_left 1
        · go_simp
          exact rfl
        refine takeH (fuel := 9) (i := 1) (.int .i64 n) ?_ rfl (by kernel_rfl) (by kernel_rfl) (by kernel_rfl) (fun _ _ _ h => h) (by kernel_rfl) (fun W hS => by go_simp) hs0.r ?_ ?_
        rotate_left 1
        · go_simp
          exact rfl
        refine takeH (fuel := 8) (i := 2) (.int .u64 x0) ?_ rfl (by kernel_rfl) (by kernel_rfl) (by kernel_rfl) (fun _ _ _ h => h) (by kernel_rfl) (fun W hS => by go_simp) hs0.r ?_ ?_
        rotate_left 1
        · go_simp
          exact rfl
        refine takeH (fuel := 7) (i := 3) (.int .u64 x0) ?_ rfl (by kernel_rfl) (by kernel_rfl) (by kernel_rfl) (fun _ _ _ h => h) (by kernel_rfl) (fun W hS => by go_simp) hs0.r ?_ ?_
        rotate_left 1
        · go_simp
          exact rfl
        refine takeH (fuel := 6) (i := 4) (.int .u64 v) ?_ rfl (by kernel_rfl) (by kernel_rfl) (by kernel_rfl) (fun _ _ _ h => h) (by kernel_rfl) (fun W hS => by go_simp) hs0.r ?_ ?_
        rotate_left 1
        · go_simp
          exact rfl
        refine takeH (fuel := 5) (i := 8) (.int .u64 xl) ?_ rfl (by kernel_rfl) (by kernel_rfl) (by kernel_rfl) (fun _ _ _ h => h) (by kernel_rfl) (fun W hS => by go_simp) hs0.r ?_ ?_
        rotate_left 1
        · go_simp
          exact rfl
        refine wpAnyH_all (fuel := 4) (rs := [5]) (by kernel_rfl) (by decide) ?_
        intro i hi
        obtain rfl : i = 5 := by simpa using hi
        refine wpOp_callX 81 #[.int .u64 x0, .int .u64 v] rfl (by kernel_rfl) (by go_simp) ?_
        refine (rand_c x0 v HBX.out HVV.out _).mono ?_
        rintro e w7 ⟨rfl, hb⟩
        have hs1 := hs0.low hb
        clear hb
        refine ⟨_, rfl, hs1.r, ?_⟩
        refine takeH (fuel := 3) (i := 6) (.int .u64 (bits .andNot .u64 x0 v)) ?_ rfl (by kernel_rfl) (by kernel_rfl) (by kernel_rfl) (fun _ _ _ h => h) (by kernel_rfl) (fun W hS => by go_simp) hs1.r ?_ ?_
        rotate_left 1
        · go_simp
          exact rfl
        refine wpAnyH_all (fuel := 2) (rs := [7]) (by kernel_rfl) (by decide) ?_
        intro i hi
        obtain rfl : i = 7 := by simpa using hi
        refine wpOp_callX 68 #[.agg (refV s), .int .i64 n, .int .u64 (bits .andNot .u64 x0 v)] rfl (by kernel_rfl) (by go_simp) ?_
        refine (HSET.out _).mono ?_
        rintro e w8 ⟨rfl, hb⟩
        have hs2 := hs1.low hb
        clear hb
        refine ⟨_, rfl, hs2.r, ?_⟩
        refine wpAnyH_all (fuel := 1) (rs := [9]) (by kernel_rfl) (by decide) ?_
        intro i hi
        obtain rfl : i = 9 := by simpa using hi
        refine wpOp_unitB (w8.setRow (w.heap.size + 1) (refV (setS s n (bits .andNot .u64 x0 v)))) _ rfl (by kernel_rfl) (exec_store_row RfT _ _ rfl (w.heap.size + 1) (refV (setS s n (bits .andNot .u64 x0 v))) rfl rfl RfT _ hs2.z (iRf _) (by rw [refV_size, refV_size]) (rfV_one _)) rfl ?_
        have hs3 : CsAt (w8.setRow (w.heap.size + 1) (refV (setS s n (bits .andNot .u64 x0 v)))) w.heap.size RfT (refV s) := hs2.r.rowFar (by omega) _
        refine ⟨hs3, ?_⟩
        refine takeH (fuel := 0) (i := 10) (.int .u64 xl) ?_ rfl (by kernel_rfl) (by kernel_rfl) (by kernel_rfl) (fun _ _ _ h => h) (by kernel_rfl) (fun W hS => by go_simp) hs3 ?_ ?_
        rotate_left 1
        · go_simp
          exact rfl
        refine wpAnyH_done (by kernel_rfl) ?_ _
        refine NoPanic.normal ?_
        have HSZ := Lib.hid hs2
        clear hs0 hs1 hs2 hs3
        go_wp2_with fail
        exact bodyPost_ret (results_cbF RfT Tryd.results69 _ _ (w.heap.size + 1) _ _ rfl rfl (run_loadVar_row _ _ RfT RfT _ (0, 0) _ (HSZ.out.z.row _) Tryd.underlying38 rfl (iRf _))) rfl ⟨by rw [HU.out, HV.out]; rfl, below_setRow HSZ.out.bel (by omega) _⟩
      · skip
        have hwt : wtS 92 x0 v = v := by unfold wtS; simp
        rw [hwt] at HU
        have HSET := Lib.hid (fun W => HST.out (v) HVV.out W)
        clear hc hwt
        go_enter Tryd.func69, Tryd.ntmps69
        go_upto_region 1 with (refine wpList_allocY rfl _ rfl RfT rfl (refV (zero 0)) (zero_rf _) ?_)
        generalize ((w.alloc (.cells (refV s) RfT)).alloc (.cells (refV (zero 0)) RfT)) = w1 at *
        go_wp2_with fail
        refine (HC.out _).mono ?_
        rintro e w2 ⟨rfl, hb⟩
        have HS2 := Lib.hid (HS1.out.low hb)
        clear hb
        go_wp2_with (refine wpList_load_row rfl RfT _ rfl w.heap.size rfl RfT _ (0, 0) _ HS2.out.r Tryd.underlying38 rfl (iRf _) ?_)
        refine (HG.out _).mono ?_
        rintro e w3 ⟨rfl, hb⟩
        have HS3 := Lib.hid (HS2.out.low hb)
        clear hb
        go_wp2_with (refine wpList_load_row rfl RfT _ rfl w.heap.size rfl RfT _ (0, 0) _ HS3.out.r Tryd.underlying38 rfl (iRf _) ?_)
        refine (HW.out _).mono ?_
        rintro e w4 ⟨rfl, hb⟩
        have HS4 := Lib.hid (HS3.out.low hb)
        clear hb
        go_wp2_with (refine wpList_load_row rfl RfT _ rfl w.heap.size rfl RfT _ (0, 0) _ HS4.out.r Tryd.underlying38 rfl (iRf _) ?_)
        refine (HG0.out _).mono ?_
        rintro e w5 ⟨rfl, hb⟩
        have HS5 := Lib.hid (HS4.out.low hb)
        clear hb
        go_wp2_with fail
        refine (refNames4_c _).mono ?_
        rintro e w6 ⟨rfl, rfl⟩
        have c : _ = some (Value.string ⟨#[99, 115, 114, 114, 119, 105]⟩) := names4_cell w5 92 (by omega)
        have HS6 := Lib.hid (HS5.out.low ((Below.refl w5.heap.size w5).alloc (Nat.le_refl _) (.cells (Tab.names4.map strV).toArray 9)))
        generalize (w5.alloc (.cells (Tab.names4.map strV).toArray 9)) = w6 at *
        go_wp2_with (refine wpList_load_row rfl RfT _ rfl w.heap.size rfl RfT _ (0, 0) _ HS6.out.r Tryd.underlying38 rfl (iRf _) ?_)
        refine (HSET.out _).mono ?_
        rintro e w7 ⟨rfl, hb⟩
        have HS7 := Lib.hid (HS6.out.low hb)
        clear hb
        go_wp2_with (refine wpList_store_row rfl RfT _ _ rfl (w.heap.size + 1) (refV (setS s n (v))) rfl rfl RfT _ HS7.out.z (iRf _) (by rw [refV_size, refV_size]) (rfV_one _) ?_)
        exact bodyPost_ret (results_cbF RfT Tryd.results69 _ _ (w.heap.size + 1) _ _ rfl rfl (run_loadVar_row _ _ RfT RfT _ (0, 0) _ (HS7.out.z.row _) Tryd.underlying38 rfl (iRf _))) rfl ⟨by rw [HU.out, HV.out]; rfl, below_setRow HS7.out.bel (by omega) _⟩
      · skip
        have hwt : wtS 93 x0 v = bits .or .u64 x0 v := by unfold wtS; simp
        rw [hwt] at HU
        have HSET := Lib.hid (fun W => HST.out (bits .or .u64 x0 v) (or_range HBX.out.1 HBX.out.2 HVV.out.1 HVV.out.2) W)
        clear hc hwt
        go_enter Tryd.func69, Tryd.ntmps69
        go_upto_region 1 with (refine wpList_allocY rfl _ rfl RfT rfl (refV (zero 0)) (zero_rf _) ?_)
        generalize ((w.alloc (.cells (refV s) RfT)).alloc (.cells (refV (zero 0)) RfT)) = w1 at *
        go_wp2_with fail
        refine (HC.out _).mono ?_
        rintro e w2 ⟨rfl, hb⟩
        have HS2 := Lib.hid (HS1.out.low hb)
        clear hb
        go_wp2_with (refine wpList_load_row rfl RfT _ rfl w.heap.size rfl RfT _ (0, 0) _ HS2.out.r Tryd.underlying38 rfl (iRf _) ?_)
        refine (HG.out _).mono ?_
        rintro e w3 ⟨rfl, hb⟩
        have HS3 := Lib.hid (HS2.out.low hb)
        clear hb
        go_wp2_with (refine wpList_load_row rfl RfT _ rfl w.heap.size rfl RfT _ (0, 0) _ HS3.out.r Tryd.underlying38 rfl (iRf _) ?_)
        refine (HW.out _).mono ?_
        rintro e w4 ⟨rfl, hb⟩
        have HS4 := Lib.hid (HS3.out.low hb)
        clear hb
        go_wp2_with (refine wpList_load_row rfl RfT _ rfl w.heap.size rfl RfT _ (0, 0) _ HS4.out.r Tryd.underlying38 rfl (iRf _) ?_)
        refine (HG0.out _).mono ?_
        rintro e w5 ⟨rfl, hb⟩
        have HS5 := Lib.hid (HS4.out.low hb)
        clear hb
        go_wp2_with fail
        refine (refNames4_c _).mono ?_
        rintro e w6 ⟨rfl, rfl⟩
        have c : _ = some (Value.string ⟨#[99, 115, 114, 114, 115, 105]⟩) := names4_cell w5 93 (by omega)
        have HS6 := Lib.hid (HS5.out.low ((Below.refl w5.heap.size w5).alloc (Nat.le_refl _) (.cells (Tab.names4.map strV).toArray 9)))
        generalize (w5.alloc (.cells (Tab.names4.map strV).toArray 9)) = w6 at *
        go_upto_region 10 with fail
        have hs0 := HS6.out.drew
        refine wp_region_noPanic ?_
        refine wp_region_held (S := fun V => CsAt V w.heap.size RfT (refV s)) (by kernel_rfl) ?_
        refine takeH (fuel := 8) (i := 0) (.agg (refV s)) ?_ rfl (by kernel_rfl) (by kernel_rfl) (by kernel_rfl) (fun _ _ _ h => h) (by kernel_rfl) (fun W hS => exec_load_row RfT _ rfl w.heap.size rfl RfT _ _ hS Tryd.underlying38 rfl (iRf _)) hs0.r ?_ ?_
        rotate_left 1
        · go_simp
          exact rfl
        refine takeH (fuel := 7) (i := 1) (.int .i64 n) ?_ rfl (by kernel_rfl) (by kernel_rfl) (by kernel_rfl) (fun _ _ _ h => h) (by kernel_rfl) (fun W hS => by go_simp) hs0.r ?_ ?_
        rotate_left 1
        · go_simp
          exact rfl
        refine takeH (fuel := 6) (i := 2) (.int .u64 x0) ?_ rfl (by kernel_rfl) (by kernel_rfl) (by kernel_rfl) (fun _ _ _ h => h) (by kernel_rfl) (fun W hS => by go_simp) hs0.r ?_ ?_
        rotate_left 1
        · go_simp
          exact rfl
        refine takeH (fuel := 5) (i := 3) (.int .u64 v) ?_ rfl (by kernel_rfl) (by kernel_rfl) (by kernel_rfl) (fun _ _ _ h => h) (by kernel_rfl) (fun W hS => by go_simp) hs0.r ?_ ?_
        rotate_left 1
        · go_simp
          exact rfl
        refine takeH (fuel := 4) (i := 6) (.int .u64 xl) ?_ rfl (by kernel_rfl) (by kernel_rfl) (by kernel_rfl) (fun _ _ _ h => h) (by kernel_rfl) (fun W hS => by go_simp) hs0.r ?_ ?_
        rotate_left 1
        · go_simp
          exact rfl
        refine wpAnyH_all (fuel := 3) (rs := [4]) (by kernel_rfl) (by decide) ?_
        intro i hi
        obtain rfl : i = 4 := by simpa using hi
        refine wpOp_callX 80 #[.int .u64 x0, .int .u64 v] rfl (by kernel_rfl) (by go_simp) ?_
        refine (ror_c x0 v HBX.out HVV.out _).mono ?_
        rintro e w7 ⟨rfl, hb⟩
        have hs1 := hs0.low hb
        clear hb
        refine ⟨_, rfl, hs1.r, ?_⟩
        refine wpAnyH_all (fuel := 2) (rs := [5]) (by kernel_rfl) (by decide) ?_
        intro i hi
        obtain rfl : i = 5 := by simpa using hi
        refine wpOp_callX 68 #[.agg (refV s), .int .i64 n, .int .u64 (bits .or .u64 x0 v)] rfl (by kernel_rfl) (by go_simp) ?_
        refine (HSET.out _).mono ?_
        rintro e w8 ⟨rfl, hb⟩
        have hs2 := hs1.low hb
        clear hb
        refine ⟨_, rfl, hs2.r, ?_⟩
        refine wpAnyH_all (fuel := 1) (rs := [7]) (by kernel_rfl) (by decide) ?_
        intro i hi
        obtain rfl : i = 7 := by simpa using hi
        refine wpOp_unitB (w8.setRow (w.heap.size + 1) (refV (setS s n (bits .or .u64 x0 v)))) _ rfl (by kernel_rfl) (exec_store_row RfT _ _ rfl (w.heap.size + 1) (refV (setS s n (bits .or .u64 x0 v))) rfl rfl RfT _ hs2.z (iRf _) (by rw [refV_size, refV_size]) (rfV_one _)) rfl ?_
        have hs3 : CsAt (w8.setRow (w.heap.size + 1) (refV (setS s n (bits .or .u64 x0 v)))) w.heap.size RfT (refV s) := hs2.r.rowFar (by omega) _
        refine ⟨hs3, ?_⟩
        refine takeH (fuel := 0) (i := 8) (.int .u64 xl) ?_ rfl (by kernel_rfl) (by kernel_rfl) (by kernel_rfl) (fun _ _ _ h => h) (by kernel_rfl) (fun W hS => by go_simp) hs3 ?_ ?_
        rotate_left 1
        · go_simp
          exact rfl
        refine wpAnyH_done (by kernel_rfl) ?_ _
        refine NoPanic.normal ?_
        have HSZ := Lib.hid hs2
        clear hs0 hs1 hs2 hs3
        go_wp2_with fail
        exact bodyPost_ret (results_cbF RfT Tryd.results69 _ _ (w.heap.size + 1) _ _ rfl rfl (run_loadVar_row _ _ RfT RfT _ (0, 0) _ (HSZ.out.z.row _) Tryd.underlying38 rfl (iRf _))) rfl ⟨by rw [HU.out, HV.out]; rfl, below_setRow HSZ.out.bel (by omega) _⟩
      · skip
        have hwt : wtS 94 x0 v = bits .andNot .u64 x0 v := by unfold wtS; simp
        rw [hwt] at HU
        have HSET := Lib.hid (fun W => HST.out (bits .andNot .u64 x0 v) (andNot_range HBX.out.1 HBX.out.2 HVV.out.1 HVV.out.2) W)
        have hsub : IntKind.u64.wrap (x0 - bits .and .u64 x0 v) = bits .andNot .u64 x0 v := by
          have h1 := not_and HBX.out HVV.out
          have h2 := andNot_range HBX.out.1 HBX.out.2 HVV.out.1 HVV.out.2
          rw [IntKind.wrap_u64]
          omega
        clear hc hwt
        go_enter Tryd.func69, Tryd.ntmps69
        go_upto_region 1 with (refine wpList_allocY rfl _ rfl RfT rfl (refV (zero 0)) (zero_rf _) ?_)
        generalize ((w.alloc (.cells (refV s) RfT)).alloc (.cells (refV (zero 0)) RfT)) = w1 at *
        go_wp2_with fail
        refine (HC.out _).mono ?_
        rintro e w2 ⟨rfl, hb⟩
        have HS2 := Lib.hid (HS1.out.low hb)
        clear hb
        go_wp2_with (refine wpList_load_row rfl RfT _ rfl w.heap.size rfl RfT _ (0, 0) _ HS2.out.r Tryd.underlying38 rfl (iRf _) ?_)
        refine (HG.out _).mono ?_
        rintro e w3 ⟨rfl, hb⟩
        have HS3 := Lib.hid (HS2.out.low hb)
        clear hb
        go_wp2_with (refine wpList_load_row rfl RfT _ rfl w.heap.size rfl RfT _ (0, 0) _ HS3.out.r Tryd.underlying38 rfl (iRf _) ?_)
        refine (HW.out _).mono ?_
        rintro e w4 ⟨rfl, hb⟩
        have HS4 := Lib.hid (HS3.out.low hb)
        clear hb
        go_wp2_with (refine wpList_load_row rfl RfT _ rfl w.heap.size rfl RfT _ (0, 0) _ HS4.out.r Tryd.underlying38 rfl (iRf _) ?_)
        refine (HG0.out _).mono ?_
        rintro e w5 ⟨rfl, hb⟩
        have HS5 := Lib.hid (HS4.out.low hb)
        clear hb
        go_wp2_with fail
        refine (refNames4_c _).mono ?_
        rintro e w6 ⟨rfl, rfl⟩
        have c : _ = some (Value.string ⟨#[99, 115, 114, 114, 99, 105]⟩) := names4_cell w5 94 (by omega)
        have HS6 := Lib.hid (HS5.out.low ((Below.refl w5.heap.size w5).alloc (Nat.le_refl _) (.cells (Tab.names4.map strV).toArray 9)))
        generalize (w5.alloc (.cells (Tab.names4.map strV).toArray 9)) = w6 at *
        go_upto_region 13 with fail
        have hs0 := HS6.out.drew
        refine wp_region_noPanic ?_
        refine wp_region_held (S := fun V => CsAt V w.heap.size RfT (refV s)) (by kernel_rfl) ?_
        refine takeH (fuel := 10) (i := 0) (.agg (refV s)) ?_ rfl (by kernel_rfl) (by kernel_rfl) (by kernel_rfl) (fun _ _ _ h => h) (by kernel_rfl) (fun W hS => exec_load_row RfT _ rfl w.heap.size rfl RfT _ _ hS Tryd.underlying38 rfl (iRf _)) hs0.r ?_ ?_
        rotate_left 1
        · go_simp
          exact rfl
        refine takeH (fuel := 9) (i := 1) (.int .i64 n) ?_ rfl (by kernel_rfl) (by kernel_rfl) (by kernel_rfl) (fun _ _ _ h => h) (by kernel_rfl) (fun W hS => by go_simp) hs0.r ?_ ?_
        rotate_left 1
        · go_simp
          exact rfl
        refine takeH (fuel := 8) (i := 2) (.int .u64 x0) ?_ rfl (by kernel_rfl) (by kernel_rfl) (by kernel_rfl) (fun _ _ _ h => h) (by kernel_rfl) (fun W hS => by go_simp) hs0.r ?_ ?_
        rotate_left 1
        · go_simp
          exact rfl
        refine takeH (fuel := 7) (i := 3) (.int .u64 x0) ?_ rfl (by kernel_rfl) (by kernel_rfl) (by kernel_rfl) (fun _ _ _ h => h) (by kernel_rfl) (fun W hS => by go_simp) hs0.r ?_ ?_
        rotate_left 1
        · go_simp
          exact rfl
        refine takeH (fuel := 6) (i := 4) (.int .u64 v) ?_ rfl (by kernel_rfl) (by kernel_rfl) (by kernel_rfl) (fun _ _ _ h => h) (by kernel_rfl) (fun W hS => by go_simp) hs0.r ?_ ?_
        rotate_left 1
        · go_simp
          exact rfl
        refine takeH (fuel := 5) (i := 8) (.int .u64 xl) ?_ rfl (by kernel_rfl) (by kernel_rfl) (by kernel_rfl) (fun _ _ _ h => h) (by kernel_rfl) (fun W hS => by go_simp) hs0.r ?_ ?_
        rotate_left 1
        · go_simp
          exact rfl
        refine wpAnyH_all (fuel := 4) (rs := [5]) (by kernel_rfl) (by decide) ?_
        intro i hi
        obtain rfl : i = 5 := by simpa using hi
        refine wpOp_callX 81 #[.int .u64 x0, .int .u64 v] rfl (by kernel_rfl) (by go_simp) ?_
        refine (rand_c x0 v HBX.out HVV.out _).mono ?_
        rintro e w7 ⟨rfl, hb⟩
        have hs1 := hs0.low hb
        clear hb
        refine ⟨_, rfl, hs1.r, ?_⟩
        refine takeH (fuel := 3) (i := 6) (.int .u64 (bits .andNot .u64 x0 v)) ?_ rfl (by kernel_rfl) (by kernel_rfl) (by kernel_rfl) (fun _ _ _ h => h) (by kernel_rfl) (fun W hS => by go_simp) hs1.r ?_ ?_
        rotate_left 1
        · go_simp
          exact rfl
        refine wpAnyH_all (fuel := 2) (rs := [7]) (by kernel_rfl) (by decide) ?_
        intro i hi
        obtain rfl : i = 7 := by simpa using hi
        refine wpOp_callX 68 #[.agg (refV s), .int .i64 n, .int .u64 (bits .andNot .u64 x0 v)] rfl (by kernel_rfl) (by go_simp) ?_
        refine (HSET.out _).mono ?_
        rintro e w8 ⟨rfl, hb⟩
        have hs2 := hs1.low hb
        clear hb
        refine ⟨_, rfl, hs2.r, ?_⟩
        refine wpAnyH_all (fuel := 1) (rs := [9]) (by kernel_rfl) (by decide) ?_
        intro i hi
        obtain rfl : i = 9 := by simpa using hi
        refine wpOp_unitB (w8.setRow (w.heap.size + 1) (refV (setS s n (bits .andNot .u64 x0 v)))) _ rfl (by kernel_rfl) (exec_store_row RfT _ _ rfl (w.heap.size + 1) (refV (setS s n (bits .andNot .u64 x0 v))) rfl rfl RfT _ hs2.z (iRf _) (by rw [refV_size, refV_size]) (rfV_one _)) rfl ?_
        have hs3 : CsAt (w8.setRow (w.heap.size + 1) (refV (setS s n (bits .andNot .u64 x0 v)))) w.heap.size RfT (refV s) := hs2.r.rowFar (by omega) _
        refine ⟨hs3, ?_⟩
        refine takeH (fuel := 0) (i := 10) (.int .u64 xl) ?_ rfl (by kernel_rfl) (by kernel_rfl) (by kernel_rfl) (fun _ _ _ h => h) (by kernel_rfl) (fun W hS => by go_simp) hs3 ?_ ?_
        rotate_left 1
        · go_simp
          exact rfl
        refine wpAnyH_done (by kernel_rfl) ?_ _
        refine NoPanic.normal ?_
        have HSZ := Lib.hid hs2
        clear hs0 hs1 hs2 hs3
        go_wp2_with fail
        exact bodyPost_ret (results_cbF RfT Tryd.results69 _ _ (w.heap.size + 1) _ _ rfl rfl (run_loadVar_row _ _ RfT RfT _ (0, 0) _ (HSZ.out.z.row _) Tryd.underlying38 rfl (iRf _))) rfl ⟨by rw [HU.out, HV.out]; rfl, below_setRow HSZ.out.bel (by omega) _⟩
  · have hc' : (classS op != 8) = true := by simpa using hc
    have HU := Lib.hid (show doS s op n rs1 v = s by unfold doS; rw [show (classS op == 8) = false by simpa using hc]; rfl)
    have HV := Lib.hid (show doV s op n l = 0 by unfold doV; rw [show (classS op == 8) = false by simpa using hc]; rfl)
    generalize classS op = c at *
    clear hc hl hv ok
    go_enter Tryd.func69, Tryd.ntmps69
    go_upto_region 1 with (refine wpList_allocY rfl _ rfl RfT rfl (refV (zero 0)) (zero_rf _) ?_)
    generalize ((w.alloc (.cells (refV s) RfT)).alloc (.cells (refV (zero 0)) RfT)) = w1 at *
    go_wp2_with fail
    refine (HC.out _).mono ?_
    rintro e w2 ⟨rfl, hb⟩
    have HS2 := Lib.hid (HS1.out.low hb)
    clear hb
    go_wp2_with (first | (refine wpList_load_row rfl RfT _ rfl w.heap.size rfl RfT _ (0, 0) _ HS2.out.r Tryd.underlying38 rfl (iRf _) ?_) | (refine wpList_store_row rfl RfT _ _ rfl (w.heap.size + 1) (refV (s)) rfl rfl RfT _ HS2.out.z (iRf _) (by rw [refV_size, refV_size]) (rfV_one _) ?_))
    exact bodyPost_ret (results_cbF RfT Tryd.results69 _ _ (w.heap.size + 1) _ _ rfl rfl (run_loadVar_row _ _ RfT RfT _ (0, 0) _ (HS2.out.z.row _) Tryd.underlying38 rfl (iRf _))) rfl ⟨by rw [HU.out, HV.out]; rfl, below_setRow HS2.out.bel (by omega) _⟩
end Go.Proofs.YtkbgmppbkllnmaaDoor
