/-
  Plain numbers: what a supervisor writes, and what it reads and writes back; two files compared.
-/
import Derived.Test.YtfjdalepaacmgaaDoorCfJ
import Derived.Test.YtfjdalepaacmgaaDoorEqf
set_option maxRecDepth 20000
namespace Go.Proofs.YtfjdalepaacmgaaDoor
open Go.ChangeShapes Go.WideShapes Go.ChangeAt Go.RowKit Wd Csr Sta Cf

theorem pend0 {s : S} (ok : Ok s) : pendS s 0 = s.f 836 := by
  have h := ok.w 836
  unfold pendS
  rw [show bits .and .u64 0 2696 = 0 by decide]
  have hr := or_range h.1 h.2 (y := 0) (by omega) (by omega)
  apply ext hr.1 hr.2 h.1 h.2
  intro i _
  rw [tb_or h.1 h.2 (by omega) (by omega), tb_zero, Bool.or_false]
theorem xor_none {a b m : Int} (ha : W64 a) (hb : W64 b) (hm : W64 m) (h : ∀ i, i < 64 → tb m i = false → tb a i = tb b i) : bits .andNot .u64 (bits .xor .u64 a b) m = 0 := by
  have x := cxor_range ha.1 ha.2 hb.1 hb.2
  have y := andNot_range x.1 x.2 hm.1 hm.2
  apply ext y.1 y.2 (by omega) (by omega)
  intro i hi
  rw [tb_andNot x.1 x.2 hm.1 hm.2, cxor ha.1 ha.2 hb.1 hb.2, tb_zero]
  cases hmi : tb m i
  · rw [h i hi hmi]; simp
  · simp
def nrD (j : Nat) : Int := if j = 0 then 256 else if j = 1 then 260 else 324
def bhD (j : Nat) : Int := if j = 0 then 768 else if j = 1 then 772 else 836
def seeD (s : S) (j : Nat) : Int := if j = 0 then viewS 18446744073709551615 else if j = 1 then s.f 771 else bits .and .u64 (s.f 771) 2
theorem see_64 {s : S} (ok : Ok s) (j : Nat) : W64 (seeD s j) := by
  unfold seeD
  repeat' split
  · exact view_range ⟨by omega, by omega⟩
  · exact ok.w _
  · exact and_64 (ok.w _) ⟨by omega, by omega⟩
theorem view_leg {x : Int} (hx : W64 x) : legS 256 x (viewS x) = x := by
  rw [leg256]
  have hn := nextS_range (maskC 256) x (viewS x)
  apply ext hn.1 hn.2 hx.1 hx.2
  intro i hi
  rw [tb_next _ _ _ hi, tb_view hx hi]
  cases h : tb (maskC 256) i
  · simp
  · have hs : seenB i = true := by
      rw [tbSst hi] at h
      cases hh : seenB i
      · rw [hh] at h; cases h
      · rfl
    rw [hs]; simp
theorem hid_same {s : S} (ok : Ok s) {j : Nat} (hj : j < 3) : setS s (nrD j) (getS s (nrD j) 0) = s := by
  obtain rfl | rfl | rfl : j = 0 ∨ j = 1 ∨ j = 2 := by omega
  · show setS s 256 (viewS (s.f 768)) = s
    rw [set_sst, view_leg (ok.w 768), Cf.put_self]
  · show setS s 260 (bits .and .u64 (s.f 772) (s.f 771)) = s
    have hx := ok.w 772
    have hd := ok.w 771
    have hn := nextS_range (s.f 771) (s.f 772) (bits .and .u64 (s.f 772) (s.f 771))
    rw [set_sie, show nextS (s.f 771) (s.f 772) (bits .and .u64 (s.f 772) (s.f 771)) = s.f 772 by
      apply ext hn.1 hn.2 hx.1 hx.2
      intro i hi
      rw [tb_next _ _ _ hi, tb_and hx.1 hx.2 hd.1 hd.2]
      cases tb (s.f 771) i <;> simp, Cf.put_self]
  · show setS s 324 (bits .and .u64 (pendS s 0) (s.f 771)) = s
    rw [pend0 ok]
    have hx := ok.w 836
    have hd := ok.w 771
    have hm := and_64 hd (show W64 2 from ⟨by omega, by omega⟩)
    have hn := nextS_range (bits .and .u64 (s.f 771) 2) (s.f 836) (bits .and .u64 (s.f 836) (s.f 771))
    rw [set_sip, show nextS (bits .and .u64 (s.f 771) 2) (s.f 836) (bits .and .u64 (s.f 836) (s.f 771)) = s.f 836 by
      apply ext hn.1 hn.2 hx.1 hx.2
      intro i hi
      rw [tb_next _ _ _ hi, tb_and hx.1 hx.2 hd.1 hd.2, tb_and hd.1 hd.2 (by omega) (by omega)]
      cases tb (s.f 771) i <;> simp, Cf.put_self]
def newD (s : S) (j : Nat) (v : Int) : Int := if j = 0 then legS 256 (s.f 768) v else if j = 1 then nextS (s.f 771) (s.f 772) v else nextS (bits .and .u64 (s.f 771) 2) (s.f 836) v
theorem set_new {s : S} {j : Nat} (hj : j < 3) (v : Int) : setS s (nrD j) v = s.put (bhD j) (newD s j v) := by
  obtain rfl | rfl | rfl : j = 0 ∨ j = 1 ∨ j = 2 := by omega
  · exact set_sst s v
  · exact set_sie s v
  · exact set_sip s v
theorem new_64 {s : S} (ok : Ok s) (j : Nat) (v : Int) : W64 (newD s j v) := by
  unfold newD
  repeat' split
  · exact legS_range (ok.w _)
  · exact nextS_range _ _ _
  · exact nextS_range _ _ _
theorem get_bh {s : S} (ok : Ok s) {j : Nat} (hj : j < 3) : getS s (bhD j) 0 = s.f (bhD j) := by
  obtain rfl | rfl | rfl : j = 0 ∨ j = 1 ∨ j = 2 := by omega
  · rfl
  · rfl
  · exact pend0 ok
theorem new_kept {s : S} (ok : Ok s) {j : Nat} (hj : j < 3) (v : Int) {i : Nat} (hi : i < 64) (hm : tb (seeD s j) i = false) : tb (s.f (bhD j)) i = tb (newD s j v) i := by
  obtain rfl | rfl | rfl : j = 0 ∨ j = 1 ∨ j = 2 := by omega
  · have hv : tb (viewS 18446744073709551615) i = false := hm
    show tb (s.f 768) i = tb (legS 256 (s.f 768) v) i
    rw [tb_view ⟨by omega, by omega⟩ hi, tb_ones hi, Bool.true_and] at hv
    rw [leg_kept (ok.w 768) hi (by rw [tbSst hi, hv]; rfl)]
  · have hv : tb (s.f 771) i = false := hm
    show tb (s.f 772) i = tb (nextS (s.f 771) (s.f 772) v) i
    rw [tb_next _ _ _ hi, hv]; rfl
  · have hv : tb (bits .and .u64 (s.f 771) 2) i = false := hm
    show tb (s.f 836) i = tb (nextS (bits .and .u64 (s.f 771) 2) (s.f 836) v) i
    rw [tb_next _ _ _ hi, hv]; rfl
theorem hid_beh {s : S} (ok : Ok s) {j : Nat} (hj : j < 3) (v : Int) : bits .andNot .u64 (bits .xor .u64 (getS s (bhD j) 0) (getS (s.put (bhD j) (newD s j v)) (bhD j) 0)) (seeD s j) = 0 := by
  have ok' : Ok (s.put (bhD j) (newD s j v)) := ok.put (by obtain rfl | rfl | rfl : j = 0 ∨ j = 1 ∨ j = 2 := by omega
                                                           all_goals decide) (new_64 ok j v)
  rw [get_bh ok hj, get_bh ok' hj, put_at]
  exact xor_none (ok.w _) (new_64 ok j v) (see_64 ok j) (fun i hi hm => new_kept ok hj v hi hm)
theorem hid_rest {s : S} {j : Nat} (hj : j < 3) {m : Int} (h1 : m ≠ bhD j) (h2 : m ≠ nrD j) (x : Int) : getS s m 0 = getS (s.put (bhD j) x) m 0 := by
  unfold getS pendS
  obtain rfl | rfl | rfl : j = 0 ∨ j = 1 ∨ j = 2 := by omega
  all_goals
    simp only [bhD, nrD, if_true, if_false, Nat.reduceEqDiff] at h1 h2 ⊢
    repeat' split
    all_goals first | rfl | (rw [put_ne]; omega) | (rw [put_ne, put_ne] <;> omega) | (exfalso; omega) | skip
def ksF : List (Option IntKind) := some .i64 :: (List.replicate 22 (some .u64) ++ [none, none])
theorem okL_w : ∀ (l : List Nat) (f : Int → Int), (∀ n, W64 (f n)) → Eqf.okL (List.replicate l.length (some .u64)) (l.map (fun k => Value.int .u64 (f (k : Nat)))) = true
  | [], _, _ => rfl
  | k :: l, f, h => by
    simp only [List.length_cons, List.replicate_succ, List.map_cons, Eqf.okL, Eqf.okV, decide_true, Bool.true_and, Bool.and_eq_true]
    exact ⟨WalkArith.wf_u64 ⟨(h _).1, by have := (h (k : Nat)).2; omega⟩, okL_w l f h⟩
theorem okL_F {s : S} (ok : Ok s) : Eqf.okL ksF (fileV s).toList = true := by
  show Eqf.okL ksF (cellsL s keptL) = true
  unfold ksF cellsL
  simp only [Eqf.okL, Eqf.okV, decide_true, Bool.true_and, Bool.and_eq_true]
  refine ⟨WalkArith.wf_i64 ⟨ok.h.1, by have := ok.h.2; omega⟩, Eqf.app_okL (okL_w keptL s.f ok.w) rfl⟩
theorem formed_szF {P : Program} {t : TypeId} {cs : Array Value} {k : Nat} (h : cs.size = k) (hk : (match P.underlying t with | some (.struct _) | some (.array _ _) => k == P.cellsOf t | _ => false) = true) : Value.formed P t (.agg cs) = true := by
  subst h
  exact hk
theorem formed_fl (s : S) : Value.formed Tryd.prog FlT (.agg (fileV s)) = true := formed_szF (k := 25) (fileV_size s) (by kernel_rfl)
theorem neq_fl {s : S} (ok : Ok s) (w : World) : (binOp .neq FlT (.agg (fileV s)) (.agg (fileV s))).run Tryd.prog w = .ok (.bool false) w := by
  rw [Eqf.bneq w 6 (by omega) FlT ksF (by kernel_rfl) (by kernel_rfl) _ _ (formed_fl s) (formed_fl s) (okL_F ok) (okL_F ok), Eqf.eqL_self (okL_F ok)]; rfl
theorem guard_fl : Tryd.prog.eqGuardType Tryd.prog.depth FlT = false := by kernel_rfl
end Go.Proofs.YtfjdalepaacmgaaDoor
