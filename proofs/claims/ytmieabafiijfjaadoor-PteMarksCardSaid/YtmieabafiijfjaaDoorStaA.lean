/-
  Plain numbers, no program: the fields of mstatus; what traps and returns leave; what a supervisor sees.
-/
import Derived.Test.YtmieabafiijfjaaDoorRefA
import Derived.Test.YtmieabafiijfjaaDoorCsrA
namespace Go.Proofs.YtmieabafiijfjaaDoor.Sta
open Go.RowKit Wd Csr

abbrev W64 (x : Int) : Prop := 0 ≤ x ∧ x < 18446744073709551616
theorem cut1 (x : Int) {k : Nat} (hk : k < 64) : cutS x k 1 = bi (tb x k) := by
  have a := cutS_range x k 1
  have b := bi_range (tb x k)
  apply ext a.1 a.2 b.1 (by omega)
  intro i hi
  rw [ccut _ _ _ hi]
  by_cases h : i = 0
  · subst h
    have e : ((k : Int) + ((0 : Nat) : Int)).toNat = k := by omega
    rw [e]
    cases tb x k <;> simp [bi, tb]
  · have e : ¬ ((i : Int) < 1 ∧ 0 ≤ (k : Int) + i) := by omega
    rw [decide_eq_false e, Bool.false_and]
    cases tb x k
    · exact (tb_zero i).symm
    · symm
      have e1 : (1 : Nat) < 2 ^ i := Nat.lt_of_lt_of_le (by decide : 1 < 2 ^ 1) (Nat.pow_le_pow_right (by decide) (by omega))
      show Nat.testBit 1 i = false
      exact Nat.testBit_lt_two_pow e1
theorem tb_bi0 (b : Bool) : tb (bi b) 0 = b := by cases b <;> decide
theorem tb_cut10 (x : Int) {k : Nat} (hk : k < 64) : tb (cutS x k 1) 0 = tb x k := by rw [cut1 x hk, tb_bi0]
theorem in1 (k i : Nat) : inP k 1 i = decide (i = k) := by unfold inP; apply decide_eq_decide.2; omega
theorem tb_p1 (x n : Int) (k : Nat) {i : Nat} (hi : i < 64) : tb (putS x k 1 n) i = if i = k then tb n 0 else tb x i := by
  rw [cput _ _ _ _ hi, in1]
  by_cases h : i = k
  · subst h
    rw [decide_eq_true rfl, if_pos rfl, if_pos rfl]
    congr 1; omega
  · rw [decide_eq_false h, if_neg (by simp), if_neg h]
theorem tb_p2 (x n : Int) {i : Nat} (hi : i < 64) : tb (putS x 11 2 n) i = if i = 11 then tb n 0 else if i = 12 then tb n 1 else tb x i := by
  rw [cput _ _ _ _ hi, inMpp]
  by_cases h1 : i = 11
  · subst h1; rfl
  · by_cases h2 : i = 12
    · subst h2; rfl
    · have h : ¬ (i = 11 ∨ i = 12) := by omega
      rw [decide_eq_false h, if_neg (by simp), if_neg h1, if_neg h2]
/-- Fields as the code takes and lays them. -/
theorem shr_cut {w : Int} (hw : W64 w) {k : Nat} (hk : k < 64) {s : Nat} (hs : s < 64) : bits .and .u64 (w / 2 ^ k) (2 ^ s - 1) = cutS w k s := by
  have a := div_range hw.1 hw.2 k
  have p := pow_le (k := s) (by omega)
  have b := and_range a.1 a.2 (y := 2 ^ s - 1) (by omega) (by omega)
  apply eq_word b.1 b.2
  intro i hi
  rw [tb_and a.1 a.2 (by omega) (by omega), tb_div hw.1, tb_pow_sub_one]
  have e : ((k : Int) + i).toNat = i + k := by omega
  rw [e]
  by_cases c : i < s
  · rw [decide_eq_true c, decide_eq_true (show (i : Int) < s ∧ 0 ≤ (k : Int) + i by omega)]; simp
  · rw [decide_eq_false c, decide_eq_false (show ¬ ((i : Int) < s ∧ 0 ≤ (k : Int) + i) by omega)]; simp
theorem shl_ones {k s : Nat} (_hs0 : 1 ≤ s) (hs : s < 64) : IntKind.u64.wrap ((2 ^ s - 1) * 2 ^ k) = onesS k s := by
  have p := pow_le (k := s) (by omega)
  have a := wrap_range ((2 ^ s - 1) * 2 ^ k)
  apply eq_word a.1 a.2
  intro i hi
  rw [tb_wrap (mul_nonneg' (by omega) k), tb_mul (by omega), tb_pow_sub_one, decide_eq_true hi, Bool.true_and]
  unfold inP
  by_cases c : k ≤ i ∧ i < k + s
  · rw [decide_eq_true c.1, decide_eq_true (show i - k < s by omega), decide_eq_true (show 1 ≤ (s : Int) ∧ (k : Int) ≤ i ∧ (i : Int) < k + s by omega)]; rfl
  · rw [decide_eq_false (show ¬ (1 ≤ (s : Int) ∧ (k : Int) ≤ i ∧ (i : Int) < k + s) by omega)]
    by_cases c1 : k ≤ i
    · rw [decide_eq_false (show ¬ i - k < s by omega)]; simp
    · rw [decide_eq_false c1]; simp
theorem shl_put {w n : Int} (hw : W64 w) (hn : W64 n) (k s : Nat) :
    bits .or .u64 (bits .andNot .u64 w (onesS k s)) (bits .and .u64 (IntKind.u64.wrap (n * 2 ^ k)) (onesS k s)) = putS w k s n := by
  have o := onesS_range k s
  have r := wrap_range (n * 2 ^ k)
  have a := andNot_range hw.1 hw.2 o.1 o.2
  have b := and_range r.1 r.2 o.1 o.2
  have c := or_range a.1 a.2 b.1 b.2
  apply eq_word c.1 c.2
  intro i hi
  rw [tb_or a.1 a.2 b.1 b.2, tb_andNot hw.1 hw.2 o.1 o.2, tb_and r.1 r.2 o.1 o.2, tb_wrap (mul_nonneg' hn.1 k), tb_mul hn.1, decide_eq_true hi, Bool.true_and]
  unfold onesS
  rw [tb_word, decide_eq_true hi, Bool.true_and]
  cases h : inP k s i
  · simp
  · have h2 := of_decide_eq_true h
    have e : ((i : Int) - k).toNat = i - k := by omega
    rw [decide_eq_true (show k ≤ i by omega), e]; simp
/-! ### traps and returns -/
def isPriv (p : Int) : Bool := p == 0 || p == 1 || p == 3
def enterM (w n : Int) : Int := putS (putS (putS w 7 1 (cutS w 3 1)) 3 1 0) 11 2 n
def enterU (w n : Int) : Int := putS (putS (putS w 5 1 (cutS w 1 1)) 1 1 0) 8 1 n
def enterV (w frm dst : Int) : Int := if isPriv frm then (if dst = 3 then enterM w frm else if dst = 1 then enterU w (if frm = 1 then 1 else 0) else w) else w
/-- The privilege of a field's number. -/
def prvS (x : Int) : Int := if x = 2 then 0 else x
def mppS (w : Int) : Int := prvS (cutS w 11 2)
def backM (w : Int) : Int := putS (putS (putS w 3 1 (cutS w 7 1)) 7 1 1) 11 2 0
def leaveM (w : Int) : Int := if mppS w = 3 then backM w else putS (backM w) 17 1 0
def leaveU (w : Int) : Int := putS (putS (putS (putS w 1 1 (cutS w 5 1)) 5 1 1) 8 1 0) 17 1 0
def leaveV (w at' : Int) : Int := if at' = 3 then leaveM w else if at' = 1 then leaveU w else w
def leaveP (w at' : Int) : Int := if at' = 3 then mppS w else if at' = 1 then cutS w 8 1 else 0
theorem cut2_lt (w : Int) : cutS w 11 2 < 4 := by
  have e : cutS w 11 2 = bits .and .u64 (cutS w 11 2) (2 ^ 2 - 1) := by
    have a := cutS_range w 11 2
    have b := and_range a.1 a.2 (y := 2 ^ 2 - 1) (by omega) (by omega)
    apply ext a.1 a.2 b.1 b.2
    intro i hi
    rw [tb_and a.1 a.2 (by omega) (by omega), tb_pow_sub_one, ccut _ _ _ hi]
    by_cases c : i < 2
    · simp [c]
    · rw [decide_eq_false c, decide_eq_false (show ¬ ((i : Int) < 2 ∧ 0 ≤ (11 : Int) + i) by omega)]; rfl
  have a := cutS_range w 11 2
  rw [e, and_low a.1 a.2 2 (by omega)]
  omega
theorem mpp_range (w : Int) : mppS w = 0 ∨ mppS w = 1 ∨ mppS w = 3 := by
  have a := cutS_range w 11 2
  have b := cut2_lt w
  unfold mppS prvS
  split <;> omega
theorem cut_put2 (w n : Int) (h0 : 0 ≤ n) (h4 : n < 4) : cutS (putS w 11 2 n) 11 2 = n := by
  have a := cutS_range (putS w 11 2 n) 11 2
  apply ext a.1 a.2 h0 (by omega)
  intro i hi
  rw [ccut _ _ _ hi]
  by_cases c : i < 2
  · have e : ((11 : Int) + i).toNat = 11 + i := by omega
    rw [decide_eq_true (show (i : Int) < 2 ∧ 0 ≤ (11 : Int) + i by omega), e, Bool.true_and, tb_p2 _ _ (by omega)]
    have : i = 0 ∨ i = 1 := by omega
    rcases this with rfl | rfl <;> rfl
  · rw [decide_eq_false (show ¬ ((i : Int) < 2 ∧ 0 ≤ (11 : Int) + i) by omega), Bool.false_and]
    symm
    unfold tb
    apply Nat.testBit_lt_two_pow
    have h2 : 2 ^ 2 ≤ 2 ^ i := Nat.pow_le_pow_right (by decide) (by omega)
    omega
theorem mpp_put (w : Int) {p : Int} (h : p = 0 ∨ p = 1 ∨ p = 3) : mppS (putS w 11 2 p) = p := by
  unfold mppS prvS
  rw [cut_put2 w p (by omega) (by omega), if_neg (by omega)]
theorem tb_0 : tb 0 0 = false := rfl
theorem tb_1 : tb 1 0 = true := rfl
/-- Behind a trap that Machine takes, and its return. -/
theorem trapM_back (w : Int) {p : Int} (h : p = 0 ∨ p = 1 ∨ p = 3) : mppS (enterM w p) = p := mpp_put _ h
theorem trapM_in (w p : Int) : cutS (enterM w p) 3 1 = 0 := by
  rw [show (3 : Int) = ((3 : Nat) : Int) from rfl, cut1 _ (by omega)]
  unfold enterM
  rw [tb_p2 _ _ (by omega), if_neg (by omega), if_neg (by omega), show (3 : Int) = ((3 : Nat) : Int) from rfl, tb_p1 _ _ _ (by omega), if_pos rfl, tb_0]; rfl
theorem backM_3 (w : Int) : tb (backM w) 3 = tb w 7 := by
  unfold backM
  rw [tb_p2 _ _ (by omega), if_neg (by omega), if_neg (by omega), show (7 : Int) = ((7 : Nat) : Int) from rfl, tb_p1 _ _ _ (by omega), if_neg (by omega), show (3 : Int) = ((3 : Nat) : Int) from rfl, tb_p1 _ _ _ (by omega), if_pos rfl, tb_cut10 _ (by omega)]
theorem leaveM_3 (w : Int) : tb (leaveM w) 3 = tb w 7 := by
  unfold leaveM
  split
  · exact backM_3 w
  · rw [show (17 : Int) = ((17 : Nat) : Int) from rfl, tb_p1 _ _ _ (by omega), if_neg (by omega)]; exact backM_3 w
theorem enterM_7 (w p : Int) : tb (enterM w p) 7 = tb w 3 := by
  unfold enterM
  rw [tb_p2 _ _ (by omega), if_neg (by omega), if_neg (by omega), show (3 : Int) = ((3 : Nat) : Int) from rfl, tb_p1 _ _ _ (by omega), if_neg (by omega), show (7 : Int) = ((7 : Nat) : Int) from rfl, tb_p1 _ _ _ (by omega), if_pos rfl, tb_cut10 _ (by omega)]
theorem trapM_let (w p : Int) : cutS (leaveM (enterM w p)) 3 1 = cutS w 3 1 := by
  rw [show (3 : Int) = ((3 : Nat) : Int) from rfl, cut1 _ (by omega), cut1 _ (by omega), leaveM_3, enterM_7]
/-- The same of one that Super takes. -/
theorem trapU_back (w : Int) (b : Bool) : cutS (enterU w (bi b)) 8 1 = bi b := by
  rw [show (8 : Int) = ((8 : Nat) : Int) from rfl, cut1 _ (by omega)]
  unfold enterU
  rw [show (8 : Int) = ((8 : Nat) : Int) from rfl, tb_p1 _ _ _ (by omega), if_pos rfl, tb_bi0]
theorem trapU_in (w n : Int) : cutS (enterU w n) 1 1 = 0 := by
  rw [show cutS (enterU w n) 1 1 = cutS (enterU w n) ((1 : Nat) : Int) 1 from rfl, cut1 _ (by omega)]
  unfold enterU
  rw [show (8 : Int) = ((8 : Nat) : Int) from rfl, tb_p1 _ _ _ (by omega), if_neg (by omega)]
  rw [show putS (putS w 5 1 (cutS w 1 1)) 1 1 0 = putS (putS w 5 1 (cutS w 1 1)) ((1 : Nat) : Int) 1 0 from rfl, tb_p1 _ _ _ (by omega), if_pos rfl, tb_0]; rfl
theorem enterU_5 (w n : Int) : tb (enterU w n) 5 = tb w 1 := by
  unfold enterU
  rw [show (8 : Int) = ((8 : Nat) : Int) from rfl, tb_p1 _ _ _ (by omega), if_neg (by omega)]
  rw [show putS (putS w 5 1 (cutS w 1 1)) 1 1 0 = putS (putS w ((5 : Nat) : Int) 1 (cutS w ((1 : Nat) : Int) 1)) ((1 : Nat) : Int) 1 0 from rfl, tb_p1 _ _ _ (by omega), if_neg (by omega), tb_p1 _ _ _ (by omega), if_pos rfl, tb_cut10 _ (by omega)]
theorem leaveU_1 (w : Int) : tb (leaveU w) 1 = tb w 5 := by
  unfold leaveU
  rw [show putS (putS (putS (putS w 1 1 (cutS w 5 1)) 5 1 1) 8 1 0) 17 1 0 = putS (putS (putS (putS w ((1 : Nat) : Int) 1 (cutS w ((5 : Nat) : Int) 1)) ((5 : Nat) : Int) 1 1) ((8 : Nat) : Int) 1 0) ((17 : Nat) : Int) 1 0 from rfl,
    tb_p1 _ _ _ (by omega), if_neg (by omega), tb_p1 _ _ _ (by omega), if_neg (by omega), tb_p1 _ _ _ (by omega), if_neg (by omega), tb_p1 _ _ _ (by omega), if_pos rfl, tb_cut10 _ (by omega)]
theorem trapU_let (w n : Int) : cutS (leaveU (enterU w n)) 1 1 = cutS w 1 1 := by
  rw [show cutS (leaveU (enterU w n)) 1 1 = cutS (leaveU (enterU w n)) ((1 : Nat) : Int) 1 from rfl, show cutS w 1 1 = cutS w ((1 : Nat) : Int) 1 from rfl, cut1 _ (by omega), cut1 _ (by omega), leaveU_1, enterU_5]
/-! ### what a supervisor sees -/
def viewS (w : Int) : Int := bits .and .u64 w 8590721314
def seenB (i : Nat) : Bool := i == 1 || i == 5 || i == 8 || i == 18 || i == 19 || i == 33
theorem tbSeen {i : Nat} (hi : i < 64) : tb 8590721314 i = seenB i := (by decide +kernel : ∀ i : Fin 64, tb 8590721314 i.val = seenB i.val) ⟨i, hi⟩
theorem tb33 {i : Nat} (hi : i < 64) : tb 8589934592 i = (i == 33) := (by decide +kernel : ∀ i : Fin 64, tb 8589934592 i.val = (i.val == 33)) ⟨i, hi⟩
theorem tbSst {i : Nat} (hi : i < 64) : tb (maskC 256) i = (seenB i && !(i == 33)) := (by decide +kernel : ∀ i : Fin 64, tb (maskC 256) i.val = (seenB i.val && !(i.val == 33))) ⟨i, hi⟩
theorem view_range {w : Int} (hw : W64 w) : W64 (viewS w) := and_range hw.1 hw.2 (by omega) (by omega)
theorem tb_view {w : Int} (hw : W64 w) {i : Nat} (hi : i < 64) : tb (viewS w) i = (tb w i && seenB i) := by
  unfold viewS; rw [tb_and hw.1 hw.2 (by omega) (by omega), tbSeen hi]
def viewR (w : Int) : Int := putS (putS (putS (putS (putS (putS 0 1 1 (cutS w 1 1)) 5 1 (cutS w 5 1)) 8 1 (cutS w 8 1)) 18 1 (cutS w 18 1)) 19 1 (cutS w 19 1)) 33 1 (cutS w 33 1)
theorem view_ref {w : Int} (hw : W64 w) : viewS w = viewR w := by
  have a := view_range hw
  have b := putS_range (putS (putS (putS (putS (putS 0 1 1 (cutS w 1 1)) 5 1 (cutS w 5 1)) 8 1 (cutS w 8 1)) 18 1 (cutS w 18 1)) 19 1 (cutS w 19 1)) 33 1 (cutS w 33 1)
  apply ext a.1 a.2 b.1 b.2
  intro i hi
  rw [tb_view hw hi]
  show _ = tb (putS (putS (putS (putS (putS (putS 0 ((1 : Nat) : Int) 1 (cutS w ((1 : Nat) : Int) 1)) ((5 : Nat) : Int) 1 (cutS w ((5 : Nat) : Int) 1)) ((8 : Nat) : Int) 1 (cutS w ((8 : Nat) : Int) 1)) ((18 : Nat) : Int) 1 (cutS w ((18 : Nat) : Int) 1)) ((19 : Nat) : Int) 1 (cutS w ((19 : Nat) : Int) 1)) ((33 : Nat) : Int) 1 (cutS w ((33 : Nat) : Int) 1)) i
  rw [tb_p1 _ _ _ hi, tb_p1 _ _ _ hi, tb_p1 _ _ _ hi, tb_p1 _ _ _ hi, tb_p1 _ _ _ hi, tb_p1 _ _ _ hi, tb_cut10 _ (by omega), tb_cut10 _ (by omega), tb_cut10 _ (by omega), tb_cut10 _ (by omega), tb_cut10 _ (by omega), tb_cut10 _ (by omega), tb_zero]
  unfold seenB
  by_cases e1 : i = 33
  · subst e1; simp
  · by_cases e2 : i = 19
    · subst e2; simp
    · by_cases e3 : i = 18
      · subst e3; simp
      · by_cases e4 : i = 8
        · subst e4; simp
        · by_cases e5 : i = 5
          · subst e5; simp
          · by_cases e6 : i = 1
            · subst e6; simp
            · simp [e1, e2, e3, e4, e5, e6]
theorem leg256 (w v : Int) : legS 256 w v = nextS (maskC 256) w v := by unfold legS; rw [if_neg (by omega), if_neg (by omega)]
theorem lay_seen {w v : Int} (hw : W64 w) (hv : W64 v) : bits .andNot .u64 (viewS (legS 256 w v)) 8589934592 = bits .andNot .u64 (viewS v) 8589934592 := by
  have z := legS_range (n := 256) (v := v) hw
  have a := view_range z
  have b := view_range hv
  have c := andNot_range a.1 a.2 (y := 8589934592) (by omega) (by omega)
  have d := andNot_range b.1 b.2 (y := 8589934592) (by omega) (by omega)
  apply ext c.1 c.2 d.1 d.2
  intro i hi
  rw [tb_andNot a.1 a.2 (by omega) (by omega), tb_andNot b.1 b.2 (by omega) (by omega), tb_view z hi, tb_view hv hi, tb33 hi, leg256, tb_next _ _ _ hi, tbSst hi]
  cases seenB i <;> cases (i == 33) <;> simp
theorem lay_rest {w v : Int} (hw : W64 w) : bits .andNot .u64 (legS 256 w v) (viewS 18446744073709551615) = bits .andNot .u64 w (viewS 18446744073709551615) := by
  have z := legS_range (n := 256) (v := v) hw
  have ho : W64 18446744073709551615 := by constructor <;> omega
  have a := view_range ho
  have c := andNot_range z.1 z.2 a.1 a.2
  have d := andNot_range hw.1 hw.2 a.1 a.2
  apply ext c.1 c.2 d.1 d.2
  intro i hi
  rw [tb_andNot z.1 z.2 a.1 a.2, tb_andNot hw.1 hw.2 a.1 a.2, tb_view ho hi, leg256, tb_next _ _ _ hi, tbSst hi, tb_ones hi]
  cases seenB i <;> cases (i == 33) <;> simp
end Go.Proofs.YtmieabafiijfjaaDoor.Sta
