/-
  A format's pieces, put together one by one: plain numbers; the contract of insn.eachPart with each function that is handed to it.
-/
import Derived.Test.YteknlcigfjdmdaaDoorInD
import Derived.Deep.RegionHeld
namespace Go.Proofs.YteknlcigfjdmdaaDoor
open Go.ChangeShapes Go.WideShapes Go.ChangeAt Go.RowKit Wd

def swapP (p : Part) : Part := (p.2.2, p.2.1, p.1)
theorem acc_step (x : Int) (L : List Part) (p : Part) (hd : 0 ≤ p.2.2) (hs : 0 ≤ p.1) : bits .or .u64 (accW x L) (IntKind.u64.wrap (cutS x p.1 p.2.1 * 2 ^ p.2.2.toNat)) = accW x (L ++ [p]) := by
  obtain ⟨a0, a1⟩ := accW_range x L
  obtain ⟨c0, c1⟩ := cutS_range x p.1 p.2.1
  obtain ⟨r0, r1⟩ := wrap_range (cutS x p.1 p.2.1 * 2 ^ p.2.2.toNat)
  obtain ⟨o0, o1⟩ := or_range a0 a1 r0 r1
  refine eq_word o0 o1 fun i hi => ?_
  rw [tb_or a0 a1 r0 r1, tb_wrap (mul_nonneg' c0 _), tb_mul c0]
  have e : tb (accW x L) i = accB x L i := by
    unfold accW; rw [tb_word]; simp [hi]
  rw [e]
  unfold accB
  rw [List.any_append]
  congr 1
  simp only [List.any_cons, List.any_nil, Bool.or_false, hi, decide_true, Bool.true_and]
  by_cases h : p.2.2.toNat ≤ i
  · have e1 : decide (p.2.2.toNat ≤ i) = true := by simpa using h
    rw [e1, Bool.true_and]
    unfold cutS
    rw [tb_word]
    have e2 : decide (i - p.2.2.toNat < 64) = true := by simp; omega
    rw [e2, Bool.true_and]
    have e3 : (p.1 + ((i - p.2.2.toNat : Nat) : Int)).toNat = (p.1 + (i : Int) - p.2.2).toNat := by omega
    rw [e3]
    have e4 : decide (((i - p.2.2.toNat : Nat) : Int) < p.2.1 ∧ 0 ≤ p.1 + ((i - p.2.2.toNat : Nat) : Int)) = decide (p.2.2 ≤ (i : Int) ∧ (i : Int) < p.2.2 + p.2.1) := by
      apply decide_eq_decide.2
      constructor
      · rintro ⟨q1, q2⟩; omega
      · rintro ⟨q1, q2⟩; omega
    rw [e4]
  · have e1 : decide (p.2.2.toNat ≤ i) = false := by simpa using h
    have e2 : decide (p.2.2 ≤ (i : Int) ∧ (i : Int) < p.2.2 + p.2.1) = false := by simp; omega
    rw [e1, e2, Bool.false_and, Bool.false_and]
theorem acc_nil (x : Int) : accW x [] = 0 := by
  symm
  exact eq_word (by decide) (by decide) fun i _ => by simp [tb_zero, accB]
theorem take_snoc {α : Type} (L : List α) (k : Nat) (p : α) (h : L[k]? = some p) : L.take (k + 1) = L.take k ++ [p] := by
  rw [List.take_add_one, h]; rfl
theorem parts_ok (f : Int) : (partsL f).length ≤ 4 ∧ ∀ p ∈ partsL f, (0 ≤ p.1 ∧ p.1 < 32) ∧ (1 ≤ p.2.1 ∧ p.2.1 ≤ 20) ∧ 0 ≤ p.2.2 ∧ p.2.2 < 32 := by
  unfold partsL
  by_cases e2 : f = 2; · rw [if_pos e2]; decide
  rw [if_neg e2]
  by_cases e3 : f = 3; · rw [if_pos e3]; decide
  rw [if_neg e3]
  by_cases e4 : f = 4; · rw [if_pos e4]; decide
  rw [if_neg e4]
  by_cases e5 : f = 5; · rw [if_pos e5]; decide
  rw [if_neg e5]
  by_cases e6 : f = 6; · rw [if_pos e6]; decide
  rw [if_neg e6]
  by_cases e7 : f = 7; · rw [if_pos e7]; decide
  rw [if_neg e7]
  by_cases e8 : f = 8; · rw [if_pos e8]; decide
  rw [if_neg e8]
  decide
/-- A step of the function that was handed in: its own block, and one cell that is set. -/
theorem one_step {W : World} {pn : Nat} {o o2 : Obj} {v : Value} (b i : Nat) (u : Value) (hne : pn ≠ b) (h : W.cell? ⟨b, i, none⟩ = some u) : (((W.alloc o).alloc o2).drew.setCell ⟨pn, 0, none⟩ v).cell? ⟨b, i, none⟩ = some u := by
  rw [World.cell?_setCell_far _ _ _ _ hne]
  have hb : Below W.heap.size W ((W.alloc o).alloc o2).drew := (((Below.refl _ W).alloc (Nat.le_refl _) o).alloc (by simp) o2).drew
  exact (hb.cell (p := ⟨b, i, none⟩) (lt_cell h)).trans h
theorem one_set {W : World} {pn : Nat} {o o2 : Obj} {u v : Value} (h : W.cell? ⟨pn, 0, none⟩ = some u) (hf : W.frozen? ⟨pn, 0, none⟩ = false) :
    (((W.alloc o).alloc o2).drew.setCell ⟨pn, 0, none⟩ v).cell? ⟨pn, 0, none⟩ = some v ∧ (((W.alloc o).alloc o2).drew.setCell ⟨pn, 0, none⟩ v).frozen? ⟨pn, 0, none⟩ = false := by
  have hb : Below W.heap.size W ((W.alloc o).alloc o2).drew := (((Below.refl _ W).alloc (Nat.le_refl _) o).alloc (by simp) o2).drew
  refine ⟨World.cell?_setCell_same' _ _ _ (by rw [hb.cell (p := ⟨pn, 0, none⟩) (lt_cell h), h]; rfl), ?_⟩
  rw [World.frozen?_setCell, hb.frozen (p := ⟨pn, 0, none⟩) (lt_cell h)]
  exact hf
theorem old_box {W : World} (o : Obj) {pn : Nat} {u : Value} (h : W.cell? ⟨pn, 0, none⟩ = some u ∧ W.frozen? ⟨pn, 0, none⟩ = false) : (W.alloc o).cell? ⟨pn, 0, none⟩ = some u ∧ (W.alloc o).frozen? ⟨pn, 0, none⟩ = false := by
  have hb : Below W.heap.size W (W.alloc o) := (Below.refl _ W).alloc (Nat.le_refl _) o
  exact ⟨(hb.cell (p := ⟨pn, 0, none⟩) (lt_cell h.1)).trans h.1, (hb.frozen (p := ⟨pn, 0, none⟩) (lt_cell h.1)).trans h.2⟩
theorem old_box' {W : World} (o : Obj) {pn : Nat} {u : Value} (h : W.cell? ⟨pn, 0, none⟩ = some u) : (W.alloc o).cell? ⟨pn, 0, none⟩ = some u ∧ True := by
  have hb : Below W.heap.size W (W.alloc o) := (Below.refl _ W).alloc (Nat.le_refl _) o
  exact ⟨(hb.cell (p := ⟨pn, 0, none⟩) (lt_cell h)).trans h, trivial⟩
theorem one_below {W0 W : World} {B pn : Nat} {o o2 : Obj} {v : Value} (h : Below B W0 W) (hB : B ≤ W.heap.size) (hpn : B ≤ pn) : Below B W0 (((W.alloc o).alloc o2).drew.setCell ⟨pn, 0, none⟩ v) :=
  ((((h.alloc hB o).alloc (by simp; omega) o2).drew).setCell (p := ⟨pn, 0, none⟩) hpn v)
/-- What eachPart leaves: the cell with all pieces, and nothing else below B turned. -/
def EachPost (B pn : Nat) (W : World) (n : Int) (e : Ending) (W' : World) : Prop :=
  e = .returned (.tuple #[]) ∧ (W'.cell? ⟨pn, 0, none⟩ = some (.int .u64 n) ∧ W'.frozen? ⟨pn, 0, none⟩ = false) ∧ Below B W W'

set_option maxHeartbeats 4000000 in
theorem each_imm (f x : Int) (B pn pw : Nat) (W : World) (hn : W.cell? ⟨pn, 0, none⟩ = some (.int .u64 0)) (fn : W.frozen? ⟨pn, 0, none⟩ = false) (hw : W.cell? ⟨pw, 0, none⟩ = some (.int .u32 x)) (hnw : pn ≠ pw)
    (hx0 : 0 ≤ x) (hx : x < 4294967296) (hB : B ≤ W.heap.size) (hpn : B ≤ pn) :
    Calls Tryd.prog 36 #[.int .i64 f, .func (.func 42) #[] #[.pointer (some ⟨pn, 0, none⟩), .pointer (some ⟨pw, 0, none⟩)]] W (EachPost B pn W (accW x (partsL f))) := by
  obtain ⟨hlen, hok⟩ := parts_ok f
  have HOK := Lib.hid hok
  clear hok
  have hpl := lt_cell hn
  have hwl := lt_cell hw
  go_enter Tryd.func36, Tryd.ntmps36
  go_wp2_with fail
  refine (parts_c f _).mono ?_
  intro e w1 hp
  generalize hL : partsL f = L at *
  clear hL
  rcases hp with ⟨rfl, rfl, rfl⟩ | ⟨hne, rfl, hat, hb, hsz⟩
  · have HN := Lib.hid hn
    have HF := Lib.hid fn
    have HE := Lib.hid (acc_nil x)
    clear hn fn hw
    go_wp2_with fail
    go_loop [9] (fun i => i = .int .i64 0) (fun _ => 0)
    case atStart => exact rfl
    case round =>
      obtain rfl := hrel
      go_wp2_with fail
      go_end0
      exact ⟨rfl, ⟨by rw [HN.out]; exact congrArg (fun n => some (Value.int .u64 n)) HE.out.symm, HF.out⟩, Below.refl _ _⟩
  · obtain ⟨n, hn'⟩ : ∃ n, L.length = n := ⟨_, rfl⟩
    rw [hn'] at hlen
    have HNL := Lib.hid hn'
    rw [hn']
    have HAT := Lib.hid hat
    have HN := Lib.hid (show w1.cell? ⟨pn, 0, none⟩ = some (.int .u64 (accW x (L.take 0))) ∧ w1.frozen? ⟨pn, 0, none⟩ = false from
      ⟨by rw [hb.cell (p := ⟨pn, 0, none⟩) hpl, hn]; exact congrArg (fun n => some (Value.int .u64 n)) (acc_nil x).symm, by rw [hb.frozen (p := ⟨pn, 0, none⟩) hpl]; exact fn⟩)
    have HW := Lib.hid ((hb.cell (p := ⟨pw, 0, none⟩) hwl).trans hw)
    have HB := Lib.hid (hb.mono hB)
    have hng : pn ≠ W.heap.size := by omega
    clear hn' hat hb hn fn hw hne
    go_wp2_with fail
    go_loopw [9] (fun i wr => ∃ k : Nat, k ≤ n ∧ i = .int .i64 k ∧ (wr.cell? ⟨pn, 0, none⟩ = some (.int .u64 (accW x (L.take k))) ∧ wr.frozen? ⟨pn, 0, none⟩ = false) ∧ wr.cell? ⟨pw, 0, none⟩ = some (.int .u32 x) ∧ PartsAt wr W.heap.size L ∧ Below B W wr) (fun i _ => n - (intOf i).toNat)
    case atStart => exact ⟨0, Nat.zero_le _, rfl, HN.out, HW.out, HAT.out, HB.out⟩
    case round =>
      obtain ⟨k, hk, rfl, hc, hcw, hat, hbw⟩ := hrel
      have hszr := hbw.size
      have HC := Lib.hid hc
      have HCW := Lib.hid hcw
      have HAT2 := Lib.hid hat
      have HBW := Lib.hid hbw
      clear hc hcw hat hbw
      by_cases hlt : k < n
      · obtain ⟨p, hp⟩ : ∃ p, L[k]? = some p := ⟨L[k]'(by rw [HNL.out]; exact hlt), List.getElem?_eq_getElem _⟩
        obtain ⟨⟨o1, o2⟩, ⟨o3, o4⟩, o5, o6⟩ := HOK.out p (List.mem_of_getElem? hp)
        obtain ⟨d0, d1, d2⟩ := HAT2.out k p hp
        have HT := Lib.hid (take_snoc L k p hp)
        clear hp
        obtain ⟨a, b, c⟩ := p
        simp only at o1 o2 o3 o4 o5 o6 d0 d1 d2
        go_wp2_with fail
        have n1 := old_box (.cells #[.int .i64 a, .int .i64 b, .int .i64 c] 75) HC.out
        have w1 := old_box' (.cells #[.int .i64 a, .int .i64 b, .int .i64 c] 75) HCW.out
        refine (imm1_c a b c _ x pn pw _ n1.1 n1.2 w1.1 hx0 hx (by omega) (by omega) (by omega) (by omega)).mono ?_
        rintro e W3 ⟨rfl, rfl⟩
        have HN3 := Lib.hid (one_set (o := .cells #[.int .i64 a, .int .i64 b, .int .i64 c] 75) (o2 := .cells #[.int .i64 a, .int .i64 b, .int .i64 c] 75) (v := .int .u64 (bits .or .u64 (accW x (L.take k)) (IntKind.u64.wrap (cutS x a b * 2 ^ c.toNat)))) HC.out.1 HC.out.2)
        have HW3 := Lib.hid (one_step (o := .cells #[.int .i64 a, .int .i64 b, .int .i64 c] 75) (o2 := .cells #[.int .i64 a, .int .i64 b, .int .i64 c] 75) (v := .int .u64 (bits .or .u64 (accW x (L.take k)) (IntKind.u64.wrap (cutS x a b * 2 ^ c.toNat)))) pw 0 _ hnw HCW.out)
        have HA3 := Lib.hid (fun (j : Nat) (q : Part) (hq : L[j]? = some q) => (⟨one_step (o := .cells #[.int .i64 a, .int .i64 b, .int .i64 c] 75) (o2 := .cells #[.int .i64 a, .int .i64 b, .int .i64 c] 75) (v := .int .u64 (bits .or .u64 (accW x (L.take k)) (IntKind.u64.wrap (cutS x a b * 2 ^ c.toNat)))) W.heap.size _ _ hng (HAT2.out j q hq).1,
          one_step (o := .cells #[.int .i64 a, .int .i64 b, .int .i64 c] 75) (o2 := .cells #[.int .i64 a, .int .i64 b, .int .i64 c] 75) (v := .int .u64 (bits .or .u64 (accW x (L.take k)) (IntKind.u64.wrap (cutS x a b * 2 ^ c.toNat)))) W.heap.size _ _ hng (HAT2.out j q hq).2.1,
          one_step (o := .cells #[.int .i64 a, .int .i64 b, .int .i64 c] 75) (o2 := .cells #[.int .i64 a, .int .i64 b, .int .i64 c] 75) (v := .int .u64 (bits .or .u64 (accW x (L.take k)) (IntKind.u64.wrap (cutS x a b * 2 ^ c.toNat)))) W.heap.size _ _ hng (HAT2.out j q hq).2.2⟩ : _ ∧ _ ∧ _))
        have HB3 := Lib.hid (one_below (o := .cells #[.int .i64 a, .int .i64 b, .int .i64 c] 75) (o2 := .cells #[.int .i64 a, .int .i64 b, .int .i64 c] 75) (v := .int .u64 (bits .or .u64 (accW x (L.take k)) (IntKind.u64.wrap (cutS x a b * 2 ^ c.toNat)))) HBW.out (by omega) hpn)
        have HST := Lib.hid (acc_step x (L.take k) (a, b, c) o5 o1)
        generalize (((wr.alloc (.cells #[.int .i64 a, .int .i64 b, .int .i64 c] 75)).alloc (.cells #[.int .i64 a, .int .i64 b, .int .i64 c] 75)).drew.setCell ⟨pn, 0, none⟩ (.int .u64 (bits .or .u64 (accW x (L.take k)) (IntKind.u64.wrap (cutS x a b * 2 ^ c.toNat))))) = W4 at *
        clear n1 w1
        go_wp2_with fail
        go_roundw
        case rel => exact ⟨k + 1, by omega, by go_num, ⟨by rw [HN3.out.1, HT.out]; exact congrArg (fun n => some (Value.int .u64 n)) HST.out, HN3.out.2⟩, HW3.out, HA3.out, HB3.out⟩
        case measure => simp [intOf]; omega
      · obtain rfl : n = k := by omega
        go_wp2_with fail
        go_end0
        have e : L.take n = L := List.take_of_length_le (by rw [HNL.out]; exact Nat.le_refl _)
        exact ⟨rfl, ⟨by rw [HC.out.1, e], HC.out.2⟩, HBW.out⟩

set_option maxHeartbeats 4000000 in
theorem each_lay (f x : Int) (B pn pw : Nat) (W : World) (hn : W.cell? ⟨pn, 0, none⟩ = some (.int .u64 0)) (fn : W.frozen? ⟨pn, 0, none⟩ = false) (hw : W.cell? ⟨pw, 0, none⟩ = some (.int .i64 x)) (hnw : pn ≠ pw)
    (hB : B ≤ W.heap.size) (hpn : B ≤ pn) :
    Calls Tryd.prog 36 #[.int .i64 f, .func (.func 37) #[] #[.pointer (some ⟨pn, 0, none⟩), .pointer (some ⟨pw, 0, none⟩)]] W (EachPost B pn W (accW (IntKind.u64.wrap x) ((partsL f).map swapP))) := by
  obtain ⟨hlen, hok⟩ := parts_ok f
  have HOK := Lib.hid hok
  clear hok
  have hpl := lt_cell hn
  have hwl := lt_cell hw
  go_enter Tryd.func36, Tryd.ntmps36
  go_wp2_with fail
  refine (parts_c f _).mono ?_
  intro e w1 hp
  generalize hL : partsL f = L at *
  clear hL
  rcases hp with ⟨rfl, rfl, rfl⟩ | ⟨hne, rfl, hat, hb, hsz⟩
  · have HN := Lib.hid hn
    have HF := Lib.hid fn
    have HE := Lib.hid (acc_nil (IntKind.u64.wrap x))
    clear hn fn hw
    go_wp2_with fail
    go_loop [9] (fun i => i = .int .i64 0) (fun _ => 0)
    case atStart => exact rfl
    case round =>
      obtain rfl := hrel
      go_wp2_with fail
      go_end0
      exact ⟨rfl, ⟨by rw [HN.out]; exact congrArg (fun n => some (Value.int .u64 n)) HE.out.symm, HF.out⟩, Below.refl _ _⟩
  · obtain ⟨n, hn'⟩ : ∃ n, L.length = n := ⟨_, rfl⟩
    rw [hn'] at hlen
    have HNL := Lib.hid hn'
    rw [hn']
    have HAT := Lib.hid hat
    have HN := Lib.hid (show w1.cell? ⟨pn, 0, none⟩ = some (.int .u64 (accW (IntKind.u64.wrap x) ((L.take 0).map swapP))) ∧ w1.frozen? ⟨pn, 0, none⟩ = false from
      ⟨by rw [hb.cell (p := ⟨pn, 0, none⟩) hpl, hn]; exact congrArg (fun n => some (Value.int .u64 n)) (acc_nil (IntKind.u64.wrap x)).symm, by rw [hb.frozen (p := ⟨pn, 0, none⟩) hpl]; exact fn⟩)
    have HW := Lib.hid ((hb.cell (p := ⟨pw, 0, none⟩) hwl).trans hw)
    have HB := Lib.hid (hb.mono hB)
    have hng : pn ≠ W.heap.size := by omega
    clear hn' hat hb hn fn hw hne
    go_wp2_with fail
    go_loopw [9] (fun i wr => ∃ k : Nat, k ≤ n ∧ i = .int .i64 k ∧ (wr.cell? ⟨pn, 0, none⟩ = some (.int .u64 (accW (IntKind.u64.wrap x) ((L.take k).map swapP))) ∧ wr.frozen? ⟨pn, 0, none⟩ = false) ∧ wr.cell? ⟨pw, 0, none⟩ = some (.int .i64 x) ∧ PartsAt wr W.heap.size L ∧ Below B W wr) (fun i _ => n - (intOf i).toNat)
    case atStart => exact ⟨0, Nat.zero_le _, rfl, HN.out, HW.out, HAT.out, HB.out⟩
    case round =>
      obtain ⟨k, hk, rfl, hc, hcw, hat, hbw⟩ := hrel
      have hszr := hbw.size
      have HC := Lib.hid hc
      have HCW := Lib.hid hcw
      have HAT2 := Lib.hid hat
      have HBW := Lib.hid hbw
      clear hc hcw hat hbw
      by_cases hlt : k < n
      · obtain ⟨p, hp⟩ : ∃ p, L[k]? = some p := ⟨L[k]'(by rw [HNL.out]; exact hlt), List.getElem?_eq_getElem _⟩
        obtain ⟨⟨o1, o2⟩, ⟨o3, o4⟩, o5, o6⟩ := HOK.out p (List.mem_of_getElem? hp)
        obtain ⟨d0, d1, d2⟩ := HAT2.out k p hp
        have HT := Lib.hid (take_snoc L k p hp)
        clear hp
        obtain ⟨a, b, c⟩ := p
        simp only at o1 o2 o3 o4 o5 o6 d0 d1 d2
        go_wp2_with fail
        have n1 := old_box (.cells #[.int .i64 a, .int .i64 b, .int .i64 c] 75) HC.out
        have w1 := old_box' (.cells #[.int .i64 a, .int .i64 b, .int .i64 c] 75) HCW.out
        refine (lay1_c c b a _ x pn pw _ n1.1 n1.2 w1.1 (by omega) (by omega) (by omega) (by omega)).mono ?_
        rintro e W3 ⟨rfl, rfl⟩
        have HN3 := Lib.hid (one_set (o := .cells #[.int .i64 a, .int .i64 b, .int .i64 c] 75) (o2 := .cells #[.int .i64 a, .int .i64 b, .int .i64 c] 75) (v := .int .u64 (bits .or .u64 (accW (IntKind.u64.wrap x) ((L.take k).map swapP)) (IntKind.u64.wrap (cutS (IntKind.u64.wrap x) c b * 2 ^ a.toNat)))) HC.out.1 HC.out.2)
        have HW3 := Lib.hid (one_step (o := .cells #[.int .i64 a, .int .i64 b, .int .i64 c] 75) (o2 := .cells #[.int .i64 a, .int .i64 b, .int .i64 c] 75) (v := .int .u64 (bits .or .u64 (accW (IntKind.u64.wrap x) ((L.take k).map swapP)) (IntKind.u64.wrap (cutS (IntKind.u64.wrap x) c b * 2 ^ a.toNat)))) pw 0 _ hnw HCW.out)
        have HA3 := Lib.hid (fun (j : Nat) (q : Part) (hq : L[j]? = some q) => (⟨one_step (o := .cells #[.int .i64 a, .int .i64 b, .int .i64 c] 75) (o2 := .cells #[.int .i64 a, .int .i64 b, .int .i64 c] 75) (v := .int .u64 (bits .or .u64 (accW (IntKind.u64.wrap x) ((L.take k).map swapP)) (IntKind.u64.wrap (cutS (IntKind.u64.wrap x) c b * 2 ^ a.toNat)))) W.heap.size _ _ hng (HAT2.out j q hq).1,
          one_step (o := .cells #[.int .i64 a, .int .i64 b, .int .i64 c] 75) (o2 := .cells #[.int .i64 a, .int .i64 b, .int .i64 c] 75) (v := .int .u64 (bits .or .u64 (accW (IntKind.u64.wrap x) ((L.take k).map swapP)) (IntKind.u64.wrap (cutS (IntKind.u64.wrap x) c b * 2 ^ a.toNat)))) W.heap.size _ _ hng (HAT2.out j q hq).2.1,
          one_step (o := .cells #[.int .i64 a, .int .i64 b, .int .i64 c] 75) (o2 := .cells #[.int .i64 a, .int .i64 b, .int .i64 c] 75) (v := .int .u64 (bits .or .u64 (accW (IntKind.u64.wrap x) ((L.take k).map swapP)) (IntKind.u64.wrap (cutS (IntKind.u64.wrap x) c b * 2 ^ a.toNat)))) W.heap.size _ _ hng (HAT2.out j q hq).2.2⟩ : _ ∧ _ ∧ _))
        have HB3 := Lib.hid (one_below (o := .cells #[.int .i64 a, .int .i64 b, .int .i64 c] 75) (o2 := .cells #[.int .i64 a, .int .i64 b, .int .i64 c] 75) (v := .int .u64 (bits .or .u64 (accW (IntKind.u64.wrap x) ((L.take k).map swapP)) (IntKind.u64.wrap (cutS (IntKind.u64.wrap x) c b * 2 ^ a.toNat)))) HBW.out (by omega) hpn)
        have HST := Lib.hid (acc_step (IntKind.u64.wrap x) ((L.take k).map swapP) (c, b, a) o1 o5)
        generalize (((wr.alloc (.cells #[.int .i64 a, .int .i64 b, .int .i64 c] 75)).alloc (.cells #[.int .i64 a, .int .i64 b, .int .i64 c] 75)).drew.setCell ⟨pn, 0, none⟩ (.int .u64 (bits .or .u64 (accW (IntKind.u64.wrap x) ((L.take k).map swapP)) (IntKind.u64.wrap (cutS (IntKind.u64.wrap x) c b * 2 ^ a.toNat))))) = W4 at *
        clear n1 w1
        go_wp2_with fail
        go_roundw
        case rel => exact ⟨k + 1, by omega, by go_num, ⟨by rw [HN3.out.1, HT.out]; rw [List.map_append]; exact congrArg (fun n => some (Value.int .u64 n)) HST.out, HN3.out.2⟩, HW3.out, HA3.out, HB3.out⟩
        case measure => simp [intOf]; omega
      · obtain rfl : n = k := by omega
        go_wp2_with fail
        go_end0
        have e : L.take n = L := List.take_of_length_le (by rw [HNL.out]; exact Nat.le_refl _)
        exact ⟨rfl, ⟨by rw [HC.out.1, e], HC.out.2⟩, HBW.out⟩
end Go.Proofs.YteknlcigfjdmdaaDoor
