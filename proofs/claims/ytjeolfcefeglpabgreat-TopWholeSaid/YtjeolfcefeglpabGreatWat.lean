/-
  Contracts of the reference of layers 2 and 7: High without signs, one, logic. Contracts of the reference's Do and product (layer 7), name by name. Contracts of the reference's Name (layer 7), op by op.
-/
import Derived.Test.YtjeolfcefeglpabGreatWar
import Derived.Test.YtjeolfcefeglpabGreatWas
import Derived.Test.YtjeolfcefeglpabGreatWam
import Derived.Test.YtjeolfcefeglpabGreatWaq
set_option maxRecDepth 20000
namespace Go.Proofs.YtjeolfcefeglpabGreat
open Go.ChangeShapes Go.WideShapes Go.ChangeAt Go.RowKit Wd

set_option maxHeartbeats 1000000 in
theorem refHigh0_c (a b : Int) (w : World) (ha0 : 0 ≤ a) (ha : a < 18446744073709551616) (hb0 : 0 ≤ b) (hb : b < 18446744073709551616) :
    Calls Tryz.prog 156 #[.int .u64 a, .int .u64 b, .int .i64 0] w fun e w' => e = .returned (.int .u64 (mulHi a b)) ∧ Below w.heap.size w w' := by
  go_enter Tryz.func156, Tryz.ntmps156
  go_wp2_with fail
  refine (refTimes_c _ _ _ ha0 ha hb0 hb).mono ?_
  rintro e w1 ⟨rfl, hB⟩
  go_wp2_with fail
  go_ret
  exact ⟨rfl, hB⟩
theorem one_c (b : Bool) (w : World) : Calls Tryz.prog 139 #[.bool b] w fun e w' => e = .returned (.int .u64 (bi b)) ∧ w = w' := by
  cases b
  · go_enter Tryz.func139, Tryz.ntmps139
    go_wp2
    go_ret
    exact ⟨rfl, rfl⟩
  · go_enter Tryz.func139, Tryz.ntmps139
    go_wp2
    go_ret
    exact ⟨rfl, rfl⟩
def ncnt (a b : Int) (i : Nat) : Int := bi (tb a i) + bi (tb b i)
theorem ncnt_range (a b : Int) (i : Nat) : 0 ≤ ncnt a b i ∧ ncnt a b i ≤ 2 := by
  unfold ncnt
  have := bi_range (tb a i)
  have := bi_range (tb b i)
  omega
def logicS (a b mn mx : Int) : Int := word fun i => decide (mn ≤ ncnt a b i) && decide (ncnt a b i ≤ mx)
set_option maxHeartbeats 1600000 in
theorem logic_c (a b mn mx : Int) (w : World) (ha0 : 0 ≤ a) (ha : a < 18446744073709551616) (hb0 : 0 ≤ b) (hb : b < 18446744073709551616) :
    Calls Tryz.prog 140 #[.int .u64 a, .int .u64 b, .int .u64 mn, .int .u64 mx] w fun e w' => e = .returned (.int .u64 (logicS a b mn mx)) ∧ Below w.heap.size w w' := by
  obtain ⟨i0, hi, hz0, hz1, hz2⟩ := info_parts info_u64
  obtain ⟨f, hf⟩ : ∃ f : Nat → Bool, f = fun i => decide (mn ≤ ncnt a b i) && decide (ncnt a b i ≤ mx) := ⟨_, rfl⟩
  have HF := Lib.hid hf
  clear hf
  go_enter Tryz.func140, Tryz.ntmps140
  go_wp2
  go_loopw [9, 10] (fun v i wr => ∃ k : Nat, k ≤ 64 ∧ i = .int .i64 k ∧ wr.ownsRow w.heap.size 38 1 v k (bl f k) ∧ Below w.heap.size w wr) (fun _ i _ => 64 - (intOf i).toNat)
  case atStart => exact ⟨0, Nat.zero_le _, rfl, World.ownsRow_nil _ _ _ _, Below.refl _ _⟩
  case round =>
    obtain ⟨k, hk, rfl, hown, hnx⟩ := hrel
    have hsz := hnx.size
    have HO := Lib.hid hown
    clear hown
    by_cases hlt : k < 64
    · have hN := (show IntKind.u64.wrap (bi (tbI a k) + bi (tbI b k)) = ncnt a b k from by
        rw [tbI_nat a k hlt, tbI_nat b k hlt, IntKind.wrap_u64]
        have := ncnt_range a b k
        unfold ncnt at *
        omega)
      obtain ⟨n0, n2⟩ := ncnt_range a b k
      generalize hn : ncnt a b k = n at *
      by_cases h1 : mn ≤ n
      · have HB := Lib.hid (show decide (n ≤ mx) = f k from by rw [HF.out]; simp only [hn, decide_eq_true h1, Bool.true_and])
        clear hn
        go_wp2_with fail
        refine (bit_c _ _ _ ha0 ha).mono ?_
        rintro e w' ⟨rfl, rfl⟩
        go_wp2_with fail
        refine (bit_c _ _ _ hb0 hb).mono ?_
        rintro e w' ⟨rfl, rfl⟩
        go_wp2_with fail
        refine (one_c _ _).mono ?_
        rintro e w' ⟨rfl, rfl⟩
        go_wp2_with (at_builtin; refine wpList_append_own _ rfl _ _ 148 rfl w.heap.size 38 i0 (.int .u64 0) 1 8 Tryz.underlying148 hi hz0 hz1 hz2 rfl (by decide) _ _ _ rfl (HO.out.alloc _) ⟨wr.heap.size, 0, none⟩ 1 1 [.int .u64 (bi (decide (n ≤ mx)))] rfl rfl news_one (one_cell _) (by unfold maxLen; omega) (by omega) (by simp; omega) ?_; intro v' w1 hown' hgrow _)
        have R := rel_app hsz HB.out HO.out hown' hgrow hnx
        go_roundw
        case rel => exact ⟨k + 1, by omega, by go_num, R.1, R.2⟩
        case measure => simp [intOf]; omega
      · have HB := Lib.hid (show false = f k from by rw [HF.out]; simp only [hn, decide_eq_false h1, Bool.false_and])
        clear hn
        go_wp2_with fail
        refine (bit_c _ _ _ ha0 ha).mono ?_
        rintro e w' ⟨rfl, rfl⟩
        go_wp2_with fail
        refine (bit_c _ _ _ hb0 hb).mono ?_
        rintro e w' ⟨rfl, rfl⟩
        go_wp2_with fail
        refine (one_c _ _).mono ?_
        rintro e w' ⟨rfl, rfl⟩
        go_wp2_with (at_builtin; refine wpList_append_own _ rfl _ _ 148 rfl w.heap.size 38 i0 (.int .u64 0) 1 8 Tryz.underlying148 hi hz0 hz1 hz2 rfl (by decide) _ _ _ rfl (HO.out.alloc _) ⟨wr.heap.size, 0, none⟩ 1 1 [.int .u64 (bi false)] rfl rfl news_one (one_cell _) (by unfold maxLen; omega) (by omega) (by simp; omega) ?_; intro v' w1 hown' hgrow _)
        have R := rel_app hsz HB.out HO.out hown' hgrow hnx
        go_roundw
        case rel => exact ⟨k + 1, by omega, by go_num, R.1, R.2⟩
        case measure => simp [intOf]; omega
    · obtain rfl : k = 64 := by omega
      go_wp2_with (go_at_call 136; refine (of_c f 64 _ w.heap.size _ (by omega) (by omega) HO.out).mono ?_; rintro e w' ⟨rfl, rfl⟩)
      go_ret
      exact ⟨by rw [HF.out]; rfl, hnx⟩
theorem tb_xor {x y : Int} (hx0 : 0 ≤ x) (hx : x < 18446744073709551616) (hy0 : 0 ≤ y) (hy : y < 18446744073709551616) (i : Nat) : tb (bits .xor .u64 x y) i = (tb x i ^^ tb y i) := by
  unfold tb; rw [u64_xor x y hx0 hx hy0 hy]; simp
theorem xor_range {x y : Int} (hx0 : 0 ≤ x) (hx : x < 18446744073709551616) (hy0 : 0 ≤ y) (hy : y < 18446744073709551616) : 0 ≤ bits .xor .u64 x y ∧ bits .xor .u64 x y < 18446744073709551616 := by
  rw [u64_xor x y hx0 hx hy0 hy]
  have := Nat.xor_lt_two_pow (x := x.toNat) (y := y.toNat) (n := 64) (by omega) (by omega)
  omega
theorem xor_logic {a b : Int} (ha0 : 0 ≤ a) (ha : a < 18446744073709551616) (hb0 : 0 ≤ b) (hb : b < 18446744073709551616) : bits .xor .u64 a b = logicS a b 1 1 := by
  have r := xor_range ha0 ha hb0 hb
  apply eq_word r.1 r.2
  intro i _
  rw [tb_xor ha0 ha hb0 hb]
  unfold ncnt
  cases tb a i <;> cases tb b i <;> rfl
theorem or_logic {a b : Int} (ha0 : 0 ≤ a) (ha : a < 18446744073709551616) (hb0 : 0 ≤ b) (hb : b < 18446744073709551616) : bits .or .u64 a b = logicS a b 1 2 := by
  have r := or_range ha0 ha hb0 hb
  apply eq_word r.1 r.2
  intro i _
  rw [tb_or ha0 ha hb0 hb]
  unfold ncnt
  cases tb a i <;> cases tb b i <;> rfl
theorem and_logic {a b : Int} (ha0 : 0 ≤ a) (ha : a < 18446744073709551616) (hb0 : 0 ≤ b) (hb : b < 18446744073709551616) : bits .and .u64 a b = logicS a b 2 2 := by
  have r := and_range ha0 ha hb0 hb
  apply eq_word r.1 r.2
  intro i _
  rw [tb_and ha0 ha hb0 hb]
  unfold ncnt
  cases tb a i <;> cases tb b i <;> rfl
theorem logic_xor (a b : Int) (w : World) (ha0 : 0 ≤ a) (ha : a < 18446744073709551616) (hb0 : 0 ≤ b) (hb : b < 18446744073709551616) :
    Calls Tryz.prog 140 #[.int .u64 a, .int .u64 b, .int .u64 1, .int .u64 1] w fun e w' => e = .returned (.int .u64 (bits .xor .u64 a b)) ∧ Below w.heap.size w w' := by
  rw [xor_logic ha0 ha hb0 hb]
  exact logic_c a b 1 1 w ha0 ha hb0 hb
theorem logic_or (a b : Int) (w : World) (ha0 : 0 ≤ a) (ha : a < 18446744073709551616) (hb0 : 0 ≤ b) (hb : b < 18446744073709551616) :
    Calls Tryz.prog 140 #[.int .u64 a, .int .u64 b, .int .u64 1, .int .u64 2] w fun e w' => e = .returned (.int .u64 (bits .or .u64 a b)) ∧ Below w.heap.size w w' := by
  rw [or_logic ha0 ha hb0 hb]
  exact logic_c a b 1 2 w ha0 ha hb0 hb
theorem logic_and (a b : Int) (w : World) (ha0 : 0 ≤ a) (ha : a < 18446744073709551616) (hb0 : 0 ≤ b) (hb : b < 18446744073709551616) :
    Calls Tryz.prog 140 #[.int .u64 a, .int .u64 b, .int .u64 2, .int .u64 2] w fun e w' => e = .returned (.int .u64 (bits .and .u64 a b)) ∧ Below w.heap.size w w' := by
  rw [and_logic ha0 ha hb0 hb]
  exact logic_c a b 2 2 w ha0 ha hb0 hb
end Go.Proofs.YtjeolfcefeglpabGreat
set_option maxRecDepth 20000
namespace Go.Proofs.YtjeolfcefeglpabGreat
open Go.ChangeShapes Go.WideShapes Go.ChangeAt Go.RowKit Wd

def NameIs (op : Int) (s : ByteArray) : Prop := ∀ w : World, Calls Tryz.prog 137 #[.int .i64 op] w fun e w' => e = .returned (.string s) ∧ Below w.heap.size w w'

set_option maxHeartbeats 2000000 in
theorem refDo_add (op a b : Int) (w : World) (hN : NameIs op ⟨#[97, 100, 100]⟩) (_ha0 : 0 ≤ a) (_ha : a < 18446744073709551616) (_hb0 : 0 ≤ b) (_hb : b < 18446744073709551616) :
    Calls Tryz.prog 92 #[.int .i64 op, .int .u64 a, .int .u64 b] w fun e w' => e = .returned (.tuple #[.int .u64 (IntKind.u64.wrap (a + b)), .bool true]) ∧ Below w.heap.size w w' := by
  go_enter Tryz.func92, Tryz.ntmps92
  go_wp2_with fail
  refine (hN _).mono ?_
  rintro e w1 ⟨rfl, hb1⟩
  have HB1 := Lib.hid hb1
  clear hb1
  go_wp2_with fail
  go_ret2
  exact ⟨rfl, HB1.out⟩
set_option maxHeartbeats 2000000 in
theorem refDo_sub (op a b : Int) (w : World) (hN : NameIs op ⟨#[115, 117, 98]⟩) (_ha0 : 0 ≤ a) (_ha : a < 18446744073709551616) (_hb0 : 0 ≤ b) (_hb : b < 18446744073709551616) :
    Calls Tryz.prog 92 #[.int .i64 op, .int .u64 a, .int .u64 b] w fun e w' => e = .returned (.tuple #[.int .u64 (IntKind.u64.wrap (a - b)), .bool true]) ∧ Below w.heap.size w w' := by
  go_enter Tryz.func92, Tryz.ntmps92
  go_wp2_with fail
  refine (hN _).mono ?_
  rintro e w1 ⟨rfl, hb1⟩
  have HB1 := Lib.hid hb1
  clear hb1
  go_wp2_with fail
  go_ret2
  exact ⟨rfl, HB1.out⟩
set_option maxHeartbeats 2000000 in
theorem refDo_sll (op a b : Int) (w : World) (hN : NameIs op ⟨#[115, 108, 108]⟩) (ha0 : 0 ≤ a) (ha : a < 18446744073709551616) (hb0 : 0 ≤ b) (_hb : b < 18446744073709551616) :
    Calls Tryz.prog 92 #[.int .i64 op, .int .u64 a, .int .u64 b] w fun e w' => e = .returned (.tuple #[.int .u64 (sllS a b), .bool true]) ∧ Below w.heap.size w w' := by
  rw [sll_ref ha0 (F := (b % 64).toNat) (by omega)]
  go_enter Tryz.func92, Tryz.ntmps92
  go_wp2_with fail
  refine (hN _).mono ?_
  rintro e w1 ⟨rfl, hb1⟩
  have HB1 := Lib.hid hb1
  clear hb1
  go_wp2_with fail
  refine (refShift1_64_c a b (b % 64).toNat _ ha0 ha hb0 (by omega)).mono ?_
  rintro e w2 ⟨rfl, hb2⟩
  have HB2 := Lib.hid (HB1.out.trans (hb2.mono HB1.out.size))
  clear hb2
  go_wp2_with fail
  go_ret2
  exact ⟨rfl, HB2.out⟩
set_option maxHeartbeats 2000000 in
theorem refDo_srl (op a b : Int) (w : World) (hN : NameIs op ⟨#[115, 114, 108]⟩) (ha0 : 0 ≤ a) (ha : a < 18446744073709551616) (hb0 : 0 ≤ b) (_hb : b < 18446744073709551616) :
    Calls Tryz.prog 92 #[.int .i64 op, .int .u64 a, .int .u64 b] w fun e w' => e = .returned (.tuple #[.int .u64 (srlS a b), .bool true]) ∧ Below w.heap.size w w' := by
  rw [srl_ref ha0 ha (F := (b % 64).toNat) (by omega)]
  go_enter Tryz.func92, Tryz.ntmps92
  go_wp2_with fail
  refine (hN _).mono ?_
  rintro e w1 ⟨rfl, hb1⟩
  have HB1 := Lib.hid hb1
  clear hb1
  go_wp2_with fail
  refine (refShift2_64_c a b (b % 64).toNat _ ha0 ha hb0 (by omega)).mono ?_
  rintro e w2 ⟨rfl, hb2⟩
  have HB2 := Lib.hid (HB1.out.trans (hb2.mono HB1.out.size))
  clear hb2
  go_wp2_with fail
  go_ret2
  exact ⟨rfl, HB2.out⟩
set_option maxHeartbeats 2000000 in
theorem refDo_sra (op a b : Int) (w : World) (hN : NameIs op ⟨#[115, 114, 97]⟩) (ha0 : 0 ≤ a) (ha : a < 18446744073709551616) (hb0 : 0 ≤ b) (_hb : b < 18446744073709551616) :
    Calls Tryz.prog 92 #[.int .i64 op, .int .u64 a, .int .u64 b] w fun e w' => e = .returned (.tuple #[.int .u64 (sraS a b), .bool true]) ∧ Below w.heap.size w w' := by
  rw [sra_ref ha0 ha (F := (b % 64).toNat) (by omega)]
  go_enter Tryz.func92, Tryz.ntmps92
  go_wp2_with fail
  refine (hN _).mono ?_
  rintro e w1 ⟨rfl, hb1⟩
  have HB1 := Lib.hid hb1
  clear hb1
  go_wp2_with fail
  refine (refShift3_64_c a b (b % 64).toNat _ ha0 ha hb0 (by omega)).mono ?_
  rintro e w2 ⟨rfl, hb2⟩
  have HB2 := Lib.hid (HB1.out.trans (hb2.mono HB1.out.size))
  clear hb2
  go_wp2_with fail
  go_ret2
  exact ⟨rfl, HB2.out⟩
set_option maxHeartbeats 2000000 in
theorem refDo_slt (op a b : Int) (w : World) (hN : NameIs op ⟨#[115, 108, 116]⟩) (ha0 : 0 ≤ a) (ha : a < 18446744073709551616) (hb0 : 0 ≤ b) (hb : b < 18446744073709551616) :
    Calls Tryz.prog 92 #[.int .i64 op, .int .u64 a, .int .u64 b] w fun e w' => e = .returned (.tuple #[.int .u64 (bi (lessS a b)), .bool true]) ∧ Below w.heap.size w w' := by
  go_enter Tryz.func92, Tryz.ntmps92
  go_wp2_with fail
  refine (hN _).mono ?_
  rintro e w1 ⟨rfl, hb1⟩
  have HB1 := Lib.hid hb1
  clear hb1
  go_wp2_with fail
  refine (refLess_c _ _ _ ha0 ha hb0 hb).mono ?_
  rintro e w' ⟨rfl, rfl⟩
  go_wp2_with fail
  refine (one_c _ _).mono ?_
  rintro e w' ⟨rfl, rfl⟩
  go_wp2_with fail
  go_ret2
  exact ⟨rfl, HB1.out⟩
set_option maxHeartbeats 2000000 in
theorem refDo_sltu (op a b : Int) (w : World) (hN : NameIs op ⟨#[115, 108, 116, 117]⟩) (_ha0 : 0 ≤ a) (_ha : a < 18446744073709551616) (_hb0 : 0 ≤ b) (_hb : b < 18446744073709551616) :
    Calls Tryz.prog 92 #[.int .i64 op, .int .u64 a, .int .u64 b] w fun e w' => e = .returned (.tuple #[.int .u64 (bi (lessU a b)), .bool true]) ∧ Below w.heap.size w w' := by
  go_enter Tryz.func92, Tryz.ntmps92
  go_wp2_with fail
  refine (hN _).mono ?_
  rintro e w1 ⟨rfl, hb1⟩
  have HB1 := Lib.hid hb1
  clear hb1
  go_wp2_with fail
  refine (one_c _ _).mono ?_
  rintro e w' ⟨rfl, rfl⟩
  go_wp2_with fail
  go_ret2
  exact ⟨rfl, HB1.out⟩
set_option maxHeartbeats 2000000 in
theorem refDo_xor (op a b : Int) (w : World) (hN : NameIs op ⟨#[120, 111, 114]⟩) (ha0 : 0 ≤ a) (ha : a < 18446744073709551616) (hb0 : 0 ≤ b) (hb : b < 18446744073709551616) :
    Calls Tryz.prog 92 #[.int .i64 op, .int .u64 a, .int .u64 b] w fun e w' => e = .returned (.tuple #[.int .u64 (bits .xor .u64 a b), .bool true]) ∧ Below w.heap.size w w' := by
  go_enter Tryz.func92, Tryz.ntmps92
  go_wp2_with fail
  refine (hN _).mono ?_
  rintro e w1 ⟨rfl, hb1⟩
  have HB1 := Lib.hid hb1
  clear hb1
  go_wp2_with fail
  refine (logic_xor _ _ _ ha0 ha hb0 hb).mono ?_
  rintro e w2 ⟨rfl, hb2⟩
  have HB2 := Lib.hid (HB1.out.trans (hb2.mono HB1.out.size))
  clear hb2
  go_wp2_with fail
  go_ret2
  exact ⟨rfl, HB2.out⟩
set_option maxHeartbeats 2000000 in
theorem refDo_or (op a b : Int) (w : World) (hN : NameIs op ⟨#[111, 114]⟩) (ha0 : 0 ≤ a) (ha : a < 18446744073709551616) (hb0 : 0 ≤ b) (hb : b < 18446744073709551616) :
    Calls Tryz.prog 92 #[.int .i64 op, .int .u64 a, .int .u64 b] w fun e w' => e = .returned (.tuple #[.int .u64 (bits .or .u64 a b), .bool true]) ∧ Below w.heap.size w w' := by
  go_enter Tryz.func92, Tryz.ntmps92
  go_wp2_with fail
  refine (hN _).mono ?_
  rintro e w1 ⟨rfl, hb1⟩
  have HB1 := Lib.hid hb1
  clear hb1
  go_wp2_with fail
  refine (logic_or _ _ _ ha0 ha hb0 hb).mono ?_
  rintro e w2 ⟨rfl, hb2⟩
  have HB2 := Lib.hid (HB1.out.trans (hb2.mono HB1.out.size))
  clear hb2
  go_wp2_with fail
  go_ret2
  exact ⟨rfl, HB2.out⟩
set_option maxHeartbeats 2000000 in
theorem refDo_and (op a b : Int) (w : World) (hN : NameIs op ⟨#[97, 110, 100]⟩) (ha0 : 0 ≤ a) (ha : a < 18446744073709551616) (hb0 : 0 ≤ b) (hb : b < 18446744073709551616) :
    Calls Tryz.prog 92 #[.int .i64 op, .int .u64 a, .int .u64 b] w fun e w' => e = .returned (.tuple #[.int .u64 (bits .and .u64 a b), .bool true]) ∧ Below w.heap.size w w' := by
  go_enter Tryz.func92, Tryz.ntmps92
  go_wp2_with fail
  refine (hN _).mono ?_
  rintro e w1 ⟨rfl, hb1⟩
  have HB1 := Lib.hid hb1
  clear hb1
  go_wp2_with fail
  refine (logic_and _ _ _ ha0 ha hb0 hb).mono ?_
  rintro e w2 ⟨rfl, hb2⟩
  have HB2 := Lib.hid (HB1.out.trans (hb2.mono HB1.out.size))
  clear hb2
  go_wp2_with fail
  go_ret2
  exact ⟨rfl, HB2.out⟩
set_option maxHeartbeats 2000000 in
theorem refDo_addw (op a b : Int) (w : World) (hN : NameIs op ⟨#[97, 100, 100, 119]⟩) (_ha0 : 0 ≤ a) (_ha : a < 18446744073709551616) (_hb0 : 0 ≤ b) (_hb : b < 18446744073709551616) :
    Calls Tryz.prog 92 #[.int .i64 op, .int .u64 a, .int .u64 b] w fun e w' => e = .returned (.tuple #[.int .u64 (signS (IntKind.u64.wrap (a + b)) 32), .bool true]) ∧ Below w.heap.size w w' := by
  go_enter Tryz.func92, Tryz.ntmps92
  go_wp2_with fail
  refine (hN _).mono ?_
  rintro e w1 ⟨rfl, hb1⟩
  have HB1 := Lib.hid hb1
  clear hb1
  go_wp2_with fail
  refine (refSign_c _ _ _ (wrap_range _).1 (wrap_range _).2 (by omega)).mono ?_
  rintro e w2 ⟨rfl, hb2⟩
  have HB2 := Lib.hid (HB1.out.trans (hb2.mono HB1.out.size))
  clear hb2
  go_wp2_with fail
  go_ret2
  exact ⟨rfl, HB2.out⟩
set_option maxHeartbeats 2000000 in
theorem refDo_subw (op a b : Int) (w : World) (hN : NameIs op ⟨#[115, 117, 98, 119]⟩) (_ha0 : 0 ≤ a) (_ha : a < 18446744073709551616) (_hb0 : 0 ≤ b) (_hb : b < 18446744073709551616) :
    Calls Tryz.prog 92 #[.int .i64 op, .int .u64 a, .int .u64 b] w fun e w' => e = .returned (.tuple #[.int .u64 (signS (IntKind.u64.wrap (a - b)) 32), .bool true]) ∧ Below w.heap.size w w' := by
  go_enter Tryz.func92, Tryz.ntmps92
  go_wp2_with fail
  refine (hN _).mono ?_
  rintro e w1 ⟨rfl, hb1⟩
  have HB1 := Lib.hid hb1
  clear hb1
  go_wp2_with fail
  refine (refSign_c _ _ _ (wrap_range _).1 (wrap_range _).2 (by omega)).mono ?_
  rintro e w2 ⟨rfl, hb2⟩
  have HB2 := Lib.hid (HB1.out.trans (hb2.mono HB1.out.size))
  clear hb2
  go_wp2_with fail
  go_ret2
  exact ⟨rfl, HB2.out⟩
set_option maxHeartbeats 2000000 in
theorem refDo_sllw (op a b : Int) (w : World) (hN : NameIs op ⟨#[115, 108, 108, 119]⟩) (ha0 : 0 ≤ a) (ha : a < 18446744073709551616) (hb0 : 0 ≤ b) (_hb : b < 18446744073709551616) :
    Calls Tryz.prog 92 #[.int .i64 op, .int .u64 a, .int .u64 b] w fun e w' => e = .returned (.tuple #[.int .u64 (sllwS a b), .bool true]) ∧ Below w.heap.size w w' := by
  rw [sllw_ref ha0 (F := (b % 32).toNat) (by omega)]
  go_enter Tryz.func92, Tryz.ntmps92
  go_wp2_with fail
  refine (hN _).mono ?_
  rintro e w1 ⟨rfl, hb1⟩
  have HB1 := Lib.hid hb1
  clear hb1
  go_wp2_with fail
  refine (refShift1_32_c a b (b % 32).toNat _ ha0 ha hb0 (by omega)).mono ?_
  rintro e w2 ⟨rfl, hb2⟩
  have HB2 := Lib.hid (HB1.out.trans (hb2.mono HB1.out.size))
  clear hb2
  go_wp2_with fail
  go_ret2
  exact ⟨rfl, HB2.out⟩
set_option maxHeartbeats 2000000 in
theorem refDo_srlw (op a b : Int) (w : World) (hN : NameIs op ⟨#[115, 114, 108, 119]⟩) (ha0 : 0 ≤ a) (ha : a < 18446744073709551616) (hb0 : 0 ≤ b) (_hb : b < 18446744073709551616) :
    Calls Tryz.prog 92 #[.int .i64 op, .int .u64 a, .int .u64 b] w fun e w' => e = .returned (.tuple #[.int .u64 (srlwS a b), .bool true]) ∧ Below w.heap.size w w' := by
  rw [srlw_ref (F := (b % 32).toNat) (by omega) (by omega)]
  go_enter Tryz.func92, Tryz.ntmps92
  go_wp2_with fail
  refine (hN _).mono ?_
  rintro e w1 ⟨rfl, hb1⟩
  have HB1 := Lib.hid hb1
  clear hb1
  go_wp2_with fail
  refine (refShift2_32_c a b (b % 32).toNat _ ha0 ha hb0 (by omega)).mono ?_
  rintro e w2 ⟨rfl, hb2⟩
  have HB2 := Lib.hid (HB1.out.trans (hb2.mono HB1.out.size))
  clear hb2
  go_wp2_with fail
  go_ret2
  exact ⟨rfl, HB2.out⟩
set_option maxHeartbeats 2000000 in
theorem refDo_sraw (op a b : Int) (w : World) (hN : NameIs op ⟨#[115, 114, 97, 119]⟩) (ha0 : 0 ≤ a) (ha : a < 18446744073709551616) (hb0 : 0 ≤ b) (_hb : b < 18446744073709551616) :
    Calls Tryz.prog 92 #[.int .i64 op, .int .u64 a, .int .u64 b] w fun e w' => e = .returned (.tuple #[.int .u64 (srawS a b), .bool true]) ∧ Below w.heap.size w w' := by
  rw [sraw_ref (F := (b % 32).toNat) (by omega) (by omega)]
  go_enter Tryz.func92, Tryz.ntmps92
  go_wp2_with fail
  refine (hN _).mono ?_
  rintro e w1 ⟨rfl, hb1⟩
  have HB1 := Lib.hid hb1
  clear hb1
  go_wp2_with fail
  refine (refShift3_32_c a b (b % 32).toNat _ ha0 ha hb0 (by omega)).mono ?_
  rintro e w2 ⟨rfl, hb2⟩
  have HB2 := Lib.hid (HB1.out.trans (hb2.mono HB1.out.size))
  clear hb2
  go_wp2_with fail
  go_ret2
  exact ⟨rfl, HB2.out⟩
set_option maxHeartbeats 2000000 in
theorem refProduct_mul (a b : Int) (w : World) (ha0 : 0 ≤ a) (ha : a < 18446744073709551616) (hb0 : 0 ≤ b) (hb : b < 18446744073709551616) :
    Calls Tryz.prog 141 #[.string ⟨#[109, 117, 108]⟩, .int .u64 a, .int .u64 b] w fun e w' => e = .returned (.int .u64 (mulLo a b)) ∧ Below w.heap.size w w' := by
  obtain ⟨s0, s1⟩ := halfS_range a false
  obtain ⟨t0, t1⟩ := halfS_range b false
  obtain ⟨p0, p1⟩ := halfS_range a true
  obtain ⟨q0, q1⟩ := halfS_range b true
  go_enter Tryz.func141, Tryz.ntmps141
  go_wp2_with fail
  refine (half_c _ _ _ ha0 ha).mono ?_
  rintro e w1 ⟨rfl, hb1⟩
  have HB1 := Lib.hid hb1
  clear hb1
  go_wp2_with fail
  refine (half_c _ _ _ hb0 hb).mono ?_
  rintro e w2 ⟨rfl, hb2⟩
  have HB2 := Lib.hid (HB1.out.trans (hb2.mono HB1.out.size))
  clear hb2
  go_wp2_with fail
  refine (half_c _ _ _ ha0 ha).mono ?_
  rintro e w3 ⟨rfl, hb3⟩
  have HB3 := Lib.hid (HB2.out.trans (hb3.mono HB2.out.size))
  clear hb3
  go_wp2_with fail
  refine (half_c _ _ _ hb0 hb).mono ?_
  rintro e w4 ⟨rfl, hb4⟩
  have HB4 := Lib.hid (HB3.out.trans (hb4.mono HB3.out.size))
  clear hb4
  go_wp2_with fail
  refine (refTimes_c _ _ _ ha0 ha hb0 hb).mono ?_
  rintro e w5 ⟨rfl, hb5⟩
  have HB5 := Lib.hid (HB4.out.trans (hb5.mono HB4.out.size))
  clear hb5
  go_wp2_with fail
  go_ret
  exact ⟨rfl, HB5.out⟩
set_option maxHeartbeats 2000000 in
theorem refDo_mul (op a b : Int) (w : World) (hN : NameIs op ⟨#[109, 117, 108]⟩) (ha0 : 0 ≤ a) (ha : a < 18446744073709551616) (hb0 : 0 ≤ b) (hb : b < 18446744073709551616) :
    Calls Tryz.prog 92 #[.int .i64 op, .int .u64 a, .int .u64 b] w fun e w' => e = .returned (.tuple #[.int .u64 (mulLo a b), .bool true]) ∧ Below w.heap.size w w' := by
  go_enter Tryz.func92, Tryz.ntmps92
  go_wp2_with fail
  refine (hN _).mono ?_
  rintro e w1 ⟨rfl, hb1⟩
  have HB1 := Lib.hid hb1
  clear hb1
  go_wp2_with fail
  refine (refProduct_mul _ _ _ ha0 ha hb0 hb).mono ?_
  rintro e w2 ⟨rfl, hb2⟩
  have HB2 := Lib.hid (HB1.out.trans (hb2.mono HB1.out.size))
  clear hb2
  go_wp2_with fail
  go_ret2
  exact ⟨rfl, HB2.out⟩
set_option maxHeartbeats 2000000 in
theorem refProduct_mulh (a b : Int) (w : World) (ha0 : 0 ≤ a) (ha : a < 18446744073709551616) (hb0 : 0 ≤ b) (hb : b < 18446744073709551616) :
    Calls Tryz.prog 141 #[.string ⟨#[109, 117, 108, 104]⟩, .int .u64 a, .int .u64 b] w fun e w' => e = .returned (.int .u64 (hSig a b)) ∧ Below w.heap.size w w' := by
  obtain ⟨s0, s1⟩ := halfS_range a false
  obtain ⟨t0, t1⟩ := halfS_range b false
  obtain ⟨p0, p1⟩ := halfS_range a true
  obtain ⟨q0, q1⟩ := halfS_range b true
  go_enter Tryz.func141, Tryz.ntmps141
  go_wp2_with fail
  refine (half_c _ _ _ ha0 ha).mono ?_
  rintro e w1 ⟨rfl, hb1⟩
  have HB1 := Lib.hid hb1
  clear hb1
  go_wp2_with fail
  refine (half_c _ _ _ hb0 hb).mono ?_
  rintro e w2 ⟨rfl, hb2⟩
  have HB2 := Lib.hid (HB1.out.trans (hb2.mono HB1.out.size))
  clear hb2
  go_wp2_with fail
  refine (half_c _ _ _ ha0 ha).mono ?_
  rintro e w3 ⟨rfl, hb3⟩
  have HB3 := Lib.hid (HB2.out.trans (hb3.mono HB2.out.size))
  clear hb3
  go_wp2_with fail
  refine (half_c _ _ _ hb0 hb).mono ?_
  rintro e w4 ⟨rfl, hb4⟩
  have HB4 := Lib.hid (HB3.out.trans (hb4.mono HB3.out.size))
  clear hb4
  go_wp2_with fail
  refine (refHigh2_c _ _ _ ha0 ha hb0 hb).mono ?_
  rintro e w5 ⟨rfl, hb5⟩
  have HB5 := Lib.hid (HB4.out.trans (hb5.mono HB4.out.size))
  clear hb5
  go_wp2_with fail
  go_ret
  exact ⟨rfl, HB5.out⟩
set_option maxHeartbeats 2000000 in
theorem refDo_mulh (op a b : Int) (w : World) (hN : NameIs op ⟨#[109, 117, 108, 104]⟩) (ha0 : 0 ≤ a) (ha : a < 18446744073709551616) (hb0 : 0 ≤ b) (hb : b < 18446744073709551616) :
    Calls Tryz.prog 92 #[.int .i64 op, .int .u64 a, .int .u64 b] w fun e w' => e = .returned (.tuple #[.int .u64 (hSig a b), .bool true]) ∧ Below w.heap.size w w' := by
  go_enter Tryz.func92, Tryz.ntmps92
  go_wp2_with fail
  refine (hN _).mono ?_
  rintro e w1 ⟨rfl, hb1⟩
  have HB1 := Lib.hid hb1
  clear hb1
  go_wp2_with fail
  refine (refProduct_mulh _ _ _ ha0 ha hb0 hb).mono ?_
  rintro e w2 ⟨rfl, hb2⟩
  have HB2 := Lib.hid (HB1.out.trans (hb2.mono HB1.out.size))
  clear hb2
  go_wp2_with fail
  go_ret2
  exact ⟨rfl, HB2.out⟩
set_option maxHeartbeats 2000000 in
theorem refProduct_mulhsu (a b : Int) (w : World) (ha0 : 0 ≤ a) (ha : a < 18446744073709551616) (hb0 : 0 ≤ b) (hb : b < 18446744073709551616) :
    Calls Tryz.prog 141 #[.string ⟨#[109, 117, 108, 104, 115, 117]⟩, .int .u64 a, .int .u64 b] w fun e w' => e = .returned (.int .u64 (hMix a b)) ∧ Below w.heap.size w w' := by
  obtain ⟨s0, s1⟩ := halfS_range a false
  obtain ⟨t0, t1⟩ := halfS_range b false
  obtain ⟨p0, p1⟩ := halfS_range a true
  obtain ⟨q0, q1⟩ := halfS_range b true
  go_enter Tryz.func141, Tryz.ntmps141
  go_wp2_with fail
  refine (half_c _ _ _ ha0 ha).mono ?_
  rintro e w1 ⟨rfl, hb1⟩
  have HB1 := Lib.hid hb1
  clear hb1
  go_wp2_with fail
  refine (half_c _ _ _ hb0 hb).mono ?_
  rintro e w2 ⟨rfl, hb2⟩
  have HB2 := Lib.hid (HB1.out.trans (hb2.mono HB1.out.size))
  clear hb2
  go_wp2_with fail
  refine (half_c _ _ _ ha0 ha).mono ?_
  rintro e w3 ⟨rfl, hb3⟩
  have HB3 := Lib.hid (HB2.out.trans (hb3.mono HB2.out.size))
  clear hb3
  go_wp2_with fail
  refine (half_c _ _ _ hb0 hb).mono ?_
  rintro e w4 ⟨rfl, hb4⟩
  have HB4 := Lib.hid (HB3.out.trans (hb4.mono HB3.out.size))
  clear hb4
  go_wp2_with fail
  refine (refHigh1_c _ _ _ ha0 ha hb0 hb).mono ?_
  rintro e w5 ⟨rfl, hb5⟩
  have HB5 := Lib.hid (HB4.out.trans (hb5.mono HB4.out.size))
  clear hb5
  go_wp2_with fail
  go_ret
  exact ⟨rfl, HB5.out⟩
set_option maxHeartbeats 2000000 in
theorem refDo_mulhsu (op a b : Int) (w : World) (hN : NameIs op ⟨#[109, 117, 108, 104, 115, 117]⟩) (ha0 : 0 ≤ a) (ha : a < 18446744073709551616) (hb0 : 0 ≤ b) (hb : b < 18446744073709551616) :
    Calls Tryz.prog 92 #[.int .i64 op, .int .u64 a, .int .u64 b] w fun e w' => e = .returned (.tuple #[.int .u64 (hMix a b), .bool true]) ∧ Below w.heap.size w w' := by
  go_enter Tryz.func92, Tryz.ntmps92
  go_wp2_with fail
  refine (hN _).mono ?_
  rintro e w1 ⟨rfl, hb1⟩
  have HB1 := Lib.hid hb1
  clear hb1
  go_wp2_with fail
  refine (refProduct_mulhsu _ _ _ ha0 ha hb0 hb).mono ?_
  rintro e w2 ⟨rfl, hb2⟩
  have HB2 := Lib.hid (HB1.out.trans (hb2.mono HB1.out.size))
  clear hb2
  go_wp2_with fail
  go_ret2
  exact ⟨rfl, HB2.out⟩
set_option maxHeartbeats 2000000 in
theorem refProduct_mulhu (a b : Int) (w : World) (ha0 : 0 ≤ a) (ha : a < 18446744073709551616) (hb0 : 0 ≤ b) (hb : b < 18446744073709551616) :
    Calls Tryz.prog 141 #[.string ⟨#[109, 117, 108, 104, 117]⟩, .int .u64 a, .int .u64 b] w fun e w' => e = .returned (.int .u64 (mulHi a b)) ∧ Below w.heap.size w w' := by
  obtain ⟨s0, s1⟩ := halfS_range a false
  obtain ⟨t0, t1⟩ := halfS_range b false
  obtain ⟨p0, p1⟩ := halfS_range a true
  obtain ⟨q0, q1⟩ := halfS_range b true
  go_enter Tryz.func141, Tryz.ntmps141
  go_wp2_with fail
  refine (half_c _ _ _ ha0 ha).mono ?_
  rintro e w1 ⟨rfl, hb1⟩
  have HB1 := Lib.hid hb1
  clear hb1
  go_wp2_with fail
  refine (half_c _ _ _ hb0 hb).mono ?_
  rintro e w2 ⟨rfl, hb2⟩
  have HB2 := Lib.hid (HB1.out.trans (hb2.mono HB1.out.size))
  clear hb2
  go_wp2_with fail
  refine (half_c _ _ _ ha0 ha).mono ?_
  rintro e w3 ⟨rfl, hb3⟩
  have HB3 := Lib.hid (HB2.out.trans (hb3.mono HB2.out.size))
  clear hb3
  go_wp2_with fail
  refine (half_c _ _ _ hb0 hb).mono ?_
  rintro e w4 ⟨rfl, hb4⟩
  have HB4 := Lib.hid (HB3.out.trans (hb4.mono HB3.out.size))
  clear hb4
  go_wp2_with fail
  refine (refHigh0_c _ _ _ ha0 ha hb0 hb).mono ?_
  rintro e w5 ⟨rfl, hb5⟩
  have HB5 := Lib.hid (HB4.out.trans (hb5.mono HB4.out.size))
  clear hb5
  go_wp2_with fail
  go_ret
  exact ⟨rfl, HB5.out⟩
set_option maxHeartbeats 2000000 in
theorem refDo_mulhu (op a b : Int) (w : World) (hN : NameIs op ⟨#[109, 117, 108, 104, 117]⟩) (ha0 : 0 ≤ a) (ha : a < 18446744073709551616) (hb0 : 0 ≤ b) (hb : b < 18446744073709551616) :
    Calls Tryz.prog 92 #[.int .i64 op, .int .u64 a, .int .u64 b] w fun e w' => e = .returned (.tuple #[.int .u64 (mulHi a b), .bool true]) ∧ Below w.heap.size w w' := by
  go_enter Tryz.func92, Tryz.ntmps92
  go_wp2_with fail
  refine (hN _).mono ?_
  rintro e w1 ⟨rfl, hb1⟩
  have HB1 := Lib.hid hb1
  clear hb1
  go_wp2_with fail
  refine (refProduct_mulhu _ _ _ ha0 ha hb0 hb).mono ?_
  rintro e w2 ⟨rfl, hb2⟩
  have HB2 := Lib.hid (HB1.out.trans (hb2.mono HB1.out.size))
  clear hb2
  go_wp2_with fail
  go_ret2
  exact ⟨rfl, HB2.out⟩
set_option maxHeartbeats 2000000 in
theorem refProduct_div (a b : Int) (w : World) (ha0 : 0 ≤ a) (ha : a < 18446744073709551616) (hb0 : 0 ≤ b) (hb : b < 18446744073709551616) :
    Calls Tryz.prog 141 #[.string ⟨#[100, 105, 118]⟩, .int .u64 a, .int .u64 b] w fun e w' => e = .returned (.int .u64 (divS a b)) ∧ Below w.heap.size w w' := by
  obtain ⟨s0, s1⟩ := halfS_range a false
  obtain ⟨t0, t1⟩ := halfS_range b false
  obtain ⟨p0, p1⟩ := halfS_range a true
  obtain ⟨q0, q1⟩ := halfS_range b true
  go_enter Tryz.func141, Tryz.ntmps141
  go_wp2_with fail
  refine (half_c _ _ _ ha0 ha).mono ?_
  rintro e w1 ⟨rfl, hb1⟩
  have HB1 := Lib.hid hb1
  clear hb1
  go_wp2_with fail
  refine (half_c _ _ _ hb0 hb).mono ?_
  rintro e w2 ⟨rfl, hb2⟩
  have HB2 := Lib.hid (HB1.out.trans (hb2.mono HB1.out.size))
  clear hb2
  go_wp2_with fail
  refine (half_c _ _ _ ha0 ha).mono ?_
  rintro e w3 ⟨rfl, hb3⟩
  have HB3 := Lib.hid (HB2.out.trans (hb3.mono HB2.out.size))
  clear hb3
  go_wp2_with fail
  refine (half_c _ _ _ hb0 hb).mono ?_
  rintro e w4 ⟨rfl, hb4⟩
  have HB4 := Lib.hid (HB3.out.trans (hb4.mono HB3.out.size))
  clear hb4
  go_wp2_with fail
  refine (refDiv_sign _ _ _ ha0 ha hb0 hb).mono ?_
  rintro e w5 ⟨rfl, hb5⟩
  have HB5 := Lib.hid (HB4.out.trans (hb5.mono HB4.out.size))
  clear hb5
  go_wp2_with fail
  go_ret
  exact ⟨rfl, HB5.out⟩
set_option maxHeartbeats 2000000 in
theorem refDo_div (op a b : Int) (w : World) (hN : NameIs op ⟨#[100, 105, 118]⟩) (ha0 : 0 ≤ a) (ha : a < 18446744073709551616) (hb0 : 0 ≤ b) (hb : b < 18446744073709551616) :
    Calls Tryz.prog 92 #[.int .i64 op, .int .u64 a, .int .u64 b] w fun e w' => e = .returned (.tuple #[.int .u64 (divS a b), .bool true]) ∧ Below w.heap.size w w' := by
  go_enter Tryz.func92, Tryz.ntmps92
  go_wp2_with fail
  refine (hN _).mono ?_
  rintro e w1 ⟨rfl, hb1⟩
  have HB1 := Lib.hid hb1
  clear hb1
  go_wp2_with fail
  refine (refProduct_div _ _ _ ha0 ha hb0 hb).mono ?_
  rintro e w2 ⟨rfl, hb2⟩
  have HB2 := Lib.hid (HB1.out.trans (hb2.mono HB1.out.size))
  clear hb2
  go_wp2_with fail
  go_ret2
  exact ⟨rfl, HB2.out⟩
set_option maxHeartbeats 2000000 in
theorem refProduct_divu (a b : Int) (w : World) (ha0 : 0 ≤ a) (ha : a < 18446744073709551616) (hb0 : 0 ≤ b) (hb : b < 18446744073709551616) :
    Calls Tryz.prog 141 #[.string ⟨#[100, 105, 118, 117]⟩, .int .u64 a, .int .u64 b] w fun e w' => e = .returned (.int .u64 (divP a b)) ∧ Below w.heap.size w w' := by
  obtain ⟨s0, s1⟩ := halfS_range a false
  obtain ⟨t0, t1⟩ := halfS_range b false
  obtain ⟨p0, p1⟩ := halfS_range a true
  obtain ⟨q0, q1⟩ := halfS_range b true
  go_enter Tryz.func141, Tryz.ntmps141
  go_wp2_with fail
  refine (half_c _ _ _ ha0 ha).mono ?_
  rintro e w1 ⟨rfl, hb1⟩
  have HB1 := Lib.hid hb1
  clear hb1
  go_wp2_with fail
  refine (half_c _ _ _ hb0 hb).mono ?_
  rintro e w2 ⟨rfl, hb2⟩
  have HB2 := Lib.hid (HB1.out.trans (hb2.mono HB1.out.size))
  clear hb2
  go_wp2_with fail
  refine (half_c _ _ _ ha0 ha).mono ?_
  rintro e w3 ⟨rfl, hb3⟩
  have HB3 := Lib.hid (HB2.out.trans (hb3.mono HB2.out.size))
  clear hb3
  go_wp2_with fail
  refine (half_c _ _ _ hb0 hb).mono ?_
  rintro e w4 ⟨rfl, hb4⟩
  have HB4 := Lib.hid (HB3.out.trans (hb4.mono HB3.out.size))
  clear hb4
  go_wp2_with fail
  refine (refDiv_plain _ _ _ ha0 ha hb0 hb).mono ?_
  rintro e w5 ⟨rfl, hb5⟩
  have HB5 := Lib.hid (HB4.out.trans (hb5.mono HB4.out.size))
  clear hb5
  go_wp2_with fail
  go_ret
  exact ⟨rfl, HB5.out⟩
set_option maxHeartbeats 2000000 in
theorem refDo_divu (op a b : Int) (w : World) (hN : NameIs op ⟨#[100, 105, 118, 117]⟩) (ha0 : 0 ≤ a) (ha : a < 18446744073709551616) (hb0 : 0 ≤ b) (hb : b < 18446744073709551616) :
    Calls Tryz.prog 92 #[.int .i64 op, .int .u64 a, .int .u64 b] w fun e w' => e = .returned (.tuple #[.int .u64 (divP a b), .bool true]) ∧ Below w.heap.size w w' := by
  go_enter Tryz.func92, Tryz.ntmps92
  go_wp2_with fail
  refine (hN _).mono ?_
  rintro e w1 ⟨rfl, hb1⟩
  have HB1 := Lib.hid hb1
  clear hb1
  go_wp2_with fail
  refine (refProduct_divu _ _ _ ha0 ha hb0 hb).mono ?_
  rintro e w2 ⟨rfl, hb2⟩
  have HB2 := Lib.hid (HB1.out.trans (hb2.mono HB1.out.size))
  clear hb2
  go_wp2_with fail
  go_ret2
  exact ⟨rfl, HB2.out⟩
set_option maxHeartbeats 2000000 in
theorem refProduct_rem (a b : Int) (w : World) (ha0 : 0 ≤ a) (ha : a < 18446744073709551616) (hb0 : 0 ≤ b) (hb : b < 18446744073709551616) :
    Calls Tryz.prog 141 #[.string ⟨#[114, 101, 109]⟩, .int .u64 a, .int .u64 b] w fun e w' => e = .returned (.int .u64 (remS a b)) ∧ Below w.heap.size w w' := by
  obtain ⟨s0, s1⟩ := halfS_range a false
  obtain ⟨t0, t1⟩ := halfS_range b false
  obtain ⟨p0, p1⟩ := halfS_range a true
  obtain ⟨q0, q1⟩ := halfS_range b true
  go_enter Tryz.func141, Tryz.ntmps141
  go_wp2_with fail
  refine (half_c _ _ _ ha0 ha).mono ?_
  rintro e w1 ⟨rfl, hb1⟩
  have HB1 := Lib.hid hb1
  clear hb1
  go_wp2_with fail
  refine (half_c _ _ _ hb0 hb).mono ?_
  rintro e w2 ⟨rfl, hb2⟩
  have HB2 := Lib.hid (HB1.out.trans (hb2.mono HB1.out.size))
  clear hb2
  go_wp2_with fail
  refine (half_c _ _ _ ha0 ha).mono ?_
  rintro e w3 ⟨rfl, hb3⟩
  have HB3 := Lib.hid (HB2.out.trans (hb3.mono HB2.out.size))
  clear hb3
  go_wp2_with fail
  refine (half_c _ _ _ hb0 hb).mono ?_
  rintro e w4 ⟨rfl, hb4⟩
  have HB4 := Lib.hid (HB3.out.trans (hb4.mono HB3.out.size))
  clear hb4
  go_wp2_with fail
  refine (refRem_sign _ _ _ ha0 ha hb0 hb).mono ?_
  rintro e w5 ⟨rfl, hb5⟩
  have HB5 := Lib.hid (HB4.out.trans (hb5.mono HB4.out.size))
  clear hb5
  go_wp2_with fail
  go_ret
  exact ⟨rfl, HB5.out⟩
set_option maxHeartbeats 2000000 in
theorem refDo_rem (op a b : Int) (w : World) (hN : NameIs op ⟨#[114, 101, 109]⟩) (ha0 : 0 ≤ a) (ha : a < 18446744073709551616) (hb0 : 0 ≤ b) (hb : b < 18446744073709551616) :
    Calls Tryz.prog 92 #[.int .i64 op, .int .u64 a, .int .u64 b] w fun e w' => e = .returned (.tuple #[.int .u64 (remS a b), .bool true]) ∧ Below w.heap.size w w' := by
  go_enter Tryz.func92, Tryz.ntmps92
  go_wp2_with fail
  refine (hN _).mono ?_
  rintro e w1 ⟨rfl, hb1⟩
  have HB1 := Lib.hid hb1
  clear hb1
  go_wp2_with fail
  refine (refProduct_rem _ _ _ ha0 ha hb0 hb).mono ?_
  rintro e w2 ⟨rfl, hb2⟩
  have HB2 := Lib.hid (HB1.out.trans (hb2.mono HB1.out.size))
  clear hb2
  go_wp2_with fail
  go_ret2
  exact ⟨rfl, HB2.out⟩
set_option maxHeartbeats 2000000 in
theorem refProduct_remu (a b : Int) (w : World) (ha0 : 0 ≤ a) (ha : a < 18446744073709551616) (hb0 : 0 ≤ b) (hb : b < 18446744073709551616) :
    Calls Tryz.prog 141 #[.string ⟨#[114, 101, 109, 117]⟩, .int .u64 a, .int .u64 b] w fun e w' => e = .returned (.int .u64 (remP a b)) ∧ Below w.heap.size w w' := by
  obtain ⟨s0, s1⟩ := halfS_range a false
  obtain ⟨t0, t1⟩ := halfS_range b false
  obtain ⟨p0, p1⟩ := halfS_range a true
  obtain ⟨q0, q1⟩ := halfS_range b true
  go_enter Tryz.func141, Tryz.ntmps141
  go_wp2_with fail
  refine (half_c _ _ _ ha0 ha).mono ?_
  rintro e w1 ⟨rfl, hb1⟩
  have HB1 := Lib.hid hb1
  clear hb1
  go_wp2_with fail
  refine (half_c _ _ _ hb0 hb).mono ?_
  rintro e w2 ⟨rfl, hb2⟩
  have HB2 := Lib.hid (HB1.out.trans (hb2.mono HB1.out.size))
  clear hb2
  go_wp2_with fail
  refine (half_c _ _ _ ha0 ha).mono ?_
  rintro e w3 ⟨rfl, hb3⟩
  have HB3 := Lib.hid (HB2.out.trans (hb3.mono HB2.out.size))
  clear hb3
  go_wp2_with fail
  refine (half_c _ _ _ hb0 hb).mono ?_
  rintro e w4 ⟨rfl, hb4⟩
  have HB4 := Lib.hid (HB3.out.trans (hb4.mono HB3.out.size))
  clear hb4
  go_wp2_with fail
  refine (refRem_plain _ _ _ ha0 ha hb0 hb).mono ?_
  rintro e w5 ⟨rfl, hb5⟩
  have HB5 := Lib.hid (HB4.out.trans (hb5.mono HB4.out.size))
  clear hb5
  go_wp2_with fail
  go_ret
  exact ⟨rfl, HB5.out⟩
set_option maxHeartbeats 2000000 in
theorem refDo_remu (op a b : Int) (w : World) (hN : NameIs op ⟨#[114, 101, 109, 117]⟩) (ha0 : 0 ≤ a) (ha : a < 18446744073709551616) (hb0 : 0 ≤ b) (hb : b < 18446744073709551616) :
    Calls Tryz.prog 92 #[.int .i64 op, .int .u64 a, .int .u64 b] w fun e w' => e = .returned (.tuple #[.int .u64 (remP a b), .bool true]) ∧ Below w.heap.size w w' := by
  go_enter Tryz.func92, Tryz.ntmps92
  go_wp2_with fail
  refine (hN _).mono ?_
  rintro e w1 ⟨rfl, hb1⟩
  have HB1 := Lib.hid hb1
  clear hb1
  go_wp2_with fail
  refine (refProduct_remu _ _ _ ha0 ha hb0 hb).mono ?_
  rintro e w2 ⟨rfl, hb2⟩
  have HB2 := Lib.hid (HB1.out.trans (hb2.mono HB1.out.size))
  clear hb2
  go_wp2_with fail
  go_ret2
  exact ⟨rfl, HB2.out⟩
set_option maxHeartbeats 2000000 in
theorem refProduct_mulw (a b : Int) (w : World) (ha0 : 0 ≤ a) (ha : a < 18446744073709551616) (hb0 : 0 ≤ b) (hb : b < 18446744073709551616) :
    Calls Tryz.prog 141 #[.string ⟨#[109, 117, 108, 119]⟩, .int .u64 a, .int .u64 b] w fun e w' => e = .returned (.int .u64 (signS (mulLo (halfS a false) (halfS b false)) 32)) ∧ Below w.heap.size w w' := by
  obtain ⟨s0, s1⟩ := halfS_range a false
  obtain ⟨t0, t1⟩ := halfS_range b false
  obtain ⟨p0, p1⟩ := halfS_range a true
  obtain ⟨q0, q1⟩ := halfS_range b true
  go_enter Tryz.func141, Tryz.ntmps141
  go_wp2_with fail
  refine (half_c _ _ _ ha0 ha).mono ?_
  rintro e w1 ⟨rfl, hb1⟩
  have HB1 := Lib.hid hb1
  clear hb1
  go_wp2_with fail
  refine (half_c _ _ _ hb0 hb).mono ?_
  rintro e w2 ⟨rfl, hb2⟩
  have HB2 := Lib.hid (HB1.out.trans (hb2.mono HB1.out.size))
  clear hb2
  go_wp2_with fail
  refine (half_c _ _ _ ha0 ha).mono ?_
  rintro e w3 ⟨rfl, hb3⟩
  have HB3 := Lib.hid (HB2.out.trans (hb3.mono HB2.out.size))
  clear hb3
  go_wp2_with fail
  refine (half_c _ _ _ hb0 hb).mono ?_
  rintro e w4 ⟨rfl, hb4⟩
  have HB4 := Lib.hid (HB3.out.trans (hb4.mono HB3.out.size))
  clear hb4
  go_wp2_with fail
  refine (refTimes_c _ _ _ s0 s1 t0 t1).mono ?_
  rintro e w5 ⟨rfl, hb5⟩
  have HB5 := Lib.hid (HB4.out.trans (hb5.mono HB4.out.size))
  clear hb5
  go_wp2_with fail
  refine (refSign_c _ _ _ (mulLo_range _ _).1 (mulLo_range _ _).2 (by omega)).mono ?_
  rintro e w6 ⟨rfl, hb6⟩
  have HB6 := Lib.hid (HB5.out.trans (hb6.mono HB5.out.size))
  clear hb6
  go_wp2_with fail
  go_ret
  exact ⟨rfl, HB6.out⟩
set_option maxHeartbeats 2000000 in
theorem refDo_mulw (op a b : Int) (w : World) (hN : NameIs op ⟨#[109, 117, 108, 119]⟩) (ha0 : 0 ≤ a) (ha : a < 18446744073709551616) (hb0 : 0 ≤ b) (hb : b < 18446744073709551616) :
    Calls Tryz.prog 92 #[.int .i64 op, .int .u64 a, .int .u64 b] w fun e w' => e = .returned (.tuple #[.int .u64 (signS (mulLo (halfS a false) (halfS b false)) 32), .bool true]) ∧ Below w.heap.size w w' := by
  go_enter Tryz.func92, Tryz.ntmps92
  go_wp2_with fail
  refine (hN _).mono ?_
  rintro e w1 ⟨rfl, hb1⟩
  have HB1 := Lib.hid hb1
  clear hb1
  go_wp2_with fail
  refine (refProduct_mulw _ _ _ ha0 ha hb0 hb).mono ?_
  rintro e w2 ⟨rfl, hb2⟩
  have HB2 := Lib.hid (HB1.out.trans (hb2.mono HB1.out.size))
  clear hb2
  go_wp2_with fail
  go_ret2
  exact ⟨rfl, HB2.out⟩
set_option maxHeartbeats 2000000 in
theorem refProduct_divw (a b : Int) (w : World) (ha0 : 0 ≤ a) (ha : a < 18446744073709551616) (hb0 : 0 ≤ b) (hb : b < 18446744073709551616) :
    Calls Tryz.prog 141 #[.string ⟨#[100, 105, 118, 119]⟩, .int .u64 a, .int .u64 b] w fun e w' => e = .returned (.int .u64 (signS (divS (halfS a false) (halfS b false)) 32)) ∧ Below w.heap.size w w' := by
  obtain ⟨s0, s1⟩ := halfS_range a false
  obtain ⟨t0, t1⟩ := halfS_range b false
  obtain ⟨p0, p1⟩ := halfS_range a true
  obtain ⟨q0, q1⟩ := halfS_range b true
  go_enter Tryz.func141, Tryz.ntmps141
  go_wp2_with fail
  refine (half_c _ _ _ ha0 ha).mono ?_
  rintro e w1 ⟨rfl, hb1⟩
  have HB1 := Lib.hid hb1
  clear hb1
  go_wp2_with fail
  refine (half_c _ _ _ hb0 hb).mono ?_
  rintro e w2 ⟨rfl, hb2⟩
  have HB2 := Lib.hid (HB1.out.trans (hb2.mono HB1.out.size))
  clear hb2
  go_wp2_with fail
  refine (half_c _ _ _ ha0 ha).mono ?_
  rintro e w3 ⟨rfl, hb3⟩
  have HB3 := Lib.hid (HB2.out.trans (hb3.mono HB2.out.size))
  clear hb3
  go_wp2_with fail
  refine (half_c _ _ _ hb0 hb).mono ?_
  rintro e w4 ⟨rfl, hb4⟩
  have HB4 := Lib.hid (HB3.out.trans (hb4.mono HB3.out.size))
  clear hb4
  go_wp2_with fail
  refine (refDiv_sign _ _ _ s0 s1 t0 t1).mono ?_
  rintro e w5 ⟨rfl, hb5⟩
  have HB5 := Lib.hid (HB4.out.trans (hb5.mono HB4.out.size))
  clear hb5
  go_wp2_with fail
  refine (refSign_c _ _ _ divS_range.1 divS_range.2 (by omega)).mono ?_
  rintro e w6 ⟨rfl, hb6⟩
  have HB6 := Lib.hid (HB5.out.trans (hb6.mono HB5.out.size))
  clear hb6
  go_wp2_with fail
  go_ret
  exact ⟨rfl, HB6.out⟩
set_option maxHeartbeats 2000000 in
theorem refDo_divw (op a b : Int) (w : World) (hN : NameIs op ⟨#[100, 105, 118, 119]⟩) (ha0 : 0 ≤ a) (ha : a < 18446744073709551616) (hb0 : 0 ≤ b) (hb : b < 18446744073709551616) :
    Calls Tryz.prog 92 #[.int .i64 op, .int .u64 a, .int .u64 b] w fun e w' => e = .returned (.tuple #[.int .u64 (signS (divS (halfS a false) (halfS b false)) 32), .bool true]) ∧ Below w.heap.size w w' := by
  go_enter Tryz.func92, Tryz.ntmps92
  go_wp2_with fail
  refine (hN _).mono ?_
  rintro e w1 ⟨rfl, hb1⟩
  have HB1 := Lib.hid hb1
  clear hb1
  go_wp2_with fail
  refine (refProduct_divw _ _ _ ha0 ha hb0 hb).mono ?_
  rintro e w2 ⟨rfl, hb2⟩
  have HB2 := Lib.hid (HB1.out.trans (hb2.mono HB1.out.size))
  clear hb2
  go_wp2_with fail
  go_ret2
  exact ⟨rfl, HB2.out⟩
set_option maxHeartbeats 2000000 in
theorem refProduct_divuw (a b : Int) (w : World) (ha0 : 0 ≤ a) (ha : a < 18446744073709551616) (hb0 : 0 ≤ b) (hb : b < 18446744073709551616) :
    Calls Tryz.prog 141 #[.string ⟨#[100, 105, 118, 117, 119]⟩, .int .u64 a, .int .u64 b] w fun e w' => e = .returned (.int .u64 (signS (divP (halfS a true) (halfS b true)) 32)) ∧ Below w.heap.size w w' := by
  obtain ⟨s0, s1⟩ := halfS_range a false
  obtain ⟨t0, t1⟩ := halfS_range b false
  obtain ⟨p0, p1⟩ := halfS_range a true
  obtain ⟨q0, q1⟩ := halfS_range b true
  go_enter Tryz.func141, Tryz.ntmps141
  go_wp2_with fail
  refine (half_c _ _ _ ha0 ha).mono ?_
  rintro e w1 ⟨rfl, hb1⟩
  have HB1 := Lib.hid hb1
  clear hb1
  go_wp2_with fail
  refine (half_c _ _ _ hb0 hb).mono ?_
  rintro e w2 ⟨rfl, hb2⟩
  have HB2 := Lib.hid (HB1.out.trans (hb2.mono HB1.out.size))
  clear hb2
  go_wp2_with fail
  refine (half_c _ _ _ ha0 ha).mono ?_
  rintro e w3 ⟨rfl, hb3⟩
  have HB3 := Lib.hid (HB2.out.trans (hb3.mono HB2.out.size))
  clear hb3
  go_wp2_with fail
  refine (half_c _ _ _ hb0 hb).mono ?_
  rintro e w4 ⟨rfl, hb4⟩
  have HB4 := Lib.hid (HB3.out.trans (hb4.mono HB3.out.size))
  clear hb4
  go_wp2_with fail
  refine (refDiv_plain _ _ _ p0 p1 q0 q1).mono ?_
  rintro e w5 ⟨rfl, hb5⟩
  have HB5 := Lib.hid (HB4.out.trans (hb5.mono HB4.out.size))
  clear hb5
  go_wp2_with fail
  refine (refSign_c _ _ _ (divP_range p0 p1 q0).1 (divP_range p0 p1 q0).2 (by omega)).mono ?_
  rintro e w6 ⟨rfl, hb6⟩
  have HB6 := Lib.hid (HB5.out.trans (hb6.mono HB5.out.size))
  clear hb6
  go_wp2_with fail
  go_ret
  exact ⟨rfl, HB6.out⟩
set_option maxHeartbeats 2000000 in
theorem refDo_divuw (op a b : Int) (w : World) (hN : NameIs op ⟨#[100, 105, 118, 117, 119]⟩) (ha0 : 0 ≤ a) (ha : a < 18446744073709551616) (hb0 : 0 ≤ b) (hb : b < 18446744073709551616) :
    Calls Tryz.prog 92 #[.int .i64 op, .int .u64 a, .int .u64 b] w fun e w' => e = .returned (.tuple #[.int .u64 (signS (divP (halfS a true) (halfS b true)) 32), .bool true]) ∧ Below w.heap.size w w' := by
  go_enter Tryz.func92, Tryz.ntmps92
  go_wp2_with fail
  refine (hN _).mono ?_
  rintro e w1 ⟨rfl, hb1⟩
  have HB1 := Lib.hid hb1
  clear hb1
  go_wp2_with fail
  refine (refProduct_divuw _ _ _ ha0 ha hb0 hb).mono ?_
  rintro e w2 ⟨rfl, hb2⟩
  have HB2 := Lib.hid (HB1.out.trans (hb2.mono HB1.out.size))
  clear hb2
  go_wp2_with fail
  go_ret2
  exact ⟨rfl, HB2.out⟩
set_option maxHeartbeats 2000000 in
theorem refProduct_remw (a b : Int) (w : World) (ha0 : 0 ≤ a) (ha : a < 18446744073709551616) (hb0 : 0 ≤ b) (hb : b < 18446744073709551616) :
    Calls Tryz.prog 141 #[.string ⟨#[114, 101, 109, 119]⟩, .int .u64 a, .int .u64 b] w fun e w' => e = .returned (.int .u64 (signS (remS (halfS a false) (halfS b false)) 32)) ∧ Below w.heap.size w w' := by
  obtain ⟨s0, s1⟩ := halfS_range a false
  obtain ⟨t0, t1⟩ := halfS_range b false
  obtain ⟨p0, p1⟩ := halfS_range a true
  obtain ⟨q0, q1⟩ := halfS_range b true
  go_enter Tryz.func141, Tryz.ntmps141
  go_wp2_with fail
  refine (half_c _ _ _ ha0 ha).mono ?_
  rintro e w1 ⟨rfl, hb1⟩
  have HB1 := Lib.hid hb1
  clear hb1
  go_wp2_with fail
  refine (half_c _ _ _ hb0 hb).mono ?_
  rintro e w2 ⟨rfl, hb2⟩
  have HB2 := Lib.hid (HB1.out.trans (hb2.mono HB1.out.size))
  clear hb2
  go_wp2_with fail
  refine (half_c _ _ _ ha0 ha).mono ?_
  rintro e w3 ⟨rfl, hb3⟩
  have HB3 := Lib.hid (HB2.out.trans (hb3.mono HB2.out.size))
  clear hb3
  go_wp2_with fail
  refine (half_c _ _ _ hb0 hb).mono ?_
  rintro e w4 ⟨rfl, hb4⟩
  have HB4 := Lib.hid (HB3.out.trans (hb4.mono HB3.out.size))
  clear hb4
  go_wp2_with fail
  refine (refRem_sign _ _ _ s0 s1 t0 t1).mono ?_
  rintro e w5 ⟨rfl, hb5⟩
  have HB5 := Lib.hid (HB4.out.trans (hb5.mono HB4.out.size))
  clear hb5
  go_wp2_with fail
  refine (refSign_c _ _ _ remS_range.1 remS_range.2 (by omega)).mono ?_
  rintro e w6 ⟨rfl, hb6⟩
  have HB6 := Lib.hid (HB5.out.trans (hb6.mono HB5.out.size))
  clear hb6
  go_wp2_with fail
  go_ret
  exact ⟨rfl, HB6.out⟩
set_option maxHeartbeats 2000000 in
theorem refDo_remw (op a b : Int) (w : World) (hN : NameIs op ⟨#[114, 101, 109, 119]⟩) (ha0 : 0 ≤ a) (ha : a < 18446744073709551616) (hb0 : 0 ≤ b) (hb : b < 18446744073709551616) :
    Calls Tryz.prog 92 #[.int .i64 op, .int .u64 a, .int .u64 b] w fun e w' => e = .returned (.tuple #[.int .u64 (signS (remS (halfS a false) (halfS b false)) 32), .bool true]) ∧ Below w.heap.size w w' := by
  go_enter Tryz.func92, Tryz.ntmps92
  go_wp2_with fail
  refine (hN _).mono ?_
  rintro e w1 ⟨rfl, hb1⟩
  have HB1 := Lib.hid hb1
  clear hb1
  go_wp2_with fail
  refine (refProduct_remw _ _ _ ha0 ha hb0 hb).mono ?_
  rintro e w2 ⟨rfl, hb2⟩
  have HB2 := Lib.hid (HB1.out.trans (hb2.mono HB1.out.size))
  clear hb2
  go_wp2_with fail
  go_ret2
  exact ⟨rfl, HB2.out⟩
set_option maxHeartbeats 2000000 in
theorem refProduct_remuw (a b : Int) (w : World) (ha0 : 0 ≤ a) (ha : a < 18446744073709551616) (hb0 : 0 ≤ b) (hb : b < 18446744073709551616) :
    Calls Tryz.prog 141 #[.string ⟨#[114, 101, 109, 117, 119]⟩, .int .u64 a, .int .u64 b] w fun e w' => e = .returned (.int .u64 (signS (remP (halfS a true) (halfS b true)) 32)) ∧ Below w.heap.size w w' := by
  obtain ⟨s0, s1⟩ := halfS_range a false
  obtain ⟨t0, t1⟩ := halfS_range b false
  obtain ⟨p0, p1⟩ := halfS_range a true
  obtain ⟨q0, q1⟩ := halfS_range b true
  go_enter Tryz.func141, Tryz.ntmps141
  go_wp2_with fail
  refine (half_c _ _ _ ha0 ha).mono ?_
  rintro e w1 ⟨rfl, hb1⟩
  have HB1 := Lib.hid hb1
  clear hb1
  go_wp2_with fail
  refine (half_c _ _ _ hb0 hb).mono ?_
  rintro e w2 ⟨rfl, hb2⟩
  have HB2 := Lib.hid (HB1.out.trans (hb2.mono HB1.out.size))
  clear hb2
  go_wp2_with fail
  refine (half_c _ _ _ ha0 ha).mono ?_
  rintro e w3 ⟨rfl, hb3⟩
  have HB3 := Lib.hid (HB2.out.trans (hb3.mono HB2.out.size))
  clear hb3
  go_wp2_with fail
  refine (half_c _ _ _ hb0 hb).mono ?_
  rintro e w4 ⟨rfl, hb4⟩
  have HB4 := Lib.hid (HB3.out.trans (hb4.mono HB3.out.size))
  clear hb4
  go_wp2_with fail
  refine (refRem_plain _ _ _ p0 p1 q0 q1).mono ?_
  rintro e w5 ⟨rfl, hb5⟩
  have HB5 := Lib.hid (HB4.out.trans (hb5.mono HB4.out.size))
  clear hb5
  go_wp2_with fail
  refine (refSign_c _ _ _ remP_range.1 remP_range.2 (by omega)).mono ?_
  rintro e w6 ⟨rfl, hb6⟩
  have HB6 := Lib.hid (HB5.out.trans (hb6.mono HB5.out.size))
  clear hb6
  go_wp2_with fail
  go_ret
  exact ⟨rfl, HB6.out⟩
set_option maxHeartbeats 2000000 in
theorem refDo_remuw (op a b : Int) (w : World) (hN : NameIs op ⟨#[114, 101, 109, 117, 119]⟩) (ha0 : 0 ≤ a) (ha : a < 18446744073709551616) (hb0 : 0 ≤ b) (hb : b < 18446744073709551616) :
    Calls Tryz.prog 92 #[.int .i64 op, .int .u64 a, .int .u64 b] w fun e w' => e = .returned (.tuple #[.int .u64 (signS (remP (halfS a true) (halfS b true)) 32), .bool true]) ∧ Below w.heap.size w w' := by
  go_enter Tryz.func92, Tryz.ntmps92
  go_wp2_with fail
  refine (hN _).mono ?_
  rintro e w1 ⟨rfl, hb1⟩
  have HB1 := Lib.hid hb1
  clear hb1
  go_wp2_with fail
  refine (refProduct_remuw _ _ _ ha0 ha hb0 hb).mono ?_
  rintro e w2 ⟨rfl, hb2⟩
  have HB2 := Lib.hid (HB1.out.trans (hb2.mono HB1.out.size))
  clear hb2
  go_wp2_with fail
  go_ret2
  exact ⟨rfl, HB2.out⟩
set_option maxHeartbeats 2000000 in
theorem refDo_no (op a b : Int) (w : World) (hN : NameIs op ⟨#[]⟩) :
    Calls Tryz.prog 92 #[.int .i64 op, .int .u64 a, .int .u64 b] w fun e w' => e = .returned (.tuple #[.int .u64 0, .bool false]) ∧ Below w.heap.size w w' := by
  go_enter Tryz.func92, Tryz.ntmps92
  go_wp2_with fail
  refine (hN _).mono ?_
  rintro e w1 ⟨rfl, hb1⟩
  have HB1 := Lib.hid hb1
  clear hb1
  go_wp2_with fail
  go_ret2
  exact ⟨rfl, HB1.out⟩
end Go.Proofs.YtjeolfcefeglpabGreat
set_option maxRecDepth 20000
namespace Go.Proofs.YtjeolfcefeglpabGreat
open Go.ChangeShapes Go.WideShapes Go.ChangeAt Go.RowKit Wd

theorem ret_s {a b : ByteArray} (h : a = b) : Ending.returned (.string a) = .returned (.string b) := by rw [h]
set_option maxHeartbeats 2000000 in
theorem refName_22 (w : World) : Calls Tryz.prog 137 #[.int .i64 22] w fun e w' => e = .returned (.string ⟨#[97, 100, 100]⟩) ∧ Below w.heap.size w w' := by
  have hcl : classS 22 = 1 := by decide +kernel
  go_enter Tryz.func137, Tryz.ntmps137
  go_wp2_with fail
  refine (refClass_c 22 _).mono ?_
  rintro e w1 ⟨rfl, hb⟩
  rw [hcl]
  have HB := Lib.hid hb
  clear hb hcl
  go_wp2_with fail
  refine (refNames4_c _).mono ?_
  rintro e w2 ⟨rfl, rfl⟩
  have c : _ = some (Value.string ⟨#[97, 100, 100, 105]⟩) := names4_cell w1 22 (by omega)
  have HB2 := Lib.hid (HB.out.alloc HB.out.size (.cells (Tab.names4.map strV).toArray 9))
  generalize (w1.alloc (.cells (Tab.names4.map strV).toArray 9)) = W at *
  go_wp2_with fail
  go_ret
  exact ⟨ret_s (by decide +kernel), HB2.out⟩
set_option maxHeartbeats 2000000 in
theorem refName_23 (w : World) : Calls Tryz.prog 137 #[.int .i64 23] w fun e w' => e = .returned (.string ⟨#[115, 108, 116]⟩) ∧ Below w.heap.size w w' := by
  have hcl : classS 23 = 1 := by decide +kernel
  go_enter Tryz.func137, Tryz.ntmps137
  go_wp2_with fail
  refine (refClass_c 23 _).mono ?_
  rintro e w1 ⟨rfl, hb⟩
  rw [hcl]
  have HB := Lib.hid hb
  clear hb hcl
  go_wp2_with fail
  refine (refNames4_c _).mono ?_
  rintro e w2 ⟨rfl, rfl⟩
  have c : _ = some (Value.string ⟨#[115, 108, 116, 105]⟩) := names4_cell w1 23 (by omega)
  have HB2 := Lib.hid (HB.out.alloc HB.out.size (.cells (Tab.names4.map strV).toArray 9))
  generalize (w1.alloc (.cells (Tab.names4.map strV).toArray 9)) = W at *
  go_wp2_with fail
  go_ret
  exact ⟨ret_s (by decide +kernel), HB2.out⟩
set_option maxHeartbeats 2000000 in
theorem refName_24 (w : World) : Calls Tryz.prog 137 #[.int .i64 24] w fun e w' => e = .returned (.string ⟨#[115, 108, 116, 117]⟩) ∧ Below w.heap.size w w' := by
  have hcl : classS 24 = 1 := by decide +kernel
  go_enter Tryz.func137, Tryz.ntmps137
  go_wp2_with fail
  refine (refClass_c 24 _).mono ?_
  rintro e w1 ⟨rfl, hb⟩
  rw [hcl]
  have HB := Lib.hid hb
  clear hb hcl
  go_wp2_with fail
  refine (refNames4_c _).mono ?_
  rintro e w2 ⟨rfl, rfl⟩
  have c : _ = some (Value.string ⟨#[115, 108, 116, 105, 117]⟩) := names4_cell w1 24 (by omega)
  have HB2 := Lib.hid (HB.out.alloc HB.out.size (.cells (Tab.names4.map strV).toArray 9))
  generalize (w1.alloc (.cells (Tab.names4.map strV).toArray 9)) = W at *
  go_wp2_with fail
  go_ret
  exact ⟨ret_s (by decide +kernel), HB2.out⟩
set_option maxHeartbeats 2000000 in
theorem refName_25 (w : World) : Calls Tryz.prog 137 #[.int .i64 25] w fun e w' => e = .returned (.string ⟨#[120, 111, 114]⟩) ∧ Below w.heap.size w w' := by
  have hcl : classS 25 = 1 := by decide +kernel
  go_enter Tryz.func137, Tryz.ntmps137
  go_wp2_with fail
  refine (refClass_c 25 _).mono ?_
  rintro e w1 ⟨rfl, hb⟩
  rw [hcl]
  have HB := Lib.hid hb
  clear hb hcl
  go_wp2_with fail
  refine (refNames4_c _).mono ?_
  rintro e w2 ⟨rfl, rfl⟩
  have c : _ = some (Value.string ⟨#[120, 111, 114, 105]⟩) := names4_cell w1 25 (by omega)
  have HB2 := Lib.hid (HB.out.alloc HB.out.size (.cells (Tab.names4.map strV).toArray 9))
  generalize (w1.alloc (.cells (Tab.names4.map strV).toArray 9)) = W at *
  go_wp2_with fail
  go_ret
  exact ⟨ret_s (by decide +kernel), HB2.out⟩
set_option maxHeartbeats 2000000 in
theorem refName_26 (w : World) : Calls Tryz.prog 137 #[.int .i64 26] w fun e w' => e = .returned (.string ⟨#[111, 114]⟩) ∧ Below w.heap.size w w' := by
  have hcl : classS 26 = 1 := by decide +kernel
  go_enter Tryz.func137, Tryz.ntmps137
  go_wp2_with fail
  refine (refClass_c 26 _).mono ?_
  rintro e w1 ⟨rfl, hb⟩
  rw [hcl]
  have HB := Lib.hid hb
  clear hb hcl
  go_wp2_with fail
  refine (refNames4_c _).mono ?_
  rintro e w2 ⟨rfl, rfl⟩
  have c : _ = some (Value.string ⟨#[111, 114, 105]⟩) := names4_cell w1 26 (by omega)
  have HB2 := Lib.hid (HB.out.alloc HB.out.size (.cells (Tab.names4.map strV).toArray 9))
  generalize (w1.alloc (.cells (Tab.names4.map strV).toArray 9)) = W at *
  go_wp2_with fail
  go_ret
  exact ⟨ret_s (by decide +kernel), HB2.out⟩
set_option maxHeartbeats 2000000 in
theorem refName_27 (w : World) : Calls Tryz.prog 137 #[.int .i64 27] w fun e w' => e = .returned (.string ⟨#[97, 110, 100]⟩) ∧ Below w.heap.size w w' := by
  have hcl : classS 27 = 1 := by decide +kernel
  go_enter Tryz.func137, Tryz.ntmps137
  go_wp2_with fail
  refine (refClass_c 27 _).mono ?_
  rintro e w1 ⟨rfl, hb⟩
  rw [hcl]
  have HB := Lib.hid hb
  clear hb hcl
  go_wp2_with fail
  refine (refNames4_c _).mono ?_
  rintro e w2 ⟨rfl, rfl⟩
  have c : _ = some (Value.string ⟨#[97, 110, 100, 105]⟩) := names4_cell w1 27 (by omega)
  have HB2 := Lib.hid (HB.out.alloc HB.out.size (.cells (Tab.names4.map strV).toArray 9))
  generalize (w1.alloc (.cells (Tab.names4.map strV).toArray 9)) = W at *
  go_wp2_with fail
  go_ret
  exact ⟨ret_s (by decide +kernel), HB2.out⟩
set_option maxHeartbeats 2000000 in
theorem refName_28 (w : World) : Calls Tryz.prog 137 #[.int .i64 28] w fun e w' => e = .returned (.string ⟨#[115, 108, 108]⟩) ∧ Below w.heap.size w w' := by
  have hcl : classS 28 = 1 := by decide +kernel
  go_enter Tryz.func137, Tryz.ntmps137
  go_wp2_with fail
  refine (refClass_c 28 _).mono ?_
  rintro e w1 ⟨rfl, hb⟩
  rw [hcl]
  have HB := Lib.hid hb
  clear hb hcl
  go_wp2_with fail
  refine (refNames4_c _).mono ?_
  rintro e w2 ⟨rfl, rfl⟩
  have c : _ = some (Value.string ⟨#[115, 108, 108, 105]⟩) := names4_cell w1 28 (by omega)
  have HB2 := Lib.hid (HB.out.alloc HB.out.size (.cells (Tab.names4.map strV).toArray 9))
  generalize (w1.alloc (.cells (Tab.names4.map strV).toArray 9)) = W at *
  go_wp2_with fail
  go_ret
  exact ⟨ret_s (by decide +kernel), HB2.out⟩
set_option maxHeartbeats 2000000 in
theorem refName_29 (w : World) : Calls Tryz.prog 137 #[.int .i64 29] w fun e w' => e = .returned (.string ⟨#[115, 114, 108]⟩) ∧ Below w.heap.size w w' := by
  have hcl : classS 29 = 1 := by decide +kernel
  go_enter Tryz.func137, Tryz.ntmps137
  go_wp2_with fail
  refine (refClass_c 29 _).mono ?_
  rintro e w1 ⟨rfl, hb⟩
  rw [hcl]
  have HB := Lib.hid hb
  clear hb hcl
  go_wp2_with fail
  refine (refNames4_c _).mono ?_
  rintro e w2 ⟨rfl, rfl⟩
  have c : _ = some (Value.string ⟨#[115, 114, 108, 105]⟩) := names4_cell w1 29 (by omega)
  have HB2 := Lib.hid (HB.out.alloc HB.out.size (.cells (Tab.names4.map strV).toArray 9))
  generalize (w1.alloc (.cells (Tab.names4.map strV).toArray 9)) = W at *
  go_wp2_with fail
  go_ret
  exact ⟨ret_s (by decide +kernel), HB2.out⟩
set_option maxHeartbeats 2000000 in
theorem refName_30 (w : World) : Calls Tryz.prog 137 #[.int .i64 30] w fun e w' => e = .returned (.string ⟨#[115, 114, 97]⟩) ∧ Below w.heap.size w w' := by
  have hcl : classS 30 = 1 := by decide +kernel
  go_enter Tryz.func137, Tryz.ntmps137
  go_wp2_with fail
  refine (refClass_c 30 _).mono ?_
  rintro e w1 ⟨rfl, hb⟩
  rw [hcl]
  have HB := Lib.hid hb
  clear hb hcl
  go_wp2_with fail
  refine (refNames4_c _).mono ?_
  rintro e w2 ⟨rfl, rfl⟩
  have c : _ = some (Value.string ⟨#[115, 114, 97, 105]⟩) := names4_cell w1 30 (by omega)
  have HB2 := Lib.hid (HB.out.alloc HB.out.size (.cells (Tab.names4.map strV).toArray 9))
  generalize (w1.alloc (.cells (Tab.names4.map strV).toArray 9)) = W at *
  go_wp2_with fail
  go_ret
  exact ⟨ret_s (by decide +kernel), HB2.out⟩
set_option maxHeartbeats 2000000 in
theorem refName_31 (w : World) : Calls Tryz.prog 137 #[.int .i64 31] w fun e w' => e = .returned (.string ⟨#[97, 100, 100]⟩) ∧ Below w.heap.size w w' := by
  have hcl : classS 31 = 1 := by decide +kernel
  go_enter Tryz.func137, Tryz.ntmps137
  go_wp2_with fail
  refine (refClass_c 31 _).mono ?_
  rintro e w1 ⟨rfl, hb⟩
  rw [hcl]
  have HB := Lib.hid hb
  clear hb hcl
  go_wp2_with fail
  refine (refNames4_c _).mono ?_
  rintro e w2 ⟨rfl, rfl⟩
  have c : _ = some (Value.string ⟨#[97, 100, 100]⟩) := names4_cell w1 31 (by omega)
  have HB2 := Lib.hid (HB.out.alloc HB.out.size (.cells (Tab.names4.map strV).toArray 9))
  generalize (w1.alloc (.cells (Tab.names4.map strV).toArray 9)) = W at *
  go_wp2_with fail
  go_ret
  exact ⟨ret_s (by decide +kernel), HB2.out⟩
set_option maxHeartbeats 2000000 in
theorem refName_32 (w : World) : Calls Tryz.prog 137 #[.int .i64 32] w fun e w' => e = .returned (.string ⟨#[115, 117, 98]⟩) ∧ Below w.heap.size w w' := by
  have hcl : classS 32 = 1 := by decide +kernel
  go_enter Tryz.func137, Tryz.ntmps137
  go_wp2_with fail
  refine (refClass_c 32 _).mono ?_
  rintro e w1 ⟨rfl, hb⟩
  rw [hcl]
  have HB := Lib.hid hb
  clear hb hcl
  go_wp2_with fail
  refine (refNames4_c _).mono ?_
  rintro e w2 ⟨rfl, rfl⟩
  have c : _ = some (Value.string ⟨#[115, 117, 98]⟩) := names4_cell w1 32 (by omega)
  have HB2 := Lib.hid (HB.out.alloc HB.out.size (.cells (Tab.names4.map strV).toArray 9))
  generalize (w1.alloc (.cells (Tab.names4.map strV).toArray 9)) = W at *
  go_wp2_with fail
  go_ret
  exact ⟨ret_s (by decide +kernel), HB2.out⟩
set_option maxHeartbeats 2000000 in
theorem refName_33 (w : World) : Calls Tryz.prog 137 #[.int .i64 33] w fun e w' => e = .returned (.string ⟨#[115, 108, 108]⟩) ∧ Below w.heap.size w w' := by
  have hcl : classS 33 = 1 := by decide +kernel
  go_enter Tryz.func137, Tryz.ntmps137
  go_wp2_with fail
  refine (refClass_c 33 _).mono ?_
  rintro e w1 ⟨rfl, hb⟩
  rw [hcl]
  have HB := Lib.hid hb
  clear hb hcl
  go_wp2_with fail
  refine (refNames4_c _).mono ?_
  rintro e w2 ⟨rfl, rfl⟩
  have c : _ = some (Value.string ⟨#[115, 108, 108]⟩) := names4_cell w1 33 (by omega)
  have HB2 := Lib.hid (HB.out.alloc HB.out.size (.cells (Tab.names4.map strV).toArray 9))
  generalize (w1.alloc (.cells (Tab.names4.map strV).toArray 9)) = W at *
  go_wp2_with fail
  go_ret
  exact ⟨ret_s (by decide +kernel), HB2.out⟩
set_option maxHeartbeats 2000000 in
theorem refName_34 (w : World) : Calls Tryz.prog 137 #[.int .i64 34] w fun e w' => e = .returned (.string ⟨#[115, 108, 116]⟩) ∧ Below w.heap.size w w' := by
  have hcl : classS 34 = 1 := by decide +kernel
  go_enter Tryz.func137, Tryz.ntmps137
  go_wp2_with fail
  refine (refClass_c 34 _).mono ?_
  rintro e w1 ⟨rfl, hb⟩
  rw [hcl]
  have HB := Lib.hid hb
  clear hb hcl
  go_wp2_with fail
  refine (refNames4_c _).mono ?_
  rintro e w2 ⟨rfl, rfl⟩
  have c : _ = some (Value.string ⟨#[115, 108, 116]⟩) := names4_cell w1 34 (by omega)
  have HB2 := Lib.hid (HB.out.alloc HB.out.size (.cells (Tab.names4.map strV).toArray 9))
  generalize (w1.alloc (.cells (Tab.names4.map strV).toArray 9)) = W at *
  go_wp2_with fail
  go_ret
  exact ⟨ret_s (by decide +kernel), HB2.out⟩
set_option maxHeartbeats 2000000 in
theorem refName_35 (w : World) : Calls Tryz.prog 137 #[.int .i64 35] w fun e w' => e = .returned (.string ⟨#[115, 108, 116, 117]⟩) ∧ Below w.heap.size w w' := by
  have hcl : classS 35 = 1 := by decide +kernel
  go_enter Tryz.func137, Tryz.ntmps137
  go_wp2_with fail
  refine (refClass_c 35 _).mono ?_
  rintro e w1 ⟨rfl, hb⟩
  rw [hcl]
  have HB := Lib.hid hb
  clear hb hcl
  go_wp2_with fail
  refine (refNames4_c _).mono ?_
  rintro e w2 ⟨rfl, rfl⟩
  have c : _ = some (Value.string ⟨#[115, 108, 116, 117]⟩) := names4_cell w1 35 (by omega)
  have HB2 := Lib.hid (HB.out.alloc HB.out.size (.cells (Tab.names4.map strV).toArray 9))
  generalize (w1.alloc (.cells (Tab.names4.map strV).toArray 9)) = W at *
  go_wp2_with fail
  go_ret
  exact ⟨ret_s (by decide +kernel), HB2.out⟩
set_option maxHeartbeats 2000000 in
theorem refName_36 (w : World) : Calls Tryz.prog 137 #[.int .i64 36] w fun e w' => e = .returned (.string ⟨#[120, 111, 114]⟩) ∧ Below w.heap.size w w' := by
  have hcl : classS 36 = 1 := by decide +kernel
  go_enter Tryz.func137, Tryz.ntmps137
  go_wp2_with fail
  refine (refClass_c 36 _).mono ?_
  rintro e w1 ⟨rfl, hb⟩
  rw [hcl]
  have HB := Lib.hid hb
  clear hb hcl
  go_wp2_with fail
  refine (refNames4_c _).mono ?_
  rintro e w2 ⟨rfl, rfl⟩
  have c : _ = some (Value.string ⟨#[120, 111, 114]⟩) := names4_cell w1 36 (by omega)
  have HB2 := Lib.hid (HB.out.alloc HB.out.size (.cells (Tab.names4.map strV).toArray 9))
  generalize (w1.alloc (.cells (Tab.names4.map strV).toArray 9)) = W at *
  go_wp2_with fail
  go_ret
  exact ⟨ret_s (by decide +kernel), HB2.out⟩
set_option maxHeartbeats 2000000 in
theorem refName_37 (w : World) : Calls Tryz.prog 137 #[.int .i64 37] w fun e w' => e = .returned (.string ⟨#[115, 114, 108]⟩) ∧ Below w.heap.size w w' := by
  have hcl : classS 37 = 1 := by decide +kernel
  go_enter Tryz.func137, Tryz.ntmps137
  go_wp2_with fail
  refine (refClass_c 37 _).mono ?_
  rintro e w1 ⟨rfl, hb⟩
  rw [hcl]
  have HB := Lib.hid hb
  clear hb hcl
  go_wp2_with fail
  refine (refNames4_c _).mono ?_
  rintro e w2 ⟨rfl, rfl⟩
  have c : _ = some (Value.string ⟨#[115, 114, 108]⟩) := names4_cell w1 37 (by omega)
  have HB2 := Lib.hid (HB.out.alloc HB.out.size (.cells (Tab.names4.map strV).toArray 9))
  generalize (w1.alloc (.cells (Tab.names4.map strV).toArray 9)) = W at *
  go_wp2_with fail
  go_ret
  exact ⟨ret_s (by decide +kernel), HB2.out⟩
set_option maxHeartbeats 2000000 in
theorem refName_38 (w : World) : Calls Tryz.prog 137 #[.int .i64 38] w fun e w' => e = .returned (.string ⟨#[115, 114, 97]⟩) ∧ Below w.heap.size w w' := by
  have hcl : classS 38 = 1 := by decide +kernel
  go_enter Tryz.func137, Tryz.ntmps137
  go_wp2_with fail
  refine (refClass_c 38 _).mono ?_
  rintro e w1 ⟨rfl, hb⟩
  rw [hcl]
  have HB := Lib.hid hb
  clear hb hcl
  go_wp2_with fail
  refine (refNames4_c _).mono ?_
  rintro e w2 ⟨rfl, rfl⟩
  have c : _ = some (Value.string ⟨#[115, 114, 97]⟩) := names4_cell w1 38 (by omega)
  have HB2 := Lib.hid (HB.out.alloc HB.out.size (.cells (Tab.names4.map strV).toArray 9))
  generalize (w1.alloc (.cells (Tab.names4.map strV).toArray 9)) = W at *
  go_wp2_with fail
  go_ret
  exact ⟨ret_s (by decide +kernel), HB2.out⟩
set_option maxHeartbeats 2000000 in
theorem refName_39 (w : World) : Calls Tryz.prog 137 #[.int .i64 39] w fun e w' => e = .returned (.string ⟨#[111, 114]⟩) ∧ Below w.heap.size w w' := by
  have hcl : classS 39 = 1 := by decide +kernel
  go_enter Tryz.func137, Tryz.ntmps137
  go_wp2_with fail
  refine (refClass_c 39 _).mono ?_
  rintro e w1 ⟨rfl, hb⟩
  rw [hcl]
  have HB := Lib.hid hb
  clear hb hcl
  go_wp2_with fail
  refine (refNames4_c _).mono ?_
  rintro e w2 ⟨rfl, rfl⟩
  have c : _ = some (Value.string ⟨#[111, 114]⟩) := names4_cell w1 39 (by omega)
  have HB2 := Lib.hid (HB.out.alloc HB.out.size (.cells (Tab.names4.map strV).toArray 9))
  generalize (w1.alloc (.cells (Tab.names4.map strV).toArray 9)) = W at *
  go_wp2_with fail
  go_ret
  exact ⟨ret_s (by decide +kernel), HB2.out⟩
set_option maxHeartbeats 2000000 in
theorem refName_40 (w : World) : Calls Tryz.prog 137 #[.int .i64 40] w fun e w' => e = .returned (.string ⟨#[97, 110, 100]⟩) ∧ Below w.heap.size w w' := by
  have hcl : classS 40 = 1 := by decide +kernel
  go_enter Tryz.func137, Tryz.ntmps137
  go_wp2_with fail
  refine (refClass_c 40 _).mono ?_
  rintro e w1 ⟨rfl, hb⟩
  rw [hcl]
  have HB := Lib.hid hb
  clear hb hcl
  go_wp2_with fail
  refine (refNames4_c _).mono ?_
  rintro e w2 ⟨rfl, rfl⟩
  have c : _ = some (Value.string ⟨#[97, 110, 100]⟩) := names4_cell w1 40 (by omega)
  have HB2 := Lib.hid (HB.out.alloc HB.out.size (.cells (Tab.names4.map strV).toArray 9))
  generalize (w1.alloc (.cells (Tab.names4.map strV).toArray 9)) = W at *
  go_wp2_with fail
  go_ret
  exact ⟨ret_s (by decide +kernel), HB2.out⟩
set_option maxHeartbeats 2000000 in
theorem refName_41 (w : World) : Calls Tryz.prog 137 #[.int .i64 41] w fun e w' => e = .returned (.string ⟨#[97, 100, 100, 119]⟩) ∧ Below w.heap.size w w' := by
  have hcl : classS 41 = 1 := by decide +kernel
  go_enter Tryz.func137, Tryz.ntmps137
  go_wp2_with fail
  refine (refClass_c 41 _).mono ?_
  rintro e w1 ⟨rfl, hb⟩
  rw [hcl]
  have HB := Lib.hid hb
  clear hb hcl
  go_wp2_with fail
  refine (refNames4_c _).mono ?_
  rintro e w2 ⟨rfl, rfl⟩
  have c : _ = some (Value.string ⟨#[97, 100, 100, 105, 119]⟩) := names4_cell w1 41 (by omega)
  have HB2 := Lib.hid (HB.out.alloc HB.out.size (.cells (Tab.names4.map strV).toArray 9))
  generalize (w1.alloc (.cells (Tab.names4.map strV).toArray 9)) = W at *
  go_wp2_with fail
  go_ret
  exact ⟨ret_s (by decide +kernel), HB2.out⟩
set_option maxHeartbeats 2000000 in
theorem refName_42 (w : World) : Calls Tryz.prog 137 #[.int .i64 42] w fun e w' => e = .returned (.string ⟨#[115, 108, 108, 119]⟩) ∧ Below w.heap.size w w' := by
  have hcl : classS 42 = 1 := by decide +kernel
  go_enter Tryz.func137, Tryz.ntmps137
  go_wp2_with fail
  refine (refClass_c 42 _).mono ?_
  rintro e w1 ⟨rfl, hb⟩
  rw [hcl]
  have HB := Lib.hid hb
  clear hb hcl
  go_wp2_with fail
  refine (refNames4_c _).mono ?_
  rintro e w2 ⟨rfl, rfl⟩
  have c : _ = some (Value.string ⟨#[115, 108, 108, 105, 119]⟩) := names4_cell w1 42 (by omega)
  have HB2 := Lib.hid (HB.out.alloc HB.out.size (.cells (Tab.names4.map strV).toArray 9))
  generalize (w1.alloc (.cells (Tab.names4.map strV).toArray 9)) = W at *
  go_wp2_with fail
  go_ret
  exact ⟨ret_s (by decide +kernel), HB2.out⟩
set_option maxHeartbeats 2000000 in
theorem refName_43 (w : World) : Calls Tryz.prog 137 #[.int .i64 43] w fun e w' => e = .returned (.string ⟨#[115, 114, 108, 119]⟩) ∧ Below w.heap.size w w' := by
  have hcl : classS 43 = 1 := by decide +kernel
  go_enter Tryz.func137, Tryz.ntmps137
  go_wp2_with fail
  refine (refClass_c 43 _).mono ?_
  rintro e w1 ⟨rfl, hb⟩
  rw [hcl]
  have HB := Lib.hid hb
  clear hb hcl
  go_wp2_with fail
  refine (refNames4_c _).mono ?_
  rintro e w2 ⟨rfl, rfl⟩
  have c : _ = some (Value.string ⟨#[115, 114, 108, 105, 119]⟩) := names4_cell w1 43 (by omega)
  have HB2 := Lib.hid (HB.out.alloc HB.out.size (.cells (Tab.names4.map strV).toArray 9))
  generalize (w1.alloc (.cells (Tab.names4.map strV).toArray 9)) = W at *
  go_wp2_with fail
  go_ret
  exact ⟨ret_s (by decide +kernel), HB2.out⟩
set_option maxHeartbeats 2000000 in
theorem refName_44 (w : World) : Calls Tryz.prog 137 #[.int .i64 44] w fun e w' => e = .returned (.string ⟨#[115, 114, 97, 119]⟩) ∧ Below w.heap.size w w' := by
  have hcl : classS 44 = 1 := by decide +kernel
  go_enter Tryz.func137, Tryz.ntmps137
  go_wp2_with fail
  refine (refClass_c 44 _).mono ?_
  rintro e w1 ⟨rfl, hb⟩
  rw [hcl]
  have HB := Lib.hid hb
  clear hb hcl
  go_wp2_with fail
  refine (refNames4_c _).mono ?_
  rintro e w2 ⟨rfl, rfl⟩
  have c : _ = some (Value.string ⟨#[115, 114, 97, 105, 119]⟩) := names4_cell w1 44 (by omega)
  have HB2 := Lib.hid (HB.out.alloc HB.out.size (.cells (Tab.names4.map strV).toArray 9))
  generalize (w1.alloc (.cells (Tab.names4.map strV).toArray 9)) = W at *
  go_wp2_with fail
  go_ret
  exact ⟨ret_s (by decide +kernel), HB2.out⟩
set_option maxHeartbeats 2000000 in
theorem refName_45 (w : World) : Calls Tryz.prog 137 #[.int .i64 45] w fun e w' => e = .returned (.string ⟨#[97, 100, 100, 119]⟩) ∧ Below w.heap.size w w' := by
  have hcl : classS 45 = 1 := by decide +kernel
  go_enter Tryz.func137, Tryz.ntmps137
  go_wp2_with fail
  refine (refClass_c 45 _).mono ?_
  rintro e w1 ⟨rfl, hb⟩
  rw [hcl]
  have HB := Lib.hid hb
  clear hb hcl
  go_wp2_with fail
  refine (refNames4_c _).mono ?_
  rintro e w2 ⟨rfl, rfl⟩
  have c : _ = some (Value.string ⟨#[97, 100, 100, 119]⟩) := names4_cell w1 45 (by omega)
  have HB2 := Lib.hid (HB.out.alloc HB.out.size (.cells (Tab.names4.map strV).toArray 9))
  generalize (w1.alloc (.cells (Tab.names4.map strV).toArray 9)) = W at *
  go_wp2_with fail
  go_ret
  exact ⟨ret_s (by decide +kernel), HB2.out⟩
set_option maxHeartbeats 2000000 in
theorem refName_46 (w : World) : Calls Tryz.prog 137 #[.int .i64 46] w fun e w' => e = .returned (.string ⟨#[115, 117, 98, 119]⟩) ∧ Below w.heap.size w w' := by
  have hcl : classS 46 = 1 := by decide +kernel
  go_enter Tryz.func137, Tryz.ntmps137
  go_wp2_with fail
  refine (refClass_c 46 _).mono ?_
  rintro e w1 ⟨rfl, hb⟩
  rw [hcl]
  have HB := Lib.hid hb
  clear hb hcl
  go_wp2_with fail
  refine (refNames4_c _).mono ?_
  rintro e w2 ⟨rfl, rfl⟩
  have c : _ = some (Value.string ⟨#[115, 117, 98, 119]⟩) := names4_cell w1 46 (by omega)
  have HB2 := Lib.hid (HB.out.alloc HB.out.size (.cells (Tab.names4.map strV).toArray 9))
  generalize (w1.alloc (.cells (Tab.names4.map strV).toArray 9)) = W at *
  go_wp2_with fail
  go_ret
  exact ⟨ret_s (by decide +kernel), HB2.out⟩
set_option maxHeartbeats 2000000 in
theorem refName_47 (w : World) : Calls Tryz.prog 137 #[.int .i64 47] w fun e w' => e = .returned (.string ⟨#[115, 108, 108, 119]⟩) ∧ Below w.heap.size w w' := by
  have hcl : classS 47 = 1 := by decide +kernel
  go_enter Tryz.func137, Tryz.ntmps137
  go_wp2_with fail
  refine (refClass_c 47 _).mono ?_
  rintro e w1 ⟨rfl, hb⟩
  rw [hcl]
  have HB := Lib.hid hb
  clear hb hcl
  go_wp2_with fail
  refine (refNames4_c _).mono ?_
  rintro e w2 ⟨rfl, rfl⟩
  have c : _ = some (Value.string ⟨#[115, 108, 108, 119]⟩) := names4_cell w1 47 (by omega)
  have HB2 := Lib.hid (HB.out.alloc HB.out.size (.cells (Tab.names4.map strV).toArray 9))
  generalize (w1.alloc (.cells (Tab.names4.map strV).toArray 9)) = W at *
  go_wp2_with fail
  go_ret
  exact ⟨ret_s (by decide +kernel), HB2.out⟩
set_option maxHeartbeats 2000000 in
theorem refName_48 (w : World) : Calls Tryz.prog 137 #[.int .i64 48] w fun e w' => e = .returned (.string ⟨#[115, 114, 108, 119]⟩) ∧ Below w.heap.size w w' := by
  have hcl : classS 48 = 1 := by decide +kernel
  go_enter Tryz.func137, Tryz.ntmps137
  go_wp2_with fail
  refine (refClass_c 48 _).mono ?_
  rintro e w1 ⟨rfl, hb⟩
  rw [hcl]
  have HB := Lib.hid hb
  clear hb hcl
  go_wp2_with fail
  refine (refNames4_c _).mono ?_
  rintro e w2 ⟨rfl, rfl⟩
  have c : _ = some (Value.string ⟨#[115, 114, 108, 119]⟩) := names4_cell w1 48 (by omega)
  have HB2 := Lib.hid (HB.out.alloc HB.out.size (.cells (Tab.names4.map strV).toArray 9))
  generalize (w1.alloc (.cells (Tab.names4.map strV).toArray 9)) = W at *
  go_wp2_with fail
  go_ret
  exact ⟨ret_s (by decide +kernel), HB2.out⟩
set_option maxHeartbeats 2000000 in
theorem refName_49 (w : World) : Calls Tryz.prog 137 #[.int .i64 49] w fun e w' => e = .returned (.string ⟨#[115, 114, 97, 119]⟩) ∧ Below w.heap.size w w' := by
  have hcl : classS 49 = 1 := by decide +kernel
  go_enter Tryz.func137, Tryz.ntmps137
  go_wp2_with fail
  refine (refClass_c 49 _).mono ?_
  rintro e w1 ⟨rfl, hb⟩
  rw [hcl]
  have HB := Lib.hid hb
  clear hb hcl
  go_wp2_with fail
  refine (refNames4_c _).mono ?_
  rintro e w2 ⟨rfl, rfl⟩
  have c : _ = some (Value.string ⟨#[115, 114, 97, 119]⟩) := names4_cell w1 49 (by omega)
  have HB2 := Lib.hid (HB.out.alloc HB.out.size (.cells (Tab.names4.map strV).toArray 9))
  generalize (w1.alloc (.cells (Tab.names4.map strV).toArray 9)) = W at *
  go_wp2_with fail
  go_ret
  exact ⟨ret_s (by decide +kernel), HB2.out⟩
set_option maxHeartbeats 2000000 in
theorem refName_54 (w : World) : Calls Tryz.prog 137 #[.int .i64 54] w fun e w' => e = .returned (.string ⟨#[109, 117, 108]⟩) ∧ Below w.heap.size w w' := by
  have hcl : classS 54 = 1 := by decide +kernel
  go_enter Tryz.func137, Tryz.ntmps137
  go_wp2_with fail
  refine (refClass_c 54 _).mono ?_
  rintro e w1 ⟨rfl, hb⟩
  rw [hcl]
  have HB := Lib.hid hb
  clear hb hcl
  go_wp2_with fail
  refine (refNames4_c _).mono ?_
  rintro e w2 ⟨rfl, rfl⟩
  have c : _ = some (Value.string ⟨#[109, 117, 108]⟩) := names4_cell w1 54 (by omega)
  have HB2 := Lib.hid (HB.out.alloc HB.out.size (.cells (Tab.names4.map strV).toArray 9))
  generalize (w1.alloc (.cells (Tab.names4.map strV).toArray 9)) = W at *
  go_wp2_with fail
  go_ret
  exact ⟨ret_s (by decide +kernel), HB2.out⟩
set_option maxHeartbeats 2000000 in
theorem refName_55 (w : World) : Calls Tryz.prog 137 #[.int .i64 55] w fun e w' => e = .returned (.string ⟨#[109, 117, 108, 104]⟩) ∧ Below w.heap.size w w' := by
  have hcl : classS 55 = 1 := by decide +kernel
  go_enter Tryz.func137, Tryz.ntmps137
  go_wp2_with fail
  refine (refClass_c 55 _).mono ?_
  rintro e w1 ⟨rfl, hb⟩
  rw [hcl]
  have HB := Lib.hid hb
  clear hb hcl
  go_wp2_with fail
  refine (refNames4_c _).mono ?_
  rintro e w2 ⟨rfl, rfl⟩
  have c : _ = some (Value.string ⟨#[109, 117, 108, 104]⟩) := names4_cell w1 55 (by omega)
  have HB2 := Lib.hid (HB.out.alloc HB.out.size (.cells (Tab.names4.map strV).toArray 9))
  generalize (w1.alloc (.cells (Tab.names4.map strV).toArray 9)) = W at *
  go_wp2_with fail
  go_ret
  exact ⟨ret_s (by decide +kernel), HB2.out⟩
set_option maxHeartbeats 2000000 in
theorem refName_56 (w : World) : Calls Tryz.prog 137 #[.int .i64 56] w fun e w' => e = .returned (.string ⟨#[109, 117, 108, 104, 115, 117]⟩) ∧ Below w.heap.size w w' := by
  have hcl : classS 56 = 1 := by decide +kernel
  go_enter Tryz.func137, Tryz.ntmps137
  go_wp2_with fail
  refine (refClass_c 56 _).mono ?_
  rintro e w1 ⟨rfl, hb⟩
  rw [hcl]
  have HB := Lib.hid hb
  clear hb hcl
  go_wp2_with fail
  refine (refNames4_c _).mono ?_
  rintro e w2 ⟨rfl, rfl⟩
  have c : _ = some (Value.string ⟨#[109, 117, 108, 104, 115, 117]⟩) := names4_cell w1 56 (by omega)
  have HB2 := Lib.hid (HB.out.alloc HB.out.size (.cells (Tab.names4.map strV).toArray 9))
  generalize (w1.alloc (.cells (Tab.names4.map strV).toArray 9)) = W at *
  go_wp2_with fail
  go_ret
  exact ⟨ret_s (by decide +kernel), HB2.out⟩
set_option maxHeartbeats 2000000 in
theorem refName_57 (w : World) : Calls Tryz.prog 137 #[.int .i64 57] w fun e w' => e = .returned (.string ⟨#[109, 117, 108, 104, 117]⟩) ∧ Below w.heap.size w w' := by
  have hcl : classS 57 = 1 := by decide +kernel
  go_enter Tryz.func137, Tryz.ntmps137
  go_wp2_with fail
  refine (refClass_c 57 _).mono ?_
  rintro e w1 ⟨rfl, hb⟩
  rw [hcl]
  have HB := Lib.hid hb
  clear hb hcl
  go_wp2_with fail
  refine (refNames4_c _).mono ?_
  rintro e w2 ⟨rfl, rfl⟩
  have c : _ = some (Value.string ⟨#[109, 117, 108, 104, 117]⟩) := names4_cell w1 57 (by omega)
  have HB2 := Lib.hid (HB.out.alloc HB.out.size (.cells (Tab.names4.map strV).toArray 9))
  generalize (w1.alloc (.cells (Tab.names4.map strV).toArray 9)) = W at *
  go_wp2_with fail
  go_ret
  exact ⟨ret_s (by decide +kernel), HB2.out⟩
set_option maxHeartbeats 2000000 in
theorem refName_58 (w : World) : Calls Tryz.prog 137 #[.int .i64 58] w fun e w' => e = .returned (.string ⟨#[100, 105, 118]⟩) ∧ Below w.heap.size w w' := by
  have hcl : classS 58 = 1 := by decide +kernel
  go_enter Tryz.func137, Tryz.ntmps137
  go_wp2_with fail
  refine (refClass_c 58 _).mono ?_
  rintro e w1 ⟨rfl, hb⟩
  rw [hcl]
  have HB := Lib.hid hb
  clear hb hcl
  go_wp2_with fail
  refine (refNames4_c _).mono ?_
  rintro e w2 ⟨rfl, rfl⟩
  have c : _ = some (Value.string ⟨#[100, 105, 118]⟩) := names4_cell w1 58 (by omega)
  have HB2 := Lib.hid (HB.out.alloc HB.out.size (.cells (Tab.names4.map strV).toArray 9))
  generalize (w1.alloc (.cells (Tab.names4.map strV).toArray 9)) = W at *
  go_wp2_with fail
  go_ret
  exact ⟨ret_s (by decide +kernel), HB2.out⟩
set_option maxHeartbeats 2000000 in
theorem refName_59 (w : World) : Calls Tryz.prog 137 #[.int .i64 59] w fun e w' => e = .returned (.string ⟨#[100, 105, 118, 117]⟩) ∧ Below w.heap.size w w' := by
  have hcl : classS 59 = 1 := by decide +kernel
  go_enter Tryz.func137, Tryz.ntmps137
  go_wp2_with fail
  refine (refClass_c 59 _).mono ?_
  rintro e w1 ⟨rfl, hb⟩
  rw [hcl]
  have HB := Lib.hid hb
  clear hb hcl
  go_wp2_with fail
  refine (refNames4_c _).mono ?_
  rintro e w2 ⟨rfl, rfl⟩
  have c : _ = some (Value.string ⟨#[100, 105, 118, 117]⟩) := names4_cell w1 59 (by omega)
  have HB2 := Lib.hid (HB.out.alloc HB.out.size (.cells (Tab.names4.map strV).toArray 9))
  generalize (w1.alloc (.cells (Tab.names4.map strV).toArray 9)) = W at *
  go_wp2_with fail
  go_ret
  exact ⟨ret_s (by decide +kernel), HB2.out⟩
set_option maxHeartbeats 2000000 in
theorem refName_60 (w : World) : Calls Tryz.prog 137 #[.int .i64 60] w fun e w' => e = .returned (.string ⟨#[114, 101, 109]⟩) ∧ Below w.heap.size w w' := by
  have hcl : classS 60 = 1 := by decide +kernel
  go_enter Tryz.func137, Tryz.ntmps137
  go_wp2_with fail
  refine (refClass_c 60 _).mono ?_
  rintro e w1 ⟨rfl, hb⟩
  rw [hcl]
  have HB := Lib.hid hb
  clear hb hcl
  go_wp2_with fail
  refine (refNames4_c _).mono ?_
  rintro e w2 ⟨rfl, rfl⟩
  have c : _ = some (Value.string ⟨#[114, 101, 109]⟩) := names4_cell w1 60 (by omega)
  have HB2 := Lib.hid (HB.out.alloc HB.out.size (.cells (Tab.names4.map strV).toArray 9))
  generalize (w1.alloc (.cells (Tab.names4.map strV).toArray 9)) = W at *
  go_wp2_with fail
  go_ret
  exact ⟨ret_s (by decide +kernel), HB2.out⟩
set_option maxHeartbeats 2000000 in
theorem refName_61 (w : World) : Calls Tryz.prog 137 #[.int .i64 61] w fun e w' => e = .returned (.string ⟨#[114, 101, 109, 117]⟩) ∧ Below w.heap.size w w' := by
  have hcl : classS 61 = 1 := by decide +kernel
  go_enter Tryz.func137, Tryz.ntmps137
  go_wp2_with fail
  refine (refClass_c 61 _).mono ?_
  rintro e w1 ⟨rfl, hb⟩
  rw [hcl]
  have HB := Lib.hid hb
  clear hb hcl
  go_wp2_with fail
  refine (refNames4_c _).mono ?_
  rintro e w2 ⟨rfl, rfl⟩
  have c : _ = some (Value.string ⟨#[114, 101, 109, 117]⟩) := names4_cell w1 61 (by omega)
  have HB2 := Lib.hid (HB.out.alloc HB.out.size (.cells (Tab.names4.map strV).toArray 9))
  generalize (w1.alloc (.cells (Tab.names4.map strV).toArray 9)) = W at *
  go_wp2_with fail
  go_ret
  exact ⟨ret_s (by decide +kernel), HB2.out⟩
set_option maxHeartbeats 2000000 in
theorem refName_62 (w : World) : Calls Tryz.prog 137 #[.int .i64 62] w fun e w' => e = .returned (.string ⟨#[109, 117, 108, 119]⟩) ∧ Below w.heap.size w w' := by
  have hcl : classS 62 = 1 := by decide +kernel
  go_enter Tryz.func137, Tryz.ntmps137
  go_wp2_with fail
  refine (refClass_c 62 _).mono ?_
  rintro e w1 ⟨rfl, hb⟩
  rw [hcl]
  have HB := Lib.hid hb
  clear hb hcl
  go_wp2_with fail
  refine (refNames4_c _).mono ?_
  rintro e w2 ⟨rfl, rfl⟩
  have c : _ = some (Value.string ⟨#[109, 117, 108, 119]⟩) := names4_cell w1 62 (by omega)
  have HB2 := Lib.hid (HB.out.alloc HB.out.size (.cells (Tab.names4.map strV).toArray 9))
  generalize (w1.alloc (.cells (Tab.names4.map strV).toArray 9)) = W at *
  go_wp2_with fail
  go_ret
  exact ⟨ret_s (by decide +kernel), HB2.out⟩
set_option maxHeartbeats 2000000 in
theorem refName_63 (w : World) : Calls Tryz.prog 137 #[.int .i64 63] w fun e w' => e = .returned (.string ⟨#[100, 105, 118, 119]⟩) ∧ Below w.heap.size w w' := by
  have hcl : classS 63 = 1 := by decide +kernel
  go_enter Tryz.func137, Tryz.ntmps137
  go_wp2_with fail
  refine (refClass_c 63 _).mono ?_
  rintro e w1 ⟨rfl, hb⟩
  rw [hcl]
  have HB := Lib.hid hb
  clear hb hcl
  go_wp2_with fail
  refine (refNames4_c _).mono ?_
  rintro e w2 ⟨rfl, rfl⟩
  have c : _ = some (Value.string ⟨#[100, 105, 118, 119]⟩) := names4_cell w1 63 (by omega)
  have HB2 := Lib.hid (HB.out.alloc HB.out.size (.cells (Tab.names4.map strV).toArray 9))
  generalize (w1.alloc (.cells (Tab.names4.map strV).toArray 9)) = W at *
  go_wp2_with fail
  go_ret
  exact ⟨ret_s (by decide +kernel), HB2.out⟩
set_option maxHeartbeats 2000000 in
theorem refName_64 (w : World) : Calls Tryz.prog 137 #[.int .i64 64] w fun e w' => e = .returned (.string ⟨#[100, 105, 118, 117, 119]⟩) ∧ Below w.heap.size w w' := by
  have hcl : classS 64 = 1 := by decide +kernel
  go_enter Tryz.func137, Tryz.ntmps137
  go_wp2_with fail
  refine (refClass_c 64 _).mono ?_
  rintro e w1 ⟨rfl, hb⟩
  rw [hcl]
  have HB := Lib.hid hb
  clear hb hcl
  go_wp2_with fail
  refine (refNames4_c _).mono ?_
  rintro e w2 ⟨rfl, rfl⟩
  have c : _ = some (Value.string ⟨#[100, 105, 118, 117, 119]⟩) := names4_cell w1 64 (by omega)
  have HB2 := Lib.hid (HB.out.alloc HB.out.size (.cells (Tab.names4.map strV).toArray 9))
  generalize (w1.alloc (.cells (Tab.names4.map strV).toArray 9)) = W at *
  go_wp2_with fail
  go_ret
  exact ⟨ret_s (by decide +kernel), HB2.out⟩
set_option maxHeartbeats 2000000 in
theorem refName_65 (w : World) : Calls Tryz.prog 137 #[.int .i64 65] w fun e w' => e = .returned (.string ⟨#[114, 101, 109, 119]⟩) ∧ Below w.heap.size w w' := by
  have hcl : classS 65 = 1 := by decide +kernel
  go_enter Tryz.func137, Tryz.ntmps137
  go_wp2_with fail
  refine (refClass_c 65 _).mono ?_
  rintro e w1 ⟨rfl, hb⟩
  rw [hcl]
  have HB := Lib.hid hb
  clear hb hcl
  go_wp2_with fail
  refine (refNames4_c _).mono ?_
  rintro e w2 ⟨rfl, rfl⟩
  have c : _ = some (Value.string ⟨#[114, 101, 109, 119]⟩) := names4_cell w1 65 (by omega)
  have HB2 := Lib.hid (HB.out.alloc HB.out.size (.cells (Tab.names4.map strV).toArray 9))
  generalize (w1.alloc (.cells (Tab.names4.map strV).toArray 9)) = W at *
  go_wp2_with fail
  go_ret
  exact ⟨ret_s (by decide +kernel), HB2.out⟩
set_option maxHeartbeats 2000000 in
theorem refName_66 (w : World) : Calls Tryz.prog 137 #[.int .i64 66] w fun e w' => e = .returned (.string ⟨#[114, 101, 109, 117, 119]⟩) ∧ Below w.heap.size w w' := by
  have hcl : classS 66 = 1 := by decide +kernel
  go_enter Tryz.func137, Tryz.ntmps137
  go_wp2_with fail
  refine (refClass_c 66 _).mono ?_
  rintro e w1 ⟨rfl, hb⟩
  rw [hcl]
  have HB := Lib.hid hb
  clear hb hcl
  go_wp2_with fail
  refine (refNames4_c _).mono ?_
  rintro e w2 ⟨rfl, rfl⟩
  have c : _ = some (Value.string ⟨#[114, 101, 109, 117, 119]⟩) := names4_cell w1 66 (by omega)
  have HB2 := Lib.hid (HB.out.alloc HB.out.size (.cells (Tab.names4.map strV).toArray 9))
  generalize (w1.alloc (.cells (Tab.names4.map strV).toArray 9)) = W at *
  go_wp2_with fail
  go_ret
  exact ⟨ret_s (by decide +kernel), HB2.out⟩
set_option maxHeartbeats 2000000 in
theorem refName_no (op : Int) (h : classS op ≠ 1) (w : World) : Calls Tryz.prog 137 #[.int .i64 op] w fun e w' => e = .returned (.string ⟨#[]⟩) ∧ Below w.heap.size w w' := by
  have e1 : (classS op == 1) = false := by simpa using h
  go_enter Tryz.func137, Tryz.ntmps137
  go_wp2_with fail
  refine (refClass_c op _).mono ?_
  rintro e w1 ⟨rfl, hb⟩
  have HB := Lib.hid hb
  clear hb
  go_wp2_with fail
  go_ret
  exact ⟨rfl, HB.out⟩
end Go.Proofs.YtjeolfcefeglpabGreat
