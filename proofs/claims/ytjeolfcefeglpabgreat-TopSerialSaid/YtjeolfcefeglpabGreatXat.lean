/-
  Contracts of the reference of layers 2 and 7: High without signs, one, logic. Contracts of the reference's Do and product (layer 7), name by name. Contracts of the reference's Name (layer 7), op by op.
-/
import Derived.Test.YtjeolfcefeglpabGreatXar
import Derived.Test.YtjeolfcefeglpabGreatXas
import Derived.Test.YtjeolfcefeglpabGreatXam
import Derived.Test.YtjeolfcefeglpabGreatXaq
set_option maxRecDepth 20000
namespace Go.Proofs.YtjeolfcefeglpabGreat
open Go.ChangeShapes Go.WideShapes Go.ChangeAt Go.RowKit Wd

set_option maxHeartbeats 1000000 in
theorem refHigh0_c (a b : Int) (w : World) (ha0 : 0 ≤ a) (ha : a < 18446744073709551616) (hb0 : 0 ≤ b) (hb : b < 18446744073709551616) :
    Calls Tryz.prog 156 #[.int .u64 a, .int .u64 b, .int .i64 0] w fun e w' => e = .returned (.int .u64 (mulHi a b)) ∧ Below w.heap.size w w' := by
  go_enter Tryz.func156, Tryz.ntmps156
  go_wp2_with fail
  refine (refTimes_c _ _ _ ha0 ha hb0 hb).mono ?_
  rintro e w1 ⟨rfl, hB⟩
  go_wp2_with fail
  go_ret
  exact ⟨rfl, hB⟩
theorem one_c (b : Bool) (w : World) : Calls Tryz.prog 139 #[.bool b] w fun e w' => e = .returned (.int .u64 (bi b)) ∧ w = w' := by
  cases b
  · go_enter Tryz.func139, Tryz.ntmps139
    go_wp2
    go_ret
    exact ⟨rfl, rfl⟩
  · go_enter Tryz.func139, Tryz.ntmps139
    go_wp2
    go_ret
    exact ⟨rfl, rfl⟩
def ncnt (a b : Int) (i : Nat) : Int := bi (tb a i) + bi (tb b i)
theorem ncnt_range (a b : Int) (i : Nat) : 0 ≤ ncnt a b i ∧ ncnt a b i ≤ 2 := by
  unfold ncnt
  have := bi_range (tb a i)
  have := bi_range (tb b i)
  omega
def logicS (a b mn mx : Int) : Int := word fun i => decide (mn ≤ ncnt a b i) && decide (ncnt a b i ≤ mx)
set_option maxHeartbeats 1600000 in
theorem logic_c (a b mn mx : Int) (w : World) (ha0 : 0 ≤ a) (ha : a < 18446744073709551616) (hb0 : 0 ≤ b) (hb : b < 18446744073709551616) :
    Calls Tryz.prog 140 #[.int .u64 a, .int .u64 b, .int .u64 mn, .int .u64 mx] w fun e w' => e = .returned (.int .u64 (logicS a b mn mx)) ∧ Below w.heap.size w w' := by
  obtain ⟨i0, hi, hz0, hz1, hz2⟩ := info_parts info_u64
  obtain ⟨f, hf⟩ : ∃ f : Nat → Bool, f = fun i => decide (mn ≤ ncnt a b i) && decide (ncnt a b i ≤ mx) := ⟨_, rfl⟩
  have HF := Lib.hid hf
  clear hf
  go_enter Tryz.func140, Tryz.ntmps140
  go_wp2
  go_loopw [9, 10] (fun v i wr => ∃ k : Nat, k ≤ 64 ∧ i = .int .i64 k ∧ wr.ownsRow w.heap.size 38 1 v k (bl f k) ∧ Below w.heap.size w wr) (fun _ i _ => 64 - (intOf i).toNat)
  case atStart => exact ⟨0, Nat.zero_le _, rfl, World.ownsRow_nil _ _ _ _, Below.refl _ _⟩
  case round =>
    obtain ⟨k, hk, rfl, hown, hnx⟩ := hrel
    have hsz := hnx.size
    have HO := Lib.hid hown
    clear hown
    by_cases hlt : k < 64
    · have hN := (show IntKind.u64.wrap (bi (tbI a k) + bi (tbI b k)) = ncnt a b k from by
        rw [tbI_nat a k hlt, tbI_nat b k hlt, IntKind.wrap_u64]
        have := ncnt_range a b k
        unfold ncnt at *
        omega)
      obtain ⟨n0, n2⟩ := ncnt_range a b k
      generalize hn : ncnt a b k = n at *
      by_cases h1 : mn ≤ n
      · have HB := Lib.hid (show decide (n ≤ mx) = f k from by rw [HF.out]; simp only [hn, decide_eq_true h1, Bool.true_and])
        clear hn
        go_wp2_with fail
        refine (bit_c _ _ _ ha0 ha).mono ?_
        rintro e w' ⟨rfl, rfl⟩
        go_wp2_with fail
        refine (bit_c _ _ _ hb0 hb).mono ?_
        rintro e w' ⟨rfl, rfl⟩
        go_wp2_with fail
        refine (one_c _ _).mono ?_
        rintro e w' ⟨rfl, rfl⟩
        go_wp2_with (at_builtin; refine wpList_append_own _ rfl _ _ 148 rfl w.heap.size 38 i0 (.int .u64 0) 1 8 Tryz.underlying148 hi hz0 hz1 hz2 rfl (by decide) _ _ _ rfl (HO.out.alloc _) ⟨wr.heap.size, 0, none⟩ 1 1 [.int .u64 (bi (decide (n ≤ mx)))] rfl rfl news_one (one_cell _) (by unfold maxLen; omega) (by omega) (by simp; omega) ?_; intro v' w1 hown' hgrow _)
        have R := rel_app hsz HB.out HO.out hown' hgrow hnx
        go_roundw
        case rel => exact ⟨k + 1, by omega, by go_num, R.1, R.2⟩
        case measure => simp [intOf]; omega
      · have HB := Lib.hid (show false = f k from by rw [HF.out]; simp only [hn, decide_eq_false h1, Bool.false_and])
        clear hn
        go_wp2_with fail
        refine (bit_c _ _ _ ha0 ha).mono ?_
        rintro e w' ⟨rfl, rfl⟩
        go_wp2_with fail
        refine (bit_c _ _ _ hb0 hb).mono ?_
        rintro e w' ⟨rfl, rfl⟩
        go_wp2_with fail
        refine (one_c _ _).mono ?_
        rintro e w' ⟨rfl, rfl⟩
        go_wp2_with (at_builtin; refine wpList_append_own _ rfl _ _ 148 rfl w.heap.size 38 i0 (.int .u64 0) 1 8 Tryz.underlying148 hi hz0 hz1 hz2 rfl (by decide) _ _ _ rfl (HO.out.alloc _) ⟨wr.heap.size, 0, none⟩ 1 1 [.int .u64 (bi false)] rfl rfl news_one (one_cell _) (by unfold maxLen; omega) (by omega) (by simp; omega) ?_; intro v' w1 hown' hgrow _)
        have R := rel_app hsz HB.out HO.out hown' hgrow hnx
        go_roundw
        case rel => exact ⟨k + 1, by omega, by go_num, R.1, R.2⟩
        case measure => simp [intOf]; omega
    · obtain rfl : k = 64 := by omega
      go_wp2_with (go_at_call 136; refine (of_c f 64 _ w.heap.size _ (by omega) (by omega) HO.out).mono ?_; rintro e w' ⟨rfl, rfl⟩)
      go_ret
      exact ⟨by rw [HF.out]; rfl, hnx⟩
theorem tb_xor {x y : Int} (hx0 : 0 ≤ x) (hx : x < 18446744073709551616) (hy0 : 0 ≤ y) (hy : y < 18446744073709551616) (i : Nat) : tb (bits .xor .u64 x y) i = (tb x i ^^ tb y i) := by
  unfold tb; rw [u64_xor x y hx0 hx hy0 hy]; simp
theorem xor_range {x y : Int} (hx0 : 0 ≤ x) (hx : x < 18446744073709551616) (hy0 : 0 ≤ y) (hy : y < 18446744073709551616) : 0 ≤ bits .xor .u64 x y ∧ bits .xor .u64 x y < 18446744073709551616 := by
  rw [u64_xor x y hx0 hx hy0 hy]
  have := Nat.xor_lt_two_pow (x := x.toNat) (y := y.toNat) (n := 64) (by omega) (by omega)
  omega
theorem xor_logic {a b : Int} (ha0 : 0 ≤ a) (ha : a < 18446744073709551616) (hb0 : 0 ≤ b) (hb : b < 18446744073709551616) : bits .xor .u64 a b = logicS a b 1 1 := by
  have r := xor_range ha0 ha hb0 hb
  apply eq_word r.1 r.2
  intro i _
  rw [tb_xor ha0 ha hb0 hb]
  unfold ncnt
  cases tb a i <;> cases tb b i <;> rfl
theorem or_logic {a b : Int} (ha0 : 0 ≤ a) (ha : a < 18446744073709551616) (hb0 : 0 ≤ b) (hb : b < 18446744073709551616) : bits .or .u64 a b = logicS a b 1 2 := by
  have r := or_range ha0 ha hb0 hb
  apply eq_word r.1 r.2
  intro i _
  rw [tb_or ha0 ha hb0 hb]
  unfold ncnt
  cases tb a i <;> cases tb b i <;> rfl
theorem and_logic {a b : Int} (ha0 : 0 ≤ a) (ha : a < 18446744073709551616) (hb0 : 0 ≤ b) (hb : b < 18446744073709551616) : bits .and .u64 a b = logicS a b 2 2 := by
  have r := and_range ha0 ha hb0 hb
  apply eq_word r.1 r.2
  intro i _
  rw [tb_and ha0 ha hb0 hb]
  unfold ncnt
  cases tb a i <;> cases tb b i <;> rfl
theorem logic_xor (a b : Int) (w : World) (ha0 : 0 ≤ a) (ha : a < 18446744073709551616) (hb0 : 0 ≤ b) (hb : b < 18446744073709551616) :
    Calls Tryz.prog 140 #[.int .u64 a, .int .u64 b, .int .u64 1, .int .u64 1] w fun e w' => e = .returned (.int .u64 (bits .xor .u64 a b)) ∧ Below w.heap.size w w' := by
  rw [xor_logic ha0 ha hb0 hb]
  exact logic_c a b 1 1 w ha0 ha hb0 hb
theorem logic_or (a b : Int) (w : World) (ha0 : 0 ≤ a) (ha : a < 18446744073709551616) (hb0 : 0 ≤ b) (hb : b < 18446744073709551616) :
    Calls Tryz.prog 140 #[.int .u64 a, .int .u64 b, .int .u64 1, .int .u64 2] w fun e w' => e = .returned (.int .u64 (bits .or .u64 a b)) ∧ Below w.heap.size w w' := by
  rw [or_logic ha0 ha hb0 hb]
  exact logic_c a b 1 2 w ha0 ha hb0 hb
theorem logic_and (a b : Int) (w : World) (ha0 : 0 ≤ a) (ha : a < 18446744073709551616) (hb0 : 0 ≤ b) (hb : b < 18446744073709551616) :
    Calls Tryz.prog 140 #[.int .u64 a, .int .u64 b, .int .u64 2, .int .u64 2] w fun e w' => e = .returned (.int .u64 (bits .and .u64 a b)) ∧ Below w.heap.size w w' := by
  rw [and_logic ha0 ha hb0 hb]
  exact logic_c a b 2 2 w ha0 ha hb0 hb
end Go.Proofs.YtjeolfcefeglpabGreat
set_option maxRecDepth 20000
namespace Go.Proofs.YtjeolfcefeglpabGreat
open Go.ChangeShapes Go.WideShapes Go.ChangeAt Go.RowKit Wd

def NameIs (op : Int) (s : ByteArray) : Prop := ∀ w : World, Calls Tryz.prog 137 #[.int .i64 op] w fun e w' => e = .returned (.string s) ∧ Below w.heap.size w w'

set_option maxHeartbeats 2000000 in
theorem refDo_xor (op a b : Int) (w : World) (hN : NameIs op ⟨#[120, 111, 114]⟩) (ha0 : 0 ≤ a) (ha : a < 18446744073709551616) (hb0 : 0 ≤ b) (hb : b < 18446744073709551616) :
    Calls Tryz.prog 92 #[.int .i64 op, .int .u64 a, .int .u64 b] w fun e w' => e = .returned (.tuple #[.int .u64 (bits .xor .u64 a b), .bool true]) ∧ Below w.heap.size w w' := by
  go_enter Tryz.func92, Tryz.ntmps92
  go_wp2_with fail
  refine (hN _).mono ?_
  rintro e w1 ⟨rfl, hb1⟩
  have HB1 := Lib.hid hb1
  clear hb1
  go_wp2_with fail
  refine (logic_xor _ _ _ ha0 ha hb0 hb).mono ?_
  rintro e w2 ⟨rfl, hb2⟩
  have HB2 := Lib.hid (HB1.out.trans (hb2.mono HB1.out.size))
  clear hb2
  go_wp2_with fail
  go_ret2
  exact ⟨rfl, HB2.out⟩
set_option maxHeartbeats 2000000 in
theorem refDo_or (op a b : Int) (w : World) (hN : NameIs op ⟨#[111, 114]⟩) (ha0 : 0 ≤ a) (ha : a < 18446744073709551616) (hb0 : 0 ≤ b) (hb : b < 18446744073709551616) :
    Calls Tryz.prog 92 #[.int .i64 op, .int .u64 a, .int .u64 b] w fun e w' => e = .returned (.tuple #[.int .u64 (bits .or .u64 a b), .bool true]) ∧ Below w.heap.size w w' := by
  go_enter Tryz.func92, Tryz.ntmps92
  go_wp2_with fail
  refine (hN _).mono ?_
  rintro e w1 ⟨rfl, hb1⟩
  have HB1 := Lib.hid hb1
  clear hb1
  go_wp2_with fail
  refine (logic_or _ _ _ ha0 ha hb0 hb).mono ?_
  rintro e w2 ⟨rfl, hb2⟩
  have HB2 := Lib.hid (HB1.out.trans (hb2.mono HB1.out.size))
  clear hb2
  go_wp2_with fail
  go_ret2
  exact ⟨rfl, HB2.out⟩
set_option maxHeartbeats 2000000 in
theorem refDo_and (op a b : Int) (w : World) (hN : NameIs op ⟨#[97, 110, 100]⟩) (ha0 : 0 ≤ a) (ha : a < 18446744073709551616) (hb0 : 0 ≤ b) (hb : b < 18446744073709551616) :
    Calls Tryz.prog 92 #[.int .i64 op, .int .u64 a, .int .u64 b] w fun e w' => e = .returned (.tuple #[.int .u64 (bits .and .u64 a b), .bool true]) ∧ Below w.heap.size w w' := by
  go_enter Tryz.func92, Tryz.ntmps92
  go_wp2_with fail
  refine (hN _).mono ?_
  rintro e w1 ⟨rfl, hb1⟩
  have HB1 := Lib.hid hb1
  clear hb1
  go_wp2_with fail
  refine (logic_and _ _ _ ha0 ha hb0 hb).mono ?_
  rintro e w2 ⟨rfl, hb2⟩
  have HB2 := Lib.hid (HB1.out.trans (hb2.mono HB1.out.size))
  clear hb2
  go_wp2_with fail
  go_ret2
  exact ⟨rfl, HB2.out⟩
end Go.Proofs.YtjeolfcefeglpabGreat
set_option maxRecDepth 20000
namespace Go.Proofs.YtjeolfcefeglpabGreat
open Go.ChangeShapes Go.WideShapes Go.ChangeAt Go.RowKit Wd

theorem ret_s {a b : ByteArray} (h : a = b) : Ending.returned (.string a) = .returned (.string b) := by rw [h]
set_option maxHeartbeats 2000000 in
theorem refName_36 (w : World) : Calls Tryz.prog 137 #[.int .i64 36] w fun e w' => e = .returned (.string ⟨#[120, 111, 114]⟩) ∧ Below w.heap.size w w' := by
  have hcl : classS 36 = 1 := by decide +kernel
  go_enter Tryz.func137, Tryz.ntmps137
  go_wp2_with fail
  refine (refClass_c 36 _).mono ?_
  rintro e w1 ⟨rfl, hb⟩
  rw [hcl]
  have HB := Lib.hid hb
  clear hb hcl
  go_wp2_with fail
  refine (refNames4_c _).mono ?_
  rintro e w2 ⟨rfl, rfl⟩
  have c : _ = some (Value.string ⟨#[120, 111, 114]⟩) := names4_cell w1 36 (by omega)
  have HB2 := Lib.hid (HB.out.alloc HB.out.size (.cells (Tab.names4.map strV).toArray 9))
  generalize (w1.alloc (.cells (Tab.names4.map strV).toArray 9)) = W at *
  go_wp2_with fail
  go_ret
  exact ⟨ret_s (by decide +kernel), HB2.out⟩
set_option maxHeartbeats 2000000 in
theorem refName_39 (w : World) : Calls Tryz.prog 137 #[.int .i64 39] w fun e w' => e = .returned (.string ⟨#[111, 114]⟩) ∧ Below w.heap.size w w' := by
  have hcl : classS 39 = 1 := by decide +kernel
  go_enter Tryz.func137, Tryz.ntmps137
  go_wp2_with fail
  refine (refClass_c 39 _).mono ?_
  rintro e w1 ⟨rfl, hb⟩
  rw [hcl]
  have HB := Lib.hid hb
  clear hb hcl
  go_wp2_with fail
  refine (refNames4_c _).mono ?_
  rintro e w2 ⟨rfl, rfl⟩
  have c : _ = some (Value.string ⟨#[111, 114]⟩) := names4_cell w1 39 (by omega)
  have HB2 := Lib.hid (HB.out.alloc HB.out.size (.cells (Tab.names4.map strV).toArray 9))
  generalize (w1.alloc (.cells (Tab.names4.map strV).toArray 9)) = W at *
  go_wp2_with fail
  go_ret
  exact ⟨ret_s (by decide +kernel), HB2.out⟩
set_option maxHeartbeats 2000000 in
theorem refName_40 (w : World) : Calls Tryz.prog 137 #[.int .i64 40] w fun e w' => e = .returned (.string ⟨#[97, 110, 100]⟩) ∧ Below w.heap.size w w' := by
  have hcl : classS 40 = 1 := by decide +kernel
  go_enter Tryz.func137, Tryz.ntmps137
  go_wp2_with fail
  refine (refClass_c 40 _).mono ?_
  rintro e w1 ⟨rfl, hb⟩
  rw [hcl]
  have HB := Lib.hid hb
  clear hb hcl
  go_wp2_with fail
  refine (refNames4_c _).mono ?_
  rintro e w2 ⟨rfl, rfl⟩
  have c : _ = some (Value.string ⟨#[97, 110, 100]⟩) := names4_cell w1 40 (by omega)
  have HB2 := Lib.hid (HB.out.alloc HB.out.size (.cells (Tab.names4.map strV).toArray 9))
  generalize (w1.alloc (.cells (Tab.names4.map strV).toArray 9)) = W at *
  go_wp2_with fail
  go_ret
  exact ⟨ret_s (by decide +kernel), HB2.out⟩
end Go.Proofs.YtjeolfcefeglpabGreat
