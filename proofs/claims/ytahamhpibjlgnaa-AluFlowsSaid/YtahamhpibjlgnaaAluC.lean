/-
  Contracts of alu.Do (layer 7), op by op.
-/
import Derived.Test.YtahamhpibjlgnaaAluC2
namespace Go.Proofs.Ytahamhpibjlgnaa
open Go.ChangeShapes Go.WideShapes Go.ChangeAt Go.RowKit Wd

theorem not_nil (fn : FuncId) (cap : Array Value) (w : World) : (binOp .eql 46 (.func (.func fn) #[] cap) .nilFunc).run Try.prog w = .ok (.bool false) w := by kernel_rfl
theorem is_nil (w : World) : (binOp .eql 46 .nilFunc .nilFunc).run Try.prog w = .ok (.bool true) w := by kernel_rfl
set_option maxHeartbeats 1000000 in
theorem do_long (op a b : Int) (g : Int → Int → Int) (w : World)  (h : Hands 20 op g) (ha : InW a) (hb : InW b) :
    Calls Try.prog 6 #[.int .i64 op, .int .u64 a, .int .u64 b] w fun e w' => e = .returned (.tuple #[.int .u64 (g a b), .bool true]) ∧ Below w.heap.size w w' := by
  have hq := is_nil
  go_enter Try.func6, Try.ntmps6
  go_wp2_with fail
  refine (h _).mono ?_
  rintro e w1 ⟨fn, cap, rfl, hB, he, hf⟩
  have hq2 := not_nil fn cap
  have HB := Lib.hid hB
  have HF := Lib.hid hf
  have HE := Lib.hid he
  clear hB hf he
  go_wp2_with fail
  rw [HE.out]
  refine (HF.out a b _ ha hb (Below.refl _ _)).mono ?_
  rintro e w2 ⟨rfl, hb2⟩
  have HB2 := Lib.hid (HB.out.trans (hb2.mono HB.out.size))
  clear hb2
  go_wp2_with fail
  go_ret2
  exact ⟨rfl, HB2.out⟩
set_option maxHeartbeats 1000000 in
theorem do_short (op a b : Int) (g : Int → Int → Int) (w : World) (h0 : Hands0 20 op) (h : Hands 21 op g) (ha : InW a) (hb : InW b) :
    Calls Try.prog 6 #[.int .i64 op, .int .u64 a, .int .u64 b] w fun e w' => e = .returned (.tuple #[.int .u64 (g a b), .bool true]) ∧ Below w.heap.size w w' := by
  have hq := is_nil
  go_enter Try.func6, Try.ntmps6
  go_wp2_with fail
  refine (h0 _).mono ?_
  rintro e w5 ⟨rfl, rfl⟩
  go_wp2_with fail
  refine (h _).mono ?_
  rintro e w1 ⟨fn, cap, rfl, hB, he, hf⟩
  have hq2 := not_nil fn cap
  have HB := Lib.hid hB
  have HF := Lib.hid hf
  have HE := Lib.hid he
  clear hB hf he
  go_wp2_with fail
  rw [HE.out]
  refine (HF.out a b _ ha hb (Below.refl _ _)).mono ?_
  rintro e w2 ⟨rfl, hb2⟩
  have HB2 := Lib.hid (HB.out.trans (hb2.mono HB.out.size))
  clear hb2
  go_wp2_with fail
  go_ret2
  exact ⟨rfl, HB2.out⟩
set_option maxHeartbeats 1000000 in
theorem do_product (op a b : Int) (g : Int → Int → Int) (w : World) (h0 : Hands0 20 op) (h1 : Hands0 21 op) (h : Hands 22 op g) (ha : InW a) (hb : InW b) :
    Calls Try.prog 6 #[.int .i64 op, .int .u64 a, .int .u64 b] w fun e w' => e = .returned (.tuple #[.int .u64 (g a b), .bool true]) ∧ Below w.heap.size w w' := by
  have hq := is_nil
  go_enter Try.func6, Try.ntmps6
  go_wp2_with fail
  refine (h0 _).mono ?_
  rintro e w5 ⟨rfl, rfl⟩
  go_wp2_with fail
  refine (h1 _).mono ?_
  rintro e w6 ⟨rfl, rfl⟩
  go_wp2_with fail
  refine (h _).mono ?_
  rintro e w1 ⟨fn, cap, rfl, hB, he, hf⟩
  have hq2 := not_nil fn cap
  have HB := Lib.hid hB
  have HF := Lib.hid hf
  have HE := Lib.hid he
  clear hB hf he
  go_wp2_with fail
  rw [HE.out]
  refine (HF.out a b _ ha hb (Below.refl _ _)).mono ?_
  rintro e w2 ⟨rfl, hb2⟩
  have HB2 := Lib.hid (HB.out.trans (hb2.mono HB.out.size))
  clear hb2
  go_wp2_with fail
  go_ret2
  exact ⟨rfl, HB2.out⟩
set_option maxHeartbeats 1000000 in
theorem do_no (op a b : Int) (w : World) (h0 : Hands0 20 op) (h1 : Hands0 21 op) (h2 : Hands0 22 op) :
    Calls Try.prog 6 #[.int .i64 op, .int .u64 a, .int .u64 b] w fun e w' => e = .returned (.tuple #[.int .u64 0, .bool false]) ∧ w = w' := by
  have hq := is_nil
  go_enter Try.func6, Try.ntmps6
  go_wp2_with fail
  refine (h0 _).mono ?_
  rintro e w5 ⟨rfl, rfl⟩
  go_wp2_with fail
  refine (h1 _).mono ?_
  rintro e w6 ⟨rfl, rfl⟩
  go_wp2_with fail
  refine (h2 _).mono ?_
  rintro e w7 ⟨rfl, rfl⟩
  go_wp2_with fail
  go_ret2
  exact ⟨rfl, rfl⟩
theorem do_22 (a b : Int) (w : World) (ha : InW a) (hb : InW b) : Calls Try.prog 6 #[.int .i64 22, .int .u64 a, .int .u64 b] w fun e w' => e = .returned (.tuple #[.int .u64 ((fun a b => IntKind.u64.wrap (a + b)) a b), .bool true]) ∧ Below w.heap.size w w' :=
  do_long 22 a b (fun a b => IntKind.u64.wrap (a + b)) w long_22 ha hb
theorem do_23 (a b : Int) (w : World) (ha : InW a) (hb : InW b) : Calls Try.prog 6 #[.int .i64 23, .int .u64 a, .int .u64 b] w fun e w' => e = .returned (.tuple #[.int .u64 ((fun a b => bi (lessS a b)) a b), .bool true]) ∧ Below w.heap.size w w' :=
  do_long 23 a b (fun a b => bi (lessS a b)) w long_23 ha hb
theorem do_24 (a b : Int) (w : World) (ha : InW a) (hb : InW b) : Calls Try.prog 6 #[.int .i64 24, .int .u64 a, .int .u64 b] w fun e w' => e = .returned (.tuple #[.int .u64 ((fun a b => bi (lessU a b)) a b), .bool true]) ∧ Below w.heap.size w w' :=
  do_long 24 a b (fun a b => bi (lessU a b)) w long_24 ha hb
theorem do_25 (a b : Int) (w : World) (ha : InW a) (hb : InW b) : Calls Try.prog 6 #[.int .i64 25, .int .u64 a, .int .u64 b] w fun e w' => e = .returned (.tuple #[.int .u64 ((bits .xor .u64) a b), .bool true]) ∧ Below w.heap.size w w' :=
  do_long 25 a b (bits .xor .u64) w long_25 ha hb
theorem do_26 (a b : Int) (w : World) (ha : InW a) (hb : InW b) : Calls Try.prog 6 #[.int .i64 26, .int .u64 a, .int .u64 b] w fun e w' => e = .returned (.tuple #[.int .u64 ((bits .or .u64) a b), .bool true]) ∧ Below w.heap.size w w' :=
  do_long 26 a b (bits .or .u64) w long_26 ha hb
theorem do_27 (a b : Int) (w : World) (ha : InW a) (hb : InW b) : Calls Try.prog 6 #[.int .i64 27, .int .u64 a, .int .u64 b] w fun e w' => e = .returned (.tuple #[.int .u64 ((bits .and .u64) a b), .bool true]) ∧ Below w.heap.size w w' :=
  do_long 27 a b (bits .and .u64) w long_27 ha hb
theorem do_28 (a b : Int) (w : World) (ha : InW a) (hb : InW b) : Calls Try.prog 6 #[.int .i64 28, .int .u64 a, .int .u64 b] w fun e w' => e = .returned (.tuple #[.int .u64 ((sllS) a b), .bool true]) ∧ Below w.heap.size w w' :=
  do_long 28 a b (sllS) w long_28 ha hb
theorem do_29 (a b : Int) (w : World) (ha : InW a) (hb : InW b) : Calls Try.prog 6 #[.int .i64 29, .int .u64 a, .int .u64 b] w fun e w' => e = .returned (.tuple #[.int .u64 ((srlS) a b), .bool true]) ∧ Below w.heap.size w w' :=
  do_long 29 a b (srlS) w long_29 ha hb
theorem do_30 (a b : Int) (w : World) (ha : InW a) (hb : InW b) : Calls Try.prog 6 #[.int .i64 30, .int .u64 a, .int .u64 b] w fun e w' => e = .returned (.tuple #[.int .u64 ((sraS) a b), .bool true]) ∧ Below w.heap.size w w' :=
  do_long 30 a b (sraS) w long_30 ha hb
theorem do_31 (a b : Int) (w : World) (ha : InW a) (hb : InW b) : Calls Try.prog 6 #[.int .i64 31, .int .u64 a, .int .u64 b] w fun e w' => e = .returned (.tuple #[.int .u64 ((fun a b => IntKind.u64.wrap (a + b)) a b), .bool true]) ∧ Below w.heap.size w w' :=
  do_long 31 a b (fun a b => IntKind.u64.wrap (a + b)) w long_31 ha hb
theorem do_32 (a b : Int) (w : World) (ha : InW a) (hb : InW b) : Calls Try.prog 6 #[.int .i64 32, .int .u64 a, .int .u64 b] w fun e w' => e = .returned (.tuple #[.int .u64 ((fun a b => IntKind.u64.wrap (a - b)) a b), .bool true]) ∧ Below w.heap.size w w' :=
  do_long 32 a b (fun a b => IntKind.u64.wrap (a - b)) w long_32 ha hb
theorem do_33 (a b : Int) (w : World) (ha : InW a) (hb : InW b) : Calls Try.prog 6 #[.int .i64 33, .int .u64 a, .int .u64 b] w fun e w' => e = .returned (.tuple #[.int .u64 ((sllS) a b), .bool true]) ∧ Below w.heap.size w w' :=
  do_long 33 a b (sllS) w long_33 ha hb
theorem do_34 (a b : Int) (w : World) (ha : InW a) (hb : InW b) : Calls Try.prog 6 #[.int .i64 34, .int .u64 a, .int .u64 b] w fun e w' => e = .returned (.tuple #[.int .u64 ((fun a b => bi (lessS a b)) a b), .bool true]) ∧ Below w.heap.size w w' :=
  do_long 34 a b (fun a b => bi (lessS a b)) w long_34 ha hb
theorem do_35 (a b : Int) (w : World) (ha : InW a) (hb : InW b) : Calls Try.prog 6 #[.int .i64 35, .int .u64 a, .int .u64 b] w fun e w' => e = .returned (.tuple #[.int .u64 ((fun a b => bi (lessU a b)) a b), .bool true]) ∧ Below w.heap.size w w' :=
  do_long 35 a b (fun a b => bi (lessU a b)) w long_35 ha hb
theorem do_36 (a b : Int) (w : World) (ha : InW a) (hb : InW b) : Calls Try.prog 6 #[.int .i64 36, .int .u64 a, .int .u64 b] w fun e w' => e = .returned (.tuple #[.int .u64 ((bits .xor .u64) a b), .bool true]) ∧ Below w.heap.size w w' :=
  do_long 36 a b (bits .xor .u64) w long_36 ha hb
theorem do_37 (a b : Int) (w : World) (ha : InW a) (hb : InW b) : Calls Try.prog 6 #[.int .i64 37, .int .u64 a, .int .u64 b] w fun e w' => e = .returned (.tuple #[.int .u64 ((srlS) a b), .bool true]) ∧ Below w.heap.size w w' :=
  do_long 37 a b (srlS) w long_37 ha hb
theorem do_38 (a b : Int) (w : World) (ha : InW a) (hb : InW b) : Calls Try.prog 6 #[.int .i64 38, .int .u64 a, .int .u64 b] w fun e w' => e = .returned (.tuple #[.int .u64 ((sraS) a b), .bool true]) ∧ Below w.heap.size w w' :=
  do_long 38 a b (sraS) w long_38 ha hb
theorem do_39 (a b : Int) (w : World) (ha : InW a) (hb : InW b) : Calls Try.prog 6 #[.int .i64 39, .int .u64 a, .int .u64 b] w fun e w' => e = .returned (.tuple #[.int .u64 ((bits .or .u64) a b), .bool true]) ∧ Below w.heap.size w w' :=
  do_long 39 a b (bits .or .u64) w long_39 ha hb
theorem do_40 (a b : Int) (w : World) (ha : InW a) (hb : InW b) : Calls Try.prog 6 #[.int .i64 40, .int .u64 a, .int .u64 b] w fun e w' => e = .returned (.tuple #[.int .u64 ((bits .and .u64) a b), .bool true]) ∧ Below w.heap.size w w' :=
  do_long 40 a b (bits .and .u64) w long_40 ha hb
theorem do_41 (a b : Int) (w : World) (ha : InW a) (hb : InW b) : Calls Try.prog 6 #[.int .i64 41, .int .u64 a, .int .u64 b] w fun e w' => e = .returned (.tuple #[.int .u64 ((fun a b => signS (IntKind.u64.wrap (a + b)) 32) a b), .bool true]) ∧ Below w.heap.size w w' :=
  do_short 41 a b (fun a b => signS (IntKind.u64.wrap (a + b)) 32) w (long_no 41 (by decide +kernel)) short_41 ha hb
theorem do_42 (a b : Int) (w : World) (ha : InW a) (hb : InW b) : Calls Try.prog 6 #[.int .i64 42, .int .u64 a, .int .u64 b] w fun e w' => e = .returned (.tuple #[.int .u64 ((sllwS) a b), .bool true]) ∧ Below w.heap.size w w' :=
  do_short 42 a b (sllwS) w (long_no 42 (by decide +kernel)) short_42 ha hb
theorem do_43 (a b : Int) (w : World) (ha : InW a) (hb : InW b) : Calls Try.prog 6 #[.int .i64 43, .int .u64 a, .int .u64 b] w fun e w' => e = .returned (.tuple #[.int .u64 ((srlwS) a b), .bool true]) ∧ Below w.heap.size w w' :=
  do_short 43 a b (srlwS) w (long_no 43 (by decide +kernel)) short_43 ha hb
theorem do_44 (a b : Int) (w : World) (ha : InW a) (hb : InW b) : Calls Try.prog 6 #[.int .i64 44, .int .u64 a, .int .u64 b] w fun e w' => e = .returned (.tuple #[.int .u64 ((srawS) a b), .bool true]) ∧ Below w.heap.size w w' :=
  do_short 44 a b (srawS) w (long_no 44 (by decide +kernel)) short_44 ha hb
theorem do_45 (a b : Int) (w : World) (ha : InW a) (hb : InW b) : Calls Try.prog 6 #[.int .i64 45, .int .u64 a, .int .u64 b] w fun e w' => e = .returned (.tuple #[.int .u64 ((fun a b => signS (IntKind.u64.wrap (a + b)) 32) a b), .bool true]) ∧ Below w.heap.size w w' :=
  do_short 45 a b (fun a b => signS (IntKind.u64.wrap (a + b)) 32) w (long_no 45 (by decide +kernel)) short_45 ha hb
theorem do_46 (a b : Int) (w : World) (ha : InW a) (hb : InW b) : Calls Try.prog 6 #[.int .i64 46, .int .u64 a, .int .u64 b] w fun e w' => e = .returned (.tuple #[.int .u64 ((fun a b => signS (IntKind.u64.wrap (a - b)) 32) a b), .bool true]) ∧ Below w.heap.size w w' :=
  do_short 46 a b (fun a b => signS (IntKind.u64.wrap (a - b)) 32) w (long_no 46 (by decide +kernel)) short_46 ha hb
theorem do_47 (a b : Int) (w : World) (ha : InW a) (hb : InW b) : Calls Try.prog 6 #[.int .i64 47, .int .u64 a, .int .u64 b] w fun e w' => e = .returned (.tuple #[.int .u64 ((sllwS) a b), .bool true]) ∧ Below w.heap.size w w' :=
  do_short 47 a b (sllwS) w (long_no 47 (by decide +kernel)) short_47 ha hb
theorem do_48 (a b : Int) (w : World) (ha : InW a) (hb : InW b) : Calls Try.prog 6 #[.int .i64 48, .int .u64 a, .int .u64 b] w fun e w' => e = .returned (.tuple #[.int .u64 ((srlwS) a b), .bool true]) ∧ Below w.heap.size w w' :=
  do_short 48 a b (srlwS) w (long_no 48 (by decide +kernel)) short_48 ha hb
theorem do_49 (a b : Int) (w : World) (ha : InW a) (hb : InW b) : Calls Try.prog 6 #[.int .i64 49, .int .u64 a, .int .u64 b] w fun e w' => e = .returned (.tuple #[.int .u64 ((srawS) a b), .bool true]) ∧ Below w.heap.size w w' :=
  do_short 49 a b (srawS) w (long_no 49 (by decide +kernel)) short_49 ha hb
theorem do_54 (a b : Int) (w : World) (ha : InW a) (hb : InW b) : Calls Try.prog 6 #[.int .i64 54, .int .u64 a, .int .u64 b] w fun e w' => e = .returned (.tuple #[.int .u64 ((mulLo) a b), .bool true]) ∧ Below w.heap.size w w' :=
  do_product 54 a b (mulLo) w (long_no 54 (by decide +kernel)) (short_no 54 (by decide +kernel)) product_54 ha hb
theorem do_55 (a b : Int) (w : World) (ha : InW a) (hb : InW b) : Calls Try.prog 6 #[.int .i64 55, .int .u64 a, .int .u64 b] w fun e w' => e = .returned (.tuple #[.int .u64 ((hSig) a b), .bool true]) ∧ Below w.heap.size w w' :=
  do_product 55 a b (hSig) w (long_no 55 (by decide +kernel)) (short_no 55 (by decide +kernel)) product_55 ha hb
theorem do_56 (a b : Int) (w : World) (ha : InW a) (hb : InW b) : Calls Try.prog 6 #[.int .i64 56, .int .u64 a, .int .u64 b] w fun e w' => e = .returned (.tuple #[.int .u64 ((hMix) a b), .bool true]) ∧ Below w.heap.size w w' :=
  do_product 56 a b (hMix) w (long_no 56 (by decide +kernel)) (short_no 56 (by decide +kernel)) product_56 ha hb
theorem do_57 (a b : Int) (w : World) (ha : InW a) (hb : InW b) : Calls Try.prog 6 #[.int .i64 57, .int .u64 a, .int .u64 b] w fun e w' => e = .returned (.tuple #[.int .u64 ((mulHi) a b), .bool true]) ∧ Below w.heap.size w w' :=
  do_product 57 a b (mulHi) w (long_no 57 (by decide +kernel)) (short_no 57 (by decide +kernel)) product_57 ha hb
theorem do_58 (a b : Int) (w : World) (ha : InW a) (hb : InW b) : Calls Try.prog 6 #[.int .i64 58, .int .u64 a, .int .u64 b] w fun e w' => e = .returned (.tuple #[.int .u64 ((divS) a b), .bool true]) ∧ Below w.heap.size w w' :=
  do_product 58 a b (divS) w (long_no 58 (by decide +kernel)) (short_no 58 (by decide +kernel)) product_58 ha hb
theorem do_59 (a b : Int) (w : World) (ha : InW a) (hb : InW b) : Calls Try.prog 6 #[.int .i64 59, .int .u64 a, .int .u64 b] w fun e w' => e = .returned (.tuple #[.int .u64 ((divP) a b), .bool true]) ∧ Below w.heap.size w w' :=
  do_product 59 a b (divP) w (long_no 59 (by decide +kernel)) (short_no 59 (by decide +kernel)) product_59 ha hb
theorem do_60 (a b : Int) (w : World) (ha : InW a) (hb : InW b) : Calls Try.prog 6 #[.int .i64 60, .int .u64 a, .int .u64 b] w fun e w' => e = .returned (.tuple #[.int .u64 ((remS) a b), .bool true]) ∧ Below w.heap.size w w' :=
  do_product 60 a b (remS) w (long_no 60 (by decide +kernel)) (short_no 60 (by decide +kernel)) product_60 ha hb
theorem do_61 (a b : Int) (w : World) (ha : InW a) (hb : InW b) : Calls Try.prog 6 #[.int .i64 61, .int .u64 a, .int .u64 b] w fun e w' => e = .returned (.tuple #[.int .u64 ((remP) a b), .bool true]) ∧ Below w.heap.size w w' :=
  do_product 61 a b (remP) w (long_no 61 (by decide +kernel)) (short_no 61 (by decide +kernel)) product_61 ha hb
theorem do_62 (a b : Int) (w : World) (ha : InW a) (hb : InW b) : Calls Try.prog 6 #[.int .i64 62, .int .u64 a, .int .u64 b] w fun e w' => e = .returned (.tuple #[.int .u64 ((fun a b => signS (mulLo (halfS a false) (halfS b false)) 32) a b), .bool true]) ∧ Below w.heap.size w w' :=
  do_product 62 a b (fun a b => signS (mulLo (halfS a false) (halfS b false)) 32) w (long_no 62 (by decide +kernel)) (short_no 62 (by decide +kernel)) product_62 ha hb
theorem do_63 (a b : Int) (w : World) (ha : InW a) (hb : InW b) : Calls Try.prog 6 #[.int .i64 63, .int .u64 a, .int .u64 b] w fun e w' => e = .returned (.tuple #[.int .u64 ((fun a b => signS (divS (halfS a false) (halfS b false)) 32) a b), .bool true]) ∧ Below w.heap.size w w' :=
  do_product 63 a b (fun a b => signS (divS (halfS a false) (halfS b false)) 32) w (long_no 63 (by decide +kernel)) (short_no 63 (by decide +kernel)) product_63 ha hb
theorem do_64 (a b : Int) (w : World) (ha : InW a) (hb : InW b) : Calls Try.prog 6 #[.int .i64 64, .int .u64 a, .int .u64 b] w fun e w' => e = .returned (.tuple #[.int .u64 ((fun a b => signS (divP (halfS a true) (halfS b true)) 32) a b), .bool true]) ∧ Below w.heap.size w w' :=
  do_product 64 a b (fun a b => signS (divP (halfS a true) (halfS b true)) 32) w (long_no 64 (by decide +kernel)) (short_no 64 (by decide +kernel)) product_64 ha hb
theorem do_65 (a b : Int) (w : World) (ha : InW a) (hb : InW b) : Calls Try.prog 6 #[.int .i64 65, .int .u64 a, .int .u64 b] w fun e w' => e = .returned (.tuple #[.int .u64 ((fun a b => signS (remS (halfS a false) (halfS b false)) 32) a b), .bool true]) ∧ Below w.heap.size w w' :=
  do_product 65 a b (fun a b => signS (remS (halfS a false) (halfS b false)) 32) w (long_no 65 (by decide +kernel)) (short_no 65 (by decide +kernel)) product_65 ha hb
theorem do_66 (a b : Int) (w : World) (ha : InW a) (hb : InW b) : Calls Try.prog 6 #[.int .i64 66, .int .u64 a, .int .u64 b] w fun e w' => e = .returned (.tuple #[.int .u64 ((fun a b => signS (remP (halfS a true) (halfS b true)) 32) a b), .bool true]) ∧ Below w.heap.size w w' :=
  do_product 66 a b (fun a b => signS (remP (halfS a true) (halfS b true)) 32) w (long_no 66 (by decide +kernel)) (short_no 66 (by decide +kernel)) product_66 ha hb
end Go.Proofs.Ytahamhpibjlgnaa
