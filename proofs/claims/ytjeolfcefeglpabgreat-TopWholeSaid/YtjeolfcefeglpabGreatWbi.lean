/-
  What layer 14's law compares, and what it asks of the chapter's example (live). A number that was laid is what is read (layer 14, plain). What T1's statements ask of the chapter's example (lone): true. Memory's answer to any ask.
-/
import Derived.Test.YtjeolfcefeglpabGreatWbb
import Derived.Laws.StructEq
import Derived.Test.YtjeolfcefeglpabGreatWax
import Derived.Test.YtjeolfcefeglpabGreatWbh
set_option maxRecDepth 20000
namespace Go.Proofs.YtjeolfcefeglpabGreat
open Go.ChangeShapes Go.WideShapes Go.ChangeAt Go.RowKit Wd

theorem run_eq4 (w : World) (t : TypeId) (f1 f2 f3 f4 : Field) (k1 k2 k3 k4 : IntKind) (hf : (Tryz.prog.fieldsOf t).toList = [f1, f2, f3, f4]) (ht : Tryz.prog.underlying t = some (.struct (Tryz.prog.fieldsOf t))) (hp : Tryz.prog.stoodInHeld t = false)
    (h1 : f1.name ≠ "_" ∧ f1.offset = 0 ∧ Tryz.prog.underlying f1.type = some (.int k1)) (h2 : f2.name ≠ "_" ∧ f2.offset = 1 ∧ Tryz.prog.underlying f2.type = some (.int k2)) (h3 : f3.name ≠ "_" ∧ f3.offset = 2 ∧ Tryz.prog.underlying f3.type = some (.int k3)) (h4 : f4.name ≠ "_" ∧ f4.offset = 3 ∧ Tryz.prog.underlying f4.type = some (.int k4))
    (a b c d : Int) :
    (Op.equalIn 10000 t (.agg #[.int k1 a, .int k2 b, .int k3 c, .int k4 d]) (.agg #[.int k1 a, .int k2 b, .int k3 c, .int k4 d])).run Tryz.prog w = .ok true w := by
  obtain ⟨n1, o1, u1⟩ := h1
  obtain ⟨n2, o2, u2⟩ := h2
  obtain ⟨n3, o3, u3⟩ := h3
  obtain ⟨n4, o4, u4⟩ := h4
  rw [run_equalIn_agg w 9999 t _ _ ht hp, hf]
  have q1 : (Op.equalIn 9999 f1.type (.int k1 a) (.int k1 a)).run Tryz.prog w = .ok (a == a) w := run_equalIn_int w 9998 f1.type k1 k1 a a u1
  have q2 : (Op.equalIn 9999 f2.type (.int k2 b) (.int k2 b)).run Tryz.prog w = .ok (b == b) w := run_equalIn_int w 9998 f2.type k2 k2 b b u2
  have q3 : (Op.equalIn 9999 f3.type (.int k3 c) (.int k3 c)).run Tryz.prog w = .ok (c == c) w := run_equalIn_int w 9998 f3.type k3 k3 c c u3
  have q4 : (Op.equalIn 9999 f4.type (.int k4 d) (.int k4 d)).run Tryz.prog w = .ok (d == d) w := run_equalIn_int w 9998 f4.type k4 k4 d d u4
  have p1 : ∀ (x y z u : Value), (Go.part f1.type #[x, y, z, u] 0).run Tryz.prog w = .ok x w := fun x y z u => by simp [Go.part, isAgg, run_underlying u1]
  have p2 : ∀ (x y z u : Value), (Go.part f2.type #[x, y, z, u] 1).run Tryz.prog w = .ok y w := fun x y z u => by simp [Go.part, isAgg, run_underlying u2]
  have p3 : ∀ (x y z u : Value), (Go.part f3.type #[x, y, z, u] 2).run Tryz.prog w = .ok z w := fun x y z u => by simp [Go.part, isAgg, run_underlying u3]
  have p4 : ∀ (x y z u : Value), (Go.part f4.type #[x, y, z, u] 3).run Tryz.prog w = .ok u w := fun x y z u => by simp [Go.part, isAgg, run_underlying u4]
  simp only [Op.eqFields, if_pos n1, if_pos n2, if_pos n3, if_pos n4, Sem.run_bind, o1, o2, o3, o4, p1, Result.andThen_ok, q1]
  simp [p2, p3, p4, q2, q3, q4]
theorem self_cf (w : World) (c : Cf) : (Op.equalIn 10000 CFT (.agg (cfC c)) (.agg (cfC c))).run Tryz.prog w = .ok true w :=
  run_eq4 w CFT _ _ _ _ .i64 .i64 .i64 .i64 rfl Tryz.underlying26 (by kernel_rfl) ⟨by decide, rfl, by kernel_rfl⟩ ⟨by decide, rfl, by kernel_rfl⟩ ⟨by decide, rfl, by kernel_rfl⟩ ⟨by decide, rfl, by kernel_rfl⟩ _ _ _ _
theorem eql_cf (w : World) (c : Cf) : (binOp .eql CFT (.agg (cfC c)) (.agg (cfC c))).run Tryz.prog w = .ok (.bool true) w := by rw [run_eql_struct, self_cf]; rfl
theorem neq_cf (w : World) (c : Cf) : (binOp .neq CFT (.agg (cfC c)) (.agg (cfC c))).run Tryz.prog w = .ok (.bool false) w := by rw [run_neq_struct, self_cf]; rfl
theorem guard_cf : Tryz.prog.eqGuardType Tryz.prog.depth CFT = false := by kernel_rfl
theorem neq_ac (w : World) (a b c n : Int) : (binOp .neq ACT (.agg (axV a b c n)) (.agg (axV a b c n))).run Tryz.prog w = .ok (.bool false) w := by
  rw [run_neq_struct, run_eq4 w ACT _ _ _ _ .u64 .u64 .i64 .i64 rfl Tryz.underlying104 (by kernel_rfl) ⟨by decide, rfl, by kernel_rfl⟩ ⟨by decide, rfl, by kernel_rfl⟩ ⟨by decide, rfl, by kernel_rfl⟩ ⟨by decide, rfl, by kernel_rfl⟩]
  rfl
theorem guard_ac : Tryz.prog.eqGuardType Tryz.prog.depth ACT = false := by kernel_rfl
theorem sdo_nil (a : Ak) (hart : Int) (w : World) : Calls Tryz.prog 14 #[.pointer none, .int .i64 hart, .agg (akC a)] w fun e w' => e = .returned (.tuple #[.agg (anC 0 false), .bool false]) ∧ Below w.heap.size w w' := by
  have hb := box_below w (akC a) AKT
  have hb2 := box_below (w.alloc (.cells (akC a) AKT)) (anC 0 false) ANT
  have HA := Lib.hid ((akAt_new w a).low hb2)
  have HR := Lib.hid (show CsAt ((w.alloc (.cells (akC a) AKT)).alloc (.cells (anC 0 false) ANT)) (w.heap.size + 1) ANT (anC 0 false) by simpa using CsAt.new (w.alloc (.cells (akC a) AKT)) ANT (anC 0 false))
  have HB := Lib.hid (hb.trans (hb2.mono hb.size))
  clear hb hb2
  go_enter Tryz.func14, Tryz.ntmps14
  go_upto_region 1 with fail
  rw [zero_an]
  generalize (w.alloc (.cells (akC a) AKT)).alloc (.cells (anC 0 false) ANT) = w1 at *
  go_wp2_with (refine wpList_load_row rfl AKT _ rfl w.heap.size rfl AKT (akC a) (0, 0) _ HA.out.cs Tryz.underlying58 rfl info_ak ?_)
  refine (smay_nil a w1).mono ?_
  rintro e w2 ⟨rfl, hb2⟩
  have HR2 := Lib.hid (HR.out.low hb2)
  have HB2 := Lib.hid (HB.out.trans (hb2.mono HB.out.size))
  clear hb2
  go_wp2_with (refine wpList_store_row rfl ANT _ _ rfl (w.heap.size + 1) (anC 0 false) rfl rfl ANT (anC 0 false) HR2.out info_an rfl (anC_one _ _) ?_)
  exact bodyPost_ret (results_an Tryz.results14 _ _ (w.heap.size + 1) 0 false (.bool false) rfl rfl (HR2.out.row _)) rfl ⟨rfl, below_setRow HB2.out (by omega) _⟩
/-! ### live -/
abbrev two14 : Cf := ⟨2, 2, 2, 1⟩
/-- An ask of few parts. -/
abbrev akOf (kind addr size op data : Int) (live : Bool) : Ak := ⟨kind, addr, 0, 0, size, op, data, 0, live, 0, ⟨false, false, false, 0, 0⟩, ⟨0, 0, 0, 0⟩⟩
theorem akOf_in {kind addr size op data : Int} {live : Bool} (h1 : -9223372036854775808 ≤ kind ∧ kind ≤ 9223372036854775807) (h2 : 0 ≤ addr ∧ addr ≤ 18446744073709551615) (h3 : -9223372036854775808 ≤ size ∧ size ≤ 9223372036854775807)
    (h4 : -9223372036854775808 ≤ op ∧ op ≤ 9223372036854775807) (h5 : 0 ≤ data ∧ data ≤ 18446744073709551615) : (akOf kind addr size op data live).In :=
  have z : 0 ≤ (0 : Int) ∧ (0 : Int) ≤ 18446744073709551615 := by omega
  have s : -9223372036854775808 ≤ (0 : Int) ∧ (0 : Int) ≤ 9223372036854775807 := by omega
  ⟨h1, h2, z, s, h3, h4, h5, z, s, ⟨z, s⟩, ⟨s, z, s, z⟩⟩
abbrev lr14 : Ak := akOf 5 2147483648 4 67 0 false
abbrev sc14 : Ak := akOf 6 2147483648 4 68 5 true
abbrev st14 : Ak := akOf 3 2147483708 1 0 0 false
namespace Sh
theorem lr_T (B : List Int) (N : Nat) (T : Rv.Tb) : doT B N T 0 lr14 = Rv.set T 0 33554432 := rfl
theorem st_T (B : List Int) (N : Nat) (T : Rv.Tb) : doT B N T 1 st14 = killA T st14 1 := rfl
theorem sc_G (B : List Int) (N : Nat) (T : Rv.Tb) : ansG B N T 0 sc14 = Rv.has T 0 33554432 := rfl
theorem sc_T0 (B : List Int) (N : Nat) {T : Rv.Tb} (h : Rv.has T 0 33554432 = false) : doT B N T 0 sc14 = Rv.clr T 0 := by
  unfold doT
  rw [sc_G, h]
  rfl
theorem sc_T1 (B : List Int) (N : Nat) {T : Rv.Tb} (h : Rv.has T 0 33554432 = true) : doT B N T 0 sc14 = killA (Rv.clr T 0) sc14 0 := by
  unfold doT
  rw [sc_G, h]
  rfl
def tA : Rv.Tb := killA (Rv.set Rv.none_ 0 33554432) st14 1
def tB : Rv.Tb := Rv.set (Rv.clr tA 0) 0 33554432
def tC : Rv.Tb := killA (Rv.clr tB 0) sc14 0
theorem has_A : Rv.has tA 0 33554432 = false := by decide +kernel
theorem has_B : Rv.has tB 0 33554432 = true := by decide +kernel
theorem has_C : Rv.has tC 0 33554432 = false := by decide +kernel
theorem ok_lr : okD 2 2 0 lr14 = true := by decide +kernel
theorem ok_st : okD 2 2 1 st14 = true := by decide +kernel
theorem ok_sc : okD 2 2 0 sc14 = true := by decide +kernel
end Sh
end Go.Proofs.YtjeolfcefeglpabGreat
set_option maxRecDepth 20000
namespace Go.Proofs.YtjeolfcefeglpabGreat
open Go.RowKit Wd

namespace Sh
theorem ld1 {B : List Int} {N : Nat} {x : Int} (h : hasB N x 1 = true) : ldV B N x 1 = B.getD (x - 2147483648).toNat 0 := by
  unfold ldV
  rw [if_pos (by unfold hasN; rw [h]; rfl), show (1 : Int).toNat = 1 from rfl]
  simp [Ln.num]
theorem ld_st1 {B : List Int} {N : Nat} (hB : Rm.Ok B N) {x y u : Int} (hx : hasB N x 1 = true) (hy : hasB N y 1 = true) (h0 : 0 ≤ u) (h1 : u < 256) : ldV (stV B N x 1 u) N y 1 = if y = x then u else ldV B N y 1 := by
  rw [ld1 hy, ld1 hy]
  unfold stV
  rw [if_pos (by unfold hasN; rw [hx]; rfl), show (1 : Int).toNat = 1 from rfl]
  have ix := hasB_iff.1 hx
  have iy := hasB_iff.1 hy
  rw [Rm.st_get hB _ _ _ _ (by omega)]
  by_cases e : y = x
  · subst e
    rw [if_pos (by omega), if_pos rfl, Nat.sub_self]
    unfold Ln.byteOf
    rw [Int.pow_zero, Int.ediv_one]
    omega
  · rw [if_neg (by omega), if_neg e]
theorem digit_one {q v : Int} (hp : 0 < q) : v % q + q * (v / q % 256) = v % (q * 256) := by
  have hv := Int.mul_ediv_add_emod v q
  have r1 := Int.emod_nonneg v (Int.ne_of_gt hp)
  have r2 := Int.emod_lt_of_pos v hp
  generalize v / q = d at *
  generalize v % q = r at *
  subst hv
  have e2 := Int.mul_ediv_add_emod d 256
  have r3 : 0 ≤ d % 256 := Int.emod_nonneg _ (by decide)
  have r4 : d % 256 ≤ 255 := by omega
  generalize d % 256 = f at *
  generalize d / 256 = e at *
  have r5 : q * f ≤ q * 255 := Int.mul_le_mul_of_nonneg_left r4 (Int.le_of_lt hp)
  have r6 : 0 ≤ q * f := Int.mul_nonneg (Int.le_of_lt hp) r3
  have e4 : q * d + r = (q * f + r) + (q * 256) * e := by
    rw [← e2, Int.mul_add, Int.mul_assoc q 256 e]
    generalize q * (256 * e) = X
    generalize q * f = Y
    omega
  rw [e4, Int.add_mul_emod_self_left]
  generalize q * f = Y at *
  rw [Int.emod_eq_of_lt (by omega) (by omega)]
  omega
theorem digits (v : Int) : ∀ n : Nat, numB (fun j => v / 256 ^ j % 256) n = v % 256 ^ n
  | 0 => by simp [numB]
  | n + 1 => by
    rw [numB, digits v n, Int.pow_succ]
    exact digit_one (Int.pow_pos (by decide))
/-- The bytes of a number in one place, in memory. -/
theorem lay_ld {B : List Int} {N : Nat} (hB : Rm.Ok B N) {a b v : Int} {n : Nat} (ha : 0 ≤ a ∧ a < 18446744073709551616) (hN : N ≤ 4096) (hn8 : n ≤ 8) (hin : inAll N a b 0 n) (i : Nat) (hi : i < n) : ∀ k, k ≤ n → ldV (layB B N a b 0 v k) N (Sp.byte a b 0 (i : Int)) 1 = if i < k then v / 256 ^ i % 256 else ldV B N (Sp.byte a b 0 (i : Int)) 1
  | 0, _ => by rw [if_neg (by omega)]; rfl
  | k + 1, hk => by
    have ih := lay_ld (b := b) (v := v) hB ha hN hn8 hin i hi k (by omega)
    rw [layB, ld_st1 (layB_ok hB _ _ _ _ _) (hin k (by omega)) (hin i hi) (by omega) (by omega), ih]
    have hk1 := hasB_iff.1 (hin k (by omega))
    have hi1 := hasB_iff.1 (hin i hi)
    have h00 := hasB_iff.1 (hin 0 (by omega))
    have e0 : Sp.byte a b 0 ((0 : Nat) : Int) = (a + ((0 : Nat) : Int)) % 18446744073709551616 := by unfold Sp.byte; rw [if_neg (by omega)]
    rw [e0] at h00
    have ek : Sp.byte a b 0 (k : Int) = (a + k) % 18446744073709551616 := by unfold Sp.byte; rw [if_neg (by omega)]
    have ei : Sp.byte a b 0 (i : Int) = (a + i) % 18446744073709551616 := by unfold Sp.byte; rw [if_neg (by omega)]
    rw [ek] at hk1
    rw [ei] at hi1
    rw [ek, ei]
    by_cases e : i = k
    · subst e
      rw [if_pos rfl, if_pos (by omega)]
    · rw [if_neg (by omega)]
      by_cases h : i < k
      · rw [if_pos h, if_pos (by omega)]
      · rw [if_neg h, if_neg (by omega)]
theorem lay_num {B : List Int} {N : Nat} (hB : Rm.Ok B N) {a b v : Int} {n : Nat} (ha : 0 ≤ a ∧ a < 18446744073709551616) (hN : N ≤ 4096) (hn8 : n ≤ 8) (hin : inAll N a b 0 n) : num (layB B N a b 0 v n) N a b 0 n = v % 256 ^ n := by
  unfold num
  rw [← digits v n]
  refine numB_congr n fun j hj => ?_
  unfold fB
  rw [lay_ld hB ha hN hn8 hin j hj n (Nat.le_refl _), if_pos hj]
end Sh
end Go.Proofs.YtjeolfcefeglpabGreat
set_option maxRecDepth 20000
namespace Go.Proofs.YtjeolfcefeglpabGreat
open Go.ChangeShapes Go.WideShapes Go.ChangeAt Go.RowKit Wd

abbrev c1T : Cf := ⟨1, 1, 1, 1⟩
abbrev stOne : Ak := akOf 3 2147483648 8 0 7 false
abbrev ldOne : Ak := akOf 2 2147483648 8 0 0 false
theorem lone_ok1 : Sh.okD c1T.lines.toNat c1T.harts 0 stOne = true := by decide +kernel
theorem lone_ok2 : Sh.okD c1T.lines.toNat c1T.harts 0 ldOne = true := by decide +kernel
theorem in_one : Sh.inAll 1 2147483648 0 0 8 := fun i hi => by
  unfold Sp.byte
  rw [if_neg (by omega)]
  exact hasB_iff.2 (by omega)
theorem lone_num : Sh.ansD (Sh.doB (Rm.nought c1T.lines.toNat) c1T.lines.toNat Rv.none_ 0 stOne) c1T.lines.toNat ldOne = 7 :=
  (Sh.lay_num (B := Rm.nought 1) (N := 1) (a := 2147483648) (b := 0) (v := 7) (n := 8) (Rm.nought_ok 1) (by omega) (by omega) (by omega) in_one).trans (by decide)
theorem stOne_in : stOne.In := akOf_in (by omega) (by omega) (by omega) (by omega) (by omega)
theorem ldOne_in : ldOne.In := akOf_in (by omega) (by omega) (by omega) (by omega) (by omega)
/-- A number stored is loaded. -/
theorem lone_two {sb rb mb : Nat} (w : World) (h : ShAt w sb rb mb c1T (Rm.nought c1T.lines.toNat) Rv.none_) :
    Calls Tryz.prog 14 #[.pointer (some ⟨sb, 0, none⟩), .int .i64 0, .agg (akC stOne)] w fun e w' => (∃ v, e = .returned v) ∧ Two sb mb w w' ∧
      Calls Tryz.prog 14 #[.pointer (some ⟨sb, 0, none⟩), .int .i64 0, .agg (akC ldOne)] w' fun e w'' => ∃ g, e = .returned (.tuple #[.agg (anC 7 g), .bool true]) ∧ Two sb mb w' w'' :=
  (do_yes stOne stOne_in 0 w h lone_ok1).mono fun e w' ⟨h1, h2, h3⟩ => ⟨⟨_, h1⟩, h3, (do_yes ldOne ldOne_in 0 w' h2 lone_ok2).mono fun e w'' ⟨k1, _, k3⟩ => ⟨Sh.ansG (Sh.doB (Rm.nought c1T.lines.toNat) c1T.lines.toNat Rv.none_ 0 stOne) c1T.lines.toNat (Sh.doT (Rm.nought c1T.lines.toNat) c1T.lines.toNat Rv.none_ 0 stOne) 0 ldOne, by rw [k1]; exact congrArg (fun x => Ending.returned (.tuple #[.agg (anC x _), .bool true])) lone_num, k3⟩⟩
set_option maxHeartbeats 4000000 in
theorem lone_c (w : World) : Calls Tryz.prog 7 #[] w fun e w' => e = .returned (.bool true) ∧ Below w.heap.size w w' := by
  go_enter Tryz.func7, Tryz.ntmps7
  go_wp2_with fail
  refine (snew_c c1T (by decide) w).mono ?_
  rintro e w1 ⟨sb, rb, mb, rfl, hs, hb, h1, h2, h3⟩
  have HB := Lib.hid hb
  have HL := Lib.hid (And.intro h1 h3)
  have HT := Lib.hid (lone_two w1 hs)
  clear hs hb h1 h2 h3
  go_wp2_with fail
  refine HT.out.mono ?_
  rintro e w2 ⟨⟨v, rfl⟩, ht, hc⟩
  have HB2 := Lib.hid (HB.out.trans (ht.below HL.out.1 HL.out.2 HB.out.size))
  have HC := Lib.hid hc
  clear ht hc HT HB
  go_wp2_with fail
  refine HC.out.mono ?_
  rintro e w3 ⟨g, rfl, ht⟩
  have HB3 := Lib.hid (HB2.out.trans (ht.below HL.out.1 HL.out.2 HB2.out.size))
  have hbx := box_below w3 (anC 7 g) ANT
  have HB4 := Lib.hid (HB3.out.trans (hbx.mono HB3.out.size))
  have HX := Lib.hid (CsAt.new w3 ANT (anC 7 g))
  clear ht HC HB2 hbx
  go_upto_region 6 with (refine wpList_storeNew rfl ANT _ _ rfl (anC 0 false) (anC 7 g) ANT rfl rfl info_an rfl (anC_one _ _) ?_)
  generalize w3.alloc (.cells (anC 7 g) ANT) = w4 at *
  generalize w3.heap.size = xb at *
  have x0 : w4.cell? ⟨xb, 0, none⟩ = some (.int .u64 7) := HX.out.cell 0
  go_wp2_with fail
  go_ret
  exact ⟨rfl, HB4.out⟩
/-- Memory's answer to any ask. -/
theorem do_anyT (a : Ak) (ha : a.In) {sb rb mb : Nat} {c : Cf} {B : List Int} {T : Rv.Tb} (hart : Int) (w : World) (h : ShAt w sb rb mb c B T) :
    Calls Tryz.prog 14 #[.pointer (some ⟨sb, 0, none⟩), .int .i64 hart, .agg (akC a)] w fun e w' => ∃ d g ok B' T', e = .returned (.tuple #[.agg (anC d g), .bool ok]) ∧ ShAt w' sb rb mb c B' T' ∧ Two sb mb w w' ∧
      ok = Sh.okD c.lines.toNat c.harts hart a ∧ (ok = true → d = Sh.ansD B c.lines.toNat a ∧ g = Sh.ansG B c.lines.toNat T hart a ∧ B' = Sh.doB B c.lines.toNat T hart a ∧ T' = Sh.doT B c.lines.toNat T hart a) ∧ (ok = false → d = 0 ∧ g = false ∧ B' = B ∧ T' = T) := by
  cases hok : Sh.okD c.lines.toNat c.harts hart a
  · exact (do_no a ha hart w h hok).mono fun e w' ⟨h1, h2, h3⟩ => ⟨0, false, false, B, T, h1, h3, h2, rfl, (fun h => by cases h), fun _ => ⟨rfl, rfl, rfl, rfl⟩⟩
  · exact (do_yes a ha hart w h hok).mono fun e w' ⟨h1, h2, h3⟩ => ⟨_, _, true, _, _, h1, h2, h3, rfl, fun _ => ⟨rfl, rfl, rfl, rfl⟩, (fun h => by cases h)⟩
end Go.Proofs.YtjeolfcefeglpabGreat
