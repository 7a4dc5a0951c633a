/-
  What layer 14's law compares, and what it asks of the chapter's example (live). What layer 14's statements ask of the chapter's example (live): true. What came in, opened: deeds of layer 14.
-/
import Derived.Test.YtabackklpemhpaaKbb
import Derived.Laws.StructEq
import Derived.Test.YtabackklpemhpaaKad
import Derived.Test.YtabackklpemhpaaKak
import Derived.Deep.Slices
import Derived.OpenShut
set_option maxRecDepth 20000
namespace Go.Proofs.Ytabackklpemhpaa
open Go.ChangeShapes Go.WideShapes Go.ChangeAt Go.RowKit Wd

theorem run_eq4 (w : World) (t : TypeId) (f1 f2 f3 f4 : Field) (k1 k2 k3 k4 : IntKind) (hf : (Try.prog.fieldsOf t).toList = [f1, f2, f3, f4]) (ht : Try.prog.underlying t = some (.struct (Try.prog.fieldsOf t))) (hp : Try.prog.stoodInHeld t = false)
    (h1 : f1.name ≠ "_" ∧ f1.offset = 0 ∧ Try.prog.underlying f1.type = some (.int k1)) (h2 : f2.name ≠ "_" ∧ f2.offset = 1 ∧ Try.prog.underlying f2.type = some (.int k2)) (h3 : f3.name ≠ "_" ∧ f3.offset = 2 ∧ Try.prog.underlying f3.type = some (.int k3)) (h4 : f4.name ≠ "_" ∧ f4.offset = 3 ∧ Try.prog.underlying f4.type = some (.int k4))
    (a b c d : Int) :
    (Op.equalIn 10000 t (.agg #[.int k1 a, .int k2 b, .int k3 c, .int k4 d]) (.agg #[.int k1 a, .int k2 b, .int k3 c, .int k4 d])).run Try.prog w = .ok true w := by
  obtain ⟨n1, o1, u1⟩ := h1
  obtain ⟨n2, o2, u2⟩ := h2
  obtain ⟨n3, o3, u3⟩ := h3
  obtain ⟨n4, o4, u4⟩ := h4
  rw [run_equalIn_agg w 9999 t _ _ ht hp, hf]
  have q1 : (Op.equalIn 9999 f1.type (.int k1 a) (.int k1 a)).run Try.prog w = .ok (a == a) w := run_equalIn_int w 9998 f1.type k1 k1 a a u1
  have q2 : (Op.equalIn 9999 f2.type (.int k2 b) (.int k2 b)).run Try.prog w = .ok (b == b) w := run_equalIn_int w 9998 f2.type k2 k2 b b u2
  have q3 : (Op.equalIn 9999 f3.type (.int k3 c) (.int k3 c)).run Try.prog w = .ok (c == c) w := run_equalIn_int w 9998 f3.type k3 k3 c c u3
  have q4 : (Op.equalIn 9999 f4.type (.int k4 d) (.int k4 d)).run Try.prog w = .ok (d == d) w := run_equalIn_int w 9998 f4.type k4 k4 d d u4
  have p1 : ∀ (x y z u : Value), (Go.part f1.type #[x, y, z, u] 0).run Try.prog w = .ok x w := fun x y z u => by simp [Go.part, isAgg, run_underlying u1]
  have p2 : ∀ (x y z u : Value), (Go.part f2.type #[x, y, z, u] 1).run Try.prog w = .ok y w := fun x y z u => by simp [Go.part, isAgg, run_underlying u2]
  have p3 : ∀ (x y z u : Value), (Go.part f3.type #[x, y, z, u] 2).run Try.prog w = .ok z w := fun x y z u => by simp [Go.part, isAgg, run_underlying u3]
  have p4 : ∀ (x y z u : Value), (Go.part f4.type #[x, y, z, u] 3).run Try.prog w = .ok u w := fun x y z u => by simp [Go.part, isAgg, run_underlying u4]
  simp only [Op.eqFields, if_pos n1, if_pos n2, if_pos n3, if_pos n4, Sem.run_bind, o1, o2, o3, o4, p1, Result.andThen_ok, q1]
  simp [p2, p3, p4, q2, q3, q4]
theorem self_cf (w : World) (c : Cf) : (Op.equalIn 10000 CFT (.agg (cfC c)) (.agg (cfC c))).run Try.prog w = .ok true w :=
  run_eq4 w CFT _ _ _ _ .i64 .i64 .i64 .i64 rfl Try.underlying57 (by kernel_rfl) ⟨by decide, rfl, by kernel_rfl⟩ ⟨by decide, rfl, by kernel_rfl⟩ ⟨by decide, rfl, by kernel_rfl⟩ ⟨by decide, rfl, by kernel_rfl⟩ _ _ _ _
theorem eql_cf (w : World) (c : Cf) : (binOp .eql CFT (.agg (cfC c)) (.agg (cfC c))).run Try.prog w = .ok (.bool true) w := by rw [run_eql_struct, self_cf]; rfl
theorem neq_cf (w : World) (c : Cf) : (binOp .neq CFT (.agg (cfC c)) (.agg (cfC c))).run Try.prog w = .ok (.bool false) w := by rw [run_neq_struct, self_cf]; rfl
theorem guard_cf : Try.prog.eqGuardType Try.prog.depth CFT = false := by kernel_rfl
theorem neq_ac (w : World) (a b c n : Int) : (binOp .neq ACT (.agg (axV a b c n)) (.agg (axV a b c n))).run Try.prog w = .ok (.bool false) w := by
  rw [run_neq_struct, run_eq4 w ACT _ _ _ _ .u64 .u64 .i64 .i64 rfl Try.underlying101 (by kernel_rfl) ⟨by decide, rfl, by kernel_rfl⟩ ⟨by decide, rfl, by kernel_rfl⟩ ⟨by decide, rfl, by kernel_rfl⟩ ⟨by decide, rfl, by kernel_rfl⟩]
  rfl
theorem guard_ac : Try.prog.eqGuardType Try.prog.depth ACT = false := by kernel_rfl
theorem sdo_nil (a : Ak) (hart : Int) (w : World) : Calls Try.prog 18 #[.pointer none, .int .i64 hart, .agg (akC a)] w fun e w' => e = .returned (.tuple #[.agg (anC 0 false), .bool false]) ∧ Below w.heap.size w w' := by
  have hb := box_below w (akC a) AKT
  have hb2 := box_below (w.alloc (.cells (akC a) AKT)) (anC 0 false) ANT
  have HA := Lib.hid ((akAt_new w a).low hb2)
  have HR := Lib.hid (show CsAt ((w.alloc (.cells (akC a) AKT)).alloc (.cells (anC 0 false) ANT)) (w.heap.size + 1) ANT (anC 0 false) by simpa using CsAt.new (w.alloc (.cells (akC a) AKT)) ANT (anC 0 false))
  have HB := Lib.hid (hb.trans (hb2.mono hb.size))
  clear hb hb2
  go_enter Try.func18, Try.ntmps18
  go_upto_region 1 with fail
  rw [zero_an]
  generalize (w.alloc (.cells (akC a) AKT)).alloc (.cells (anC 0 false) ANT) = w1 at *
  go_wp2_with (refine wpList_load_row rfl AKT _ rfl w.heap.size rfl AKT (akC a) (0, 0) _ HA.out.cs Try.underlying66 rfl info_ak ?_)
  refine (smay_nil a w1).mono ?_
  rintro e w2 ⟨rfl, hb2⟩
  have HR2 := Lib.hid (HR.out.low hb2)
  have HB2 := Lib.hid (HB.out.trans (hb2.mono HB.out.size))
  clear hb2
  go_wp2_with (refine wpList_store_row rfl ANT _ _ rfl (w.heap.size + 1) (anC 0 false) rfl rfl ANT (anC 0 false) HR2.out info_an rfl (anC_one _ _) ?_)
  exact bodyPost_ret (results_an Try.results18 _ _ (w.heap.size + 1) 0 false (.bool false) rfl rfl (HR2.out.row _)) rfl ⟨rfl, below_setRow HB2.out (by omega) _⟩
/-! ### live -/
abbrev two14 : Cf := ⟨2, 2, 2, 1⟩
theorem two_c (w : World) : Calls Try.prog 29 #[] w fun e w' => e = .returned (.agg (cfC two14)) ∧ Below w.heap.size w w' := by
  have HZ := Lib.hid (CsAt.new w CFT (cfC ⟨0, 0, 0, 0⟩))
  have HB := Lib.hid (box_below w (cfC ⟨0, 0, 0, 0⟩) CFT)
  go_enter Try.func29, Try.ntmps29
  go_upto_region 1 with fail
  rw [show (#[Value.int .i64 0, .int .i64 0, .int .i64 0, .int .i64 0] : Array Value) = cfC ⟨0, 0, 0, 0⟩ from rfl]
  generalize w.alloc (.cells (cfC ⟨0, 0, 0, 0⟩) CFT) = w1 at *
  go_wp2_with (refine wpList_store_row rfl CFT _ _ rfl w.heap.size (cfC two14) rfl rfl CFT (cfC ⟨0, 0, 0, 0⟩) HZ.out info_cf rfl (cfC_one _) ?_)
  exact bodyPost_ret (results_cell_row Try.results29 _ _ w.heap.size CFT (cfC two14) (0, 0) _ rfl (HZ.out.row _) Try.underlying57 rfl info_cf) rfl ⟨rfl, below_setRow HB.out (Nat.le_refl _) _⟩
abbrev akOf (kind addr size op data : Int) (live : Bool) : Ak := ⟨kind, addr, 0, 0, size, op, data, 0, live, 0, ⟨false, false, false, 0, 0⟩, ⟨0, 0, 0, 0⟩⟩
theorem akOf_in {kind addr size op data : Int} {live : Bool} (h1 : -9223372036854775808 ≤ kind ∧ kind ≤ 9223372036854775807) (h2 : 0 ≤ addr ∧ addr ≤ 18446744073709551615) (h3 : -9223372036854775808 ≤ size ∧ size ≤ 9223372036854775807)
    (h4 : -9223372036854775808 ≤ op ∧ op ≤ 9223372036854775807) (h5 : 0 ≤ data ∧ data ≤ 18446744073709551615) : (akOf kind addr size op data live).In :=
  have z : 0 ≤ (0 : Int) ∧ (0 : Int) ≤ 18446744073709551615 := by omega
  have s : -9223372036854775808 ≤ (0 : Int) ∧ (0 : Int) ≤ 9223372036854775807 := by omega
  ⟨h1, h2, z, s, h3, h4, h5, z, s, ⟨z, s⟩, ⟨s, z, s, z⟩⟩
abbrev lr14 : Ak := akOf 5 2147483648 4 67 0 false
abbrev sc14 : Ak := akOf 6 2147483648 4 68 5 true
abbrev st14 : Ak := akOf 3 2147483708 1 0 0 false
namespace Sh
theorem lr_T (B : List Int) (N : Nat) (T : Rv.Tb) : doT B N T 0 lr14 = Rv.set T 0 33554432 := rfl
theorem st_T (B : List Int) (N : Nat) (T : Rv.Tb) : doT B N T 1 st14 = killA T st14 1 := rfl
theorem sc_G (B : List Int) (N : Nat) (T : Rv.Tb) : ansG B N T 0 sc14 = Rv.has T 0 33554432 := rfl
theorem sc_T0 (B : List Int) (N : Nat) {T : Rv.Tb} (h : Rv.has T 0 33554432 = false) : doT B N T 0 sc14 = Rv.clr T 0 := by
  unfold doT
  rw [sc_G, h]
  rfl
theorem sc_T1 (B : List Int) (N : Nat) {T : Rv.Tb} (h : Rv.has T 0 33554432 = true) : doT B N T 0 sc14 = killA (Rv.clr T 0) sc14 0 := by
  unfold doT
  rw [sc_G, h]
  rfl
def tA : Rv.Tb := killA (Rv.set Rv.none_ 0 33554432) st14 1
def tB : Rv.Tb := Rv.set (Rv.clr tA 0) 0 33554432
def tC : Rv.Tb := killA (Rv.clr tB 0) sc14 0
theorem has_A : Rv.has tA 0 33554432 = false := by decide +kernel
theorem has_B : Rv.has tB 0 33554432 = true := by decide +kernel
theorem has_C : Rv.has tC 0 33554432 = false := by decide +kernel
theorem ok_lr : okD 2 2 0 lr14 = true := by decide +kernel
theorem ok_st : okD 2 2 1 st14 = true := by decide +kernel
theorem ok_sc : okD 2 2 0 sc14 = true := by decide +kernel
end Sh
end Go.Proofs.Ytabackklpemhpaa
set_option maxRecDepth 20000
namespace Go.Proofs.Ytabackklpemhpaa
open Go.ChangeShapes Go.WideShapes Go.ChangeAt Go.RowKit Wd

structure L14 (w W : World) (sb rb mb b3 b4 : Nat) (B : List Int) (T : Rv.Tb) : Prop where
  sh : ShAt W sb rb mb two14 B T
  k3 : AkAt W b3 lr14
  k4 : AkAt W b4 sc14
  bel : Below w.heap.size w W
  lo : w.heap.size ≤ sb ∧ w.heap.size ≤ mb
  ne : (b3 ≠ sb ∧ b3 ≠ mb) ∧ b4 ≠ sb ∧ b4 ≠ mb
theorem L14.low {w W W' : World} {sb rb mb b3 b4 : Nat} {B : List Int} {T : Rv.Tb} (h : L14 w W sb rb mb b3 b4 B T) (hb : Below W.heap.size W W') : L14 w W' sb rb mb b3 b4 B T := ⟨h.sh.low hb, h.k3.low hb, h.k4.low hb, h.bel.trans (hb.mono h.bel.size), h.lo, h.ne⟩
theorem L14.two {w W W' : World} {sb rb mb b3 b4 : Nat} {B B' : List Int} {T T' : Rv.Tb} (h : L14 w W sb rb mb b3 b4 B T) (hs : ShAt W' sb rb mb two14 B' T') (ht : Two sb mb W W') : L14 w W' sb rb mb b3 b4 B' T' :=
  ⟨hs, ⟨(ht.block _ h.k3.cs.lt h.ne.1.1 h.ne.1.2).trans h.k3.cs⟩, ⟨(ht.block _ h.k4.cs.lt h.ne.2.1 h.ne.2.2).trans h.k4.cs⟩, h.bel.trans (ht.below h.lo.1 h.lo.2 h.bel.size), h.lo, h.ne⟩
theorem zero_ak : akC Ak.zero = #[.int .i64 0, .int .u64 0, .int .u64 0, .int .i64 0, .int .i64 0, .int .i64 0, .int .u64 0, .int .u64 0, .bool false, .int .i64 0, .bool false, .bool false, .bool false, .int .u64 0, .int .i64 0, .int .i64 0, .int .u64 0, .int .i64 0, .int .u64 0] := rfl
theorem lr_in : lr14.In := akOf_in (by omega) (by omega) (by omega) (by omega) (by omega)
theorem sc_in : sc14.In := akOf_in (by omega) (by omega) (by omega) (by omega) (by omega)
theorem st_in : st14.In := akOf_in (by omega) (by omega) (by omega) (by omega) (by omega)
/-- Do in that memory, with the table behind it. -/
theorem do14 {sb rb mb : Nat} {B : List Int} {T : Rv.Tb} (a : Ak) (ha : a.In) (hart : Int) (w : World) (h : ShAt w sb rb mb two14 B T) (hok : Sh.okD 2 2 hart a = true) (T' : Rv.Tb) (hT : ∀ B, Sh.doT B 2 T hart a = T') (g : Bool) (hg : ∀ B, Sh.ansG B 2 T hart a = g) :
    Calls Try.prog 18 #[.pointer (some ⟨sb, 0, none⟩), .int .i64 hart, .agg (akC a)] w fun e w' => ∃ d B', e = .returned (.tuple #[.agg (anC d g), .bool true]) ∧ ShAt w' sb rb mb two14 B' T' ∧ Two sb mb w w' :=
  (do_yes a ha hart w h hok).mono fun e w' ⟨h1, h2, h3⟩ => ⟨Sh.ansD B 2 a, Sh.doB B 2 T hart a, by rw [h1, ← hg B]; rfl, by rw [← hT B]; exact h2, h3⟩
theorem live_tabs : ∃ t1 t2 t3 t4 t5 t6 : Rv.Tb, (∀ B, Sh.doT B 2 Rv.none_ 0 lr14 = t1) ∧ (∀ B, Sh.doT B 2 t1 1 st14 = t2) ∧ (∀ B, Sh.ansG B 2 t2 0 sc14 = false) ∧ (∀ B, Sh.doT B 2 t2 0 sc14 = t3) ∧ (∀ B, Sh.doT B 2 t3 0 lr14 = t4) ∧
    (∀ B, Sh.ansG B 2 t4 0 sc14 = true) ∧ (∀ B, Sh.doT B 2 t4 0 sc14 = t5) ∧ (∀ B, Sh.ansG B 2 t5 0 sc14 = false) ∧ (∀ B, Sh.doT B 2 t5 0 sc14 = t6) :=
  ⟨_, Sh.tA, Rv.clr Sh.tA 0, Sh.tB, Sh.tC, Rv.clr Sh.tC 0, fun B => Sh.lr_T B 2 _, fun B => Sh.st_T B 2 _, fun B => (Sh.sc_G B 2 _).trans Sh.has_A, fun B => Sh.sc_T0 B 2 Sh.has_A, fun B => Sh.lr_T B 2 _, fun B => (Sh.sc_G B 2 _).trans Sh.has_B, fun B => Sh.sc_T1 B 2 Sh.has_B, fun B => (Sh.sc_G B 2 _).trans Sh.has_C, fun B => Sh.sc_T0 B 2 Sh.has_C⟩
theorem lr_G (B : List Int) (T : Rv.Tb) : Sh.ansG B 2 T 0 lr14 = false := rfl
theorem st_G (B : List Int) (T : Rv.Tb) : Sh.ansG B 2 T 1 st14 = false := rfl
set_option maxHeartbeats 8000000 in
set_option maxRecDepth 100000 in
theorem live14_c (w : World) : Calls Try.prog 16 #[] w fun e w' => e = .returned (.bool true) ∧ Below w.heap.size w w' := by
  obtain ⟨t1, t2, t3, t4, t5, t6, H1, H2, H3, H4, H5, H6, H7, H8, H9⟩ := live_tabs
  have H1 := Lib.hid H1
  have H2 := Lib.hid H2
  have H3 := Lib.hid H3
  have H4 := Lib.hid H4
  have H5 := Lib.hid H5
  have H6 := Lib.hid H6
  have H7 := Lib.hid H7
  have H8 := Lib.hid H8
  have H9 := Lib.hid H9
  go_enter Try.func16, Try.ntmps16
  go_wp2_with fail
  refine (two_c w).mono ?_
  rintro e w1 ⟨rfl, hb1⟩
  have HB1 := Lib.hid hb1
  clear hb1
  go_wp2_with fail
  refine (snew_c two14 (by decide) w1).mono ?_
  rintro e w2 ⟨sb, rb, mb, rfl, hs2, hb2, h1, h2, h3⟩
  have hb2' := HB1.out.trans (hb2.mono HB1.out.size)
  have hb3 := box_below w2 (akC lr14) AKT
  have HS3 := Lib.hid (hs2.low hb3)
  have HK3 := Lib.hid (akAt_new w2 lr14)
  have HB3 := Lib.hid (hb2'.trans (hb3.mono hb2'.size))
  have HN3 := Lib.hid (show (w.heap.size ≤ sb ∧ w.heap.size ≤ mb) ∧ w2.heap.size ≠ sb ∧ w2.heap.size ≠ mb by
    have e1 := hs2.slt
    have e2 := hs2.ram.mlt
    have e3 := HB1.out.size
    omega)
  clear hs2 hb2 hb2' hb3 h1 h2 h3 HB1
  go_upto_region 4 with fail
  go_upto_region 5 with (refine wpList_storeNew rfl AKT _ _ rfl (akC Ak.zero) (akC lr14) AKT rfl rfl info_ak rfl (akC_one _) ?_)
  generalize w2.alloc (.cells (akC lr14) AKT) = w3 at *
  generalize w2.heap.size = b3 at *
  have hb4 := box_below w3 (akC sc14) AKT
  have HL := Lib.hid (show L14 w (w3.alloc (.cells (akC sc14) AKT)) sb rb mb b3 w3.heap.size (Rm.nought two14.lines.toNat) Rv.none_ by
    have e1 := HS3.out.slt
    have e2 := HS3.out.ram.mlt
    have e3 := HN3.out
    exact ⟨HS3.out.low hb4, HK3.out.low hb4, akAt_new w3 sc14, HB3.out.trans (hb4.mono HB3.out.size), by omega, by omega⟩)
  clear hb4 HS3 HK3 HB3 HN3
  go_upto_region 6 with (refine wpList_storeNew rfl AKT _ _ rfl (akC Ak.zero) (akC sc14) AKT rfl rfl info_ak rfl (akC_one _) ?_)
  generalize w3.alloc (.cells (akC sc14) AKT) = w3' at *
  generalize w3.heap.size = b4 at *
  generalize Rm.nought two14.lines.toNat = B0 at *
  go_wp2_with (refine wpList_load_row rfl AKT _ rfl b3 rfl AKT (akC lr14) (0, 0) _ HL.out.k3.cs Try.underlying66 rfl info_ak ?_)
  refine (do14 lr14 lr_in 0 _ HL.out.sh Sh.ok_lr t1 H1.out false (fun B => lr_G B _)).mono ?_
  rintro e w4 ⟨d, B, rfl, hs, ht⟩
  have HL4 := Lib.hid (HL.out.two hs ht)
  clear hs ht HL
  go_wp2_with fail
  refine (do14 st14 st_in 1 _ HL4.out.sh Sh.ok_st t2 H2.out false (fun B => st_G B _)).mono ?_
  rintro e w5 ⟨d, B, rfl, hs, ht⟩
  have HL5 := Lib.hid (HL4.out.two hs ht)
  clear hs ht HL4
  go_wp2_with (refine wpList_load_row rfl AKT _ rfl b4 rfl AKT (akC sc14) (0, 0) _ HL5.out.k4.cs Try.underlying66 rfl info_ak ?_)
  refine (do14 sc14 sc_in 0 _ HL5.out.sh Sh.ok_sc t3 H4.out false H3.out).mono ?_
  rintro e w6 ⟨d, B, rfl, hs, ht⟩
  have hL := HL5.out.two hs ht
  have hbn := box_below w6 (anC d false) ANT
  have HL7 := Lib.hid (hL.low hbn)
  have HX7 := Lib.hid (CsAt.new w6 ANT (anC d false))
  have HN7 := Lib.hid (show w6.heap.size ≠ sb ∧ w6.heap.size ≠ mb by have e1 := hL.sh.slt; have e2 := hL.sh.ram.mlt; omega)
  clear hs ht hL hbn HL5
  go_upto_region 9 with (refine wpList_storeNew rfl ANT _ _ rfl (anC 0 false) (anC d false) ANT rfl rfl info_an rfl (anC_one _ _) ?_)
  generalize w6.alloc (.cells (anC d false) ANT) = w7 at *
  generalize w6.heap.size = b5 at *
  generalize d = d7 at *
  go_wp2_with (refine wpList_load_row rfl AKT _ rfl b3 rfl AKT (akC lr14) (0, 0) _ HL7.out.k3.cs Try.underlying66 rfl info_ak ?_)
  refine (do14 lr14 lr_in 0 _ HL7.out.sh Sh.ok_lr t4 H5.out false (fun B => lr_G B _)).mono ?_
  rintro e w8 ⟨d, B, rfl, hs, ht⟩
  have HL8 := Lib.hid (HL7.out.two hs ht)
  have HX7 := Lib.hid (show CsAt w8 b5 ANT (anC d7 false) from (ht.block _ HX7.out.lt HN7.out.1 HN7.out.2).trans HX7.out)
  clear hs ht HL7
  go_wp2_with (refine wpList_load_row rfl AKT _ rfl b4 rfl AKT (akC sc14) (0, 0) _ HL8.out.k4.cs Try.underlying66 rfl info_ak ?_)
  refine (do14 sc14 sc_in 0 _ HL8.out.sh Sh.ok_sc t5 H7.out true H6.out).mono ?_
  rintro e w9 ⟨d, B, rfl, hs, ht⟩
  have hL := HL8.out.two hs ht
  have hbn := box_below w9 (anC d true) ANT
  have HL10 := Lib.hid (hL.low hbn)
  have HX10 := Lib.hid (CsAt.new w9 ANT (anC d true))
  have hx : CsAt w9 b5 ANT _ := (ht.block _ HX7.out.lt HN7.out.1 HN7.out.2).trans HX7.out
  have HX7 := Lib.hid (hx.low hbn)
  clear hx
  have HN10 := Lib.hid (show w9.heap.size ≠ sb ∧ w9.heap.size ≠ mb by have e1 := hL.sh.slt; have e2 := hL.sh.ram.mlt; omega)
  clear hs ht hL hbn HL8
  go_upto_region 11 with (refine wpList_storeNew rfl ANT _ _ rfl (anC 0 false) (anC d true) ANT rfl rfl info_an rfl (anC_one _ _) ?_)
  generalize w9.alloc (.cells (anC d true) ANT) = w10 at *
  generalize w9.heap.size = b7 at *
  generalize d = d10 at *
  go_wp2_with (refine wpList_load_row rfl AKT _ rfl b4 rfl AKT (akC sc14) (0, 0) _ HL10.out.k4.cs Try.underlying66 rfl info_ak ?_)
  refine (do14 sc14 sc_in 0 _ HL10.out.sh Sh.ok_sc t6 H9.out false H8.out).mono ?_
  rintro e w11 ⟨d, B, rfl, hs, ht⟩
  have hL := HL10.out.two hs ht
  have hbn := box_below w11 (anC d false) ANT
  have HL12 := Lib.hid (hL.low hbn)
  have HX12 := Lib.hid (CsAt.new w11 ANT (anC d false))
  have hx : CsAt w11 b5 ANT _ := (ht.block _ HX7.out.lt HN7.out.1 HN7.out.2).trans HX7.out
  have HX7 := Lib.hid (hx.low hbn)
  clear hx
  have hx : CsAt w11 b7 ANT _ := (ht.block _ HX10.out.lt HN10.out.1 HN10.out.2).trans HX10.out
  have HX10 := Lib.hid (hx.low hbn)
  clear hx
  have HN12 := Lib.hid (show w11.heap.size ≠ sb ∧ w11.heap.size ≠ mb by have e1 := hL.sh.slt; have e2 := hL.sh.ram.mlt; omega)
  clear hs ht hL hbn HL10
  go_upto_region 12 with (refine wpList_storeNew rfl ANT _ _ rfl (anC 0 false) (anC d false) ANT rfl rfl info_an rfl (anC_one _ _) ?_)
  generalize w11.alloc (.cells (anC d false) ANT) = w12 at *
  generalize w11.heap.size = b9 at *
  generalize d = d12 at *
  have x5 : w12.cell? ⟨b5, 1, none⟩ = some (.bool false) := HX7.out.cell 1
  have x7 : w12.cell? ⟨b7, 1, none⟩ = some (.bool true) := HX10.out.cell 1
  have x9 : w12.cell? ⟨b9, 1, none⟩ = some (.bool false) := HX12.out.cell 1
  go_wp2_with fail
  go_ret
  exact ⟨rfl, HL12.out.bel⟩
end Go.Proofs.Ytabackklpemhpaa
set_option maxRecDepth 20000
namespace Go.Proofs.Ytabackklpemhpaa
open Go.ChangeShapes Go.WideShapes Go.ChangeAt Go.RowKit

/-- roebucklaw14.Deed. -/
structure Dd where
  hart : Int
  ask : Ak
abbrev Dd.cells (d : Dd) : Array Value := #[.int .i64 d.hart, .int .i64 d.ask.kind, .int .u64 d.ask.addr, .int .u64 d.ask.next, .int .i64 d.ask.cut, .int .i64 d.ask.size, .int .i64 d.ask.op, .int .u64 d.ask.data, .int .u64 d.ask.old, .bool d.ask.live, .int .i64 d.ask.hart, .bool d.ask.req.set, .bool d.ask.req.byVa, .bool d.ask.req.byAsid, .int .u64 d.ask.req.va, .int .i64 d.ask.req.asid, .int .i64 d.ask.entry.asid, .int .u64 d.ask.entry.page, .int .i64 d.ask.entry.level, .int .u64 d.ask.entry.pte]
def Dd.zero : Dd := ⟨0, ⟨0, 0, 0, 0, 0, 0, 0, 0, false, 0, ⟨false, false, false, 0, 0⟩, ⟨0, 0, 0, 0⟩⟩⟩
structure Dd.In (d : Dd) : Prop where
  hart : -9223372036854775808 ≤ d.hart ∧ d.hart ≤ 9223372036854775807
  ask : d.ask.In
/-- A slice of such that came in. -/
structure Dds (w : World) (ao : Option Addr) (n : Nat) (l : List Dd) : Prop where
  len : l.length = n
  max : n ≤ 9223372036854775807
  each : ∀ j, j < n → (l.getD j Dd.zero).In
  at_ : 0 < n → ∃ b off, ao = some ⟨b, off, none⟩ ∧ b < w.heap.size ∧ ∀ j, j < n → ∀ f, f < 20 → w.cell? ⟨b, off + j * 20 + f, none⟩ = (l.getD j Dd.zero).cells[f]?
theorem Dds.low {w W : World} {ao : Option Addr} {n : Nat} {l : List Dd} (h : Dds w ao n l) (hb : Below w.heap.size w W) : Dds W ao n l :=
  ⟨h.len, h.max, h.each, fun hn => by
    obtain ⟨b, off, ha, hlt, hc⟩ := h.at_ hn
    exact ⟨b, off, ha, Nat.lt_of_lt_of_le hlt hb.size, fun j hj f hf => (hb.cell (p := ⟨b, off + j * 20 + f, none⟩) hlt).trans (hc j hj f hf)⟩⟩
section
variable {H : Type} {enc : TypeId × Value → H} {w : World} {base : Nat} {spare : Nat → Bool} {held : Bool}
theorem ps_kc_api_Req : Try.prog.cellsOf 62 = 5 := by kernel_rfl
theorem ps_kc_api_Entry : Try.prog.cellsOf 64 = 4 := by kernel_rfl
theorem ps_kc_api_Ask : Try.prog.cellsOf 66 = 19 := by kernel_rfl
theorem ps_kc_int : Try.prog.cellsOf 3 = 1 := by kernel_rfl
theorem ps_kc_roebucklaw14_Deed : Try.prog.cellsOf 68 = 20 := by kernel_rfl
theorem open_Dd_C {cs : List Value} {fuel : Nat} {x : DataW H × List MemPlace} (hlen : cs.length = 20) (hf : DataW.trod enc Try.prog w base spare held fuel 68 cs = some x) :
    ∃ d : Dd, cs = d.cells.toList ∧ d.In := by
  obtain ⟨xs, nn, _, hx, _, hxl, hg⟩ := DataW.trod_struct Try.underlying68 hf
  have h0 := hg 0 _ rfl
  have h1 := hg 1 _ rfl
  obtain ⟨x0, e0⟩ : ∃ x, xs[0]? = some x := ⟨xs[0]'(by rw [hxl]; decide), List.getElem?_eq_getElem _⟩
  obtain ⟨x1, e1⟩ : ∃ x, xs[1]? = some x := ⟨xs[1]'(by rw [hxl]; decide), List.getElem?_eq_getElem _⟩
  change DataW.trod enc Try.prog w base spare held nn 3 (List.take (Try.prog.cellsOf 3) (List.drop 0 _)) = _ at h0
  rw [ps_kc_int, e0] at h0
  change DataW.trod enc Try.prog w base spare held nn 66 (List.take (Try.prog.cellsOf 66) (List.drop 1 _)) = _ at h1
  rw [ps_kc_api_Ask, e1] at h1
  match cs, hlen with
  | [v0, v1, v2, v3, v4, v5, v6, v7, v8, v9, v10, v11, v12, v13, v14, v15, v16, v17, v18, v19], _ =>
    simp only [List.drop_zero, List.drop_succ_cons, List.take_succ_cons, List.take_zero] at h0 h1
    obtain ⟨a0, p0, -, q0⟩ := DataW.trod_int Try.underlying3 h0
    simp only [List.cons.injEq, and_true] at p0
    subst p0
    obtain ⟨a1, p1, i1⟩ := open_Ak_C rfl h1
    simp at p1
    obtain ⟨rfl, rfl, rfl, rfl, rfl, rfl, rfl, rfl, rfl, rfl, rfl, rfl, rfl, rfl, rfl, rfl, rfl, rfl, rfl⟩ := p1
    exact ⟨⟨a0, a1⟩, rfl, bounds_i64 q0, i1⟩
theorem open_Dd {r : Reach} {b0 : Nat} {v : Value} {d : DataW H} {ps : List MemPlace} (hval : Value.okWide Try.prog w r b0 68 v) (hd : DataW.Trod enc Try.prog w base spare held 68 v d ps) :
    ∃ q : Dd, v = .agg q.cells ∧ q.In := by
  simp only [Value.okWide, Try.underlying68] at hval
  obtain ⟨cs, rfl, hsz, _⟩ := hval
  obtain ⟨fuel, hf⟩ := hd
  rw [ps_kc_roebucklaw14_Deed] at hsz
  obtain ⟨q, hq, hin⟩ := open_Dd_C (cs := cs.toList) (by simpa using hsz) hf
  refine ⟨q, ?_, hin⟩
  congr 1
  exact Array.ext' hq
theorem open_DdsC {v : Value} {fuel : Nat} {x : DataW H × List MemPlace} (hsl : ∃ ao n cap, v = .slice ao n cap) (hf : DataW.trod enc Try.prog w base spare held fuel 51 [v] = some x) :
    ∃ ao n cap l, v = .slice ao n cap ∧ Dds w ao n l := by
  obtain ⟨ao, n, cap, rfl⟩ := hsl
  rcases Go.Deep.open_slice Try.underlying51 hf with ⟨hcs, _⟩ | ⟨a, len, cap', m, nf, D, Pl, hcs, hb, hl, hm, hmm, _, hel⟩
  · simp at hcs
    obtain ⟨rfl, rfl, rfl⟩ := hcs
    exact ⟨_, _, _, [], rfl, rfl, by omega, fun j hj => by omega, fun h => by omega⟩
  · simp at hcs
    obtain ⟨rfl, rfl, rfl⟩ := hcs
    have hmn : n ≤ m := by rw [hmm]; split <;> omega
    have key : ∀ i, i < n → ∃ q : Dd, (∀ f, f < 20 → w.cell? ((a.add (i * 20)).add f) = q.cells[f]?) ∧ q.In := by
      intro i hi
      obtain ⟨cs', hc, htr⟩ := hel i (by omega)
      rw [ps_kc_roebucklaw14_Deed] at hc
      obtain ⟨_, hlen, hat⟩ := World.cells?_some hc
      obtain ⟨q, hq, hin⟩ := open_Dd_C hlen htr
      refine ⟨q, fun f hf => ?_, hin⟩
      rw [hat f (by omega), hq]
      simp
    by_cases hn0 : n = 0
    · subst hn0
      exact ⟨_, _, _, [], rfl, rfl, by omega, fun j hj => by omega, fun h => by omega⟩
    · haveI : Inhabited Dd := ⟨Dd.zero⟩
      obtain ⟨f, hf⟩ := Go.Deep.choose_lt key
      have hz := (hf 0 (by omega)).1 0 (by omega)
      have hz' : w.cell? ((a.add (0 * 20)).add 0) = some (.int .i64 (f 0).hart) := hz
      have hsp : a.spot = none := by
        have := World.cell?_spot hz'
        simpa [Addr.add] using this
      obtain ⟨b, off, sp⟩ := a
      simp only at hsp
      subst hsp
      have hget : ∀ j, j < n → ((List.range n).map f).getD j Dd.zero = f j := by
        intro j hj
        simp [List.getD, hj]
      have hlt : b < w.heap.size := by
        rw [add_plain, add_plain] at hz'
        exact block_lt_of_cell hz'
      refine ⟨_, _, _, (List.range n).map f, rfl, by simp, by unfold maxLen at hm; omega, fun j hj => by rw [hget j hj]; exact (hf j hj).2, fun _ => ⟨b, off, rfl, hlt, fun j hj g hg => ?_⟩⟩
      rw [hget j hj, ← (hf j hj).1 g hg, add_plain, add_plain]
theorem open_Dds {r : Reach} {b0 : Nat} {v : Value} {d : DataW H} {ps : List MemPlace} (hval : Value.okWide Try.prog w r b0 51 v) (hd : DataW.Trod enc Try.prog w base spare held 51 v d ps) :
    ∃ ao n cap l, v = .slice ao n cap ∧ Dds w ao n l := by
  obtain ⟨ao, n, cap, rfl⟩ := okWide_slice Try.underlying51 hval
  obtain ⟨fuel, hf⟩ := hd
  exact open_DdsC ⟨ao, n, cap, rfl⟩ hf
end
end Go.Proofs.Ytabackklpemhpaa
