/-
  What layer 14's law compares, and what it asks of the chapter's example (live). The reference of layer 10: its memory in the program's memory; contracts of Has, Load, Store. The reference of layer 10: contracts of Load, Store.
-/
import Derived.Test.YtjeolfcefeglpabGreatXbb
import Derived.Laws.StructEq
import Derived.Test.YtjeolfcefeglpabGreatXai
import Derived.Deep.DeepCutAuto
set_option maxRecDepth 20000
namespace Go.Proofs.YtjeolfcefeglpabGreat
open Go.ChangeShapes Go.WideShapes Go.ChangeAt Go.RowKit Wd

theorem run_eq4 (w : World) (t : TypeId) (f1 f2 f3 f4 : Field) (k1 k2 k3 k4 : IntKind) (hf : (Tryz.prog.fieldsOf t).toList = [f1, f2, f3, f4]) (ht : Tryz.prog.underlying t = some (.struct (Tryz.prog.fieldsOf t))) (hp : Tryz.prog.stoodInHeld t = false)
    (h1 : f1.name ≠ "_" ∧ f1.offset = 0 ∧ Tryz.prog.underlying f1.type = some (.int k1)) (h2 : f2.name ≠ "_" ∧ f2.offset = 1 ∧ Tryz.prog.underlying f2.type = some (.int k2)) (h3 : f3.name ≠ "_" ∧ f3.offset = 2 ∧ Tryz.prog.underlying f3.type = some (.int k3)) (h4 : f4.name ≠ "_" ∧ f4.offset = 3 ∧ Tryz.prog.underlying f4.type = some (.int k4))
    (a b c d : Int) :
    (Op.equalIn 10000 t (.agg #[.int k1 a, .int k2 b, .int k3 c, .int k4 d]) (.agg #[.int k1 a, .int k2 b, .int k3 c, .int k4 d])).run Tryz.prog w = .ok true w := by
  obtain ⟨n1, o1, u1⟩ := h1
  obtain ⟨n2, o2, u2⟩ := h2
  obtain ⟨n3, o3, u3⟩ := h3
  obtain ⟨n4, o4, u4⟩ := h4
  rw [run_equalIn_agg w 9999 t _ _ ht hp, hf]
  have q1 : (Op.equalIn 9999 f1.type (.int k1 a) (.int k1 a)).run Tryz.prog w = .ok (a == a) w := run_equalIn_int w 9998 f1.type k1 k1 a a u1
  have q2 : (Op.equalIn 9999 f2.type (.int k2 b) (.int k2 b)).run Tryz.prog w = .ok (b == b) w := run_equalIn_int w 9998 f2.type k2 k2 b b u2
  have q3 : (Op.equalIn 9999 f3.type (.int k3 c) (.int k3 c)).run Tryz.prog w = .ok (c == c) w := run_equalIn_int w 9998 f3.type k3 k3 c c u3
  have q4 : (Op.equalIn 9999 f4.type (.int k4 d) (.int k4 d)).run Tryz.prog w = .ok (d == d) w := run_equalIn_int w 9998 f4.type k4 k4 d d u4
  have p1 : ∀ (x y z u : Value), (Go.part f1.type #[x, y, z, u] 0).run Tryz.prog w = .ok x w := fun x y z u => by simp [Go.part, isAgg, run_underlying u1]
  have p2 : ∀ (x y z u : Value), (Go.part f2.type #[x, y, z, u] 1).run Tryz.prog w = .ok y w := fun x y z u => by simp [Go.part, isAgg, run_underlying u2]
  have p3 : ∀ (x y z u : Value), (Go.part f3.type #[x, y, z, u] 2).run Tryz.prog w = .ok z w := fun x y z u => by simp [Go.part, isAgg, run_underlying u3]
  have p4 : ∀ (x y z u : Value), (Go.part f4.type #[x, y, z, u] 3).run Tryz.prog w = .ok u w := fun x y z u => by simp [Go.part, isAgg, run_underlying u4]
  simp only [Op.eqFields, if_pos n1, if_pos n2, if_pos n3, if_pos n4, Sem.run_bind, o1, o2, o3, o4, p1, Result.andThen_ok, q1]
  simp [p2, p3, p4, q2, q3, q4]
theorem self_cf (w : World) (c : Cf) : (Op.equalIn 10000 CFT (.agg (cfC c)) (.agg (cfC c))).run Tryz.prog w = .ok true w :=
  run_eq4 w CFT _ _ _ _ .i64 .i64 .i64 .i64 rfl Tryz.underlying26 (by kernel_rfl) ⟨by decide, rfl, by kernel_rfl⟩ ⟨by decide, rfl, by kernel_rfl⟩ ⟨by decide, rfl, by kernel_rfl⟩ ⟨by decide, rfl, by kernel_rfl⟩ _ _ _ _
theorem eql_cf (w : World) (c : Cf) : (binOp .eql CFT (.agg (cfC c)) (.agg (cfC c))).run Tryz.prog w = .ok (.bool true) w := by rw [run_eql_struct, self_cf]; rfl
theorem neq_cf (w : World) (c : Cf) : (binOp .neq CFT (.agg (cfC c)) (.agg (cfC c))).run Tryz.prog w = .ok (.bool false) w := by rw [run_neq_struct, self_cf]; rfl
theorem guard_cf : Tryz.prog.eqGuardType Tryz.prog.depth CFT = false := by kernel_rfl
theorem neq_ac (w : World) (a b c n : Int) : (binOp .neq ACT (.agg (axV a b c n)) (.agg (axV a b c n))).run Tryz.prog w = .ok (.bool false) w := by
  rw [run_neq_struct, run_eq4 w ACT _ _ _ _ .u64 .u64 .i64 .i64 rfl Tryz.underlying104 (by kernel_rfl) ⟨by decide, rfl, by kernel_rfl⟩ ⟨by decide, rfl, by kernel_rfl⟩ ⟨by decide, rfl, by kernel_rfl⟩ ⟨by decide, rfl, by kernel_rfl⟩]
  rfl
theorem guard_ac : Tryz.prog.eqGuardType Tryz.prog.depth ACT = false := by kernel_rfl
theorem sdo_nil (a : Ak) (hart : Int) (w : World) : Calls Tryz.prog 14 #[.pointer none, .int .i64 hart, .agg (akC a)] w fun e w' => e = .returned (.tuple #[.agg (anC 0 false), .bool false]) ∧ Below w.heap.size w w' := by
  have hb := box_below w (akC a) AKT
  have hb2 := box_below (w.alloc (.cells (akC a) AKT)) (anC 0 false) ANT
  have HA := Lib.hid ((akAt_new w a).low hb2)
  have HR := Lib.hid (show CsAt ((w.alloc (.cells (akC a) AKT)).alloc (.cells (anC 0 false) ANT)) (w.heap.size + 1) ANT (anC 0 false) by simpa using CsAt.new (w.alloc (.cells (akC a) AKT)) ANT (anC 0 false))
  have HB := Lib.hid (hb.trans (hb2.mono hb.size))
  clear hb hb2
  go_enter Tryz.func14, Tryz.ntmps14
  go_upto_region 1 with fail
  rw [zero_an]
  generalize (w.alloc (.cells (akC a) AKT)).alloc (.cells (anC 0 false) ANT) = w1 at *
  go_wp2_with (refine wpList_load_row rfl AKT _ rfl w.heap.size rfl AKT (akC a) (0, 0) _ HA.out.cs Tryz.underlying58 rfl info_ak ?_)
  refine (smay_nil a w1).mono ?_
  rintro e w2 ⟨rfl, hb2⟩
  have HR2 := Lib.hid (HR.out.low hb2)
  have HB2 := Lib.hid (HB.out.trans (hb2.mono HB.out.size))
  clear hb2
  go_wp2_with (refine wpList_store_row rfl ANT _ _ rfl (w.heap.size + 1) (anC 0 false) rfl rfl ANT (anC 0 false) HR2.out info_an rfl (anC_one _ _) ?_)
  exact bodyPost_ret (results_an Tryz.results14 _ _ (w.heap.size + 1) 0 false (.bool false) rfl rfl (HR2.out.row _)) rfl ⟨rfl, below_setRow HB2.out (by omega) _⟩
/-! ### live -/
abbrev two14 : Cf := ⟨2, 2, 2, 1⟩
/-- An ask of few parts. -/
abbrev akOf (kind addr size op data : Int) (live : Bool) : Ak := ⟨kind, addr, 0, 0, size, op, data, 0, live, 0, ⟨false, false, false, 0, 0⟩, ⟨0, 0, 0, 0⟩⟩
theorem akOf_in {kind addr size op data : Int} {live : Bool} (h1 : -9223372036854775808 ≤ kind ∧ kind ≤ 9223372036854775807) (h2 : 0 ≤ addr ∧ addr ≤ 18446744073709551615) (h3 : -9223372036854775808 ≤ size ∧ size ≤ 9223372036854775807)
    (h4 : -9223372036854775808 ≤ op ∧ op ≤ 9223372036854775807) (h5 : 0 ≤ data ∧ data ≤ 18446744073709551615) : (akOf kind addr size op data live).In :=
  have z : 0 ≤ (0 : Int) ∧ (0 : Int) ≤ 18446744073709551615 := by omega
  have s : -9223372036854775808 ≤ (0 : Int) ∧ (0 : Int) ≤ 9223372036854775807 := by omega
  ⟨h1, h2, z, s, h3, h4, h5, z, s, ⟨z, s⟩, ⟨s, z, s, z⟩⟩
abbrev lr14 : Ak := akOf 5 2147483648 4 67 0 false
abbrev sc14 : Ak := akOf 6 2147483648 4 68 5 true
abbrev st14 : Ak := akOf 3 2147483708 1 0 0 false
namespace Sh
theorem lr_T (B : List Int) (N : Nat) (T : Rv.Tb) : doT B N T 0 lr14 = Rv.set T 0 33554432 := rfl
theorem st_T (B : List Int) (N : Nat) (T : Rv.Tb) : doT B N T 1 st14 = killA T st14 1 := rfl
theorem sc_G (B : List Int) (N : Nat) (T : Rv.Tb) : ansG B N T 0 sc14 = Rv.has T 0 33554432 := rfl
theorem sc_T0 (B : List Int) (N : Nat) {T : Rv.Tb} (h : Rv.has T 0 33554432 = false) : doT B N T 0 sc14 = Rv.clr T 0 := by
  unfold doT
  rw [sc_G, h]
  rfl
theorem sc_T1 (B : List Int) (N : Nat) {T : Rv.Tb} (h : Rv.has T 0 33554432 = true) : doT B N T 0 sc14 = killA (Rv.clr T 0) sc14 0 := by
  unfold doT
  rw [sc_G, h]
  rfl
def tA : Rv.Tb := killA (Rv.set Rv.none_ 0 33554432) st14 1
def tB : Rv.Tb := Rv.set (Rv.clr tA 0) 0 33554432
def tC : Rv.Tb := killA (Rv.clr tB 0) sc14 0
theorem has_A : Rv.has tA 0 33554432 = false := by decide +kernel
theorem has_B : Rv.has tB 0 33554432 = true := by decide +kernel
theorem has_C : Rv.has tC 0 33554432 = false := by decide +kernel
theorem ok_lr : okD 2 2 0 lr14 = true := by decide +kernel
theorem ok_st : okD 2 2 1 st14 = true := by decide +kernel
theorem ok_sc : okD 2 2 0 sc14 = true := by decide +kernel
end Sh
end Go.Proofs.YtjeolfcefeglpabGreat
set_option maxRecDepth 20000
namespace Go.Proofs.YtjeolfcefeglpabGreat
open Go.ChangeShapes Go.WideShapes Go.ChangeAt Go.RowKit Wd

namespace Rm
/-- Bytes laid from a place on. -/
def lay (B : List Int) (a m : Nat) (f : Nat → Int) : List Int := mk B.length fun j => if a ≤ j ∧ j < a + m then f (j - a) else B.getD j 0
theorem lay_ok {B : List Int} {n : Nat} (h : Ok B n) (a m : Nat) {f : Nat → Int} (hf : ∀ j, 0 ≤ f j ∧ f j ≤ 255) : Ok (lay B a m f) n := by
  unfold lay
  rw [h.len]
  refine mk_ok fun j => ?_
  split
  · exact hf _
  · exact h.rng _
theorem lay_get {B : List Int} {n : Nat} (h : Ok B n) (a m : Nat) (f : Nat → Int) (j : Nat) (hj : j < 64 * n) : (lay B a m f).getD j 0 = if a ≤ j ∧ j < a + m then f (j - a) else B.getD j 0 :=
  mk_get _ _ _ (by rw [h.len]; exact hj)
theorem lay_len (B : List Int) (a m : Nat) (f : Nat → Int) : (lay B a m f).length = B.length := mk_len _ _
theorem lay_zero (B : List Int) (a : Nat) (f : Nat → Int) : lay B a 0 f = B := by
  refine ext (lay_len _ _ _ _) fun j hj => ?_
  rw [lay_len] at hj
  unfold lay
  rw [mk_get _ _ _ hj, if_neg (by omega)]
theorem lay_step (B : List Int) (a m : Nat) (f : Nat → Int) (h : a + m < B.length) : (lay B a m f).set (a + m) (f m) = lay B a (m + 1) f := by
  refine ext (by rw [List.length_set, lay_len, lay_len]) fun j hj => ?_
  rw [List.length_set, lay_len] at hj
  rw [Ln.getD_set _ _ _ _ (by rw [lay_len]; exact h)]
  unfold lay
  rw [mk_get _ _ _ hj, mk_get _ _ _ hj]
  by_cases c : j = a + m
  · subst c
    rw [if_pos rfl, if_pos (by omega), show a + m - a = m by omega]
  · rw [if_neg c]
    by_cases d : a ≤ j ∧ j < a + m
    · rw [if_pos d, if_pos (by omega)]
    · rw [if_neg d, if_neg (by omega)]
theorem st_lay (B : List Int) (a m : Nat) (v : Int) : st B a m v = lay B a m (Ln.byteOf v) := rfl
theorem setRow_lay {B : List Int} {n : Nat} (h : Ok B n) (i : Nat) (l : List Int) : setRow B i l = lay B (64 * i) 64 (fun k => l.getD k 0) := by
  refine ext (by rw [lay_len]; exact mk_len _ _) fun j hj => ?_
  have hj' : j < 64 * n := by rw [← h.len]; simpa [setRow, mk_len] using hj
  rw [setRow_get h _ _ _ hj', lay_get h _ _ _ _ hj']
  by_cases c : j / 64 = i
  · rw [if_pos c, if_pos (by omega)]
    congr 1
    omega
  · rw [if_neg c, if_neg (by omega)]
theorem num_cons (B : List Int) (a m : Nat) : Ln.num B a (m + 1) = B.getD a 0 + 256 * Ln.num B (a + 1) m := by
  rw [show m + 1 = 1 + m by omega, num_add B a 1 m]
  simp [Ln.num]
end Rm
theorem CsAt.setc {w : World} {b : Nat} {t : TypeId} {cs : Array Value} (h : CsAt w b t cs) (i : Nat) (v : Value) : CsAt (w.setCell ⟨b, i, none⟩ v) b t (cs.setIfInBounds i v) := heap_setCell_same w b i _ t _ h
/-- The reference's memory: its bytes at block gb. -/
structure RefAt (w : World) (gb : Nat) (t : TypeId) (n : Nat) (B : List Int) : Prop where
  ok : Rm.Ok B n
  n1 : n ≤ 4096
  row : ∃ Z : List Value, CsAt w gb t (B.map (Value.int .u8) ++ Z).toArray
theorem RefAt.lt {w : World} {gb : Nat} {t : TypeId} {n : Nat} {B : List Int} (h : RefAt w gb t n B) : gb < w.heap.size := by obtain ⟨Z, hZ⟩ := h.row; exact hZ.lt
theorem RefAt.cell {w : World} {gb : Nat} {t : TypeId} {n : Nat} {B : List Int} (h : RefAt w gb t n B) (j : Nat) (hj : j < 64 * n) : w.cell? ⟨gb, j, none⟩ = some (.int .u8 (B.getD j 0)) := by
  obtain ⟨Z, hZ⟩ := h.row
  have hl := h.ok.len
  rw [hZ.cell j, List.getElem?_toArray, List.getElem?_append_left (by rw [List.length_map]; omega), List.getElem?_map, List.getD, List.getElem?_eq_getElem (by omega)]
  rfl
theorem RefAt.frozen {w : World} {gb : Nat} {t : TypeId} {n : Nat} {B : List Int} (h : RefAt w gb t n B) (j : Nat) : w.frozen? ⟨gb, j, none⟩ = false := by
  obtain ⟨Z, hZ⟩ := h.row
  exact hZ.frozen j
theorem RefAt.only {w w' : World} {gb b : Nat} {t : TypeId} {n : Nat} {B : List Int} (h : RefAt w gb t n B) (ho : Only b w w') (hne : gb ≠ b) : RefAt w' gb t n B := by
  obtain ⟨Z, hZ⟩ := h.row
  exact ⟨h.ok, h.n1, Z, hZ.only ho hne⟩
theorem RefAt.low {w w' : World} {gb : Nat} {t : TypeId} {n : Nat} {B : List Int} (h : RefAt w gb t n B) (hb : Below w.heap.size w w') : RefAt w' gb t n B := by
  obtain ⟨Z, hZ⟩ := h.row
  exact ⟨h.ok, h.n1, Z, hZ.low hb⟩
theorem RefAt.set {w : World} {gb : Nat} {t : TypeId} {n : Nat} {B : List Int} (h : RefAt w gb t n B) (j : Nat) (hj : j < 64 * n) {x : Int} {B' : List Int} (hB : B.set j x = B') (hok : Rm.Ok B' n) : RefAt (w.setCell ⟨gb, j, none⟩ (.int .u8 x)) gb t n B' := by
  obtain ⟨Z, hZ⟩ := h.row
  refine ⟨hok, h.n1, Z, ?_⟩
  have := CsAt.setc hZ j (.int .u8 x)
  rw [List.setIfInBounds_toArray, List.set_append_left _ _ (by rw [List.length_map, h.ok.len]; exact hj), ← List.map_set, hB] at this
  exact this
/-- An owned row holds the memory. -/
theorem RefAt.of_own {w : World} {base : Nat} {e : TypeId} {v : Value} {n : Nat} {B : List Int} {xs : List Value} (h : w.ownsRow base e 1 v (64 * n) xs) (hx : xs = B.map (Value.int .u8)) (hok : Rm.Ok B n) (h1 : 1 ≤ n) (h2 : n ≤ 4096) :
    ∃ g cap, v = .slice (some ⟨g, 0, none⟩) (64 * n) cap ∧ base ≤ g ∧ RefAt w g e n B := by
  rcases h.2 with ⟨-, h0⟩ | ⟨g, cap, cur, rfl, hbg, hg, hnc, hcm, hcs, ht⟩
  · omega
  · refine ⟨g, cap, rfl, hbg, hok, h2, cur.toList.drop (64 * n * 1), ?_⟩
    rw [← hx, ← ht, List.take_append_drop, Array.toArray_toList]
    exact hg
theorem Only.setCell {b : Nat} {u w : World} (h : Only b u w) (j : Nat) (v : Value) : Only b u (w.setCell ⟨b, j, none⟩ v) :=
  h.trans ⟨rfl, rfl, rfl, by simp, fun k hk hne => Below.heap_setCell _ _ _ _ hne⟩
/-- The reference's M. -/
def mV (gb n cap : Nat) : Value := .agg #[.slice (some ⟨gb, 0, none⟩) (64 * n) cap]
theorem rhas_c {w : World} (gb n cap : Nat) (hn : n ≤ 4096) (x m : Int) (hx : 0 ≤ x ∧ x < 18446744073709551616) (hm : -9223372036854775808 ≤ m ∧ m ≤ 9223372036854775807) :
    Calls Tryz.prog 81 #[mV gb n cap, .int .u64 x, .int .i64 m] w fun e w' => e = .returned (.bool (hasB n x m)) ∧ Below w.heap.size w w' := by
  have HB := Lib.hid ((Below.refl w.heap.size w).alloc (Nat.le_refl _) (.cells #[.slice (some ⟨gb, 0, none⟩) (64 * n) cap] 36))
  unfold mV
  by_cases h1 : m < 1
  · have HE := Lib.hid (show hasB n x m = false by unfold hasB; simp; omega)
    have g1 : decide (m < 1) = true := by simpa using h1
    go_enter Tryz.func81, Tryz.ntmps81
    go_wp2_with fail
    go_ret
    exact ⟨lret_b HE.out.symm, HB.out⟩
  · have g1 : decide (m < 1) = false := by simpa using h1
    by_cases h2 : x < 2147483648
    · have HE := Lib.hid (show hasB n x m = false by unfold hasB; simp; omega)
      have g2 : decide (x < 2147483648) = true := by simpa using h2
      go_enter Tryz.func81, Tryz.ntmps81
      go_wp2_with fail
      go_ret
      exact ⟨lret_b HE.out.symm, HB.out⟩
    · have g2 : decide (x < 2147483648) = false := by simpa using h2
      by_cases h3 : ((64 * n : Nat) : Int) ≤ x - 2147483648
      · have g3 : decide (((64 * n : Nat) : Int) ≤ x - 2147483648) = true := by simpa using h3
        have g4 : decide (64 * (n : Int) ≤ x - 2147483648) = true := by simp; omega
        have HE := Lib.hid (show hasB n x m = false by unfold hasB; simp; omega)
        go_enter Tryz.func81, Tryz.ntmps81
        go_wp2_with fail
        go_ret
        exact ⟨lret_b HE.out.symm, HB.out⟩
      · have g3 : decide (((64 * n : Nat) : Int) ≤ x - 2147483648) = false := by simpa using h3
        have g4 : decide (64 * (n : Int) ≤ x - 2147483648) = false := by simp; omega
        have HE := Lib.hid (show hasB n x m = decide (m ≤ 64 * (n : Int) - (x - 2147483648)) by unfold hasB; exact decide_eq_decide.2 (by omega))
        go_enter Tryz.func81, Tryz.ntmps81
        go_wp2_with fail
        go_ret
        exact ⟨lret_b HE.out.symm, HB.out⟩
end Go.Proofs.YtjeolfcefeglpabGreat
set_option maxRecDepth 20000
namespace Go.Proofs.YtjeolfcefeglpabGreat
open Go.ChangeShapes Go.WideShapes Go.ChangeAt Go.RowKit Wd

theorem CsAt.farc {w : World} {b : Nat} {t : TypeId} {cs : Array Value} (h : CsAt w b t cs) {c i : Nat} (hne : b ≠ c) (v : Value) : CsAt (w.setCell ⟨c, i, none⟩ v) b t cs := (heap_setCell_other w ⟨c, i, none⟩ b v hne).trans h
theorem rload_round {B : List Int} {n : Nat} (h : Rm.Ok B n) (a m : Nat) (hm : m < 8) : IntKind.u64.wrap (IntKind.u64.wrap (Ln.num B (a + 1) m * 256) + B.getD a 0) = Ln.num B a (m + 1) := by
  have r := Rm.num_rng h (a + 1) m
  have r' := num_u64 h a (m + 1) (by omega)
  have b := h.rng a
  rw [Rm.num_cons] at r' ⊢
  rw [IntKind.wrap_u64, IntKind.wrap_u64]
  omega
theorem rhasN {n : Nat} {x m : Int} (h : m ≤ 8) : hasN n x m = hasB n x m := by unfold hasN; rw [decide_eq_true h, Bool.true_and]
set_option maxHeartbeats 2000000 in
theorem rload_c {w : World} {gb n : Nat} (cap : Nat) {t : TypeId} {B : List Int} (h : RefAt w gb t n B) (x m : Int) (hx : 0 ≤ x ∧ x < 18446744073709551616) (hm : -9223372036854775808 ≤ m ∧ m ≤ 9223372036854775807) :
    Calls Tryz.prog 83 #[mV gb n cap, .int .u64 x, .int .i64 m] w fun e w' => e = .returned (.tuple #[.int .u64 (ldV B n x m), .bool (hasN n x m)]) ∧ Below w.heap.size w w' := by
  have hB := (Below.refl w.heap.size w).alloc (Nat.le_refl _) (.cells #[.slice (some ⟨gb, 0, none⟩) (64 * n) cap] 36)
  have HH := Lib.hid (h.low hB)
  have HC := Lib.hid (CsAt.new w 36 #[.slice (some ⟨gb, 0, none⟩) (64 * n) cap])
  have HB := Lib.hid hB
  have HX := Lib.hid hx
  have HM := Lib.hid hm
  have hn := h.n1
  clear h hB hx hm
  by_cases h8 : 8 < m
  · have g8 : decide (8 < m) = true := by simpa using h8
    have HE := Lib.hid (show hasN n x m = false by unfold hasN; rw [decide_eq_false (by omega), Bool.false_and])
    have HV := Lib.hid (show ldV B n x m = 0 by unfold ldV; rw [HE.out]; rfl)
    unfold mV
    go_enter Tryz.func83, Tryz.ntmps83
    go_wp2_with fail
    go_ret2
    exact ⟨lret_nb HV.out.symm HE.out.symm, HB.out⟩
  · have g8 : decide (8 < m) = false := by simpa using h8
    have HN := Lib.hid (rhasN (n := n) (x := x) (show m ≤ 8 by omega))
    cases hf : hasN n x m
    · have HE := Lib.hid hf
      have HV := Lib.hid (show ldV B n x m = 0 by unfold ldV; rw [hf]; rfl)
      clear hf
      unfold mV
      have c0 := HC.out.cell 0
      go_enter Tryz.func83, Tryz.ntmps83
      go_wp2_with fail
      generalize w.alloc (.cells #[.slice (some ⟨gb, 0, none⟩) (64 * n) cap] 36) = w1 at *
      refine (rhas_c gb n cap hn x m HX.out HM.out).mono ?_
      rintro e w2 ⟨rfl, hb⟩
      have HB2 := Lib.hid (HB.out.trans (hb.mono HB.out.size))
      clear hb
      rw [← HN.out, HE.out]
      go_wp2_with fail
      go_ret2
      exact ⟨lret_nb HV.out.symm rfl, HB2.out⟩
    · obtain ⟨i, p, k, hp, hi, hk1, hk8, rfl, rfl, hle⟩ := addr_of hf
      have HE := Lib.hid hf
      have HV := Lib.hid (show ldV B n (2147483648 + ((64 * i + p : Nat) : Int)) (k : Int) = Ln.num B (64 * i + p) k by
        unfold ldV
        rw [hf, show (2147483648 + ((64 * i + p : Nat) : Int) - 2147483648).toNat = 64 * i + p by omega, Int.toNat_natCast]
        rfl)
      obtain ⟨a, ha⟩ : ∃ a, 64 * i + p = a := ⟨_, rfl⟩
      rw [ha] at HV HE hle HN HX ⊢
      clear hf ha hi hp
      unfold mV
      have c0 := HC.out.cell 0
      go_enter Tryz.func83, Tryz.ntmps83
      go_wp2_with fail
      generalize w.alloc (.cells #[.slice (some ⟨gb, 0, none⟩) (64 * n) cap] 36) = w1 at *
      refine (rhas_c gb n cap hn _ (k : Int) HX.out HM.out).mono ?_
      rintro e w2 ⟨rfl, hb⟩
      have HB2 := Lib.hid (HB.out.trans (hb.mono HB.out.size))
      have HH2 := Lib.hid (HH.out.low hb)
      have HC2 := Lib.hid (HC.out.low hb)
      clear hb c0 HB HH HC
      have c0 := HC2.out.cell 0
      rw [← HN.out, HE.out]
      go_wp2_with fail
      go_loop [8, 9] (fun v i => ∃ j : Nat, j ≤ k ∧ i = .int .i64 ((j : Int) - 1) ∧ v = .int .u64 (Ln.num B (a + j) (k - j))) (fun _ i => ((intOf i) + 1).toNat)
      case atStart => exact ⟨k, Nat.le_refl _, rfl, by rw [Nat.sub_self]; rfl⟩
      case round =>
        obtain ⟨j, hj, rfl, rfl⟩ := hrel
        rcases j with _ | j
        · go_wp2_with fail
          go_ret2
          exact ⟨lret_nb (by rw [HV.out]) rfl, HB2.out⟩
        · have hc := HH2.out.cell (a + j) (by omega)
          have HR := Lib.hid (rload_round HH2.out.ok (a + j) (k - (j + 1)) (by omega))
          have hb := HH2.out.ok.rng (a + j)
          rw [show a + j + 1 = a + (j + 1) by omega, show k - (j + 1) + 1 = k - j by omega] at HR
          have hi : (((j + 1 : Nat) : Int) - 1) = (j : Int) := by omega
          rw [hi]
          have hjb : (a : Int) + (j : Int) < 64 * (n : Int) := by omega
          generalize B.getD (a + j) 0 = z at *
          generalize Ln.num B (a + (j + 1)) (k - (j + 1)) = q at *
          go_wp2_with fail
          go_round
          case rel => exact ⟨j, by omega, rfl, by rw [← HR.out]⟩
          case measure => simp [intOf]
theorem rstore_round {v : Int} (hv : 0 ≤ v ∧ v < 18446744073709551616) (j : Nat) : (0 ≤ v / 256 ^ j ∧ v / 256 ^ j < 18446744073709551616) ∧ IntKind.u8.wrap (v / 256 ^ j % 256) = v / 256 ^ j % 256 ∧ v / 256 ^ j / 256 = v / 256 ^ (j + 1) := by
  have h1 : 0 ≤ v / 256 ^ j := Int.ediv_nonneg hv.1 (Int.le_of_lt (Int.pow_pos (by decide)))
  have h2 : v / 256 ^ j ≤ v := Int.ediv_le_self _ hv.1
  refine ⟨⟨h1, by omega⟩, by rw [IntKind.wrap_u8]; omega, ?_⟩
  rw [Int.ediv_ediv_of_nonneg (Int.le_of_lt (Int.pow_pos (by decide))), Int.pow_succ]
set_option maxHeartbeats 2000000 in
theorem rstore_c {w : World} {gb n : Nat} (cap : Nat) {t : TypeId} {B : List Int} (h : RefAt w gb t n B) (x m v : Int) (hx : 0 ≤ x ∧ x < 18446744073709551616) (hm : -9223372036854775808 ≤ m ∧ m ≤ 9223372036854775807) (hv : 0 ≤ v ∧ v < 18446744073709551616) :
    Calls Tryz.prog 84 #[mV gb n cap, .int .u64 x, .int .i64 m, .int .u64 v] w fun e w' => e = .returned (.bool (hasN n x m)) ∧ RefAt w' gb t n (stV B n x m v) ∧ Only gb w w' := by
  have hB := (Below.refl w.heap.size w).alloc (Nat.le_refl _) (.cells #[.slice (some ⟨gb, 0, none⟩) (64 * n) cap] 36)
  have HH := Lib.hid (h.low hB)
  have HC := Lib.hid (CsAt.new w 36 #[.slice (some ⟨gb, 0, none⟩) (64 * n) cap])
  have HB := Lib.hid hB
  have HX := Lib.hid hx
  have HM := Lib.hid hm
  have HVV := Lib.hid hv
  have hn := h.n1
  have hlt := h.lt
  clear h hB hx hm hv
  by_cases h8 : 8 < m
  · have g8 : decide (8 < m) = true := by simpa using h8
    have HE := Lib.hid (show hasN n x m = false by unfold hasN; rw [decide_eq_false (by omega), Bool.false_and])
    have HV := Lib.hid (show B = stV B n x m v by unfold stV; rw [HE.out]; rfl)
    unfold mV
    go_enter Tryz.func84, Tryz.ntmps84
    go_wp2_with fail
    go_ret
    exact ⟨lret_b HE.out.symm, HV.out ▸ HH.out, Only.of_below HB.out⟩
  · have g8 : decide (8 < m) = false := by simpa using h8
    have HN := Lib.hid (rhasN (n := n) (x := x) (show m ≤ 8 by omega))
    cases hf : hasN n x m
    · have HE := Lib.hid hf
      have HV := Lib.hid (show B = stV B n x m v by unfold stV; rw [hf]; rfl)
      clear hf
      unfold mV
      have c0 := HC.out.cell 0
      go_enter Tryz.func84, Tryz.ntmps84
      go_wp2_with fail
      generalize w.alloc (.cells #[.slice (some ⟨gb, 0, none⟩) (64 * n) cap] 36) = w1 at *
      refine (rhas_c gb n cap hn x m HX.out HM.out).mono ?_
      rintro e w2 ⟨rfl, hb⟩
      have HB2 := Lib.hid (HB.out.trans (hb.mono HB.out.size))
      have HH2 := Lib.hid (HH.out.low hb)
      clear hb
      rw [← HN.out, HE.out]
      go_wp2_with fail
      go_ret
      exact ⟨rfl, HV.out ▸ HH2.out, Only.of_below HB2.out⟩
    · obtain ⟨i, p, k, hp, hi, hk1, hk8, rfl, rfl, hle⟩ := addr_of hf
      have HE := Lib.hid hf
      have HV := Lib.hid (show stV B n (2147483648 + ((64 * i + p : Nat) : Int)) (k : Int) v = Rm.st B (64 * i + p) k v by
        unfold stV
        rw [hf, show (2147483648 + ((64 * i + p : Nat) : Int) - 2147483648).toNat = 64 * i + p by omega, Int.toNat_natCast]
        rfl)
      obtain ⟨a, ha⟩ : ∃ a, 64 * i + p = a := ⟨_, rfl⟩
      rw [ha] at HV HE hle HN HX ⊢
      rw [HV.out]
      clear hf ha hi hp HV
      unfold mV
      have c0 := HC.out.cell 0
      go_enter Tryz.func84, Tryz.ntmps84
      go_wp2_with fail
      generalize w.alloc (.cells #[.slice (some ⟨gb, 0, none⟩) (64 * n) cap] 36) = w1 at *
      refine (rhas_c gb n cap hn _ (k : Int) HX.out HM.out).mono ?_
      rintro e w2 ⟨rfl, hb⟩
      have HB2 := Lib.hid (HB.out.trans (hb.mono HB.out.size))
      have HH2 := Lib.hid (HH.out.low hb)
      have HC2 := Lib.hid (HC.out.low hb)
      clear hb c0 HB HH HC
      rw [← HN.out, HE.out]
      have HO2 := Lib.hid (Only.of_below (b := gb) HB2.out)
      have HZ := Lib.hid (show RefAt w2 gb t n (Rm.st B a 0 v) by rw [Rm.st_lay, Rm.lay_zero]; exact HH2.out)
      clear HB2
      go_wp2_with fail
      go_loopw [3, 9] (fun val i wr => ∃ j : Nat, j ≤ k ∧ i = .int .i64 (j : Int) ∧ val = .int .u64 (v / 256 ^ j) ∧ RefAt wr gb t n (Rm.st B a j v) ∧ Only gb w wr ∧ CsAt wr w.heap.size 36 #[.slice (some ⟨gb, 0, none⟩) (64 * n) cap]) (fun _ i _ => k - (intOf i).toNat)
      case atStart => exact ⟨0, Nat.zero_le _, rfl, by simp, HZ.out, HO2.out, HC2.out⟩
      case round =>
        obtain ⟨j, hj, rfl, rfl, hR, hO, hC⟩ := hrel
        have hne : gb ≠ w.heap.size := by omega
        have HR := Lib.hid hR
        have HO := Lib.hid hO
        have HC := Lib.hid hC
        clear hR hO hC
        by_cases hjk : j = k
        · subst hjk
          go_wp2_with fail
          go_ret
          exact ⟨rfl, HR.out, HO.out⟩
        · have hlt2 : (j : Int) < (k : Int) := by omega
          have c0 := HC.out.cell 0
          have hcell := HR.out.cell (a + j) (by omega)
          have hfr := HR.out.frozen (a + j)
          have HQ := Lib.hid (rstore_round HVV.out j)
          generalize hq : v / 256 ^ j = q at *
          have hq0 := HQ.out.1
          have HB := Lib.hid (show (Rm.st B a j v).set (a + j) (q % 256) = Rm.st B a (j + 1) v by
            have := Rm.lay_step B a j (Ln.byteOf v) (by have := HH2.out.ok.len; omega)
            rw [← Rm.st_lay, ← Rm.st_lay] at this
            rw [← this, ← hq]
            rfl)
          have HOK := Lib.hid (show Rm.Ok (Rm.st B a (j + 1) v) n from Rm.st_ok HH2.out.ok _ _ _)
          have HQ2 := Lib.hid (show q / 256 = v / 256 ^ (j + 1) from HQ.out.2.2)
          clear hq HQ
          generalize (Rm.st B a j v).getD (a + j) 0 = z at hcell
          go_wp2_with fail
          go_roundw
          case rel => exact ⟨j + 1, by omega, by go_num, by rw [HQ2.out], HR.out.set (a + j) (by omega) HB.out HOK.out, HO.out.setCell _ _, CsAt.farc HC.out hne.symm _⟩
          case measure => simp [intOf]; omega
end Go.Proofs.YtjeolfcefeglpabGreat
