/-
  What the laws' frames share: the program's knobs, and an array of two integers that came in, opened. What the listed variables give layer 6's walks: the tables in memory; and a heap in which they lie so (the door's own, and the pinned table of unicode/utf8 beside).
-/
import Derived.Test.YthehcplogkgkeaaGreatDoorRows
import Derived.WalkKit
import Derived.ProofKit
import Derived.OpenShut
import Derived.ShutString
import Derived.ChangeOld
import Derived.Below
import Derived.Test.YthehcplogkgkeaaGreatDoorQu
import Derived.LaidMore
import Derived.Stop.Joined
import Derived.Stop.LaidErr
import Derived.Lib.LaidTab
import Derived.Shelf.Vars
set_option maxRecDepth 4000
namespace Go.Proofs.YthehcplogkgkeaaGreatDoor
open Go.ChangeShapes Go.WideShapes Go.ChangeAt Go.RowKit

theorem own : ownKnob Tryz.prog.godebug = none := by kernel_rfl
theorem laidOut : laidOutB Tryz.prog = true := by kernel_rfl

theorem open_arr2 {H : Type} {enc : TypeId × Value → H} {w : World} {r : Reach} {b0 base : Nat} {spare : Nat → Bool} {held : Bool} {t e : TypeId} {k : IntKind} {v : Value} {d : DataW H} {ps : List MemPlace}
    (ht : Tryz.prog.underlying t = some (.array 2 e)) (he : Tryz.prog.underlying e = some (.int k)) (hct : Tryz.prog.cellsOf t = 2) (hce : Tryz.prog.cellsOf e = 1)
    (hval : Value.okWide Tryz.prog w r b0 t v) (hd : DataW.Trod enc Tryz.prog w base spare held t v d ps) :
    ∃ a b, v = .agg #[.int k a, .int k b] ∧ (Lit.int k a).wf = true ∧ (Lit.int k b).wf = true := by
  simp only [Value.okWide, ht] at hval
  obtain ⟨cs, rfl, hsz, _⟩ := hval
  obtain ⟨fuel, hf⟩ := hd
  obtain ⟨xs, m, rfl, _, hl, hxl, hall⟩ := DataW.trod_array ht hf
  rw [hct] at hsz
  have h0 := hall 0 (by omega)
  have h1 := hall 1 (by omega)
  rw [hce] at h0 h1
  have hx0 : ∃ x, xs[0]? = some x := ⟨xs[0], by simp [hxl]⟩
  have hx1 : ∃ x, xs[1]? = some x := ⟨xs[1], by simp [hxl]⟩
  obtain ⟨x0, hx0⟩ := hx0
  obtain ⟨x1, hx1⟩ := hx1
  rw [hx0] at h0
  rw [hx1] at h1
  obtain ⟨a, ha, _, hwa⟩ := DataW.trod_int he h0
  obtain ⟨b, hb, _, hwb⟩ := DataW.trod_int he h1
  refine ⟨a, b, ?_, hwa, hwb⟩
  obtain ⟨l⟩ := cs
  match l, hsz with
  | [c0, c1], _ =>
    simp [Value.cells] at ha hb
    subst ha
    subst hb
    rfl
end Go.Proofs.YthehcplogkgkeaaGreatDoor
set_option maxRecDepth 4000
namespace Go.Proofs.YthehcplogkgkeaaGreatDoor
open Go.ChangeShapes Go.WideShapes Go.ChangeAt Go.RowKit Wd

theorem cells6 {H : Type} {enc : TypeId × Value → H} {W : World} {base n m g : Nat} {sp : Nat → Bool} {held : Bool} {t e : TypeId} {k : IntKind} {cs : Array Value} {v : String} {q : Nat → Int} {ps : List MemPlace}
    (hg : Tryz.prog.globalNamed v = some g) (hv : W.var? Tryz.prog v = some cs) (ht : Tryz.prog.underlying t = some (.array n e)) (he : Tryz.prog.underlying e = some (.int k)) (hc : Tryz.prog.cellsOf e = 1)
    (hd : DataW.trod enc Tryz.prog W base sp held m t cs.toList = some (.agg ((List.range n).map fun j => .lit (.int k (q j))), ps)) (j : Nat) (hj : j < n) : W.cell? ⟨g, j, none⟩ = some (.int k (q j)) := by
  obtain ⟨xs, m1, -, hx1, hlen, hn3, hel⟩ := DataW.trod_array ht hd
  simp only [Prod.mk.injEq, DataW.agg.injEq] at hx1
  have h0 := hel j hj
  rw [hc] at h0
  have hxj : xs[j]? = some (xs[j]'(by omega)) := List.getElem?_eq_getElem _
  rw [hxj] at h0
  obtain ⟨a, e1, e2, -⟩ := DataW.trod_int he h0
  have hl : (xs.map (·.1))[j]? = some (DataW.lit (.int k (q j))) := by rw [← hx1.1]; simp [hj]
  rw [List.getElem?_map, hxj, e2] at hl
  simp at hl
  subst hl
  rw [World.var?_cell hg hv j]
  have : cs.toList[j]? = some (.int k (q j)) := by
    have h1 : ((cs.toList.drop (j * 1)).take 1)[0]? = some (.int k (q j)) := by rw [e1]; rfl
    simpa using h1
  simpa using this
theorem strs6 {H : Type} {enc : TypeId × Value → H} {W : World} {base n m g : Nat} {sp : Nat → Bool} {held : Bool} {t e : TypeId} {cs : Array Value} {v : String} {q : Nat → List UInt8} {ps : List MemPlace}
    (hg : Tryz.prog.globalNamed v = some g) (hv : W.var? Tryz.prog v = some cs) (ht : Tryz.prog.underlying t = some (.array n e)) (he : Tryz.prog.underlying e = some .string) (hc : Tryz.prog.cellsOf e = 1)
    (hd : DataW.trod enc Tryz.prog W base sp held m t cs.toList = some (.agg ((List.range n).map fun j => .lit (.string (q j))), ps)) (j : Nat) (hj : j < n) : W.cell? ⟨g, j, none⟩ = some (.string ⟨(q j).toArray⟩) := by
  obtain ⟨xs, m1, -, hx1, hlen, hn3, hel⟩ := DataW.trod_array ht hd
  simp only [Prod.mk.injEq, DataW.agg.injEq] at hx1
  have h0 := hel j hj
  rw [hc] at h0
  have hxj : xs[j]? = some (xs[j]'(by omega)) := List.getElem?_eq_getElem _
  rw [hxj] at h0
  obtain ⟨s, e1, e2, -⟩ := DataW.trod_string he h0
  have hl : (xs.map (·.1))[j]? = some (DataW.lit (.string (q j))) := by rw [← hx1.1]; simp [hj]
  rw [List.getElem?_map, hxj, e2] at hl
  simp at hl
  rw [World.var?_cell hg hv j]
  have : cs.toList[j]? = some (.string s) := by
    have h1 : ((cs.toList.drop (j * 1)).take 1)[0]? = some (.string s) := by rw [e1]; rfl
    simpa using h1
  rw [← hl]
  simpa using this
theorem order_elem {H : Type} {enc : TypeId × Value → H} {W : World} {base m : Nat} {sp : Nat → Bool} {held : Bool} {l : List Value} {x : DataW H × List MemPlace} {s : List UInt8} {b c : Bool}
    (hd : DataW.trod enc Tryz.prog W base sp held m 106 l = some x) (hx : x.1 = .agg [.lit (.string s), .lit (.bool b), .lit (.bool c)]) : l = [.string ⟨s.toArray⟩, .bool b, .bool c] := by
  obtain ⟨xs, n, -, rfl, hl, hlen, hg⟩ := DataW.trod_struct Tryz.underlying106 hd
  have hC : Tryz.prog.cellsOf 106 = 3 := by kernel_rfl
  have k0 : Tryz.prog.cellsOf 9 = 1 := by kernel_rfl
  have k1 : Tryz.prog.cellsOf 4 = 1 := by kernel_rfl
  rw [hC] at hl
  have hsome : ∀ i, i < 3 → ∃ x, xs[i]? = some x := fun i hi => ⟨xs[i]'(by rw [hlen]; exact hi), List.getElem?_eq_getElem _⟩
  match l, hl with
  | [c0, c1, c2], _ =>
    have h0 := hg 0 _ rfl
    have h1 := hg 1 _ rfl
    have h2 := hg 2 _ rfl
    obtain ⟨x0, e0⟩ := hsome 0 (by decide)
    obtain ⟨x1, e1⟩ := hsome 1 (by decide)
    obtain ⟨x2, e2⟩ := hsome 2 (by decide)
    change DataW.trod enc Tryz.prog W base sp held n 9 (List.take (Tryz.prog.cellsOf 9) (List.drop 0 _)) = _ at h0
    change DataW.trod enc Tryz.prog W base sp held n 4 (List.take (Tryz.prog.cellsOf 4) (List.drop 1 _)) = _ at h1
    change DataW.trod enc Tryz.prog W base sp held n 4 (List.take (Tryz.prog.cellsOf 4) (List.drop 2 _)) = _ at h2
    rw [k0, e0] at h0
    rw [k1, e1] at h1
    rw [k1, e2] at h2
    obtain ⟨a0, q0, p0, -⟩ := DataW.trod_string Tryz.underlying9 h0
    obtain ⟨a1, q1, p1⟩ := DataW.trod_bool Tryz.underlying4 h1
    obtain ⟨a2, q2, p2⟩ := DataW.trod_bool Tryz.underlying4 h2
    simp only [DataW.agg.injEq] at hx
    have z0 : (xs.map (·.1))[0]? = some (.lit (.string s)) := by rw [hx]; rfl
    have z1 : (xs.map (·.1))[1]? = some (.lit (.bool b)) := by rw [hx]; rfl
    have z2 : (xs.map (·.1))[2]? = some (.lit (.bool c)) := by rw [hx]; rfl
    rw [List.getElem?_map, e0, p0] at z0
    rw [List.getElem?_map, e1, p1] at z1
    rw [List.getElem?_map, e2, p2] at z2
    simp at z0 z1 z2 q0 q1 q2
    subst z1 z2
    rw [q0, q1, q2, ← z0]
theorem gOrders : Tryz.prog.globalNamed "roebuck/asm.orders" = some 0 := by kernel_rfl
theorem tOrders : (Tryz.prog.globals[0]?).map (·.type) = some 107 := by kernel_rfl
theorem seg3 {l : List Value} {j : Nat} {a b c : Value} (h : (l.drop (j * 3)).take 3 = [a, b, c]) : l[j * 3]? = some a ∧ l[j * 3 + 1]? = some b ∧ l[j * 3 + 2]? = some c := by
  have h0 := congrArg (·[0]?) h
  have h1 := congrArg (·[1]?) h
  have h2 := congrArg (·[2]?) h
  simp only [List.getElem?_take, List.getElem?_drop] at h0 h1 h2
  simpa using ⟨h0, h1, h2⟩
theorem orders_of {W : World} {rest : List (String × DataW Unit)} (h : laidMet Tryz.prog (("roebuck/asm.orders", Rows.laid_roebuck_asm_orders) :: rest) W) : OrdersAt W := by
  obtain ⟨ps, ⟨g0, t0, cs, f0, p0, q0, hg0, ht0, hv0, hd0, _, _⟩, _, _⟩ := h
  obtain rfl := Option.some.inj (gOrders.symm.trans hg0)
  obtain rfl := Option.some.inj (tOrders.symm.trans ht0)
  obtain ⟨xs, m1, -, hx1, hlen, hn3, hel⟩ := DataW.trod_array Tryz.underlying107 hd0
  simp only [Prod.mk.injEq] at hx1
  have hC : Tryz.prog.cellsOf 106 = 3 := by kernel_rfl
  rw [hC] at hel
  have hsome : ∀ i, i < 4 → ∃ x, xs[i]? = some x := fun i hi => ⟨xs[i]'(by omega), List.getElem?_eq_getElem _⟩
  have key : ∀ j, j < 4 → ∀ (s : List UInt8) (b c : Bool), (xs.map (·.1))[j]? = some (.agg [.lit (.string s), .lit (.bool b), .lit (.bool c)]) →
      W.cell? ⟨0, j * 3, none⟩ = some (.string ⟨s.toArray⟩) ∧ W.cell? ⟨0, j * 3 + 1, none⟩ = some (.bool b) ∧ W.cell? ⟨0, j * 3 + 2, none⟩ = some (.bool c) := by
    intro j hj s b c hz
    obtain ⟨x, ex⟩ := hsome j hj
    have h0 := hel j hj
    rw [ex] at h0
    rw [List.getElem?_map, ex] at hz
    have e := order_elem h0 (Option.some.inj hz)
    obtain ⟨a1, a2, a3⟩ := seg3 e
    rw [World.var?_cell hg0 hv0, World.var?_cell hg0 hv0, World.var?_cell hg0 hv0]
    simp only [Array.getElem?_toList] at a1 a2 a3
    exact ⟨a1, a2, a3⟩
  have hL : xs.map (·.1) = [.agg [.lit (.string []), .lit (.bool false), .lit (.bool false)], .agg [.lit (.string [46, 97, 113]), .lit (.bool true), .lit (.bool false)], .agg [.lit (.string [46, 114, 108]), .lit (.bool false), .lit (.bool true)], .agg [.lit (.string [46, 97, 113, 114, 108]), .lit (.bool true), .lit (.bool true)]] := by
    have := hx1.1
    unfold Rows.laid_roebuck_asm_orders at this
    simp only [DataW.agg.injEq] at this
    exact this.symm
  obtain ⟨a0, a1, a2⟩ := key 0 (by decide) _ _ _ (by rw [hL]; rfl)
  obtain ⟨b0, b1, b2⟩ := key 1 (by decide) _ _ _ (by rw [hL]; rfl)
  obtain ⟨c0, c1, c2⟩ := key 2 (by decide) _ _ _ (by rw [hL]; rfl)
  obtain ⟨d0, d1, d2⟩ := key 3 (by decide) _ _ _ (by rw [hL]; rfl)
  exact ⟨a0, a1, a2, b0, b1, b2, c0, c1, c2, d0, d1, d2, lt_cell a0⟩
theorem gFields6 : Tryz.prog.globalNamed "roebuck/insn.fields" = some 2 := by kernel_rfl
theorem tFields6 : (Tryz.prog.globals[2]?).map (·.type) = some 138 := by kernel_rfl
theorem flds6 {H : Type} : (Rows.laid_roebuck_insn_fields : DataW H) = .agg ((List.range 15).map fun k => .lit (.int .u8 ((fldL.getD k 0 : Nat) : Int))) := by kernel_rfl
theorem fields_of {W : World} {rest : List (String × DataW Unit)} (h : laidMet Tryz.prog (("roebuck/insn.fields", Rows.laid_roebuck_insn_fields) :: rest) W) : FldsAt W := by
  obtain ⟨ps, ⟨g0, t0, cs, f0, p0, q0, hg0, ht0, hv0, hd0, _, _⟩, _, _⟩ := h
  obtain rfl := Option.some.inj (gFields6.symm.trans hg0)
  obtain rfl := Option.some.inj (tFields6.symm.trans ht0)
  rw [flds6] at hd0
  have cf := fun j hj => cells6 hg0 hv0 Tryz.underlying138 Tryz.underlying5 (by kernel_rfl) hd0 j hj
  exact ⟨cf, lt_cell (cf 0 (by decide))⟩
theorem gNames6 : Tryz.prog.globalNamed "roebuck/regs.names" = some 3 := by kernel_rfl
theorem tNames6 : (Tryz.prog.globals[3]?).map (·.type) = some 177 := by kernel_rfl
theorem nms6 {H : Type} : (Rows.laid_roebuck_regs_names : DataW H) = .agg ((List.range 32).map fun k => .lit (.string (Rg.nmR k))) := by kernel_rfl
theorem names_of {W : World} {rest : List (String × DataW Unit)} (h : laidMet Tryz.prog (("roebuck/regs.names", Rows.laid_roebuck_regs_names) :: rest) W) : Rg.NamesAt W := by
  obtain ⟨ps, ⟨g0, t0, cs, f0, p0, q0, hg0, ht0, hv0, hd0, _, _⟩, _, _⟩ := h
  obtain rfl := Option.some.inj (gNames6.symm.trans hg0)
  obtain rfl := Option.some.inj (tNames6.symm.trans ht0)
  rw [nms6] at hd0
  have cf := fun j hj => strs6 hg0 hv0 Tryz.underlying177 Tryz.underlying9 (by kernel_rfl) hd0 j hj
  exact ⟨lt_cell (cf 0 (by decide)), cf⟩
theorem gPow6 : Tryz.prog.globalNamed "internal/strconv.uint64pow10" = some 6 := by kernel_rfl
theorem tPow6 : (Tryz.prog.globals[6]?).map (·.type) = some 183 := by kernel_rfl
theorem pow6 {H : Type} : (Rows.laid_internal_strconv_uint64pow10 : DataW H) = Lib.tabData .u64 Lib.pow10Tab := by kernel_rfl
theorem pow_of {W : World} {rest : List (String × DataW Unit)} (h : laidMet Tryz.prog (("internal/strconv.uint64pow10", Rows.laid_internal_strconv_uint64pow10) :: rest) W) : PowAt W := by
  rw [pow6] at h
  exact Lib.tabIs_of_head gPow6 tPow6 Tryz.underlying183 Tryz.underlying41 (by kernel_rfl) (by kernel_rfl) h
theorem star6 : "*" ++ "errors.errorString" = "*errors.errorString" := by decide
theorem rowErr (u : TypeId) (h : Tryz.prog.typeName? 3 u = some "*errors.errorString") : u = 190 :=
  typeName_ptr_named (nm := "errors.errorString") (by rw [star6]; kernel_rfl) (by kernel_rfl) (by decide) u (by rw [star6]; exact h)
theorem gSyn : Tryz.prog.globalNamed "strconv.ErrSyntax" = some 4 := by kernel_rfl
theorem tSyn : (Tryz.prog.globals[4]?).map (·.type) = some 66 := by kernel_rfl
theorem gRng : Tryz.prog.globalNamed "strconv.ErrRange" = some 5 := by kernel_rfl
theorem tRng : (Tryz.prog.globals[5]?).map (·.type) = some 66 := by kernel_rfl
theorem syn_of {W : World} {rest : List (String × DataW Unit)} (h : laidMet Tryz.prog (("strconv.ErrSyntax", Rows.laid_strconv_ErrSyntax) :: rest) W) : ∃ p, W.var? Tryz.prog "strconv.ErrSyntax" = some #[.iface 190 p] := by
  obtain ⟨a, s, hv, -⟩ := laid_sentinel h gSyn tSyn Tryz.underlying66 rowErr Tryz.underlying190 Tryz.underlying192 rfl rfl Tryz.underlying9 (by kernel_rfl) (by kernel_rfl)
  exact ⟨_, hv⟩
theorem rng_of {W : World} {rest : List (String × DataW Unit)} (h : laidMet Tryz.prog (("strconv.ErrRange", Rows.laid_strconv_ErrRange) :: rest) W) : ∃ p, W.var? Tryz.prog "strconv.ErrRange" = some #[.iface 190 p] := by
  obtain ⟨a, s, hv, -⟩ := laid_sentinel h gRng tRng Tryz.underlying66 rowErr Tryz.underlying190 Tryz.underlying192 rfl rfl Tryz.underlying9 (by kernel_rfl) (by kernel_rfl)
  exact ⟨_, hv⟩
/-- The variables that the rows of AsmTexts and AsmParses list. -/
abbrev laidA : List (String × DataW Unit) := [("math/bits.deBruijn32tab", Rows.laid_math_bits_deBruijn32tab), ("math/bits.deBruijn64tab", Rows.laid_math_bits_deBruijn64tab), ("internal/strconv.uint64pow10", Rows.laid_internal_strconv_uint64pow10), ("roebuck/insn.fields", Rows.laid_roebuck_insn_fields), ("unicode/utf8.acceptRanges", Rows.laid_unicode_utf8_acceptRanges), ("strconv.ErrRange", Rows.laid_strconv_ErrRange), ("strconv.ErrSyntax", Rows.laid_strconv_ErrSyntax), ("roebuck/regs.names", Rows.laid_roebuck_regs_names), ("roebuck/asm.orders", Rows.laid_roebuck_asm_orders), ("unicode/utf8.first", Rows.laid_unicode_utf8_first)]
theorem of_laidA {W : World} (h : laidMetH Tryz.prog laidA W) : AsmOk W ∧ ErrsAt W := by
  rw [MakeChecks.laidMetH_plain _ _ _ (by kernel_rfl)] at h
  have h2 := h.tail.tail
  have h3 := h2.tail
  have h5 := h3.tail.tail
  have h6 := h5.tail
  have h7 := h6.tail
  have h8 := h7.tail
  obtain ⟨p, hp⟩ := syn_of h6
  obtain ⟨q, hq⟩ := rng_of h5
  exact ⟨⟨names_of h7, fields_of h3, orders_of h8, pow_of h2⟩, ⟨⟨_, p, _, q, hp, hq⟩, pow_of h2⟩⟩
theorem max_of {W : World} (h : W.ShapedOpen Tryz.prog) : MaxAt W :=
  Go.Proofs.cell_of_shapedOpen_int (zero := #[.int .i64 0]) (t := 3) h (of_decide_eq_true (by kernel_rfl)) (by kernel_rfl) rfl (by kernel_rfl) (by kernel_rfl) Tryz.underlying3
def firstC : Array Value := (Go.Pinned.utf8FirstZ.map fun n => Value.int .u8 ((n : Nat) : Int)).toArray
theorem doorA_met (os : Os) (args : Array Value) : laidMetH Tryz.prog laidA (((World.doorLaid Tryz.prog 400 os).setRow 10 firstC).forCall (fun _ _ => 0) ⟨#[], args, []⟩).memory :=
  laidMetH_of_parts3 (fuel := 8) (laidMet_of_run' 8 (by kernel_rfl) (by kernel_rfl)) (by kernel_rfl) (by kernel_rfl)
/-- As the library's way from a contract to the frame under a condition X, with the world's shape kept. -/
theorem returns_and_shaped {H : Type} {enc : TypeId × Value → H} {a : Assume} {C : Checked} {os : Os} {f : FuncId} {fn : Func} {s : ChangeSpec} {conds : List PathCond} {apart fresh handsOn again : Bool} {X : World → Array Value → Prop}
    (hX : ∀ (w w' : World) (args : Array Value), w.heap = w'.heap → X w args → X w' args)
    (own : ownKnob C.prog.godebug = none) (started : os.Started) (noInit : C.prog.inits.idxOf? f = none) (hfn : C.prog.funcs[f]? = some fn)
    (witness : ∃ (w : World) (tape : Tape) (i : Input), w.os = os ∧ (w.forCall tape i).Shaped C.prog ∧ i.vars = [] ∧ Input.okWide C.prog (w.forCall tape i) .any w.heap.size f i ∧
      ((s.pre enc C.prog fn conds apart (w.forCall tape i).memory i.args ∧ X (w.forCall tape i).memory i.args) ∧ sizedMet enc C.prog fn (OpenSpec.ofChange s) apart (w.forCall tape i).memory i.args) ∧ a.holds C.prog (lone (Frame.enter C.prog f i.args .normal) [] (w.forCall tape i)))
    (contract : ∀ (W : World) (base : Nat) (args : Array Value) (ds gs : List (DataW H)) (before : List MemPlace),
      (∀ (j : Nat) t v, fn.params[j]? = some t → args[j]? = some v → Value.okWide C.prog W .any base t v) →
      DataW.Whole enc C.prog fn.params.toList s.vars apart W args.toList ds gs before →
      (DataW.weightsEach C.prog (fn.params.toList ++ s.plain.varTypes C.prog) (ds ++ gs)).all (· ≤ reachBytes) = true → X W args → W.ShapedOpen C.prog →
      Calls C.prog f args W fun e W' => ∃ v, e = .returned v ∧ s.post enc C.prog fn apart fresh handsOn again W args v W') :
    ReturnsInHanded a C os f .any (fun w args => (s.pre enc C.prog fn conds apart w args ∧ X w args) ∧ sizedMet enc C.prog fn (OpenSpec.ofChange s) apart w args) (s.post enc C.prog fn apart fresh handsOn again) := by
  refine returnsInHanded_of_calls own started noInit witness fun w tape i _ shape _ ok pre _ => ?_
  obtain ⟨-, -, -, fn', hf', -, -, -, -, vals⟩ := ok
  cases Option.some.inj (hf'.symm.trans hfn)
  obtain ⟨⟨⟨ds, gs, before, whole, -⟩, x⟩, sized⟩ := pre
  have whole' := DataW.Whole.of_heap (w' := w.forCall tape i) (by rfl) whole
  refine (contract _ _ _ ds gs before vals whole' (sized.weights whole) (hX _ _ _ (by rfl) x) shape).mono fun e W' ⟨v, he, hp⟩ => ?_
  cases he
  exact ChangeSpec.post_blind hp
end Go.Proofs.YthehcplogkgkeaaGreatDoor
