/-
  What came in, opened: eight slices of ints; a slice of bytes. What came in, opened: four lists of asks. The law TopSerial: what stands before the first pick.
-/
import Derived.Test.YtjeolfcefeglpabGreatXbi
import Derived.Test.YtjeolfcefeglpabGreatXbt
import Derived.Deep.Slices
import Derived.Test.YtjeolfcefeglpabGreatXad
import Derived.Test.YtjeolfcefeglpabGreatXak
import Derived.OpenShut
import Derived.Test.YtjeolfcefeglpabGreatXbk
set_option maxRecDepth 20000
namespace Go.Proofs.YtjeolfcefeglpabGreat
open Go.ChangeShapes Go.WideShapes Go.ChangeAt Go.RowKit

section
variable {H : Type} {enc : TypeId × Value → H} {w : World} {base : Nat} {spare : Nat → Bool} {held : Bool}
/-- Ints that came in as a slice: where, with room for how many, which. -/
structure InInts (w : World) (p : Option Addr) (cap : Nat) (l : List Int) : Prop where
  vw : Vw w p (iV l)
  nil : p = none → cap = 0
  max : l.length ≤ 9223372036854775807
  rng : ∀ x ∈ l, InI x
theorem open_intsC {v : Value} {fuel : Nat} {x : DataW H × List MemPlace} (hf : DataW.trod enc Tryz.prog w base spare held fuel 45 [v] = some x) : ∃ p cap l, v = .slice p (List.length l) cap ∧ InInts w p cap l := by
  rcases open_ints Tryz.underlying45 Tryz.underlying3 (by kernel_rfl) hf with ⟨hcs, _⟩ | ⟨a, n, cap, zs, hcs, hb, hl, hm, hz, -, hc, hw⟩
  · obtain rfl : v = .slice none 0 0 := by simpa using hcs
    exact ⟨none, 0, [], rfl, .inl rfl, fun _ => rfl, by simp, fun X hX => absurd hX (by simp)⟩
  · obtain rfl : v = .slice (some a) n cap := by simpa using hcs
    have hzn : n ≤ zs.length := by rw [hz]; split <;> omega
    have htl : (zs.take n).length = n := by simp; omega
    refine ⟨some a, cap, zs.take n, by rw [htl], ?_, fun h => (by cases h), by rw [htl]; unfold maxLen at hm; omega, fun x hx => bounds_i64 (hw x (List.mem_of_mem_take hx))⟩
    by_cases hn0 : n = 0
    · exact .inl (by subst hn0; simp)
    · have hsp : a.spot = none := by
        have := World.cell?_spot (hc 0 (by omega))
        simpa [Addr.add] using this
      obtain ⟨b, off, sp⟩ := a
      simp only at hsp
      subst hsp
      refine .inr ⟨b, off, rfl, ?_, fun j u hj => ?_⟩
      · have h0 := hc 0 (by omega)
        rw [add_plain] at h0
        exact block_lt_of_cell h0
      · have hjl := (List.getElem?_eq_some_iff.1 hj).1
        rw [iV_len, htl] at hjl
        have h1 := hc j (by omega)
        rw [add_plain] at h1
        rw [h1, ← hj, List.getElem?_map, List.getElem?_take, if_pos (by omega), List.getD, List.getElem?_eq_getElem (by omega)]
        rfl
theorem open_u8s {r : Reach} {b0 : Nat} {v : Value} {d : DataW H} {ps : List MemPlace} (hval : Value.okWide Tryz.prog w r b0 24 v) (hd : DataW.Trod enc Tryz.prog w base spare held 24 v d ps) : ∃ p n cap l, v = .slice p n cap ∧ Nums .u8 w p n l :=
  open_nums Tryz.underlying24 Tryz.underlying5 (by kernel_rfl) hval hd
end
end Go.Proofs.YtjeolfcefeglpabGreat
set_option maxRecDepth 20000
namespace Go.Proofs.YtjeolfcefeglpabGreat
open Go.ChangeShapes Go.WideShapes Go.ChangeAt Go.RowKit

/-- A slice of such that came in. -/
structure Aks (w : World) (ao : Option Addr) (n : Nat) (l : List Ak) : Prop where
  len : l.length = n
  max : n ≤ 9223372036854775807
  each : ∀ j, j < n → (l.getD j Ak.zero).In
  at_ : 0 < n → ∃ b off, ao = some ⟨b, off, none⟩ ∧ b < w.heap.size ∧ ∀ j, j < n → ∀ f, f < 19 → w.cell? ⟨b, off + j * 19 + f, none⟩ = (l.getD j Ak.zero).cells[f]?
theorem Aks.low {w W : World} {ao : Option Addr} {n : Nat} {l : List Ak} (h : Aks w ao n l) (hb : Below w.heap.size w W) : Aks W ao n l :=
  ⟨h.len, h.max, h.each, fun hn => by
    obtain ⟨b, off, ha, hlt, hc⟩ := h.at_ hn
    exact ⟨b, off, ha, Nat.lt_of_lt_of_le hlt hb.size, fun j hj f hf => (hb.cell (p := ⟨b, off + j * 19 + f, none⟩) hlt).trans (hc j hj f hf)⟩⟩
section
variable {H : Type} {enc : TypeId × Value → H} {w : World} {base : Nat} {spare : Nat → Bool} {held : Bool}
theorem ts_kc_api_Req : Tryz.prog.cellsOf 54 = 5 := by kernel_rfl
theorem ts_kc_api_Entry : Tryz.prog.cellsOf 56 = 4 := by kernel_rfl
theorem ts_kc_api_Ask : Tryz.prog.cellsOf 58 = 19 := by kernel_rfl
theorem open_AksD {v : Value} {fuel : Nat} {x : DataW H × List MemPlace} (hf : DataW.trod enc Tryz.prog w base spare held fuel 22 [v] = some x) :
    ∃ ao n cap l, v = .slice ao n cap ∧ Aks w ao n l := by
  rcases Go.Deep.open_slice Tryz.underlying22 hf with ⟨hcs, _⟩ | ⟨a, len, cap', m, nf, D, Pl, hcs, hb, hl, hm, hmm, _, hel⟩
  · obtain rfl : v = .slice none 0 0 := by simpa using hcs
    exact ⟨none, 0, 0, [], rfl, rfl, by omega, fun j hj => by omega, fun h => by omega⟩
  · obtain rfl : v = .slice (some a) len cap' := by simpa using hcs
    have hmn : len ≤ m := by rw [hmm]; split <;> omega
    have key : ∀ i, i < len → ∃ q : Ak, (∀ f, f < 19 → w.cell? ((a.add (i * 19)).add f) = q.cells[f]?) ∧ q.In := by
      intro i hi
      obtain ⟨cs', hc, htr⟩ := hel i (by omega)
      rw [ts_kc_api_Ask] at hc
      obtain ⟨_, hlen, hat⟩ := World.cells?_some hc
      obtain ⟨q, hq, hin⟩ := open_Ak_C hlen htr
      refine ⟨q, fun f hf => ?_, hin⟩
      rw [hat f (by omega), hq]
      simp
    by_cases hz0 : len = 0
    · subst hz0
      exact ⟨_, _, _, [], rfl, rfl, by omega, fun j hj => by omega, fun h => by omega⟩
    · haveI : Inhabited Ak := ⟨Ak.zero⟩
      obtain ⟨f, hf⟩ := Go.Deep.choose_lt key
      have hz := (hf 0 (by omega)).1 0 (by omega)
      have hz' : w.cell? ((a.add (0 * 19)).add 0) = some (.int .i64 (f 0).kind) := hz
      have hsp : a.spot = none := by
        have := World.cell?_spot hz'
        simpa [Addr.add] using this
      obtain ⟨b, off, sp⟩ := a
      simp only at hsp
      subst hsp
      have hget : ∀ j, j < len → ((List.range len).map f).getD j Ak.zero = f j := by
        intro j hj
        simp [List.getD, hj]
      have hlt : b < w.heap.size := by
        rw [add_plain, add_plain] at hz'
        exact block_lt_of_cell hz'
      refine ⟨_, _, _, (List.range len).map f, rfl, by simp, by unfold maxLen at hm; omega, fun j hj => by rw [hget j hj]; exact (hf j hj).2, fun _ => ⟨b, off, rfl, hlt, fun j hj g hg => ?_⟩⟩
      rw [hget j hj, ← (hf j hj).1 g hg, add_plain, add_plain]
/-- Where four lists of asks came in: where, how many, with room for how many, which. -/
abbrev As4 := Nat → Option Addr × Nat × Nat × List Ak
def asV (f : As4) : Array Value := #[.slice (f 0).1 (f 0).2.1 (f 0).2.2.1, .slice (f 1).1 (f 1).2.1 (f 1).2.2.1, .slice (f 2).1 (f 2).2.1 (f 2).2.2.1, .slice (f 3).1 (f 3).2.1 (f 3).2.2.1]
theorem open_asks4 {r : Reach} {b0 : Nat} {v : Value} {d : DataW H} {ps : List MemPlace} (hval : Value.okWide Tryz.prog w r b0 23 v) (hd : DataW.Trod enc Tryz.prog w base spare held 23 v d ps) :
    ∃ f : As4, v = .agg (asV f) ∧ ∀ i, i < 4 → Aks w (f i).1 (f i).2.1 (f i).2.2.2 := by
  have hct : Tryz.prog.cellsOf 23 = 4 := by kernel_rfl
  have hce : Tryz.prog.cellsOf 22 = 1 := by kernel_rfl
  simp only [Value.okWide, Tryz.underlying23] at hval
  obtain ⟨cs, rfl, hsz, hcell⟩ := hval
  obtain ⟨fuel, hf⟩ := hd
  obtain ⟨xs, m, rfl, _, hl, hxl, hall⟩ := DataW.trod_array Tryz.underlying23 hf
  rw [hct] at hsz
  rw [hce] at hall
  have key : ∀ i, ∃ q : Option Addr × Nat × Nat × List Ak, ∀ hi : i < 4, cs.toList[i]'(by simpa [hsz] using hi) = .slice q.1 q.2.1 q.2.2.1 ∧ Aks w q.1 q.2.1 q.2.2.2 := fun i => by
    by_cases hi : i < 4
    · have hi' : i < cs.toList.length := by simpa [hsz] using hi
      have h := hall i hi
      obtain ⟨x, hx⟩ : ∃ x, xs[i]? = some x := ⟨xs[i]'(by omega), List.getElem?_eq_getElem _⟩
      rw [hx, show (Value.agg cs).cells = cs from rfl, Nat.mul_one, List.drop_eq_getElem_cons hi', List.take_succ_cons, List.take_zero] at h
      obtain ⟨ao, n, cap, l, e, hI⟩ := open_AksD h
      exact ⟨(ao, n, cap, l), fun _ => ⟨e, hI⟩⟩
    · exact ⟨(none, 0, 0, []), fun c => absurd c hi⟩
  refine ⟨fun i => Classical.choose (key i), ?_, fun i hi => (Classical.choose_spec (key i) hi).2⟩
  congr 1
  apply Array.ext
  · simp [hsz, asV]
  · intro i h1 h2
    have hi : i < 4 := by omega
    have := (Classical.choose_spec (key i) hi).1
    obtain rfl | rfl | rfl | rfl : i = 0 ∨ i = 1 ∨ i = 2 ∨ i = 3 := by omega
    all_goals simpa [asV] using this
end
end Go.Proofs.YtjeolfcefeglpabGreat
set_option maxRecDepth 20000
namespace Go.Proofs.YtjeolfcefeglpabGreat
open Go.ChangeShapes Go.WideShapes Go.ChangeAt Go.RowKit Wd

abbrev jobs16 : Array Value := #[.slice none 0 0, .int .i64 0, .int .i64 0, .bool false, .slice none 0 0, .int .i64 0, .int .i64 0, .bool false, .slice none 0 0, .int .i64 0, .int .i64 0, .bool false, .slice none 0 0, .int .i64 0, .int .i64 0, .bool false]
theorem zero_j4 (W : World) : (zeroValue 48).run Tryz.prog W = .ok (.agg jobs16) W := by kernel_rfl
theorem zero_b4 (W : World) : (zeroValue 49).run Tryz.prog W = .ok (.agg #[.bool false, .bool false, .bool false, .bool false]) W := by kernel_rfl
theorem zero_i4 (W : World) : (zeroValue 50).run Tryz.prog W = .ok (.agg #[.int .i64 0, .int .i64 0, .int .i64 0, .int .i64 0]) W := by kernel_rfl
theorem zv_ak (W : World) : (zeroValue AKT).run Tryz.prog W = .ok (.agg (akC Ak.zero)) W := by kernel_rfl
theorem inv_nil (nl : Nat) : Lk.Inv (fun _ => []) nl (fun _ => ⟨[], 0, 0, false⟩) :=
  ⟨ok_none nl, fun _ _ => List.Pairwise.nil, fun _ _ x hx => (by cases hx), fun _ _ => Nat.le_refl _, fun _ _ => Nat.le_refl _, fun _ _ h => (by cases h), fun _ _ _ => rfl, fun _ _ j hj => absurd hj (by simp), fun _ _ L hL => (by cases hL)⟩
theorem se_new {w w2 w3 w4 w5 w6 w7 w8 : World} {sb rb mb g jb ub tb fb cap nl : Nat} {c : Cf} (hs : ShAt w2 sb rb mb c (Rm.nought c.lines.toNat) Rv.none_) (g1 : w.heap.size ≤ sb) (g2 : w.heap.size ≤ rb) (g3 : w.heap.size ≤ mb) (b2 : Below w.heap.size w w2)
    (s0 : CsAt w3 w2.heap.size 27 #[.pointer (some ⟨sb, 0, none⟩)]) (b3 : Below w2.heap.size w2 w3) (hl : LkAt (fun _ => False) w4 w3.heap.size (w3.heap.size + 1) w3.heap.size nl (fun _ => [])) (b4 : Below w3.heap.size w3 w4)
    (l0 : CsAt w5 w4.heap.size 31 #[.pointer (some ⟨w3.heap.size + 1, 0, none⟩)]) (b5 : Below w4.heap.size w4 w5) (hr : RefAt w6 g 5 c.lines.toNat (Rm.nought c.lines.toNat)) (hg : w5.heap.size ≤ g) (b6 : Below w5.heap.size w5 w6)
    (hx : CsAt w7 w6.heap.size SXT (sxT c g c.lines.toNat cap Rv.none_)) (b7 : Below w6.heap.size w6 w7) (e1 : jb = w7.heap.size) (e2 : ub = w7.heap.size + 1) (e3 : tb = w7.heap.size + 2) (e4 : fb = w7.heap.size + 3)
    (hj : CsAt w8 jb 48 jobs16) (hu : CsAt w8 ub 49 #[.bool false, .bool false, .bool false, .bool false]) (ht : CsAt w8 tb 50 #[.int .i64 0, .int .i64 0, .int .i64 0, .int .i64 0]) (hf : CsAt w8 fb 4 #[.bool true]) (b8 : Below w7.heap.size w7 w8) :
    SeL (fun x => x < w3.heap.size ∨ (w4.heap.size ≤ x ∧ x < w8.heap.size)) w w8 ⟨sb, rb, mb, w2.heap.size, w3.heap.size, w3.heap.size + 1, w4.heap.size, g, w6.heap.size, jb, ub, tb, fb⟩ c cap nl (fun _ => []) (fun _ => false) (fun _ => 0) (fun _ => (none, 0)) (fun _ => ⟨[], 0, 0, false⟩) := by
  have l1 := hs.slt
  have l2 := hs.ram.lt
  have l3 := hs.ram.mlt
  have l4 := hl.lt
  have ls := s0.lt
  have ll := l0.lt
  have lg := hr.lt
  have lx := hx.lt
  have lf := hf.lt
  have s2 := b2.size
  have b78 := b8
  have b68 : Below w6.heap.size w6 w8 := b7.trans (b8.mono b7.size)
  have b58 : Below w5.heap.size w5 w8 := b6.trans (b68.mono b6.size)
  have b48 : Below w4.heap.size w4 w8 := b5.trans (b58.mono b5.size)
  have b38 : Below w3.heap.size w3 w8 := b4.trans (b48.mono b4.size)
  have b28 : Below w2.heap.size w2 w8 := b3.trans (b38.mono b3.size)
  have z3 := b3.size
  have z4 := b4.size
  have z5 := b5.size
  have z6 := b6.size
  have z7 := b7.size
  have z8 := b8.size
  have ho : Bo ⟨sb, rb, mb, w2.heap.size, w3.heap.size, w3.heap.size + 1, w4.heap.size, g, w6.heap.size, jb, ub, tb, fb⟩ := ⟨l1, l2, l3, ls, by show w3.heap.size < w3.heap.size + 1; omega, l4, by show w4.heap.size < g; omega, lg, by show w6.heap.size < jb; omega, by show jb < ub; omega, by show ub < tb; omega, by show tb < fb; omega⟩
  refine ⟨⟨Rm.nought c.lines.toNat, Rv.none_, ⟨hs.low b28, hr.low b68, hx.low b78, s0.low b38, l0.low b58, hf, hu, ht⟩⟩, (hl.wide (b' := w.heap.size) (by omega) (Y := fun x => x < w3.heap.size) fun x hx => .inr hx).more b48 fun x hx => hx, fun i hi => ?_, fun i hi => Lk.JvT.new (Nat.zero_le _) (fun x hx => by cases hx),
    fun i hi => ⟨.inl rfl, .inl ⟨rfl, rfl⟩, fun b off e => by cases e⟩, fun j => hj.frozen j, b2.trans (b28.mono s2), inv_nil nl, ho, fun b hb => ?_, .inr ⟨by show w4.heap.size ≤ jb; omega, by show jb < w8.heap.size; omega⟩, ⟨g1, g2, g3⟩⟩
  · obtain rfl | rfl | rfl | rfl : i = 0 ∨ i = 1 ∨ i = 2 ∨ i = 3 := by omega
    · exact ⟨hj.cell 0, hj.cell 1, hj.cell 2, hj.cell 3, hj.frozen _, hj.frozen _, hj.frozen _⟩
    · exact ⟨hj.cell 4, hj.cell 5, hj.cell 6, hj.cell 7, hj.frozen _, hj.frozen _, hj.frozen _⟩
    · exact ⟨hj.cell 8, hj.cell 9, hj.cell 10, hj.cell 11, hj.frozen _, hj.frozen _, hj.frozen _⟩
    · exact ⟨hj.cell 12, hj.cell 13, hj.cell 14, hj.cell 15, hj.frozen _, hj.frozen _, hj.frozen _⟩
  · rcases hb with e | e | e | e | e | e | e | e | e | e <;> (simp only at e; subst e) <;> first | (left; omega) | (right; omega)
theorem sei_new {c : Cf} {L : Nat → List Ak} : SeI c (fun _ => false) (fun _ => 0) (fun _ => ⟨[], 0, 0, false⟩) L := ⟨fun _ _ _ => ⟨rfl, rfl⟩, fun _ _ h => (by cases h), fun _ _ => Nat.zero_le _⟩
theorem neq_64 (w : World) (l : List Int) (h : l.length = 64) : (binOp .neq T64b (.agg (aV .u8 l)) (.agg (aV .u8 l))).run Tryz.prog w = .ok (.bool false) w := by
  rw [run_neq_ints w T64b 5 64 .u8 Tryz.underlying72 Tryz.underlying5 (fun w => by kernel_rfl) l l h h]
  simp
theorem guard_64 : Tryz.prog.eqGuardType Tryz.prog.depth T64b = false := by kernel_rfl
theorem asV_cell {w : World} {b : Nat} {t : TypeId} {f : As4} (h : CsAt w b t (asV f)) {i : Nat} (hi : i < 4) : w.cell? ⟨b, i, none⟩ = some (.slice (f i).1 (f i).2.1 (f i).2.2.1) := by
  rw [h.cell]
  obtain rfl | rfl | rfl | rfl : i = 0 ∨ i = 1 ∨ i = 2 ∨ i = 3 := by omega
  all_goals rfl
/-- An ask of a list, in any later world. -/
theorem ask_at {w V : World} {db off j : Nat} {a : Ak} (hdl : db < w.heap.size) (hc : ∀ f, f < 19 → w.cell? ⟨db, off + j * 19 + f, none⟩ = a.cells[f]?) (hb : Below w.heap.size w V) : V.rangeAt db (off + j * 19) (akC a).toList := fun x v hv => by
  have hx : x < 19 := by
    have := (List.getElem?_eq_some_iff.1 hv).1
    simpa [akC] using this
  refine (hb.cell (p := ⟨db, off + j * 19 + x, none⟩) hdl).trans ((hc x hx).trans ?_)
  rw [← Array.getElem?_toList]
  exact hv
end Go.Proofs.YtjeolfcefeglpabGreat
