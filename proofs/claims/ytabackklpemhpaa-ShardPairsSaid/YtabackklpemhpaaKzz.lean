/-
  ShardPairs of layer 14, walked.
-/
import Derived.Test.YtabackklpemhpaaKbd
set_option maxRecDepth 20000
namespace Go.Proofs.Ytabackklpemhpaa
open Go.ChangeShapes Go.WideShapes Go.ChangeAt Go.RowKit Wd

abbrev DT14 : TypeId := 68
abbrev c8 : Cf := ⟨8, 3, 4, 1⟩
theorem info_dt : (Try.prog.info? DT14).map (fun i => (i.zero, i.size, i.bytes)) = some (some (.agg #[.int .i64 0, .int .i64 0, .int .u64 0, .int .u64 0, .int .i64 0, .int .i64 0, .int .i64 0, .int .u64 0, .int .u64 0, .bool false, .int .i64 0, .bool false, .bool false, .bool false, .int .u64 0, .int .i64 0, .int .i64 0, .int .u64 0, .int .i64 0, .int .u64 0]), 20, 144) := by kernel_rfl
theorem info_dt2 : (Try.prog.info? DT14).map (·.size) = some 20 := by kernel_rfl
theorem info_anZ : (Try.prog.info? ANT).map (fun i => (i.zero, i.size, i.bytes)) = some (some (.agg (anC 0 false)), 42, 208) := by kernel_rfl
theorem zv_an (w : World) : (zeroValue ANT).run Try.prog w = .ok (.agg (anC 0 false)) w := by kernel_rfl
/-- A deed's cells. -/
def ddA (hd : Int) (x : Ak) : Array Value := #[.int .i64 hd, .int .i64 x.kind, .int .u64 x.addr, .int .u64 x.next, .int .i64 x.cut, .int .i64 x.size, .int .i64 x.op, .int .u64 x.data, .int .u64 x.old, .bool x.live, .int .i64 x.hart, .bool x.req.set, .bool x.req.byVa, .bool x.req.byAsid, .int .u64 x.req.va, .int .i64 x.req.asid, .int .i64 x.entry.asid, .int .u64 x.entry.page, .int .i64 x.entry.level, .int .u64 x.entry.pte]
theorem fill_eq (z cs : Array Value) (hz : z.size = cs.size) : Array.foldl (fun (cs : Array Value) (x : Value × Nat) => cs.setIfInBounds x.snd x.fst) z cs.zipIdx 0 cs.size = cs := by
  have e := foldl_fill cs.toList 0 z (by simp [hz])
  simp only [List.take_zero, List.nil_append, Array.toArray_toList, Nat.zero_add] at e
  have hs : cs.zipIdx.size = cs.size := Array.size_zipIdx
  rw [← hs, ← Array.foldl_toList, Array.toList_zipIdx]
  exact e
theorem dd_fill (hd : Int) (x : Ak) : Array.foldl (fun (cs : Array Value) (x : Value × Nat) => cs.setIfInBounds x.snd x.fst) #[.int .i64 0, .int .i64 0, .int .u64 0, .int .u64 0, .int .i64 0, .int .i64 0, .int .i64 0, .int .u64 0, .int .u64 0, .bool false, .int .i64 0, .bool false, .bool false, .bool false, .int .u64 0, .int .i64 0, .int .i64 0, .int .u64 0, .int .i64 0, .int .u64 0] (ddA hd x).zipIdx 0 (ddA hd x).size = ddA hd x := fill_eq _ _ rfl
theorem an_fill (d : Int) (g : Bool) : Array.foldl (fun (cs : Array Value) (x : Value × Nat) => cs.setIfInBounds x.snd x.fst) #[.int .u64 0, .bool false, .bool false, .bool false, .bool false, .int .u64 0, .int .i64 0, .bool false, .bool false, .bool false, .int .u64 0, .int .i64 0, .bool false, .bool false, .bool false, .int .u64 0, .int .i64 0, .bool false, .bool false, .bool false, .int .u64 0, .int .i64 0, .bool false, .bool false, .bool false, .int .u64 0, .int .i64 0, .bool false, .bool false, .bool false, .int .u64 0, .int .i64 0, .bool false, .bool false, .bool false, .int .u64 0, .int .i64 0, .bool false, .bool false, .bool false, .int .u64 0, .int .i64 0] (anC d g).zipIdx 0 (anC d g).size = anC d g := fill_eq _ _ rfl
theorem dd_fill20 (hd : Int) (x : Ak) : Array.foldl (fun (cs : Array Value) (x : Value × Nat) => cs.setIfInBounds x.snd x.fst) #[.int .i64 0, .int .i64 0, .int .u64 0, .int .u64 0, .int .i64 0, .int .i64 0, .int .i64 0, .int .u64 0, .int .u64 0, .bool false, .int .i64 0, .bool false, .bool false, .bool false, .int .u64 0, .int .i64 0, .int .i64 0, .int .u64 0, .int .i64 0, .int .u64 0] (ddA hd x).zipIdx 0 20 = ddA hd x := dd_fill hd x
theorem an_fill42 (d : Int) (g : Bool) : Array.foldl (fun (cs : Array Value) (x : Value × Nat) => cs.setIfInBounds x.snd x.fst) #[.int .u64 0, .bool false, .bool false, .bool false, .bool false, .int .u64 0, .int .i64 0, .bool false, .bool false, .bool false, .int .u64 0, .int .i64 0, .bool false, .bool false, .bool false, .int .u64 0, .int .i64 0, .bool false, .bool false, .bool false, .int .u64 0, .int .i64 0, .bool false, .bool false, .bool false, .int .u64 0, .int .i64 0, .bool false, .bool false, .bool false, .int .u64 0, .int .i64 0, .bool false, .bool false, .bool false, .int .u64 0, .int .i64 0, .bool false, .bool false, .bool false, .int .u64 0, .int .i64 0] (anC d g).zipIdx 0 42 = anC d g := an_fill d g
theorem ShAt.on {N : Nat} {w w' : World} {sb rb mb : Nat} {c : Cf} {B : List Int} {T : Rv.Tb} (h : ShAt w sb rb mb c B T) (hb : Below N w w') (h1 : sb < N) (h2 : rb < N) (h3 : mb < N) : ShAt w' sb rb mb c B T :=
  have f : ∀ i v, w.cell? ⟨sb, i, none⟩ = some v → w'.cell? ⟨sb, i, none⟩ = some v := fun i _ hv => (hb.cell (p := ⟨sb, i, none⟩) h1).trans hv
  ⟨h.right, by
    obtain ⟨D, hD, hF⟩ := h.ram.own
    exact ⟨h.ram.ok, h.ram.n0, h.ram.n1, (hb.cell (p := ⟨rb, 0, none⟩) h2).trans h.ram.c0, (hb.cell (p := ⟨rb, 1, none⟩) h2).trans h.ram.c1, Nat.lt_of_lt_of_le h.ram.lt hb.size, h.ram.ne, D, map_on hD (hb.block mb h3), hF⟩,
   f _ _ h.c0, f _ _ h.k0, f _ _ h.k1, f _ _ h.k2, f _ _ h.k3, h.tab.on (hb.block sb h1), h.nr, h.nm⟩
/-- What stands in a round: memory, what was asked, what was answered. -/
structure PsW (w W : World) (sb rb mb base : Nat) (B : List Int) (T : Rv.Tb) (es fs : List Pe) (dv tv : Value) : Prop where
  sh : ShAt W sb rb mb c8 B T
  dd : W.ownsRow base DT14 20 dv es.length (dCells es)
  tt : W.ownsRow base ANT 42 tv fs.length (tCells fs)
  ap : ∀ b, dv.ownBlock = some b → tv.ownBlock ≠ some b
  bel : Below w.heap.size w W
  lo : w.heap.size ≤ sb ∧ w.heap.size ≤ mb ∧ w.heap.size ≤ base
  hi : sb < base ∧ rb < base ∧ mb < base
  bb : base ≤ W.heap.size
section
variable {w W W' : World} {sb rb mb base : Nat} {B B' : List Int} {T T' : Rv.Tb} {es fs : List Pe} {dv tv : Value}
theorem PsW.low (h : PsW w W sb rb mb base B T es fs dv tv) (hb : Below W.heap.size W W') : PsW w W' sb rb mb base B T es fs dv tv :=
  ⟨h.sh.low hb, own_low h.dd hb, own_low h.tt hb, h.ap, h.bel.trans (hb.mono h.bel.size), h.lo, h.hi, Nat.le_trans h.bb hb.size⟩
theorem PsW.two (h : PsW w W sb rb mb base B T es fs dv tv) (hs : ShAt W' sb rb mb c8 B' T') (ht : Two sb mb W W') : PsW w W' sb rb mb base B' T' es fs dv tv :=
  ⟨hs, own_two h.dd ht h.hi.1 h.hi.2.2, own_two h.tt ht h.hi.1 h.hi.2.2, h.ap, h.bel.trans (ht.below h.lo.1 h.lo.2.1 h.bel.size), h.lo, h.hi, Nat.le_trans h.bb ht.size⟩
theorem grown_base {cs : Array Value} {t e : TypeId} {size n : Nat} {v : Value} {xs : List Value} (hown : W.ownsRow base e size v n xs) (hbb : base ≤ W.heap.size) (hg : (W.alloc (.cells cs t)).grownBy W' v.ownBlock) : Below base W W' :=
  ((Below.refl base W).alloc hbb _).grown hg (by simp; omega) (fun r hr => (hown.lt r hr).1)
/-- A deed more. -/
theorem PsW.push1 (h : PsW w W sb rb mb base B T es fs dv tv) {e : Pe} {dv' : Value} {cs : Array Value} {t : TypeId} (hown : W'.ownsRow base DT14 20 dv' (es.length + 1) (dCells es ++ e.dc)) (hg : (W.alloc (.cells cs t)).grownBy W' dv.ownBlock)
    (hv : dv'.ownBlock = dv.ownBlock ∨ dv'.ownBlock = some (W.heap.size + 1)) : PsW w W' sb rb mb base B T (es ++ [e]) fs dv' tv := by
  have hb := grown_base h.dd h.bb hg
  refine ⟨h.sh.on hb h.hi.1 h.hi.2.1 h.hi.2.2, ?_, ?_, ?_, h.bel.trans (hb.mono h.lo.2.2), h.lo, h.hi, Nat.le_trans h.bb hb.size⟩
  · rw [show dCells (es ++ [e]) = dCells es ++ e.dc by simp [dCells], List.length_append]
    exact hown
  · refine own_keep h.tt fun k hk => ?_
    have hlt := (h.tt.lt k hk).2
    have hne : some k ≠ dv.ownBlock := fun e => h.ap k e.symm hk
    rw [hg.block k (by simp; omega) hne]
    exact Below.heap_alloc W _ k hlt
  · intro b hb2 hc
    rcases hv with e | e
    · exact h.ap b (e ▸ hb2) hc
    · have hlt := (h.tt.lt b hc).2
      rw [e] at hb2
      simp at hb2
      omega
/-- An answer more. -/
theorem PsW.push2 (h : PsW w W sb rb mb base B T es fs dv tv) {e : Pe} {tv' : Value} {cs : Array Value} {t : TypeId} (hown : W'.ownsRow base ANT 42 tv' (fs.length + 1) (tCells fs ++ e.tc)) (hg : (W.alloc (.cells cs t)).grownBy W' tv.ownBlock)
    (hv : tv'.ownBlock = tv.ownBlock ∨ tv'.ownBlock = some (W.heap.size + 1)) : PsW w W' sb rb mb base B T es (fs ++ [e]) dv tv' := by
  have hb := grown_base h.tt h.bb hg
  refine ⟨h.sh.on hb h.hi.1 h.hi.2.1 h.hi.2.2, ?_, ?_, ?_, h.bel.trans (hb.mono h.lo.2.2), h.lo, h.hi, Nat.le_trans h.bb hb.size⟩
  · refine own_keep h.dd fun k hk => ?_
    have hlt := (h.dd.lt k hk).2
    have hne : some k ≠ tv.ownBlock := fun e => h.ap k hk e.symm
    rw [hg.block k (by simp; omega) hne]
    exact Below.heap_alloc W _ k hlt
  · rw [show tCells (fs ++ [e]) = tCells fs ++ e.tc by simp [tCells], List.length_append]
    exact hown
  · intro b hb2 hc
    rcases hv with e | e
    · exact h.ap b hb2 (e ▸ hc)
    · have hlt := (h.dd.lt b hb2).2
      rw [e] at hc
      simp at hc
      omega
end
/-- What was done, and the answer in its box. -/
structure DidAt (sb rb mb : Nat) (B : List Int) (T : Rv.Tb) (hart : Int) (x : Ak) (w2 wx : World) (xb : Nat) (d : Int) (g ok : Bool) (B' : List Int) (T' : Rv.Tb) : Prop where
  box : CsAt wx xb ANT (anC d g)
  new : w2.heap.size ≤ xb
  sh : ShAt wx sb rb mb c8 B' T'
  two : Two sb mb w2 wx
  is : ok = Sh.okD c8.lines.toNat c8.harts hart x
  yes : ok = true → d = Sh.ansD B c8.lines.toNat x ∧ g = Sh.ansG B c8.lines.toNat T hart x ∧ B' = Sh.doB B c8.lines.toNat T hart x ∧ T' = Sh.doT B c8.lines.toNat T hart x
  no : ok = false → B' = B ∧ T' = T
theorem DidAt.rd {sb rb mb : Nat} {B : List Int} {T : Rv.Tb} {hart : Int} {x : Ak} {w2 wx : World} {xb : Nat} {d : Int} {g ok : Bool} {B' : List Int} {T' : Rv.Tb} (h : DidAt sb rb mb B T hart (rdOf x) w2 wx xb d g ok B' T') : B' = B ∧ T' = T := by
  cases hk : ok
  · exact h.no hk
  · obtain ⟨-, -, h1, h2⟩ := h.yes hk
    exact ⟨h1, h2⟩
theorem peok_snoc {es : List Pe} (h : PeOk es) {e : Pe} (he : e.a.In ∧ Sh.Form e.a) : PeOk (es ++ [e]) := fun e' h' => (List.mem_append.1 h').elim (h e') fun h => by
  obtain rfl : e' = e := List.mem_singleton.1 h
  exact he
theorem ddA_list (hd : Int) (x : Ak) : (ddA hd x).toList = .int .i64 hd :: (akC x).toList := rfl
theorem dc_one (hd : Int) (x : Ak) : (ddA hd x).all (·.oneCell') = true := by simp [ddA, Value.oneCell']
theorem wpList_load_midA {P : Program} {ops : Array Oper} {rest : List Oper} {op : Oper} {a : Act} {w : World} {Q : Exit → Act → World → Prop} (hg : op.guard = none) (ty : TypeId) (x : Operand) (ho : op.op = .load ty x)
    (b o : Nat) (hx : a.eval x = .pointer (some ⟨b, o, none⟩)) (cs : Array Value) (d : TypeDesc) (hc : w.rangeAt b o cs.toList) (hu : P.underlying ty = some d) (hd : d.isRow = true) (hi : (P.info? ty).map (·.size) = some cs.size)
    (h : wpList P ops Q rest (a.put op.dst (.agg cs)) w) : wpList P ops Q (op :: rest) a w :=
  wpList_load_mid hg ty x ho b o hx cs.toList d hc hu hd (by simpa using hi) (by simpa using h)
theorem ok_inH {N : Nat} {hart : Int} {x : Ak} (h : Sh.okD N c8.harts hart x = true) : Rv.inH hart = true := by
  unfold Sh.okD at h
  rw [Bool.and_eq_true] at h
  have := h.2
  simp [btwB] at this
  exact Rv.inH_iff.2 (by omega)
theorem dd_hart {W : World} {ao : Option Addr} {n : Nat} {l : List Dd} (h : Dds W ao n l) {k : Nat} (hk : k < n) : ∃ b off, ao = some ⟨b, off, none⟩ ∧ b < W.heap.size ∧ W.cell? ⟨b, off + k * 20, none⟩ = some (.int .i64 (l.getD k Dd.zero).hart) ∧
    W.rangeAt b (off + k * 20 + 1) (akC (l.getD k Dd.zero).ask).toList ∧ W.rangeAt b (off + k * 20) (.int .i64 (l.getD k Dd.zero).hart :: (akC (l.getD k Dd.zero).ask).toList) := by
  obtain ⟨b, off, ha, hlt, hc⟩ := h.at_ (by omega)
  have key : W.rangeAt b (off + k * 20) (.int .i64 (l.getD k Dd.zero).hart :: (akC (l.getD k Dd.zero).ask).toList) := by
    intro j v hj
    have hj20 : j < 20 := (List.getElem?_eq_some_iff.1 hj).1
    rw [hc k hk j hj20, ← hj]
    simp [akC]
  refine ⟨b, off, ha, hlt, ?_, ?_, key⟩
  · have := key 0 _ rfl
    simpa using this
  · intro j v hj
    have := key (j + 1) v (by simpa using hj)
    rw [show off + k * 20 + 1 + j = off + k * 20 + (j + 1) by omega]
    exact this
set_option maxHeartbeats 32000000 in
set_option maxRecDepth 100000 in
theorem pairs_walk (ao : Option Addr) (n cap : Nat) (l : List Dd) (w : World) (h : Dds w ao n l) :
    Calls Try.prog 5 #[.slice ao n cap] w fun e w' => e = .returned (.bool true) ∧ Below w.heap.size w w' := by
  have HDS := Lib.hid h
  clear h
  by_cases hn : n ≤ 60
  rotate_left 1
  · have gn : decide ((n : Int) > 60) = true := by simp; omega
    go_enter Try.func5, Try.ntmps5
    go_wp2_with fail
    refine (live14_c w).mono ?_
    rintro e w1 ⟨rfl, hb1⟩
    have HB1 := Lib.hid hb1
    clear hb1
    go_wp2_with fail
    go_ret
    exact ⟨rfl, HB1.out⟩
  have gn : decide ((n : Int) > 60) = false := by simp; omega
  go_enter Try.func5, Try.ntmps5
  go_wp2_with fail
  refine (snew_c c8 (by decide) w).mono ?_
  rintro e w1 ⟨sb, rb, mb, rfl, hs1, hb1, h1, h2, h3⟩
  have HP := Lib.hid (show PsW w w1 sb rb mb w1.heap.size (Rm.nought c8.lines.toNat) Rv.none_ [] [] (.slice none 0 0) (.slice none 0 0) from
    ⟨hs1, World.ownsRow_nil _ _ _ _, World.ownsRow_nil _ _ _ _, (fun b hb => by cases hb), hb1, ⟨h1, h3, hb1.size⟩, ⟨hs1.slt, hs1.ram.lt, hs1.ram.mlt⟩, Nat.le_refl _⟩)
  generalize w1.heap.size = base at *
  clear hs1 hb1 h1 h2 h3 gn
  go_wp2_with fail
  go_loopw [5, 6, 7] (fun dv tv iv wr => ∃ (k : Nat) (B : List Int) (T : Rv.Tb) (es : List Pe), k ≤ n ∧ iv = .int .i64 k ∧ es.length ≤ k ∧ PsW w wr sb rb mb base B T es es dv tv ∧ Sh.TellsT T (evR es) ∧ PeOk es) (fun _ _ iv _ => n - (intOf iv).toNat)
  case atStart => exact ⟨0, _, _, [], Nat.zero_le _, rfl, Nat.le_refl _, HP.out, Sh.tells_nil, fun e he => by cases he⟩
  case round =>
    obtain ⟨k, B, T, es, hk, rfl, hek, hps, htl, hok⟩ := hrel
    obtain ⟨p1, c1, rfl, -, -, -⟩ := own_form hps.dd
    obtain ⟨p2, c2, rfl, -, -, -⟩ := own_form hps.tt
    have HPR := Lib.hid hps
    have HTL := Lib.hid htl
    have HPK := Lib.hid hok
    clear hps htl hok HP
    by_cases hlt : k < n
    rotate_left 1
    · have gk : decide ((k : Int) < (n : Int)) = false := by simp; omega
      go_wp2_with fail
      refine (live14_c wr).mono ?_
      rintro e w1 ⟨rfl, hb1⟩
      have HB1 := Lib.hid (HPR.out.low hb1).bel
      clear hb1
      go_wp2_with fail
      go_ret
      exact ⟨rfl, HB1.out⟩
    have gk : decide ((k : Int) < (n : Int)) = true := by simp; omega
    have gk2 : (k : Int) < (n : Int) := by omega
    have hin := (HDS.out.each k hlt)
    have HIN := Lib.hid hin.ask
    obtain ⟨lb, off, rfl, hlb, hc0, hr1, hr2⟩ := dd_hart HDS.out hlt
    have HC0 := Lib.hid (show ∀ W, Below w.heap.size w W → W.cell? ⟨lb, off + k * 20, none⟩ = some (.int .i64 (l.getD k Dd.zero).hart) from fun W hW => (hW.cell (p := ⟨lb, off + k * 20, none⟩) hlb).trans hc0)
    have HR1 := Lib.hid (show ∀ W, Below w.heap.size w W → W.rangeAt lb (off + k * 20 + 1) (akC (l.getD k Dd.zero).ask).toList from fun W hW => pr_low hr1 hW)
    have HR2 := Lib.hid (show ∀ W, Below w.heap.size w W → W.rangeAt lb (off + k * 20) (.int .i64 (l.getD k Dd.zero).hart :: (akC (l.getD k Dd.zero).ask).toList) from fun W hW => pr_low hr2 hW)
    have HR2 := Lib.hid (show ∀ W, Below w.heap.size w W → W.rangeAt lb (off + k * 20) (ddA (l.getD k Dd.zero).hart (l.getD k Dd.zero).ask).toList from fun W hW => by rw [ddA_list]; exact HR2.out W hW)
    clear hin hc0 hr1 hr2
    generalize (l.getD k Dd.zero).hart = hd at *
    generalize (l.getD k Dd.zero).ask = x at *
    have HRI := Lib.hid (rd_in HIN.out)
    have hb1 := box_below wr (akC x) AKT
    have HP1 := Lib.hid (HPR.out.low hb1)
    have HA1 := Lib.hid (akAt_new wr x)
    have HLA := Lib.hid HPR.out.bb
    clear hb1
    go_upto_region 12 with (first
      | (refine wpList_load_mid rfl AKT _ rfl lb (off + k * 20 + 1) rfl _ _ (HR1.out wr HPR.out.bel) Try.underlying66 rfl info_ak ?_)
      | (refine wpList_storeNew rfl AKT _ _ rfl (akC Ak.zero) (akC x) AKT rfl rfl info_ak rfl (akC_one _) ?_))
    clear HPR
    generalize wr.alloc (.cells (akC x) AKT) = w1 at *
    generalize wr.heap.size = ab at *
    have d1 := HA1.out.addr
    have d4 := HA1.out.size
    have hb2 := box_below w1 (akC (rdOf x)) AKT
    have HP2 := Lib.hid (HP1.out.low hb2)
    have HA2 := Lib.hid (HA1.out.low hb2)
    have HQ2 := Lib.hid (akAt_new w1 (rdOf x))
    have HLQ := Lib.hid HP1.out.bb
    clear hb2
    go_upto_region 13 with (refine wpList_storeNew rfl AKT _ _ rfl (akC Ak.zero) (akC (rdOf x)) AKT rfl rfl info_ak rfl (akC_one _) ?_)
    clear d1 d4 HP1 HA1
    generalize w1.alloc (.cells (akC (rdOf x)) AKT) = w2 at *
    generalize w1.heap.size = qb at *
    have HNE := Lib.hid (show (ab ≠ sb ∧ ab ≠ mb) ∧ (qb ≠ sb ∧ qb ≠ mb) ∧ lb ≠ sb ∧ lb ≠ mb by
      have h1 := HLA.out
      have h2 := HLQ.out
      have h3 := HP2.out.hi
      have h4 := HP2.out.lo
      omega)
    try dsimp only [Act.put]
    go_cut [10, 11] (fun s10 s11 wx => ∃ xb d g ok B' T', s10 = .pointer (some ⟨xb, 0, none⟩) ∧ s11 = .bool ok ∧ DidAt sb rb mb B T hd (rdOf x) w2 wx xb d g ok B' T')
    case first =>
      refine wp_region_noPanic ?_
      refine wp_region_held (S := fun W => W.cell? ⟨lb, off + k * 20, none⟩ = some (.int .i64 hd) ∧ AkAt W qb (rdOf x)) (by kernel_rfl) ?_
      have hS0 : w2.drew.cell? ⟨lb, off + k * 20, none⟩ = some (.int .i64 hd) ∧ AkAt w2.drew qb (rdOf x) := ⟨HC0.out _ HP2.out.bel.drew, HQ2.out.low (Below.refl _ _).drew⟩
      have hsd : ShAt w2.drew sb rb mb c8 B T := HP2.out.sh.drew
      refine takeH (fuel := 13) (i := 0) (.pointer (some ⟨sb, 0, none⟩)) ?_ rfl (by kernel_rfl) (by kernel_rfl) (by kernel_rfl) (fun _ _ _ h => h) (by kernel_rfl) (fun W hS => by go_simp) hS0 ?_ ?_
      rotate_left 1
      · go_simp
        exact rfl
      refine takeH (fuel := 12) (i := 1) (.slice (some ⟨lb, off, none⟩) n cap) ?_ rfl (by kernel_rfl) (by kernel_rfl) (by kernel_rfl) (fun _ _ _ h => h) (by kernel_rfl) (fun W hS => by go_simp) hS0 ?_ ?_
      rotate_left 1
      · go_simp
        exact rfl
      refine takeH (fuel := 11) (i := 2) (.int .i64 (k : Int)) ?_ rfl (by kernel_rfl) (by kernel_rfl) (by kernel_rfl) (fun _ _ _ h => h) (by kernel_rfl) (fun W hS => by go_simp) hS0 ?_ ?_
      rotate_left 1
      · go_simp
        exact rfl
      refine takeH (fuel := 10) (i := 3) (.pointer (some ⟨lb, off + k * 20, none⟩)) ?_ rfl (by kernel_rfl) (by kernel_rfl) (by kernel_rfl) (fun _ _ _ h => h) (by kernel_rfl) (fun W hS => by go_simp) hS0 ?_ ?_
      rotate_left 1
      · go_simp
        exact rfl
      refine takeH (fuel := 9) (i := 4) (.pointer (some ⟨lb, off + k * 20, none⟩)) ?_ rfl (by kernel_rfl) (by kernel_rfl) (by kernel_rfl) (fun _ _ _ h => h) (by kernel_rfl) (fun W hS => by go_simp) hS0 ?_ ?_
      rotate_left 1
      · go_simp
        exact rfl
      refine takeH (fuel := 8) (i := 5) (.int .i64 hd) ?_ rfl (by kernel_rfl) (by kernel_rfl) (by kernel_rfl) (fun _ _ _ h => h) (by kernel_rfl) (fun W hS => by have k1 := hS.1; go_simp) hS0 ?_ ?_
      rotate_left 1
      · go_simp
        exact rfl
      refine takeH (fuel := 7) (i := 6) (.agg (akC (rdOf x))) ?_ rfl (by kernel_rfl) (by kernel_rfl) (by kernel_rfl) (fun _ _ _ h => h) (by kernel_rfl) (fun W hS => exec_load_row AKT _ rfl qb rfl AKT _ _ hS.2.cs Try.underlying66 rfl info_ak) hS0 ?_ ?_
      rotate_left 1
      · go_simp
        exact rfl
      refine wpAnyH_all (fuel := 6) (rs := [7, 11]) (by kernel_rfl) (by decide) ?_
      intro i hi
      simp only [List.mem_cons, List.not_mem_nil, or_false] at hi
      rcases hi with rfl | rfl
      · skip
        refine wpOp_callX 18 #[.pointer (some ⟨sb, 0, none⟩), .int .i64 hd, .agg (akC (rdOf x))] rfl (by kernel_rfl) (by go_simp) ?_
        refine (do_any (rdOf x) HRI.out hd _ hsd).mono ?_
        rintro e w6 ⟨d, g, ok, B', T', rfl, hs6, ht6, hok6, hy6, hn6⟩
        have HK6 := Lib.hid (And.intro hok6 (And.intro hy6 hn6))
        clear hok6 hy6 hn6
        have hS1 : w6.cell? ⟨lb, off + k * 20, none⟩ = some (.int .i64 hd) ∧ AkAt w6 qb (rdOf x) := ⟨ht6.cell hS0.1 HNE.out.2.2.1 HNE.out.2.2.2, ⟨(ht6.block _ hS0.2.cs.lt HNE.out.2.1.1 HNE.out.2.1.2).trans hS0.2.cs⟩⟩
        refine ⟨_, rfl, hS1, ?_⟩
        refine takeH (fuel := 5) (i := 8) (.tuple #[.agg (anC d g), .bool ok]) ?_ rfl (by kernel_rfl) (by kernel_rfl) (by kernel_rfl) (fun _ _ _ h => h) (by kernel_rfl) (fun W hS => by go_simp) hS1 ?_ ?_
        rotate_left 1
        · go_simp
          exact rfl
        refine takeH (fuel := 4) (i := 9) (.agg (anC d g)) ?_ rfl (by kernel_rfl) (by kernel_rfl) (by kernel_rfl) (fun _ _ _ h => h) (by kernel_rfl) (fun W hS => by go_simp) hS1 ?_ ?_
        rotate_left 1
        · go_simp
          exact rfl
        refine takeH (fuel := 3) (i := 10) (.bool ok) ?_ rfl (by kernel_rfl) (by kernel_rfl) (by kernel_rfl) (fun _ _ _ h => h) (by kernel_rfl) (fun W hS => by go_simp) hS1 ?_ ?_
        rotate_left 1
        · go_simp
          exact rfl
        refine wpAnyH_all (fuel := 2) (rs := [11]) (by kernel_rfl) (by decide) ?_
        intro i hi
        obtain rfl : i = 11 := by simpa using hi
        refine wpOp_valB (.pointer (some ⟨w6.heap.size, 0, none⟩)) (w6.alloc (.cells (anC 0 false) ANT)) ?_ rfl (by kernel_rfl) (exec_alloc ANT rfl _ (zv_an _)) ?_ ?_
        rotate_left 1
        · go_simp
          exact rfl
        have hbx := box_below w6 (anC 0 false) ANT
        have hX := CsAt.new w6 ANT (anC 0 false)
        have hS2 : (w6.alloc (.cells (anC 0 false) ANT)).cell? ⟨lb, off + k * 20, none⟩ = some (.int .i64 hd) ∧ AkAt (w6.alloc (.cells (anC 0 false) ANT)) qb (rdOf x) := ⟨(hbx.cell (p := ⟨lb, off + k * 20, none⟩) (World.block_lt_of_cell? _ _ hS1.1)).trans hS1.1, hS1.2.low hbx⟩
        have ht6 : Two sb mb w2 w6 := ⟨ht6.os, ht6.tape, ht6.output, ht6.size, ht6.block⟩
        have hs7 := hs6.low hbx
        have ht7 := ht6.trans (Two.of_below hbx)
        have hnw : w2.heap.size ≤ w6.heap.size := ht6.size
        have hlt6 : ∀ b, b < w6.heap.size → b ≠ w6.heap.size := fun b hb e => by omega
        have l1 : lb < w6.heap.size := World.block_lt_of_cell? _ _ hS1.1
        have l2 := hS1.2.cs.lt
        have l3 := hs6.slt
        have l4 := hs6.ram.lt
        have l5 := hs6.ram.mlt
        generalize w6.alloc (.cells (anC 0 false) ANT) = w7 at *
        generalize w6.heap.size = xb at *
        refine ⟨hS2, ?_⟩
        refine wpAnyH_all (fuel := 1) (rs := [12]) (by kernel_rfl) (by decide) ?_
        intro i hi
        obtain rfl : i = 12 := by simpa using hi
        refine wpOp_unitB (w7.setRow xb (anC d g)) ?_ rfl (by kernel_rfl) (exec_store_row ANT (.tmp 10) (.tmp 54) rfl xb (anC d g) rfl rfl ANT (anC 0 false) hX info_an rfl (anC_one _ _)) ?_ ?_
        rotate_left 1
        · go_simp
          exact rfl
        have hS3 : (w7.setRow xb (anC d g)).cell? ⟨lb, off + k * 20, none⟩ = some (.int .i64 hd) ∧ AkAt (w7.setRow xb (anC d g)) qb (rdOf x) := ⟨(World.cell?_of_block (w := w7) (a := ⟨lb, off + k * 20, none⟩) (setRow_other w7 xb lb _ (by omega))).trans hS2.1, ⟨hS2.2.cs.rowFar (by omega) _⟩⟩
        have hD : DidAt sb rb mb B T hd (rdOf x) w2 (w7.setRow xb (anC d g)) xb d g ok B' T' := ⟨hX.row _, hnw, hs7.only (row_only _ _ _) (by omega) (by omega) (by omega), two_row ht7 hnw _, HK6.out.1, HK6.out.2.1, HK6.out.2.2⟩
        have HD := Lib.hid hD
        clear hD
        refine ⟨hS3, ?_⟩
        refine takeH (fuel := 0) (i := 13) (.bool ok) ?_ rfl (by kernel_rfl) (by kernel_rfl) (by kernel_rfl) (fun _ _ _ h => h) (by kernel_rfl) (fun W hS => by go_simp) hS3 ?_ ?_
        rotate_left 1
        · go_simp
          exact rfl
        refine wpAnyH_done (by kernel_rfl) ?_ _
        refine NoPanic.normal ?_
        go_wp2_with fail
        go_meet
        exact ⟨xb, d, g, ok, B', T', rfl, rfl, HD.out⟩
      · skip
        have hbx := box_below w2.drew (anC 0 false) ANT
        refine wpOp_valB (.pointer (some ⟨w2.drew.heap.size, 0, none⟩)) (w2.drew.alloc (.cells (anC 0 false) ANT)) ?_ rfl (by kernel_rfl) (exec_alloc ANT rfl _ (zv_an _)) ?_ ?_
        rotate_left 1
        · go_simp
          exact rfl
        have hX0 := CsAt.new w2.drew ANT (anC 0 false)
        have hS1 : (w2.drew.alloc (.cells (anC 0 false) ANT)).cell? ⟨lb, off + k * 20, none⟩ = some (.int .i64 hd) ∧ AkAt (w2.drew.alloc (.cells (anC 0 false) ANT)) qb (rdOf x) := ⟨(hbx.cell (p := ⟨lb, off + k * 20, none⟩) (World.block_lt_of_cell? _ _ hS0.1)).trans hS0.1, hS0.2.low hbx⟩
        have hsa := hsd.low hbx
        have hta : Two sb mb w2 (w2.drew.alloc (.cells (anC 0 false) ANT)) := Two.of_below ((Below.refl _ _).drew.trans hbx)
        obtain ⟨xb, hxb⟩ : ∃ xb, w2.heap.size = xb := ⟨_, rfl⟩
        have hnw : w2.heap.size ≤ xb := Nat.le_of_eq hxb
        have hX0 : CsAt (w2.drew.alloc (.cells (anC 0 false) ANT)) xb ANT (anC 0 false) := by rw [← hxb]; exact hX0
        have l1 : lb < xb := by rw [← hxb]; exact World.block_lt_of_cell? _ _ hS0.1
        have l2 : qb < xb := by rw [← hxb]; exact hS0.2.cs.lt
        have l3 : sb < xb := by rw [← hxb]; exact hsd.slt
        have l4 : rb < xb := by rw [← hxb]; exact hsd.ram.lt
        have l5 : mb < xb := by rw [← hxb]; exact hsd.ram.mlt
        rw [hxb]
        clear hbx hxb
        generalize w2.drew.alloc (.cells (anC 0 false) ANT) = wa at *
        refine ⟨hS1, ?_⟩
        refine wpAnyH_all (fuel := 5) (rs := [7]) (by kernel_rfl) (by decide) ?_
        intro i hi
        obtain rfl : i = 7 := by simpa using hi
        refine wpOp_callX 18 #[.pointer (some ⟨sb, 0, none⟩), .int .i64 hd, .agg (akC (rdOf x))] rfl (by kernel_rfl) (by go_simp) ?_
        refine (do_any (rdOf x) HRI.out hd _ hsa).mono ?_
        rintro e w7 ⟨d, g, ok, B', T', rfl, hs7, ht6, hok6, hy6, hn6⟩
        have HK6 := Lib.hid (And.intro hok6 (And.intro hy6 hn6))
        clear hok6 hy6 hn6
        have hX : CsAt w7 xb ANT (anC 0 false) := (ht6.block xb hX0.lt (by omega) (by omega)).trans hX0
        have ht7 := hta.trans ht6
        have hS2 : w7.cell? ⟨lb, off + k * 20, none⟩ = some (.int .i64 hd) ∧ AkAt w7 qb (rdOf x) := ⟨ht6.cell hS1.1 HNE.out.2.2.1 HNE.out.2.2.2, ⟨(ht6.block _ hS1.2.cs.lt HNE.out.2.1.1 HNE.out.2.1.2).trans hS1.2.cs⟩⟩
        refine ⟨_, rfl, hS2, ?_⟩
        refine takeH (fuel := 4) (i := 8) (.tuple #[.agg (anC d g), .bool ok]) ?_ rfl (by kernel_rfl) (by kernel_rfl) (by kernel_rfl) (fun _ _ _ h => h) (by kernel_rfl) (fun W hS => by go_simp) hS2 ?_ ?_
        rotate_left 1
        · go_simp
          exact rfl
        refine takeH (fuel := 3) (i := 9) (.agg (anC d g)) ?_ rfl (by kernel_rfl) (by kernel_rfl) (by kernel_rfl) (fun _ _ _ h => h) (by kernel_rfl) (fun W hS => by go_simp) hS2 ?_ ?_
        rotate_left 1
        · go_simp
          exact rfl
        refine takeH (fuel := 2) (i := 10) (.bool ok) ?_ rfl (by kernel_rfl) (by kernel_rfl) (by kernel_rfl) (fun _ _ _ h => h) (by kernel_rfl) (fun W hS => by go_simp) hS2 ?_ ?_
        rotate_left 1
        · go_simp
          exact rfl
        refine wpAnyH_all (fuel := 1) (rs := [12]) (by kernel_rfl) (by decide) ?_
        intro i hi
        obtain rfl : i = 12 := by simpa using hi
        refine wpOp_unitB (w7.setRow xb (anC d g)) ?_ rfl (by kernel_rfl) (exec_store_row ANT (.tmp 10) (.tmp 54) rfl xb (anC d g) rfl rfl ANT (anC 0 false) hX info_an rfl (anC_one _ _)) ?_ ?_
        rotate_left 1
        · go_simp
          exact rfl
        have hS3 : (w7.setRow xb (anC d g)).cell? ⟨lb, off + k * 20, none⟩ = some (.int .i64 hd) ∧ AkAt (w7.setRow xb (anC d g)) qb (rdOf x) := ⟨(World.cell?_of_block (w := w7) (a := ⟨lb, off + k * 20, none⟩) (setRow_other w7 xb lb _ (by omega))).trans hS2.1, ⟨hS2.2.cs.rowFar (by omega) _⟩⟩
        have hD : DidAt sb rb mb B T hd (rdOf x) w2 (w7.setRow xb (anC d g)) xb d g ok B' T' := ⟨hX.row _, hnw, hs7.only (row_only _ _ _) (by omega) (by omega) (by omega), two_row ht7 hnw _, HK6.out.1, HK6.out.2.1, HK6.out.2.2⟩
        have HD := Lib.hid hD
        clear hD
        refine ⟨hS3, ?_⟩
        refine takeH (fuel := 0) (i := 13) (.bool ok) ?_ rfl (by kernel_rfl) (by kernel_rfl) (by kernel_rfl) (fun _ _ _ h => h) (by kernel_rfl) (fun W hS => by go_simp) hS3 ?_ ?_
        rotate_left 1
        · go_simp
          exact rfl
        refine wpAnyH_done (by kernel_rfl) ?_ _
        refine NoPanic.normal ?_
        go_wp2_with fail
        go_meet
        exact ⟨xb, d, g, ok, B', T', rfl, rfl, HD.out⟩
    case rest =>
      obtain ⟨x1, v1, g1, ok1, B1, T1, rfl, rfl, hD⟩ := hcut
      obtain ⟨w3, hwn⟩ : ∃ u, u = wc := ⟨_, rfl⟩
      subst hwn
      obtain ⟨e1, e2⟩ := hD.rd
      subst e1 e2
      have HD1 := Lib.hid hD
      have HP3 := Lib.hid (HP2.out.two hD.sh hD.two)
      have HA3 := Lib.hid (show AkAt w3 ab x from ⟨(hD.two.block _ HA2.out.cs.lt HNE.out.1.1 HNE.out.1.2).trans HA2.out.cs⟩)
      have HQ3 := Lib.hid (show AkAt w3 qb (rdOf x) from ⟨(hD.two.block _ HQ2.out.cs.lt HNE.out.2.1.1 HNE.out.2.1.2).trans HQ2.out.cs⟩)
      have HX1 := Lib.hid hD.box
      have HN1 := Lib.hid (show x1 ≠ sb ∧ x1 ≠ mb by have h1 := hD.new; have h2 := HP2.out.sh.slt; have h3 := HP2.out.sh.ram.mlt; omega)
      clear hD HP2 HA2 HQ2
      go_upto_region 14 with fail
      try dsimp only [Act.put]
      go_cut [12, 13] (fun s10 s11 wx => ∃ xb d g ok B' T', s10 = .pointer (some ⟨xb, 0, none⟩) ∧ s11 = .bool ok ∧ DidAt sb rb mb B1 T1 hd x w3 wx xb d g ok B' T')
      case first =>
        refine wp_region_noPanic ?_
        refine wp_region_held (S := fun W => W.cell? ⟨lb, off + k * 20, none⟩ = some (.int .i64 hd) ∧ AkAt W ab x) (by kernel_rfl) ?_
        have hS0 : w3.drew.cell? ⟨lb, off + k * 20, none⟩ = some (.int .i64 hd) ∧ AkAt w3.drew ab x := ⟨HC0.out _ HP3.out.bel.drew, HA3.out.low (Below.refl _ _).drew⟩
        have hsd : ShAt w3.drew sb rb mb c8 B1 T1 := HP3.out.sh.drew
        refine takeH (fuel := 13) (i := 0) (.pointer (some ⟨sb, 0, none⟩)) ?_ rfl (by kernel_rfl) (by kernel_rfl) (by kernel_rfl) (fun _ _ _ h => h) (by kernel_rfl) (fun W hS => by go_simp) hS0 ?_ ?_
        rotate_left 1
        · go_simp
          exact rfl
        refine takeH (fuel := 12) (i := 1) (.slice (some ⟨lb, off, none⟩) n cap) ?_ rfl (by kernel_rfl) (by kernel_rfl) (by kernel_rfl) (fun _ _ _ h => h) (by kernel_rfl) (fun W hS => by go_simp) hS0 ?_ ?_
        rotate_left 1
        · go_simp
          exact rfl
        refine takeH (fuel := 11) (i := 2) (.int .i64 (k : Int)) ?_ rfl (by kernel_rfl) (by kernel_rfl) (by kernel_rfl) (fun _ _ _ h => h) (by kernel_rfl) (fun W hS => by go_simp) hS0 ?_ ?_
        rotate_left 1
        · go_simp
          exact rfl
        refine takeH (fuel := 10) (i := 3) (.pointer (some ⟨lb, off + k * 20, none⟩)) ?_ rfl (by kernel_rfl) (by kernel_rfl) (by kernel_rfl) (fun _ _ _ h => h) (by kernel_rfl) (fun W hS => by go_simp) hS0 ?_ ?_
        rotate_left 1
        · go_simp
          exact rfl
        refine takeH (fuel := 9) (i := 4) (.pointer (some ⟨lb, off + k * 20, none⟩)) ?_ rfl (by kernel_rfl) (by kernel_rfl) (by kernel_rfl) (fun _ _ _ h => h) (by kernel_rfl) (fun W hS => by go_simp) hS0 ?_ ?_
        rotate_left 1
        · go_simp
          exact rfl
        refine takeH (fuel := 8) (i := 5) (.int .i64 hd) ?_ rfl (by kernel_rfl) (by kernel_rfl) (by kernel_rfl) (fun _ _ _ h => h) (by kernel_rfl) (fun W hS => by have k1 := hS.1; go_simp) hS0 ?_ ?_
        rotate_left 1
        · go_simp
          exact rfl
        refine takeH (fuel := 7) (i := 6) (.agg (akC x)) ?_ rfl (by kernel_rfl) (by kernel_rfl) (by kernel_rfl) (fun _ _ _ h => h) (by kernel_rfl) (fun W hS => exec_load_row AKT _ rfl ab rfl AKT _ _ hS.2.cs Try.underlying66 rfl info_ak) hS0 ?_ ?_
        rotate_left 1
        · go_simp
          exact rfl
        refine wpAnyH_all (fuel := 6) (rs := [7, 11]) (by kernel_rfl) (by decide) ?_
        intro i hi
        simp only [List.mem_cons, List.not_mem_nil, or_false] at hi
        rcases hi with rfl | rfl
        · skip
          refine wpOp_callX 18 #[.pointer (some ⟨sb, 0, none⟩), .int .i64 hd, .agg (akC x)] rfl (by kernel_rfl) (by go_simp) ?_
          refine (do_any x HIN.out hd _ hsd).mono ?_
          rintro e w6 ⟨d, g, ok, B', T', rfl, hs6, ht6, hok6, hy6, hn6⟩
          have HK6 := Lib.hid (And.intro hok6 (And.intro hy6 hn6))
          clear hok6 hy6 hn6
          have hS1 : w6.cell? ⟨lb, off + k * 20, none⟩ = some (.int .i64 hd) ∧ AkAt w6 ab x := ⟨ht6.cell hS0.1 HNE.out.2.2.1 HNE.out.2.2.2, ⟨(ht6.block _ hS0.2.cs.lt HNE.out.1.1 HNE.out.1.2).trans hS0.2.cs⟩⟩
          refine ⟨_, rfl, hS1, ?_⟩
          refine takeH (fuel := 5) (i := 8) (.tuple #[.agg (anC d g), .bool ok]) ?_ rfl (by kernel_rfl) (by kernel_rfl) (by kernel_rfl) (fun _ _ _ h => h) (by kernel_rfl) (fun W hS => by go_simp) hS1 ?_ ?_
          rotate_left 1
          · go_simp
            exact rfl
          refine takeH (fuel := 4) (i := 9) (.agg (anC d g)) ?_ rfl (by kernel_rfl) (by kernel_rfl) (by kernel_rfl) (fun _ _ _ h => h) (by kernel_rfl) (fun W hS => by go_simp) hS1 ?_ ?_
          rotate_left 1
          · go_simp
            exact rfl
          refine takeH (fuel := 3) (i := 10) (.bool ok) ?_ rfl (by kernel_rfl) (by kernel_rfl) (by kernel_rfl) (fun _ _ _ h => h) (by kernel_rfl) (fun W hS => by go_simp) hS1 ?_ ?_
          rotate_left 1
          · go_simp
            exact rfl
          refine wpAnyH_all (fuel := 2) (rs := [11]) (by kernel_rfl) (by decide) ?_
          intro i hi
          obtain rfl : i = 11 := by simpa using hi
          refine wpOp_valB (.pointer (some ⟨w6.heap.size, 0, none⟩)) (w6.alloc (.cells (anC 0 false) ANT)) ?_ rfl (by kernel_rfl) (exec_alloc ANT rfl _ (zv_an _)) ?_ ?_
          rotate_left 1
          · go_simp
            exact rfl
          have hbx := box_below w6 (anC 0 false) ANT
          have hX := CsAt.new w6 ANT (anC 0 false)
          have hS2 : (w6.alloc (.cells (anC 0 false) ANT)).cell? ⟨lb, off + k * 20, none⟩ = some (.int .i64 hd) ∧ AkAt (w6.alloc (.cells (anC 0 false) ANT)) ab x := ⟨(hbx.cell (p := ⟨lb, off + k * 20, none⟩) (World.block_lt_of_cell? _ _ hS1.1)).trans hS1.1, hS1.2.low hbx⟩
          have ht6 : Two sb mb w3 w6 := ⟨ht6.os, ht6.tape, ht6.output, ht6.size, ht6.block⟩
          have hs7 := hs6.low hbx
          have ht7 := ht6.trans (Two.of_below hbx)
          have hnw : w3.heap.size ≤ w6.heap.size := ht6.size
          have hlt6 : ∀ b, b < w6.heap.size → b ≠ w6.heap.size := fun b hb e => by omega
          have l1 : lb < w6.heap.size := World.block_lt_of_cell? _ _ hS1.1
          have l2 := hS1.2.cs.lt
          have l3 := hs6.slt
          have l4 := hs6.ram.lt
          have l5 := hs6.ram.mlt
          generalize w6.alloc (.cells (anC 0 false) ANT) = w7 at *
          generalize w6.heap.size = xb at *
          refine ⟨hS2, ?_⟩
          refine wpAnyH_all (fuel := 1) (rs := [12]) (by kernel_rfl) (by decide) ?_
          intro i hi
          obtain rfl : i = 12 := by simpa using hi
          refine wpOp_unitB (w7.setRow xb (anC d g)) ?_ rfl (by kernel_rfl) (exec_store_row ANT (.tmp 12) (.tmp 65) rfl xb (anC d g) rfl rfl ANT (anC 0 false) hX info_an rfl (anC_one _ _)) ?_ ?_
          rotate_left 1
          · go_simp
            exact rfl
          have hS3 : (w7.setRow xb (anC d g)).cell? ⟨lb, off + k * 20, none⟩ = some (.int .i64 hd) ∧ AkAt (w7.setRow xb (anC d g)) ab x := ⟨(World.cell?_of_block (w := w7) (a := ⟨lb, off + k * 20, none⟩) (setRow_other w7 xb lb _ (by omega))).trans hS2.1, ⟨hS2.2.cs.rowFar (by omega) _⟩⟩
          have hD : DidAt sb rb mb B1 T1 hd x w3 (w7.setRow xb (anC d g)) xb d g ok B' T' := ⟨hX.row _, hnw, hs7.only (row_only _ _ _) (by omega) (by omega) (by omega), two_row ht7 hnw _, HK6.out.1, HK6.out.2.1, HK6.out.2.2⟩
          have HD := Lib.hid hD
          clear hD
          refine ⟨hS3, ?_⟩
          refine takeH (fuel := 0) (i := 13) (.bool ok) ?_ rfl (by kernel_rfl) (by kernel_rfl) (by kernel_rfl) (fun _ _ _ h => h) (by kernel_rfl) (fun W hS => by go_simp) hS3 ?_ ?_
          rotate_left 1
          · go_simp
            exact rfl
          refine wpAnyH_done (by kernel_rfl) ?_ _
          refine NoPanic.normal ?_
          go_wp2_with fail
          go_meet
          exact ⟨xb, d, g, ok, B', T', rfl, rfl, HD.out⟩
        · skip
          have hbx := box_below w3.drew (anC 0 false) ANT
          refine wpOp_valB (.pointer (some ⟨w3.drew.heap.size, 0, none⟩)) (w3.drew.alloc (.cells (anC 0 false) ANT)) ?_ rfl (by kernel_rfl) (exec_alloc ANT rfl _ (zv_an _)) ?_ ?_
          rotate_left 1
          · go_simp
            exact rfl
          have hX0 := CsAt.new w3.drew ANT (anC 0 false)
          have hS1 : (w3.drew.alloc (.cells (anC 0 false) ANT)).cell? ⟨lb, off + k * 20, none⟩ = some (.int .i64 hd) ∧ AkAt (w3.drew.alloc (.cells (anC 0 false) ANT)) ab x := ⟨(hbx.cell (p := ⟨lb, off + k * 20, none⟩) (World.block_lt_of_cell? _ _ hS0.1)).trans hS0.1, hS0.2.low hbx⟩
          have hsa := hsd.low hbx
          have hta : Two sb mb w3 (w3.drew.alloc (.cells (anC 0 false) ANT)) := Two.of_below ((Below.refl _ _).drew.trans hbx)
          obtain ⟨xb, hxb⟩ : ∃ xb, w3.heap.size = xb := ⟨_, rfl⟩
          have hnw : w3.heap.size ≤ xb := Nat.le_of_eq hxb
          have hX0 : CsAt (w3.drew.alloc (.cells (anC 0 false) ANT)) xb ANT (anC 0 false) := by rw [← hxb]; exact hX0
          have l1 : lb < xb := by rw [← hxb]; exact World.block_lt_of_cell? _ _ hS0.1
          have l2 : ab < xb := by rw [← hxb]; exact hS0.2.cs.lt
          have l3 : sb < xb := by rw [← hxb]; exact hsd.slt
          have l4 : rb < xb := by rw [← hxb]; exact hsd.ram.lt
          have l5 : mb < xb := by rw [← hxb]; exact hsd.ram.mlt
          rw [hxb]
          clear hbx hxb
          generalize w3.drew.alloc (.cells (anC 0 false) ANT) = wa at *
          refine ⟨hS1, ?_⟩
          refine wpAnyH_all (fuel := 5) (rs := [7]) (by kernel_rfl) (by decide) ?_
          intro i hi
          obtain rfl : i = 7 := by simpa using hi
          refine wpOp_callX 18 #[.pointer (some ⟨sb, 0, none⟩), .int .i64 hd, .agg (akC x)] rfl (by kernel_rfl) (by go_simp) ?_
          refine (do_any x HIN.out hd _ hsa).mono ?_
          rintro e w7 ⟨d, g, ok, B', T', rfl, hs7, ht6, hok6, hy6, hn6⟩
          have HK6 := Lib.hid (And.intro hok6 (And.intro hy6 hn6))
          clear hok6 hy6 hn6
          have hX : CsAt w7 xb ANT (anC 0 false) := (ht6.block xb hX0.lt (by omega) (by omega)).trans hX0
          have ht7 := hta.trans ht6
          have hS2 : w7.cell? ⟨lb, off + k * 20, none⟩ = some (.int .i64 hd) ∧ AkAt w7 ab x := ⟨ht6.cell hS1.1 HNE.out.2.2.1 HNE.out.2.2.2, ⟨(ht6.block _ hS1.2.cs.lt HNE.out.1.1 HNE.out.1.2).trans hS1.2.cs⟩⟩
          refine ⟨_, rfl, hS2, ?_⟩
          refine takeH (fuel := 4) (i := 8) (.tuple #[.agg (anC d g), .bool ok]) ?_ rfl (by kernel_rfl) (by kernel_rfl) (by kernel_rfl) (fun _ _ _ h => h) (by kernel_rfl) (fun W hS => by go_simp) hS2 ?_ ?_
          rotate_left 1
          · go_simp
            exact rfl
          refine takeH (fuel := 3) (i := 9) (.agg (anC d g)) ?_ rfl (by kernel_rfl) (by kernel_rfl) (by kernel_rfl) (fun _ _ _ h => h) (by kernel_rfl) (fun W hS => by go_simp) hS2 ?_ ?_
          rotate_left 1
          · go_simp
            exact rfl
          refine takeH (fuel := 2) (i := 10) (.bool ok) ?_ rfl (by kernel_rfl) (by kernel_rfl) (by kernel_rfl) (fun _ _ _ h => h) (by kernel_rfl) (fun W hS => by go_simp) hS2 ?_ ?_
          rotate_left 1
          · go_simp
            exact rfl
          refine wpAnyH_all (fuel := 1) (rs := [12]) (by kernel_rfl) (by decide) ?_
          intro i hi
          obtain rfl : i = 12 := by simpa using hi
          refine wpOp_unitB (w7.setRow xb (anC d g)) ?_ rfl (by kernel_rfl) (exec_store_row ANT (.tmp 12) (.tmp 65) rfl xb (anC d g) rfl rfl ANT (anC 0 false) hX info_an rfl (anC_one _ _)) ?_ ?_
          rotate_left 1
          · go_simp
            exact rfl
          have hS3 : (w7.setRow xb (anC d g)).cell? ⟨lb, off + k * 20, none⟩ = some (.int .i64 hd) ∧ AkAt (w7.setRow xb (anC d g)) ab x := ⟨(World.cell?_of_block (w := w7) (a := ⟨lb, off + k * 20, none⟩) (setRow_other w7 xb lb _ (by omega))).trans hS2.1, ⟨hS2.2.cs.rowFar (by omega) _⟩⟩
          have hD : DidAt sb rb mb B1 T1 hd x w3 (w7.setRow xb (anC d g)) xb d g ok B' T' := ⟨hX.row _, hnw, hs7.only (row_only _ _ _) (by omega) (by omega) (by omega), two_row ht7 hnw _, HK6.out.1, HK6.out.2.1, HK6.out.2.2⟩
          have HD := Lib.hid hD
          clear hD
          refine ⟨hS3, ?_⟩
          refine takeH (fuel := 0) (i := 13) (.bool ok) ?_ rfl (by kernel_rfl) (by kernel_rfl) (by kernel_rfl) (fun _ _ _ h => h) (by kernel_rfl) (fun W hS => by go_simp) hS3 ?_ ?_
          rotate_left 1
          · go_simp
            exact rfl
          refine wpAnyH_done (by kernel_rfl) ?_ _
          refine NoPanic.normal ?_
          go_wp2_with fail
          go_meet
          exact ⟨xb, d, g, ok, B', T', rfl, rfl, HD.out⟩
      case rest =>
        obtain ⟨x2, v2, g2, ok2, B2, T2, rfl, rfl, hD⟩ := hcut
        obtain ⟨w4, hwn⟩ : ∃ u, u = wc := ⟨_, rfl⟩
        subst hwn
        have HD2 := Lib.hid hD
        have HP4 := Lib.hid (HP3.out.two hD.sh hD.two)
        have HA4 := Lib.hid (show AkAt w4 ab x from ⟨(hD.two.block _ HA3.out.cs.lt HNE.out.1.1 HNE.out.1.2).trans HA3.out.cs⟩)
        have HQ4 := Lib.hid (show AkAt w4 qb (rdOf x) from ⟨(hD.two.block _ HQ3.out.cs.lt HNE.out.2.1.1 HNE.out.2.1.2).trans HQ3.out.cs⟩)
        have HX14 := Lib.hid (show CsAt w4 x1 ANT (anC v1 g1) from (hD.two.block _ HX1.out.lt HN1.out.1 HN1.out.2).trans HX1.out)
        have HX24 := Lib.hid hD.box
        have HN2 := Lib.hid (show x2 ≠ sb ∧ x2 ≠ mb by have h1 := hD.new; have h2 := HP3.out.sh.slt; have h3 := HP3.out.sh.ram.mlt; omega)
        have HND := Lib.hid (show ∀ b, (Value.slice p1 es.length c1).ownBlock = some b → b ≠ x2 from fun b hb e => by have h1 := (HP3.out.dd.lt b hb).2; have h2 := hD.new; omega)
        clear hD HP3 HA3 HQ3 HX1
        cases ok2
        · obtain ⟨e1, e2⟩ := HD2.out.no rfl
          have HT4 := Lib.hid (show Sh.TellsT T2 (evR es) by rw [e2]; exact HTL.out)
          clear e1 e2
          go_wp2_with fail
          go_roundw
          case rel => exact ⟨k + 1, B2, T2, es, by omega, by go_num, by omega, HP4.out, HT4.out, HPK.out⟩
          case measure => first | (simp [intOf]; done) | (simp [intOf]; omega)
        · have HOX := Lib.hid HD2.out.is.symm
          obtain ⟨e1, e2, e3, e4⟩ := HD2.out.yes rfl
          have HMX := Lib.hid (show Sh.mayB c8.lines.toNat x = true by have h := HOX.out; unfold Sh.okD at h; rw [Bool.and_eq_true] at h; exact h.1)
          have HT9 := Lib.hid (show Sh.TellsT T2 (evR (es ++ [⟨hd, x, v2, g2⟩])) by rw [evR_snoc, e4, e2]; exact Sh.tells_step HTL.out (ok_inH HOX.out) x)
          have HK9 := Lib.hid (show PeOk (es ++ [⟨hd, x, v2, g2⟩]) from peok_snoc HPK.out ⟨HIN.out, Sh.may_form HMX.out⟩)
          have HG6 := Lib.hid (show x.kind = 6 → g2 = (x.live && Sh.cntR hd (x.addr / 64) (evR es)) from fun h6 => by rw [e2]; unfold Sh.ansG; rw [if_pos h6, Sh.tells_good HTL.out (ok_inH HOX.out)])
          have HVD := Lib.hid e1
          have HVB := Lib.hid e3
          clear e1 e2 e3 e4
          by_cases k4 : x.kind = 4
          · obtain ⟨hc0, -, -, hib, hrm, -⟩ := Sh.amo_form HIN.out HMX.out k4
            have HOR := Lib.hid (show Sh.okD c8.lines.toNat c8.harts hd (rdOf x) = true by have h := HOX.out; unfold Sh.okD at h ⊢; rw [Bool.and_eq_true] at h; rw [hrm, h.2]; rfl)
            have hfx := Sh.may_form HMX.out
            have hsb : Rm.Ok B1 c8.lines.toNat := HD1.out.sh.ram.ok
            have HV1 := Lib.hid (show v1 = Sh.nB B1 c8.lines.toNat x by rw [(HD1.out.yes (HD1.out.is.trans HOR.out)).1, Sh.rd_D, Sh.rd_num hc0])
            have HV2 := Lib.hid (show v2 = Sh.nB B1 c8.lines.toNat x by rw [HVD.out]; unfold Sh.ansD; rw [if_neg (by omega)])
            have HAF := Lib.hid (show Sh.nB B2 c8.lines.toNat (rdOf x) = amoV x.op (Sh.nB B1 c8.lines.toNat x) x.data by rw [HVB.out]; exact Sh.amo_after hsb (by decide) HIN.out HMX.out k4)
            have hnw := Sh.nB_word hsb hfx
            have HAM := Lib.hid (amo_fit x.op (Sh.nB B1 c8.lines.toNat x) x.data hnw.1 hnw.2 HIN.out.data.1 (by have := HIN.out.data; omega)).2.1
            have d0 := HA4.out.kind
            rw [k4] at d0
            clear hc0 hib hrm hfx hsb hnw
            go_upto_region 17 with fail
            clear d0
            try dsimp only [Act.put]
            go_cut [14, 15] (fun s10 s11 wx => ∃ xb d g ok B' T', s10 = .pointer (some ⟨xb, 0, none⟩) ∧ s11 = .bool ok ∧ DidAt sb rb mb B2 T2 hd (rdOf x) w4 wx xb d g ok B' T')
            case first =>
              refine wp_region_noPanic ?_
              refine wp_region_held (S := fun W => W.cell? ⟨lb, off + k * 20, none⟩ = some (.int .i64 hd) ∧ AkAt W qb (rdOf x)) (by kernel_rfl) ?_
              have hS0 : w4.drew.cell? ⟨lb, off + k * 20, none⟩ = some (.int .i64 hd) ∧ AkAt w4.drew qb (rdOf x) := ⟨HC0.out _ HP4.out.bel.drew, HQ4.out.low (Below.refl _ _).drew⟩
              have hsd : ShAt w4.drew sb rb mb c8 B2 T2 := HP4.out.sh.drew
              refine takeH (fuel := 13) (i := 0) (.pointer (some ⟨sb, 0, none⟩)) ?_ rfl (by kernel_rfl) (by kernel_rfl) (by kernel_rfl) (fun _ _ _ h => h) (by kernel_rfl) (fun W hS => by go_simp) hS0 ?_ ?_
              rotate_left 1
              · go_simp
                exact rfl
              refine takeH (fuel := 12) (i := 1) (.slice (some ⟨lb, off, none⟩) n cap) ?_ rfl (by kernel_rfl) (by kernel_rfl) (by kernel_rfl) (fun _ _ _ h => h) (by kernel_rfl) (fun W hS => by go_simp) hS0 ?_ ?_
              rotate_left 1
              · go_simp
                exact rfl
              refine takeH (fuel := 11) (i := 2) (.int .i64 (k : Int)) ?_ rfl (by kernel_rfl) (by kernel_rfl) (by kernel_rfl) (fun _ _ _ h => h) (by kernel_rfl) (fun W hS => by go_simp) hS0 ?_ ?_
              rotate_left 1
              · go_simp
                exact rfl
              refine takeH (fuel := 10) (i := 3) (.pointer (some ⟨lb, off + k * 20, none⟩)) ?_ rfl (by kernel_rfl) (by kernel_rfl) (by kernel_rfl) (fun _ _ _ h => h) (by kernel_rfl) (fun W hS => by go_simp) hS0 ?_ ?_
              rotate_left 1
              · go_simp
                exact rfl
              refine takeH (fuel := 9) (i := 4) (.pointer (some ⟨lb, off + k * 20, none⟩)) ?_ rfl (by kernel_rfl) (by kernel_rfl) (by kernel_rfl) (fun _ _ _ h => h) (by kernel_rfl) (fun W hS => by go_simp) hS0 ?_ ?_
              rotate_left 1
              · go_simp
                exact rfl
              refine takeH (fuel := 8) (i := 5) (.int .i64 hd) ?_ rfl (by kernel_rfl) (by kernel_rfl) (by kernel_rfl) (fun _ _ _ h => h) (by kernel_rfl) (fun W hS => by have k1 := hS.1; go_simp) hS0 ?_ ?_
              rotate_left 1
              · go_simp
                exact rfl
              refine takeH (fuel := 7) (i := 6) (.agg (akC (rdOf x))) ?_ rfl (by kernel_rfl) (by kernel_rfl) (by kernel_rfl) (fun _ _ _ h => h) (by kernel_rfl) (fun W hS => exec_load_row AKT _ rfl qb rfl AKT _ _ hS.2.cs Try.underlying66 rfl info_ak) hS0 ?_ ?_
              rotate_left 1
              · go_simp
                exact rfl
              refine wpAnyH_all (fuel := 6) (rs := [7, 11]) (by kernel_rfl) (by decide) ?_
              intro i hi
              simp only [List.mem_cons, List.not_mem_nil, or_false] at hi
              rcases hi with rfl | rfl
              · skip
                refine wpOp_callX 18 #[.pointer (some ⟨sb, 0, none⟩), .int .i64 hd, .agg (akC (rdOf x))] rfl (by kernel_rfl) (by go_simp) ?_
                refine (do_any (rdOf x) HRI.out hd _ hsd).mono ?_
                rintro e w6 ⟨d, g, ok, B', T', rfl, hs6, ht6, hok6, hy6, hn6⟩
                have HK6 := Lib.hid (And.intro hok6 (And.intro hy6 hn6))
                clear hok6 hy6 hn6
                have hS1 : w6.cell? ⟨lb, off + k * 20, none⟩ = some (.int .i64 hd) ∧ AkAt w6 qb (rdOf x) := ⟨ht6.cell hS0.1 HNE.out.2.2.1 HNE.out.2.2.2, ⟨(ht6.block _ hS0.2.cs.lt HNE.out.2.1.1 HNE.out.2.1.2).trans hS0.2.cs⟩⟩
                refine ⟨_, rfl, hS1, ?_⟩
                refine takeH (fuel := 5) (i := 8) (.tuple #[.agg (anC d g), .bool ok]) ?_ rfl (by kernel_rfl) (by kernel_rfl) (by kernel_rfl) (fun _ _ _ h => h) (by kernel_rfl) (fun W hS => by go_simp) hS1 ?_ ?_
                rotate_left 1
                · go_simp
                  exact rfl
                refine takeH (fuel := 4) (i := 9) (.agg (anC d g)) ?_ rfl (by kernel_rfl) (by kernel_rfl) (by kernel_rfl) (fun _ _ _ h => h) (by kernel_rfl) (fun W hS => by go_simp) hS1 ?_ ?_
                rotate_left 1
                · go_simp
                  exact rfl
                refine takeH (fuel := 3) (i := 10) (.bool ok) ?_ rfl (by kernel_rfl) (by kernel_rfl) (by kernel_rfl) (fun _ _ _ h => h) (by kernel_rfl) (fun W hS => by go_simp) hS1 ?_ ?_
                rotate_left 1
                · go_simp
                  exact rfl
                refine wpAnyH_all (fuel := 2) (rs := [11]) (by kernel_rfl) (by decide) ?_
                intro i hi
                obtain rfl : i = 11 := by simpa using hi
                refine wpOp_valB (.pointer (some ⟨w6.heap.size, 0, none⟩)) (w6.alloc (.cells (anC 0 false) ANT)) ?_ rfl (by kernel_rfl) (exec_alloc ANT rfl _ (zv_an _)) ?_ ?_
                rotate_left 1
                · go_simp
                  exact rfl
                have hbx := box_below w6 (anC 0 false) ANT
                have hX := CsAt.new w6 ANT (anC 0 false)
                have hS2 : (w6.alloc (.cells (anC 0 false) ANT)).cell? ⟨lb, off + k * 20, none⟩ = some (.int .i64 hd) ∧ AkAt (w6.alloc (.cells (anC 0 false) ANT)) qb (rdOf x) := ⟨(hbx.cell (p := ⟨lb, off + k * 20, none⟩) (World.block_lt_of_cell? _ _ hS1.1)).trans hS1.1, hS1.2.low hbx⟩
                have ht6 : Two sb mb w4 w6 := ⟨ht6.os, ht6.tape, ht6.output, ht6.size, ht6.block⟩
                have hs7 := hs6.low hbx
                have ht7 := ht6.trans (Two.of_below hbx)
                have hnw : w4.heap.size ≤ w6.heap.size := ht6.size
                have hlt6 : ∀ b, b < w6.heap.size → b ≠ w6.heap.size := fun b hb e => by omega
                have l1 : lb < w6.heap.size := World.block_lt_of_cell? _ _ hS1.1
                have l2 := hS1.2.cs.lt
                have l3 := hs6.slt
                have l4 := hs6.ram.lt
                have l5 := hs6.ram.mlt
                generalize w6.alloc (.cells (anC 0 false) ANT) = w7 at *
                generalize w6.heap.size = xb at *
                refine ⟨hS2, ?_⟩
                refine wpAnyH_all (fuel := 1) (rs := [12]) (by kernel_rfl) (by decide) ?_
                intro i hi
                obtain rfl : i = 12 := by simpa using hi
                refine wpOp_unitB (w7.setRow xb (anC d g)) ?_ rfl (by kernel_rfl) (exec_store_row ANT (.tmp 14) (.tmp 81) rfl xb (anC d g) rfl rfl ANT (anC 0 false) hX info_an rfl (anC_one _ _)) ?_ ?_
                rotate_left 1
                · go_simp
                  exact rfl
                have hS3 : (w7.setRow xb (anC d g)).cell? ⟨lb, off + k * 20, none⟩ = some (.int .i64 hd) ∧ AkAt (w7.setRow xb (anC d g)) qb (rdOf x) := ⟨(World.cell?_of_block (w := w7) (a := ⟨lb, off + k * 20, none⟩) (setRow_other w7 xb lb _ (by omega))).trans hS2.1, ⟨hS2.2.cs.rowFar (by omega) _⟩⟩
                have hD : DidAt sb rb mb B2 T2 hd (rdOf x) w4 (w7.setRow xb (anC d g)) xb d g ok B' T' := ⟨hX.row _, hnw, hs7.only (row_only _ _ _) (by omega) (by omega) (by omega), two_row ht7 hnw _, HK6.out.1, HK6.out.2.1, HK6.out.2.2⟩
                have HD := Lib.hid hD
                clear hD
                refine ⟨hS3, ?_⟩
                refine takeH (fuel := 0) (i := 13) (.bool ok) ?_ rfl (by kernel_rfl) (by kernel_rfl) (by kernel_rfl) (fun _ _ _ h => h) (by kernel_rfl) (fun W hS => by go_simp) hS3 ?_ ?_
                rotate_left 1
                · go_simp
                  exact rfl
                refine wpAnyH_done (by kernel_rfl) ?_ _
                refine NoPanic.normal ?_
                go_wp2_with fail
                go_meet
                exact ⟨xb, d, g, ok, B', T', rfl, rfl, HD.out⟩
              · skip
                have hbx := box_below w4.drew (anC 0 false) ANT
                refine wpOp_valB (.pointer (some ⟨w4.drew.heap.size, 0, none⟩)) (w4.drew.alloc (.cells (anC 0 false) ANT)) ?_ rfl (by kernel_rfl) (exec_alloc ANT rfl _ (zv_an _)) ?_ ?_
                rotate_left 1
                · go_simp
                  exact rfl
                have hX0 := CsAt.new w4.drew ANT (anC 0 false)
                have hS1 : (w4.drew.alloc (.cells (anC 0 false) ANT)).cell? ⟨lb, off + k * 20, none⟩ = some (.int .i64 hd) ∧ AkAt (w4.drew.alloc (.cells (anC 0 false) ANT)) qb (rdOf x) := ⟨(hbx.cell (p := ⟨lb, off + k * 20, none⟩) (World.block_lt_of_cell? _ _ hS0.1)).trans hS0.1, hS0.2.low hbx⟩
                have hsa := hsd.low hbx
                have hta : Two sb mb w4 (w4.drew.alloc (.cells (anC 0 false) ANT)) := Two.of_below ((Below.refl _ _).drew.trans hbx)
                obtain ⟨xb, hxb⟩ : ∃ xb, w4.heap.size = xb := ⟨_, rfl⟩
                have hnw : w4.heap.size ≤ xb := Nat.le_of_eq hxb
                have hX0 : CsAt (w4.drew.alloc (.cells (anC 0 false) ANT)) xb ANT (anC 0 false) := by rw [← hxb]; exact hX0
                have l1 : lb < xb := by rw [← hxb]; exact World.block_lt_of_cell? _ _ hS0.1
                have l2 : qb < xb := by rw [← hxb]; exact hS0.2.cs.lt
                have l3 : sb < xb := by rw [← hxb]; exact hsd.slt
                have l4 : rb < xb := by rw [← hxb]; exact hsd.ram.lt
                have l5 : mb < xb := by rw [← hxb]; exact hsd.ram.mlt
                rw [hxb]
                clear hbx hxb
                generalize w4.drew.alloc (.cells (anC 0 false) ANT) = wa at *
                refine ⟨hS1, ?_⟩
                refine wpAnyH_all (fuel := 5) (rs := [7]) (by kernel_rfl) (by decide) ?_
                intro i hi
                obtain rfl : i = 7 := by simpa using hi
                refine wpOp_callX 18 #[.pointer (some ⟨sb, 0, none⟩), .int .i64 hd, .agg (akC (rdOf x))] rfl (by kernel_rfl) (by go_simp) ?_
                refine (do_any (rdOf x) HRI.out hd _ hsa).mono ?_
                rintro e w7 ⟨d, g, ok, B', T', rfl, hs7, ht6, hok6, hy6, hn6⟩
                have HK6 := Lib.hid (And.intro hok6 (And.intro hy6 hn6))
                clear hok6 hy6 hn6
                have hX : CsAt w7 xb ANT (anC 0 false) := (ht6.block xb hX0.lt (by omega) (by omega)).trans hX0
                have ht7 := hta.trans ht6
                have hS2 : w7.cell? ⟨lb, off + k * 20, none⟩ = some (.int .i64 hd) ∧ AkAt w7 qb (rdOf x) := ⟨ht6.cell hS1.1 HNE.out.2.2.1 HNE.out.2.2.2, ⟨(ht6.block _ hS1.2.cs.lt HNE.out.2.1.1 HNE.out.2.1.2).trans hS1.2.cs⟩⟩
                refine ⟨_, rfl, hS2, ?_⟩
                refine takeH (fuel := 4) (i := 8) (.tuple #[.agg (anC d g), .bool ok]) ?_ rfl (by kernel_rfl) (by kernel_rfl) (by kernel_rfl) (fun _ _ _ h => h) (by kernel_rfl) (fun W hS => by go_simp) hS2 ?_ ?_
                rotate_left 1
                · go_simp
                  exact rfl
                refine takeH (fuel := 3) (i := 9) (.agg (anC d g)) ?_ rfl (by kernel_rfl) (by kernel_rfl) (by kernel_rfl) (fun _ _ _ h => h) (by kernel_rfl) (fun W hS => by go_simp) hS2 ?_ ?_
                rotate_left 1
                · go_simp
                  exact rfl
                refine takeH (fuel := 2) (i := 10) (.bool ok) ?_ rfl (by kernel_rfl) (by kernel_rfl) (by kernel_rfl) (fun _ _ _ h => h) (by kernel_rfl) (fun W hS => by go_simp) hS2 ?_ ?_
                rotate_left 1
                · go_simp
                  exact rfl
                refine wpAnyH_all (fuel := 1) (rs := [12]) (by kernel_rfl) (by decide) ?_
                intro i hi
                obtain rfl : i = 12 := by simpa using hi
                refine wpOp_unitB (w7.setRow xb (anC d g)) ?_ rfl (by kernel_rfl) (exec_store_row ANT (.tmp 14) (.tmp 81) rfl xb (anC d g) rfl rfl ANT (anC 0 false) hX info_an rfl (anC_one _ _)) ?_ ?_
                rotate_left 1
                · go_simp
                  exact rfl
                have hS3 : (w7.setRow xb (anC d g)).cell? ⟨lb, off + k * 20, none⟩ = some (.int .i64 hd) ∧ AkAt (w7.setRow xb (anC d g)) qb (rdOf x) := ⟨(World.cell?_of_block (w := w7) (a := ⟨lb, off + k * 20, none⟩) (setRow_other w7 xb lb _ (by omega))).trans hS2.1, ⟨hS2.2.cs.rowFar (by omega) _⟩⟩
                have hD : DidAt sb rb mb B2 T2 hd (rdOf x) w4 (w7.setRow xb (anC d g)) xb d g ok B' T' := ⟨hX.row _, hnw, hs7.only (row_only _ _ _) (by omega) (by omega) (by omega), two_row ht7 hnw _, HK6.out.1, HK6.out.2.1, HK6.out.2.2⟩
                have HD := Lib.hid hD
                clear hD
                refine ⟨hS3, ?_⟩
                refine takeH (fuel := 0) (i := 13) (.bool ok) ?_ rfl (by kernel_rfl) (by kernel_rfl) (by kernel_rfl) (fun _ _ _ h => h) (by kernel_rfl) (fun W hS => by go_simp) hS3 ?_ ?_
                rotate_left 1
                · go_simp
                  exact rfl
                refine wpAnyH_done (by kernel_rfl) ?_ _
                refine NoPanic.normal ?_
                go_wp2_with fail
                go_meet
                exact ⟨xb, d, g, ok, B', T', rfl, rfl, HD.out⟩
            case rest =>
              obtain ⟨x3, v3, g3, ok3, B3, T3, rfl, rfl, hD⟩ := hcut
              obtain ⟨w5, hwn⟩ : ∃ u, u = wc := ⟨_, rfl⟩
              subst hwn
              obtain ⟨e1, e2⟩ := hD.rd
              subst e1 e2
              have HV3 := Lib.hid (show v3 = amoV x.op (Sh.nB B1 c8.lines.toNat x) x.data by rw [(hD.yes (hD.is.trans HOR.out)).1, Sh.rd_D, HAF.out])
              have HP5 := Lib.hid (HP4.out.two hD.sh hD.two)
              have HA5 := Lib.hid (show AkAt w5 ab x from ⟨(hD.two.block _ HA4.out.cs.lt HNE.out.1.1 HNE.out.1.2).trans HA4.out.cs⟩)
              have HX15 := Lib.hid (show CsAt w5 x1 ANT (anC v1 g1) from (hD.two.block _ HX14.out.lt HN1.out.1 HN1.out.2).trans HX14.out)
              have HX25 := Lib.hid (show CsAt w5 x2 ANT (anC v2 g2) from (hD.two.block _ HX24.out.lt HN2.out.1 HN2.out.2).trans HX24.out)
              have HX35 := Lib.hid hD.box
              have d5 := HA5.out.op
              have d6 := HA5.out.data
              have c1' : w5.cell? ⟨x1, 0, none⟩ = some (.int .u64 (Sh.nB B1 c8.lines.toNat x)) := by rw [← HV1.out]; exact HX15.out.cell 0
              clear hD HP4 HA4 HQ4 HX14 HX24
              go_wp2_with fail
              refine (HAM.out w5).mono ?_
              rintro e w6 ⟨rfl, hb6⟩
              have HP6 := Lib.hid (HP5.out.low hb6)
              have HA6 := Lib.hid (HA5.out.low hb6)
              have HX26 := Lib.hid (HX25.out.low hb6)
              have q1 : w6.cell? ⟨x1, 0, none⟩ = some (.int .u64 (Sh.nB B1 c8.lines.toNat x)) := by rw [← HV1.out]; exact (HX15.out.low hb6).cell 0
              have q2 : w6.cell? ⟨x2, 0, none⟩ = some (.int .u64 (Sh.nB B1 c8.lines.toNat x)) := by rw [← HV2.out]; exact (HX25.out.low hb6).cell 0
              have q3 : w6.cell? ⟨x3, 0, none⟩ = some (.int .u64 (amoV x.op (Sh.nB B1 c8.lines.toNat x) x.data)) := by rw [← HV3.out]; exact (HX35.out.low hb6).cell 0
              clear hb6 HP5 HA5 HX15 HX25 HX35 d5 d6 c1' HV1 HV2 HV3
              generalize Sh.nB B1 c8.lines.toNat x = nb at *
              generalize amoV x.op nb x.data = am at *
              go_upto_region 21 with fail
              clear q1 q2 q3
              have HV1 := Lib.hid (show ∀ W', Below w6.heap.size w6 W' → Vw W' p1 (dCells es) from fun W' hW => by obtain ⟨p, c, he, hv, -, -⟩ := own_form (own_low HP6.out.dd hW); cases he; exact hv)
              have HV2 := Lib.hid (show ∀ W', Below w6.heap.size w6 W' → Vw W' p2 (tCells es) from fun W' hW => by obtain ⟨p, c, he, hv, -, -⟩ := own_form (own_low HP6.out.tt hW); cases he; exact hv)
              have HXG := Lib.hid (show ∀ W', Below w6.heap.size w6 W' → W'.cell? ⟨x2, 1, none⟩ = some (.bool g2) from fun W' hW => (HX26.out.low hW).cell 1)
              go_cut [126] (fun s wx => s = .bool false ∧ Below w6.heap.size w6 wx)
              case first =>
                by_cases k6 : x.kind = 6
                · have hg2 := HG6.out k6
                  cases hlv : x.live
                  · rw [hlv, Bool.false_and] at hg2
                    subst hg2
                    refine wp_region_steady (fun W => Below w6.heap.size w6 W) (by kernel_rfl) (by kernel_rfl) (Below.refl _ _).drew ?_
                    refine steady_val ?_ ?_ (by kernel_rfl) (fun W hS => ?_) ?_ ?_
                    rotate_left 2
                    · go_simp
                      exact rfl
                    · go_simp
                      exact rfl
                    refine steady_val ?_ ?_ (by kernel_rfl) (fun W hS => ?_) ?_ ?_
                    rotate_left 2
                    · have d0 := (HA6.out.low hS).kind; rw [k6] at d0; go_simp
                      exact rfl
                    · go_simp
                      exact rfl
                    iterate 2
                      refine steady_val ?_ ?_ (by kernel_rfl) (fun W hS => ?_) ?_ ?_
                      rotate_left 2
                      · go_simp
                        exact rfl
                      · go_simp
                        exact rfl
                    refine steady_val ?_ ?_ (by kernel_rfl) (fun W hS => ?_) ?_ ?_
                    rotate_left 2
                    · go_simp
                      exact rfl
                    · go_simp
                      exact rfl
                    refine steady_val ?_ ?_ (by kernel_rfl) (fun W hS => ?_) ?_ ?_
                    rotate_left 2
                    · have q := HXG.out W hS; go_simp
                      exact rfl
                    · go_simp
                      exact rfl
                    refine steady_val ?_ ?_ (by kernel_rfl) (fun W hS => ?_) ?_ ?_
                    rotate_left 2
                    · go_simp
                      exact rfl
                    · go_simp
                      exact rfl
                    refine steady_val ?_ ?_ (by kernel_rfl) (fun W hS => ?_) ?_ ?_
                    rotate_left 2
                    · have d8 := (HA6.out.low hS).live; rw [hlv] at d8; go_simp
                      exact rfl
                    · go_simp
                      exact rfl
                    refine steady_val ?_ ?_ (by kernel_rfl) (fun W hS => ?_) ?_ ?_
                    rotate_left 2
                    · go_simp
                      exact rfl
                    · go_simp
                      exact rfl
                    iterate 11
                      refine steady_skipB ?_ (by kernel_rfl) ?_ ?_
                      rotate_left 1
                      · go_simp
                        exact rfl
                    iterate 3
                      refine steady_val ?_ ?_ (by kernel_rfl) (fun W hS => ?_) ?_ ?_
                      rotate_left 2
                      · go_simp
                        exact rfl
                      · go_simp
                        exact rfl
                    refine steady_nil ?_
                    intro W7 hW
                    go_wp2_with fail
                    go_meet
                    exact ⟨rfl, hW⟩
                  · rw [hlv, Bool.true_and] at hg2
                    obtain ⟨cv, hcv⟩ : ∃ cv, Sh.cntR hd (x.addr / 64) (evR es) = cv := ⟨_, rfl⟩
                    have HCV := Lib.hid hcv
                    rw [hcv] at hg2
                    subst hg2
                    clear hcv
                    have hax := HIN.out.addr
                    have hwa : x.addr.tdiv 64 = x.addr / 64 := Int.tdiv_eq_ediv_of_nonneg hax.1
                    have hwb : IntKind.u64.wrap (x.addr / 64) = x.addr / 64 := by rw [IntKind.wrap_u64]; omega
                    refine wp_region_steady (fun W => Below w6.heap.size w6 W) (by kernel_rfl) (by kernel_rfl) (Below.refl _ _).drew ?_
                    refine steady_val ?_ ?_ (by kernel_rfl) (fun W hS => ?_) ?_ ?_
                    rotate_left 2
                    · go_simp
                      exact rfl
                    · go_simp
                      exact rfl
                    refine steady_val ?_ ?_ (by kernel_rfl) (fun W hS => ?_) ?_ ?_
                    rotate_left 2
                    · have d0 := (HA6.out.low hS).kind; rw [k6] at d0; go_simp
                      exact rfl
                    · go_simp
                      exact rfl
                    iterate 2
                      refine steady_val ?_ ?_ (by kernel_rfl) (fun W hS => ?_) ?_ ?_
                      rotate_left 2
                      · go_simp
                        exact rfl
                      · go_simp
                        exact rfl
                    refine steady_val ?_ ?_ (by kernel_rfl) (fun W hS => ?_) ?_ ?_
                    rotate_left 2
                    · go_simp
                      exact rfl
                    · go_simp
                      exact rfl
                    refine steady_val ?_ ?_ (by kernel_rfl) (fun W hS => ?_) ?_ ?_
                    rotate_left 2
                    · have q := HXG.out W hS; go_simp
                      exact rfl
                    · go_simp
                      exact rfl
                    refine steady_val ?_ ?_ (by kernel_rfl) (fun W hS => ?_) ?_ ?_
                    rotate_left 2
                    · go_simp
                      exact rfl
                    · go_simp
                      exact rfl
                    refine steady_val ?_ ?_ (by kernel_rfl) (fun W hS => ?_) ?_ ?_
                    rotate_left 2
                    · have d8 := (HA6.out.low hS).live; rw [hlv] at d8; go_simp
                      exact rfl
                    · go_simp
                      exact rfl
                    refine steady_val ?_ ?_ (by kernel_rfl) (fun W hS => ?_) ?_ ?_
                    rotate_left 2
                    · go_simp
                      exact rfl
                    · go_simp
                      exact rfl
                    iterate 6
                      refine steady_val ?_ ?_ (by kernel_rfl) (fun W hS => ?_) ?_ ?_
                      rotate_left 2
                      · go_simp
                        exact rfl
                      · go_simp
                        exact rfl
                    refine steady_val ?_ ?_ (by kernel_rfl) (fun W hS => ?_) ?_ ?_
                    rotate_left 2
                    · have k1 := HC0.out W (HP6.out.bel.trans (hS.mono HP6.out.bel.size)); go_simp
                      exact rfl
                    · go_simp
                      exact rfl
                    refine steady_val ?_ ?_ (by kernel_rfl) (fun W hS => ?_) ?_ ?_
                    rotate_left 2
                    · go_simp
                      exact rfl
                    · go_simp
                      exact rfl
                    refine steady_val ?_ ?_ (by kernel_rfl) (fun W hS => ?_) ?_ ?_
                    rotate_left 2
                    · have d1 := (HA6.out.low hS).addr; go_simp
                      exact rfl
                    · go_simp
                      exact rfl
                    refine steady_val (.int .u64 (x.addr / 64)) ?_ (by kernel_rfl) (fun W hS => by go_simp) ?_ ?_
                    rotate_left 1
                    · go_simp
                      exact rfl
                    refine steady_enter (.bool g2) 20 #[.slice p1 es.length c1, .slice p2 es.length c2, .int .i64 hd, .int .u64 (x.addr / 64)] ?_ (by kernel_rfl) (fun W hS => ?_) (fun W hS => (counts_c p1 p2 c1 c2 es hd (x.addr / 64) W (HV1.out W hS) (HV2.out W hS) HPK.out (by omega)).mono fun e w' hh => ⟨by rw [hh.1, HCV.out], hS.trans (hh.2.mono hS.size)⟩) ?_ ?_
                    rotate_left 1
                    · go_simp
                    · go_simp
                      exact rfl
                    refine steady_val ?_ ?_ (by kernel_rfl) (fun W hS => ?_) ?_ ?_
                    rotate_left 2
                    · go_simp
                      exact rfl
                    · go_simp
                      exact rfl
                    refine steady_val (.bool false) ?_ (by kernel_rfl) (fun W hS => by go_simp) ?_ ?_
                    rotate_left 1
                    · go_simp
                      exact rfl
                    refine steady_val ?_ ?_ (by kernel_rfl) (fun W hS => ?_) ?_ ?_
                    rotate_left 2
                    · go_simp
                      exact rfl
                    · go_simp
                      exact rfl
                    refine steady_nil ?_
                    intro W7 hW
                    go_wp2_with fail
                    go_meet
                    exact ⟨rfl, hW⟩
                · have g6 : (x.kind == 6) = false := by simpa using k6
                  refine wp_region_steady (fun W => Below w6.heap.size w6 W) (by kernel_rfl) (by kernel_rfl) (Below.refl _ _).drew ?_
                  refine steady_val ?_ ?_ (by kernel_rfl) (fun W hS => ?_) ?_ ?_
                  rotate_left 2
                  · go_simp
                    exact rfl
                  · go_simp
                    exact rfl
                  refine steady_val ?_ ?_ (by kernel_rfl) (fun W hS => ?_) ?_ ?_
                  rotate_left 2
                  · have d0 := (HA6.out.low hS).kind; go_simp
                    exact rfl
                  · go_simp
                    exact rfl
                  refine steady_val (.bool false) ?_ (by kernel_rfl) (fun W hS => by go_simp) ?_ ?_
                  rotate_left 1
                  · go_simp
                    exact rfl
                  refine steady_val ?_ ?_ (by kernel_rfl) (fun W hS => ?_) ?_ ?_
                  rotate_left 2
                  · go_simp
                    exact rfl
                  · go_simp
                    exact rfl
                  iterate 18
                    refine steady_skipB ?_ (by kernel_rfl) ?_ ?_
                    rotate_left 1
                    · go_simp
                      exact rfl
                  refine steady_val ?_ ?_ (by kernel_rfl) (fun W hS => ?_) ?_ ?_
                  rotate_left 2
                  · go_simp
                    exact rfl
                  · go_simp
                    exact rfl
                  refine steady_nil ?_
                  intro W7 hW
                  go_wp2_with fail
                  go_meet
                  exact ⟨rfl, hW⟩
              case rest =>
                obtain ⟨rfl, hW⟩ := hcut
                obtain ⟨w7, hwn⟩ : ∃ u, u = wc := ⟨_, rfl⟩
                subst hwn
                have HP7 := Lib.hid (HP6.out.low hW)
                have HX7 := Lib.hid (HX26.out.low hW)
                clear hW HP6 HX26 HV1 HV2 HXG HA6
                have hdz : (ddA hd x).size = 20 := rfl
                go_wp2_with (first
                  | (refine wpList_load_midA rfl DT14 _ rfl lb (off + k * 20) rfl (ddA hd x) _ (HR2.out w7 HP7.out.bel) Try.underlying68 rfl info_dt2 ?_)
                  | (at_builtin; (first | rw [dd_fill20] | rw [dd_fill]); refine wpList_pushG rfl _ _ 51 rfl base DT14 _ 20 144 Try.underlying51 info_dt rfl (by omega) (by omega) _ _ _ rfl HP7.out.dd (ddA hd x) rfl (dc_one hd x) _ rfl rfl (by omega) HP7.out.bb ?_))
                intro v' w8 hown hg hv
                have HP8 := Lib.hid (HP7.out.push1 (e := ⟨hd, x, v2, g2⟩) hown hg hv.out)
                have HX8 := Lib.hid (show CsAt w8 x2 ANT (anC v2 g2) from (hg.block x2 (by simp; exact Nat.lt_succ_of_lt HX7.out.lt) (fun e => HND.out x2 e.symm rfl)).trans (HX7.out.alloc _))
                clear hown hg hv HP7 HX7
                have haz : (anC v2 g2).size = 42 := rfl
                go_wp2_with (first
                  | (refine wpList_load_row rfl ANT _ rfl x2 rfl ANT (anC v2 g2) (0, 0) _ HX8.out Try.underlying71 rfl info_an ?_)
                  | (at_builtin; (first | rw [an_fill42] | rw [an_fill]); refine wpList_pushG rfl _ _ 58 rfl base ANT _ 42 208 Try.underlying58 info_anZ rfl (by omega) (by omega) _ _ _ rfl HP8.out.tt (anC v2 g2) rfl (anC_one _ _) _ rfl rfl (by omega) HP8.out.bb ?_))
                intro v'' w9 hown hg hv
                have HP9 := Lib.hid (HP8.out.push2 (e := ⟨hd, x, v2, g2⟩) hown hg hv.out)
                clear hown hg hv HP8 HX8
                go_wp2_with fail
                go_roundw
                case rel => exact ⟨k + 1, B3, T3, es ++ [⟨hd, x, v2, g2⟩], by omega, by go_num, by simp; omega, HP9.out, HT9.out, HK9.out⟩
                case measure => first | (simp [intOf]; done) | (simp [intOf]; omega)
          · have g4 : (x.kind == 4) = false := by simpa using k4
            have d0 := HA4.out.kind
            go_upto_region 21 with fail
            clear d0 g4
            have HV1 := Lib.hid (show ∀ W', Below w4.heap.size w4 W' → Vw W' p1 (dCells es) from fun W' hW => by obtain ⟨p, c, he, hv, -, -⟩ := own_form (own_low HP4.out.dd hW); cases he; exact hv)
            have HV2 := Lib.hid (show ∀ W', Below w4.heap.size w4 W' → Vw W' p2 (tCells es) from fun W' hW => by obtain ⟨p, c, he, hv, -, -⟩ := own_form (own_low HP4.out.tt hW); cases he; exact hv)
            have HXG := Lib.hid (show ∀ W', Below w4.heap.size w4 W' → W'.cell? ⟨x2, 1, none⟩ = some (.bool g2) from fun W' hW => (HX24.out.low hW).cell 1)
            go_cut [126] (fun s wx => s = .bool false ∧ Below w4.heap.size w4 wx)
            case first =>
              by_cases k6 : x.kind = 6
              · have hg2 := HG6.out k6
                cases hlv : x.live
                · rw [hlv, Bool.false_and] at hg2
                  subst hg2
                  refine wp_region_steady (fun W => Below w4.heap.size w4 W) (by kernel_rfl) (by kernel_rfl) (Below.refl _ _).drew ?_
                  refine steady_val ?_ ?_ (by kernel_rfl) (fun W hS => ?_) ?_ ?_
                  rotate_left 2
                  · go_simp
                    exact rfl
                  · go_simp
                    exact rfl
                  refine steady_val ?_ ?_ (by kernel_rfl) (fun W hS => ?_) ?_ ?_
                  rotate_left 2
                  · have d0 := (HA4.out.low hS).kind; rw [k6] at d0; go_simp
                    exact rfl
                  · go_simp
                    exact rfl
                  iterate 2
                    refine steady_val ?_ ?_ (by kernel_rfl) (fun W hS => ?_) ?_ ?_
                    rotate_left 2
                    · go_simp
                      exact rfl
                    · go_simp
                      exact rfl
                  refine steady_val ?_ ?_ (by kernel_rfl) (fun W hS => ?_) ?_ ?_
                  rotate_left 2
                  · go_simp
                    exact rfl
                  · go_simp
                    exact rfl
                  refine steady_val ?_ ?_ (by kernel_rfl) (fun W hS => ?_) ?_ ?_
                  rotate_left 2
                  · have q := HXG.out W hS; go_simp
                    exact rfl
                  · go_simp
                    exact rfl
                  refine steady_val ?_ ?_ (by kernel_rfl) (fun W hS => ?_) ?_ ?_
                  rotate_left 2
                  · go_simp
                    exact rfl
                  · go_simp
                    exact rfl
                  refine steady_val ?_ ?_ (by kernel_rfl) (fun W hS => ?_) ?_ ?_
                  rotate_left 2
                  · have d8 := (HA4.out.low hS).live; rw [hlv] at d8; go_simp
                    exact rfl
                  · go_simp
                    exact rfl
                  refine steady_val ?_ ?_ (by kernel_rfl) (fun W hS => ?_) ?_ ?_
                  rotate_left 2
                  · go_simp
                    exact rfl
                  · go_simp
                    exact rfl
                  iterate 11
                    refine steady_skipB ?_ (by kernel_rfl) ?_ ?_
                    rotate_left 1
                    · go_simp
                      exact rfl
                  iterate 3
                    refine steady_val ?_ ?_ (by kernel_rfl) (fun W hS => ?_) ?_ ?_
                    rotate_left 2
                    · go_simp
                      exact rfl
                    · go_simp
                      exact rfl
                  refine steady_nil ?_
                  intro W7 hW
                  go_wp2_with fail
                  go_meet
                  exact ⟨rfl, hW⟩
                · rw [hlv, Bool.true_and] at hg2
                  obtain ⟨cv, hcv⟩ : ∃ cv, Sh.cntR hd (x.addr / 64) (evR es) = cv := ⟨_, rfl⟩
                  have HCV := Lib.hid hcv
                  rw [hcv] at hg2
                  subst hg2
                  clear hcv
                  have hax := HIN.out.addr
                  have hwa : x.addr.tdiv 64 = x.addr / 64 := Int.tdiv_eq_ediv_of_nonneg hax.1
                  have hwb : IntKind.u64.wrap (x.addr / 64) = x.addr / 64 := by rw [IntKind.wrap_u64]; omega
                  refine wp_region_steady (fun W => Below w4.heap.size w4 W) (by kernel_rfl) (by kernel_rfl) (Below.refl _ _).drew ?_
                  refine steady_val ?_ ?_ (by kernel_rfl) (fun W hS => ?_) ?_ ?_
                  rotate_left 2
                  · go_simp
                    exact rfl
                  · go_simp
                    exact rfl
                  refine steady_val ?_ ?_ (by kernel_rfl) (fun W hS => ?_) ?_ ?_
                  rotate_left 2
                  · have d0 := (HA4.out.low hS).kind; rw [k6] at d0; go_simp
                    exact rfl
                  · go_simp
                    exact rfl
                  iterate 2
                    refine steady_val ?_ ?_ (by kernel_rfl) (fun W hS => ?_) ?_ ?_
                    rotate_left 2
                    · go_simp
                      exact rfl
                    · go_simp
                      exact rfl
                  refine steady_val ?_ ?_ (by kernel_rfl) (fun W hS => ?_) ?_ ?_
                  rotate_left 2
                  · go_simp
                    exact rfl
                  · go_simp
                    exact rfl
                  refine steady_val ?_ ?_ (by kernel_rfl) (fun W hS => ?_) ?_ ?_
                  rotate_left 2
                  · have q := HXG.out W hS; go_simp
                    exact rfl
                  · go_simp
                    exact rfl
                  refine steady_val ?_ ?_ (by kernel_rfl) (fun W hS => ?_) ?_ ?_
                  rotate_left 2
                  · go_simp
                    exact rfl
                  · go_simp
                    exact rfl
                  refine steady_val ?_ ?_ (by kernel_rfl) (fun W hS => ?_) ?_ ?_
                  rotate_left 2
                  · have d8 := (HA4.out.low hS).live; rw [hlv] at d8; go_simp
                    exact rfl
                  · go_simp
                    exact rfl
                  refine steady_val ?_ ?_ (by kernel_rfl) (fun W hS => ?_) ?_ ?_
                  rotate_left 2
                  · go_simp
                    exact rfl
                  · go_simp
                    exact rfl
                  iterate 6
                    refine steady_val ?_ ?_ (by kernel_rfl) (fun W hS => ?_) ?_ ?_
                    rotate_left 2
                    · go_simp
                      exact rfl
                    · go_simp
                      exact rfl
                  refine steady_val ?_ ?_ (by kernel_rfl) (fun W hS => ?_) ?_ ?_
                  rotate_left 2
                  · have k1 := HC0.out W (HP4.out.bel.trans (hS.mono HP4.out.bel.size)); go_simp
                    exact rfl
                  · go_simp
                    exact rfl
                  refine steady_val ?_ ?_ (by kernel_rfl) (fun W hS => ?_) ?_ ?_
                  rotate_left 2
                  · go_simp
                    exact rfl
                  · go_simp
                    exact rfl
                  refine steady_val ?_ ?_ (by kernel_rfl) (fun W hS => ?_) ?_ ?_
                  rotate_left 2
                  · have d1 := (HA4.out.low hS).addr; go_simp
                    exact rfl
                  · go_simp
                    exact rfl
                  refine steady_val (.int .u64 (x.addr / 64)) ?_ (by kernel_rfl) (fun W hS => by go_simp) ?_ ?_
                  rotate_left 1
                  · go_simp
                    exact rfl
                  refine steady_enter (.bool g2) 20 #[.slice p1 es.length c1, .slice p2 es.length c2, .int .i64 hd, .int .u64 (x.addr / 64)] ?_ (by kernel_rfl) (fun W hS => ?_) (fun W hS => (counts_c p1 p2 c1 c2 es hd (x.addr / 64) W (HV1.out W hS) (HV2.out W hS) HPK.out (by omega)).mono fun e w' hh => ⟨by rw [hh.1, HCV.out], hS.trans (hh.2.mono hS.size)⟩) ?_ ?_
                  rotate_left 1
                  · go_simp
                  · go_simp
                    exact rfl
                  refine steady_val ?_ ?_ (by kernel_rfl) (fun W hS => ?_) ?_ ?_
                  rotate_left 2
                  · go_simp
                    exact rfl
                  · go_simp
                    exact rfl
                  refine steady_val (.bool false) ?_ (by kernel_rfl) (fun W hS => by go_simp) ?_ ?_
                  rotate_left 1
                  · go_simp
                    exact rfl
                  refine steady_val ?_ ?_ (by kernel_rfl) (fun W hS => ?_) ?_ ?_
                  rotate_left 2
                  · go_simp
                    exact rfl
                  · go_simp
                    exact rfl
                  refine steady_nil ?_
                  intro W7 hW
                  go_wp2_with fail
                  go_meet
                  exact ⟨rfl, hW⟩
              · have g6 : (x.kind == 6) = false := by simpa using k6
                refine wp_region_steady (fun W => Below w4.heap.size w4 W) (by kernel_rfl) (by kernel_rfl) (Below.refl _ _).drew ?_
                refine steady_val ?_ ?_ (by kernel_rfl) (fun W hS => ?_) ?_ ?_
                rotate_left 2
                · go_simp
                  exact rfl
                · go_simp
                  exact rfl
                refine steady_val ?_ ?_ (by kernel_rfl) (fun W hS => ?_) ?_ ?_
                rotate_left 2
                · have d0 := (HA4.out.low hS).kind; go_simp
                  exact rfl
                · go_simp
                  exact rfl
                refine steady_val (.bool false) ?_ (by kernel_rfl) (fun W hS => by go_simp) ?_ ?_
                rotate_left 1
                · go_simp
                  exact rfl
                refine steady_val ?_ ?_ (by kernel_rfl) (fun W hS => ?_) ?_ ?_
                rotate_left 2
                · go_simp
                  exact rfl
                · go_simp
                  exact rfl
                iterate 18
                  refine steady_skipB ?_ (by kernel_rfl) ?_ ?_
                  rotate_left 1
                  · go_simp
                    exact rfl
                refine steady_val ?_ ?_ (by kernel_rfl) (fun W hS => ?_) ?_ ?_
                rotate_left 2
                · go_simp
                  exact rfl
                · go_simp
                  exact rfl
                refine steady_nil ?_
                intro W7 hW
                go_wp2_with fail
                go_meet
                exact ⟨rfl, hW⟩
            case rest =>
              obtain ⟨rfl, hW⟩ := hcut
              obtain ⟨w7, hwn⟩ : ∃ u, u = wc := ⟨_, rfl⟩
              subst hwn
              have HP7 := Lib.hid (HP4.out.low hW)
              have HX7 := Lib.hid (HX24.out.low hW)
              clear hW HP4 HX24 HV1 HV2 HXG HA4
              have hdz : (ddA hd x).size = 20 := rfl
              go_wp2_with (first
                | (refine wpList_load_midA rfl DT14 _ rfl lb (off + k * 20) rfl (ddA hd x) _ (HR2.out w7 HP7.out.bel) Try.underlying68 rfl info_dt2 ?_)
                | (at_builtin; (first | rw [dd_fill20] | rw [dd_fill]); refine wpList_pushG rfl _ _ 51 rfl base DT14 _ 20 144 Try.underlying51 info_dt rfl (by omega) (by omega) _ _ _ rfl HP7.out.dd (ddA hd x) rfl (dc_one hd x) _ rfl rfl (by omega) HP7.out.bb ?_))
              intro v' w8 hown hg hv
              have HP8 := Lib.hid (HP7.out.push1 (e := ⟨hd, x, v2, g2⟩) hown hg hv.out)
              have HX8 := Lib.hid (show CsAt w8 x2 ANT (anC v2 g2) from (hg.block x2 (by simp; exact Nat.lt_succ_of_lt HX7.out.lt) (fun e => HND.out x2 e.symm rfl)).trans (HX7.out.alloc _))
              clear hown hg hv HP7 HX7
              have haz : (anC v2 g2).size = 42 := rfl
              go_wp2_with (first
                | (refine wpList_load_row rfl ANT _ rfl x2 rfl ANT (anC v2 g2) (0, 0) _ HX8.out Try.underlying71 rfl info_an ?_)
                | (at_builtin; (first | rw [an_fill42] | rw [an_fill]); refine wpList_pushG rfl _ _ 58 rfl base ANT _ 42 208 Try.underlying58 info_anZ rfl (by omega) (by omega) _ _ _ rfl HP8.out.tt (anC v2 g2) rfl (anC_one _ _) _ rfl rfl (by omega) HP8.out.bb ?_))
              intro v'' w9 hown hg hv
              have HP9 := Lib.hid (HP8.out.push2 (e := ⟨hd, x, v2, g2⟩) hown hg hv.out)
              clear hown hg hv HP8 HX8
              go_wp2_with fail
              go_roundw
              case rel => exact ⟨k + 1, B2, T2, es ++ [⟨hd, x, v2, g2⟩], by omega, by go_num, by simp; omega, HP9.out, HT9.out, HK9.out⟩
              case measure => first | (simp [intOf]; done) | (simp [intOf]; omega)
end Go.Proofs.Ytabackklpemhpaa
